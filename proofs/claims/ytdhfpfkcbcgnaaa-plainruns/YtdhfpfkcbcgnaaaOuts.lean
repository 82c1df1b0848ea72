/- Same of package plain. -/
import Derived.Test.YtdhfpfkcbcgnaaaRund
namespace Go.Proofs.Ytdhfpfkcbcgnaaa
open Go.RowKit

/-- Are they alike in all? -/
def sameO (R S : Rn) : Bool := (R.e == S.e) && ((R.r == S.r) && ((R.rd == S.rd) && (R.wr == S.wr)))
theorem sameO_refl (R : Rn) : sameO R R = true := by simp [sameO]
set_option maxRecDepth 100000 in
set_option maxHeartbeats 1000000 in
theorem same_any (R S : Rn) (ra : Option Addr) (rl rc : Nat) (da : Option Addr) (dl dc : Nat) (wa : Option Addr) (wl wc : Nat) (ra' : Option Addr) (rl' rc' : Nat) (da' : Option Addr) (dl' dc' : Nat) (wa' : Option Addr) (wl' wc' : Nat) (w : World)
    (h1 : Ls w.heap.size w (.slice ra rl rc) R.r) (h2 : As w.heap.size w (.slice da dl dc) R.rd) (h3 : As w.heap.size w (.slice wa wl wc) R.wr) (g1 : Ls w.heap.size w (.slice ra' rl' rc') S.r) (g2 : As w.heap.size w (.slice da' dl' dc') S.rd) (g3 : As w.heap.size w (.slice wa' wl' wc') S.wr) :
    Calls Try.prog 15 #[ov R.e (.slice ra rl rc) (.slice da dl dc) (.slice wa wl wc), ov S.e (.slice ra' rl' rc') (.slice da' dl' dc') (.slice wa' wl' wc')] w fun e w' => e = .returned (.bool (sameO R S)) ∧ Below w.heap.size w w' := by
  have b1 := below_new w (.cells #[.int .i64 R.e, .slice ra rl rc, .slice da dl dc, .slice wa wl wc] 30)
  have b2 := below_then b1 (below_new _ (.cells #[.int .i64 S.e, .slice ra' rl' rc', .slice da' dl' dc', .slice wa' wl' wc'] 30))
  have oA : Ob R.e (.slice ra rl rc) (.slice da dl dc) (.slice wa wl wc) w.heap.size ((w.alloc (.cells #[.int .i64 R.e, .slice ra rl rc, .slice da dl dc, .slice wa wl wc] 30)).alloc (.cells #[.int .i64 S.e, .slice ra' rl' rc', .slice da' dl' dc', .slice wa' wl' wc'] 30)) := ((below_new (w.alloc (.cells #[.int .i64 R.e, .slice ra rl rc, .slice da dl dc, .slice wa wl wc] 30)) _).block _ (by rw [World.size_alloc]; omega)).trans (heap_alloc_new w _)
  have oB : Ob S.e (.slice ra' rl' rc') (.slice da' dl' dc') (.slice wa' wl' wc') (w.heap.size + 1) ((w.alloc (.cells #[.int .i64 R.e, .slice ra rl rc, .slice da dl dc, .slice wa wl wc] 30)).alloc (.cells #[.int .i64 S.e, .slice ra' rl' rc', .slice da' dl' dc', .slice wa' wl' wc'] 30)) := by
    have := heap_alloc_new (w.alloc (.cells #[.int .i64 R.e, .slice ra rl rc, .slice da dl dc, .slice wa wl wc] 30)) (.cells #[.int .i64 S.e, .slice ra' rl' rc', .slice da' dl' dc', .slice wa' wl' wc'] 30)
    rw [World.size_alloc] at this
    exact this
  obtain ⟨x0, x1, x2, x3⟩ := oA.cells
  obtain ⟨y0, y1, y2, y3⟩ := oB.cells
  have K1 := eqInts_any _ _ _ _ _ (h1.next b2) (g1.next b2)
  replace oA := hide oA
  replace oB := hide oB
  have H2 := hide h2
  have H3 := hide h3
  have G2 := hide g2
  have G3 := hide g3
  replace b2 := hide b2
  clear b1 h1 h2 h3 g1 g2 g3
  unfold ov
  cases e0 : (R.e == S.e)
  · have r : Hid (sameO R S = false) := hide (by unfold sameO; rw [e0]; rfl)
    go_enter Try.func15, Try.ntmps15
    go_wp2
    go_ret
    exact ⟨by rw [unhide r]; rfl, unhide b2⟩
  obtain ⟨t1, e1⟩ : ∃ t, (R.r == S.r) = t := ⟨_, rfl⟩
  rw [e1] at K1
  cases t1
  · have r : Hid (sameO R S = false) := hide (by unfold sameO; rw [e0, e1]; rfl)
    replace e1 := hide e1
    go_enter Try.func15, Try.ntmps15
    go_wp2_with fail
    refine K1.mono ?_
    rintro e w1 ⟨rfl, c1⟩
    have b3 := hide (below_then (unhide b2) c1)
    clear c1 K1
    go_wp2
    go_ret
    exact ⟨by rw [unhide r]; rfl, unhide b3⟩
  replace e1 := hide e1
  obtain ⟨t2, e2⟩ : ∃ t, (R.rd == S.rd) = t := ⟨_, rfl⟩
  replace e2 := hide e2
  obtain ⟨t3, e3⟩ : ∃ t, (R.wr == S.wr) = t := ⟨_, rfl⟩
  replace e3 := hide e3
  go_enter Try.func15, Try.ntmps15
  go_wp2_with fail
  refine K1.mono ?_
  rintro e w1 ⟨rfl, c1⟩
  have b3 := below_then (unhide b2) c1
  obtain ⟨x0, x1, x2, x3⟩ := ((unhide oA).next c1).cells
  obtain ⟨y0, y1, y2, y3⟩ := ((unhide oB).next c1).cells
  have oA1 := hide ((unhide oA).next c1)
  have oB1 := hide ((unhide oB).next c1)
  have K2 := eqAcc_any _ _ _ _ _ ((unhide H2).next b3) ((unhide G2).next b3)
  rw [unhide e2] at K2
  replace b3 := hide b3
  clear c1 K1
  go_wp2_with fail
  refine K2.mono ?_
  rintro e w2 ⟨rfl, c2⟩
  have b4 := below_then (unhide b3) c2
  obtain ⟨x0, x1, x2, x3⟩ := ((unhide oA1).next c2).cells
  obtain ⟨y0, y1, y2, y3⟩ := ((unhide oB1).next c2).cells
  have K3 := eqAcc_any _ _ _ _ _ ((unhide H3).next b4) ((unhide G3).next b4)
  rw [unhide e3] at K3
  replace b4 := hide b4
  clear c2 K2
  cases t2
  · have r : Hid (sameO R S = false) := hide (by unfold sameO; rw [e0, unhide e1, unhide e2]; rfl)
    go_wp2
    go_ret
    exact ⟨by rw [unhide r]; rfl, unhide b4⟩
  go_wp2_with fail
  refine K3.mono ?_
  rintro e w3 ⟨rfl, c3⟩
  have b5 := hide (below_then (unhide b4) c3)
  have r : Hid (sameO R S = t3) := hide (by unfold sameO; rw [e0, unhide e1, unhide e2, unhide e3]; rfl)
  clear c3 K3
  go_wp2
  go_ret
  exact ⟨by rw [unhide r]; rfl, unhide b5⟩
end Go.Proofs.Ytdhfpfkcbcgnaaa
