/- What the laws of chapter 7 begin and end with. -/
import Derived.Test.YtdhfpfkcbcgnaaaRun
import Derived.Test.YtdhfpfkcbcgnaaaOuts
namespace Go.Proofs.Ytdhfpfkcbcgnaaa
open Go.RowKit

/-- What Run answers, its slices written out. -/
theorem ran_out {R : Rn} {w w' : World} {r : Ending} (h : Ran R w r w') : ∃ ra rc da dc wa wc ha hc, r = .returned (.tuple #[.agg #[.int .i64 R.e, .slice ra R.r.length rc, .slice da R.rd.length dc, .slice wa R.wr.length wc], .slice ha R.h.length hc, .int .i64 R.x]) ∧ Held R (.slice ra R.r.length rc) (.slice da R.rd.length dc) (.slice wa R.wr.length wc) (.slice ha R.h.length hc) w' ∧ Below w.heap.size w w' := by
  obtain ⟨rv, dv, wv, hv, rfl, hh, hb⟩ := h
  obtain ⟨ra, rc, e1, _⟩ := ls_len hh.r
  obtain ⟨da, dc, e2, _⟩ := hh.d
  obtain ⟨wa, wc, e3, _⟩ := hh.t
  obtain ⟨ha, hc, e4, _⟩ := ls_len hh.h
  subst e1; subst e2; subst e3; subst e4
  exact ⟨ra, rc, da, dc, wa, wc, ha, hc, rfl, hh, hb⟩
theorem run_out (c : Cf) (H : List Int) (hv : Value) (ps : List In) (pv : Value) (w : World) (hH : Ls w.heap.size w hv H) (hp : Ps w.heap.size w pv ps) {R : Rn} (hR : runD c H ps = R) :
    Calls Try.prog 11 #[.agg #[.int .i64 c.r, .int .i64 c.o, .int .i64 c.s, .int .i64 c.d, .int .i64 c.t, .int .i64 c.l, .int .i64 c.g, .int .i64 c.k, .int .i64 c.u, .int .i64 c.e, .int .i64 c.i, .int .i64 c.p], hv, pv] w fun r w' => ∃ ra rc da dc wa wc ha hc, r = .returned (.tuple #[.agg #[.int .i64 R.e, .slice ra R.r.length rc, .slice da R.rd.length dc, .slice wa R.wr.length wc], .slice ha R.h.length hc, .int .i64 R.x]) ∧ Held R (.slice ra R.r.length rc) (.slice da R.rd.length dc) (.slice wa R.wr.length wc) (.slice ha R.h.length hc) w' ∧ Below w.heap.size w w' := by
  subst hR
  exact (run_any c H hv ps pv w hH hp).mono fun _ _ h => ran_out h
theorem ps_nil (B : Nat) (w : World) : Ps B w (.slice none 0 0) [] := ⟨none, 0, rfl, Nat.le_refl _, Nat.zero_le _, .inl rfl⟩
/-- Numbers just written out. -/
theorem ls_new (w : World) (l : List Int) (n N : Nat) (hn : n = l.length) (hN : N = w.heap.size) (hm : l.length ≤ 100000) : Ls (w.alloc (.cells (vals l).toArray 3)).heap.size (w.alloc (.cells (vals l).toArray 3)) (.slice (some ⟨N, 0, none⟩) n n) l := by
  subst hn; subst hN
  have hb : Rb w.heap.size l (w.alloc (.cells (vals l).toArray 3)) := ⟨_, heap_alloc_new w _, by rw [List.toList_toArray]; exact List.take_of_length_le (by simp [vals])⟩
  exact hb.ls (Nat.le_refl _) (by unfold maxLen; omega)
def c0 : Cf := ⟨1, 1, 1, 2, 1, 0, 1, 9, 9, 0, 9, 0⟩
theorem run0 : runD c0 [4, 5] [] = ⟨1, [0], [], [], [4, 5], 0⟩ := by kernel_rfl
set_option maxRecDepth 100000 in
set_option maxHeartbeats 1000000 in
theorem first_any (w : World) : Calls Try.prog 9 #[] w fun e w' => e = .returned (.bool true) ∧ Below w.heap.size w w' := by
  have b1 := below_new w (.cells #[.int .i64 1, .int .i64 1, .int .i64 1, .int .i64 2, .int .i64 1, .int .i64 0, .int .i64 1, .int .i64 9, .int .i64 9, .int .i64 0, .int .i64 9, .int .i64 0] 23)
  have b2 := below_then b1 (below_new _ (.cells #[.int .i64 4, .int .i64 5] 3))
  have hL := ls_new (w.alloc (.cells #[.int .i64 1, .int .i64 1, .int .i64 1, .int .i64 2, .int .i64 1, .int .i64 0, .int .i64 1, .int .i64 9, .int .i64 9, .int .i64 0, .int .i64 9, .int .i64 0] 23)) [4, 5] 2 (w.heap.size + 1) rfl (by rw [World.size_alloc]) (by decide)
  have kR := run_out c0 [4, 5] _ [] (.slice none 0 0) _ hL (ps_nil _ _) run0
  replace b2 := hide b2
  clear b1 hL
  go_enter Try.func9, Try.ntmps9
  go_wp2_with fail
  refine kR.mono ?_
  rintro e w1 ⟨ra, rc, da, dc, wa, wc, ha, hc, rfl, hh, c1⟩
  have b3 := below_then (unhide b2) c1
  have b4 := below_then b3 (below_new _ (.cells #[.int .i64 1, .slice ra 1 rc, .slice da 0 dc, .slice wa 0 wc] 30))
  have b5 := below_then b4 (below_new _ (.cells #[.int .i64 4, .int .i64 5] 3))
  have bq := (below_then (below_new w1 (.cells #[.int .i64 1, .slice ra 1 rc, .slice da 0 dc, .slice wa 0 wc] 30)) (below_new _ (.cells #[.int .i64 4, .int .i64 5] 3)))
  have ho : Ob 1 (.slice ra 1 rc) (.slice da 0 dc) (.slice wa 0 wc) w1.heap.size (w1.alloc (.cells #[.int .i64 1, .slice ra 1 rc, .slice da 0 dc, .slice wa 0 wc] 30)) := heap_alloc_new w1 _
  have hL := ls_new (w1.alloc (.cells #[.int .i64 1, .slice ra 1 rc, .slice da 0 dc, .slice wa 0 wc] 30)) [4, 5] 2 (w1.heap.size + 1) rfl (by rw [World.size_alloc]) (by decide)
  have kI := ints_any _ _ _ _ _ (hh.h.next bq) hL
  replace b5 := hide b5
  have oo := hide (ho.next (below_new _ (.cells #[.int .i64 4, .int .i64 5] 3)))
  clear b3 b4 bq hh c1 kR hL b2 ho
  go_wp2_with fail
  refine kI.mono ?_
  rintro e w2 ⟨rfl, c2⟩
  have b6 := hide (below_then (unhide b5) c2)
  obtain ⟨x0, x1, x2, x3⟩ := ((unhide oo).next c2).cells
  have ei : (([4, 5] : List Int) == [4, 5]) = true := by decide
  clear c2 kI
  go_wp2
  go_ret
  exact ⟨by first | rfl | simp, unhide b6⟩
end Go.Proofs.Ytdhfpfkcbcgnaaa
