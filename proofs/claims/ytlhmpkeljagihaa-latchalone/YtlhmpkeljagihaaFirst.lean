/- The law one, clean and first. -/
import Derived.Test.YtlhmpkeljagihaaLaw
import Derived.Handy
namespace Go.Proofs.Ytlhmpkeljagihaa
open Go.RowKit

/-- One stripe, some threads, some slots. -/
def oneC (t s : Int) : Cf := ⟨1, 1, 1, 1, t, s, 1, 1, 1, 0, 1, 0⟩
set_option maxRecDepth 100000 in
theorem one_any (t s : Int) (w : World) : Calls Try.prog 26 #[.int .i64 t, .int .i64 s] w fun e w' => e = .returned (cv (oneC t s)) ∧ Below w.heap.size w w' := by
  go_enter Try.func26, Try.ntmps26
  go_wp2
  go_returns
  exact ⟨rfl, below_new _ _⟩
theorem one_ok {t s : Int} (h1 : 1 ≤ t) (h2 : t ≤ 64) (h3 : 0 ≤ s) (h4 : s ≤ 48) : okB (oneC t s) = true := by
  simp [okB, heapB, roomB, inB, oneC, h1, h2, h3, h4]
theorem one_cells {t s : Int} (h : okB (oneC t s) = true) : cellsD (oneC t s) = 9 := by
  unfold cellsD; rw [h]; rfl
theorem one_latch {t s : Int} (h : okB (oneC t s) = true) : latchD (oneC t s) 2 = 1 := by
  unfold latchD levelD nodesD; rw [h]; rfl

set_option maxRecDepth 100000 in
theorem clean_true (c : Cf) (cb r n : Nat) (f : Nat → Int) (k : Int) (w : World) (hn : cellsD c = n) (hc : Cel 70 w cb r n f k) (hz : ∀ i, i < n → f i = 0) :
    Calls Try.prog 34 #[cv c, .pointer (some ⟨cb, 0, none⟩)] w fun e w' => e = .returned (.bool true) ∧ Below w.heap.size w w' := by
  have hz' := hide hz
  clear hz
  have hm := hc.most
  unfold cv
  go_enter Try.func34, Try.ntmps34
  go_wp2_with fail
  have hx := bx_new c w
  have hb0 := below_new w (.cells #[.int .i64 c.r, .int .i64 c.o, .int .i64 c.s, .int .i64 c.d, .int .i64 c.t, .int .i64 c.l, .int .i64 c.g, .int .i64 c.k, .int .i64 c.u, .int .i64 c.e, .int .i64 c.i, .int .i64 c.p] 23)
  have hc0 := hc.later hb0 hc.lt hc.rlt
  go_loopw [5] (fun i wr => ∃ j : Nat, j ≤ n ∧ i = .int .i64 j ∧ Bx c w.heap.size wr ∧ Cel 70 wr cb r n f k ∧ Below w.heap.size w wr) (fun i _ => n - (intOf i).toNat)
  case atStart => exact ⟨0, by omega, rfl, hx, hc0, hb0⟩
  case round =>
    obtain ⟨j, hj, rfl, hxr, hcr, hbr⟩ := hrel
    clear hx hc0 hb0
    obtain ⟨x0, x1, x2, x3, x4, x5, x6, x7, x8, x9, x10, x11⟩ := hxr.cells
    go_wp2_with fail
    refine (cells_any c _).mono ?_
    rw [hn]
    rintro e w1 ⟨rfl, hb1⟩
    have hx1 := hxr.next hb1
    have hc1 := hcr.later hb1 hcr.lt hcr.rlt
    have hb1' := below_then hbr hb1
    clear x0 x1 x2 x3 x4 x5 x6 x7 x8 x9 x10 x11 hb1 hxr hcr
    by_cases hlt : j < n
    · have e0 : wordD n f j = 0 := by
        simp [wordD, hasB_yes (show (0 : Int) ≤ j by omega) (show (j : Int) < n by omega), unhide hz' j hlt]
      go_wp2_with fail
      refine (peek_any cb r n f k j _ hc1).mono ?_
      rw [e0]
      rintro e _ ⟨rfl, rfl⟩
      go_wp2
      go_roundw
      case rel => exact ⟨j + 1, by omega, by go_num, hx1, hc1, hb1'⟩
      case measure => simp [intOf]; omega
    · go_wp2
      go_ret
      exact ⟨rfl, hb1'⟩

/-- The latch of the chapter's example. -/
def s0 : St := ⟨newL 3 (oneC 2 1) 2 1 false 1, fun _ => 0, 0⟩
theorem s0_in : Ok 9 s0.L := by
  refine ⟨by decide +kernel, .inr ⟨by decide +kernel, by decide +kernel, by decide +kernel, by decide +kernel, by decide +kernel, by decide, by decide +kernel, by decide +kernel⟩⟩
theorem s0_not : ∀ k, k < 7 → decide (8 ≤ (itS (k + 1) s0).L.p) = false := by decide +kernel
theorem s0_8 : (itS 8 s0).L.p = 9 ∧ (itS 8 s0).L.st = 8 := by decide +kernel
set_option maxRecDepth 100000 in
theorem first_any (w : World) : Calls Try.prog 9 #[] w fun e w' => e = .returned (.bool true) ∧ Below w.heap.size w w' := by
  obtain ⟨c, hcE⟩ : ∃ c, c = oneC 2 1 := ⟨_, rfl⟩
  have hn : cellsD c = ((9 : Nat) : Int) := by rw [hcE]; exact one_cells (by decide)
  have hS : (⟨newL 3 c 2 1 false 1, fun _ => 0, 0⟩ : St) = s0 := by rw [hcE]; rfl
  have hS' := hide hS
  clear hS
  go_enter Try.func9, Try.ntmps9
  go_wp2_with fail
  refine (one_any 2 1 w).mono ?_
  rw [← hcE]
  have hcE' := hide hcE
  clear hcE
  rintro e w1 ⟨rfl, hb1⟩
  unfold cv
  go_wp2_with fail
  have hx := bx_new c w1
  refine (cells_any c _).mono ?_
  rw [hn]
  rintro e w2 ⟨rfl, hb2⟩
  have hx2 := hx.next hb2
  have hb2' := below_then hb1 (below_call hb2)
  clear hb1 hb2 hx
  go_wp2_with fail
  refine (new_any 9 _ (by decide)).mono ?_
  rintro e w3 ⟨cb, r, rfl, hcb, hr, hc, hb3⟩
  have hx3 := hx2.next hb3
  have hb3' := below_then hb2' hb3
  have g1 : w.heap.size ≤ cb := Nat.le_trans hb2'.size hcb
  have g2 : w.heap.size ≤ r := Nat.le_trans hb2'.size hr
  clear hb2' hb3 hx2 hcb hr
  obtain ⟨x0, x1, x2, x3, x4, x5, x6, x7, x8, x9, x10, x11⟩ := hx3.cells
  go_wp2_with fail
  refine (write_any c 2 1 false _).mono ?_
  rintro e w4 ⟨b, rfl, hs, hl, hb4⟩
  have hc4 := hc.later hb4 hc.lt hc.rlt
  have n1 : b ≠ cb := by have := hc.lt; omega
  have n2 : b ≠ r := by have := hc.rlt; omega
  have g3 : w.heap.size ≤ b := Nat.le_trans hb3'.size hs
  have hb4' := hide (below_then hb3' hb4)
  clear x0 x1 x2 x3 x4 x5 x6 x7 x8 x9 x10 x11 hb3' hb4 hs hx3 hc
  have hl' : Lat w4 b (itS 0 s0).L := by rw [← unhide hS']; exact hl
  have hc' : Cel 70 w4 cb r 9 (itS 0 s0).f (itS 0 s0).c := by rw [← unhide hS']; exact hc4
  have hl0 := hide hl'
  have hc0 := hide hc'
  clear hl' hc' hl hc4
  go_wp2_with fail
  go_loopw [5] (fun i wr => ∃ k : Nat, k ≤ 7 ∧ i = .int .i64 k ∧ Lat wr b (itS k s0).L ∧ Cel 70 wr cb r 9 (itS k s0).f (itS k s0).c ∧ Below w.heap.size w wr) (fun i _ => 7 - (intOf i).toNat)
  case atStart => exact ⟨0, by omega, rfl, unhide hl0, unhide hc0, unhide hb4'⟩
  case round =>
    obtain ⟨k, hk, rfl, hlr, hcr, hbr⟩ := hrel
    by_cases hlt : k < 7
    · have hq := hide (s0_not k hlt)
      go_wp2_with fail
      refine (step_st b cb r 9 (itS k s0) _ hlr hcr (itS_ok s0_in k) n1 n2).mono ?_
      rw [show decide (8 ≤ (stS (itS k s0)).L.p) = false from s0_not k hlt]
      rintro e w5 ⟨rfl, hl5, hc5, ht5⟩
      go_wp2
      go_roundw
      case rel => exact ⟨k + 1, by omega, by go_num, hl5, hc5, hbr.trans (ht5.below g3 g1 g2)⟩
      case measure => simp [intOf]; omega
    · obtain rfl : k = 7 := by omega
      go_wp2_with fail
      refine (step_st b cb r 9 (itS 7 s0) _ hlr hcr (itS_ok s0_in 7) n1 n2).mono ?_
      rw [show decide (8 ≤ (stS (itS 7 s0)).L.p) = true from by have := s0_8.1; exact decide_eq_true (by show 8 ≤ (itS 8 s0).L.p; omega)]
      rintro e w5 ⟨rfl, hl5, hc5, ht5⟩
      have hb5 := hbr.trans (ht5.below g3 g1 g2)
      have hl8 : Lat w5 b (itS 8 s0).L := hl5
      go_wp2_with fail
      refine (got_any b _ _ hl8).mono ?_
      rw [s0_8.1]
      rintro e _ ⟨rfl, rfl⟩
      go_wp2_with fail
      refine (steps_any b _ _ hl8).mono ?_
      rw [s0_8.2]
      rintro e _ ⟨rfl, rfl⟩
      go_wp2_with fail
      refine (errno_any b _ _ hl8).mono ?_
      rw [show errL (itS 8 s0).L = 0 from by unfold errL; rw [s0_8.1]; rfl]
      rintro e _ ⟨rfl, rfl⟩
      go_wp2
      go_ret
      exact ⟨rfl, hb5⟩
end Go.Proofs.Ytlhmpkeljagihaa
