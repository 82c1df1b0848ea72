/- The walk of LatchApart: it answers true. -/
import Derived.Test.YtlhmpkeljagihaaApartF
import Derived.Test.YtlhmpkeljagihaaPut
import Derived.Deep.Cut
namespace Go.Proofs.Ytlhmpkeljagihaa
open Go.RowKit

set_option maxRecDepth 100000 in
set_option maxHeartbeats 4000000 in
theorem apart_gen (s a b : Int) (w : World) (h1 : 2 ≤ s) (h2 : s ≤ 8) (a0 : 0 ≤ a) (a1 : a < s) (b0 : 0 ≤ b) (b1 : b < s) (ab : a ≠ b) (n : Nat) (hn6 : n ≤ 65536) (c : Cf) (hc0 : { c with s := 1 } = oneC 2 1) (hs : s = c.s) (hn : cellsD c = (n : Int)) (m1 m2 m3 m4 m5 m6 m7 m8 : Mm)
    (e1 : itM 20 (newL 3 c (2 + a) 0 false 1) m0 = m1) (e2 : itM 20 (newL 3 c (2 + b) 1 false 1) m1 = m2) (e3 : itM 20 (newL 0 c (2 + a) 1 false 0) m2 = m3) (e4 : itM 20 (newL 3 c (2 + b) 0 false 1) m3 = m4) (e5 : itM 20 (newL 7 c (2 + a) 0 false 0) m4 = m5) (e6 : itM 20 (newL 0 c (2 + a) 1 false 0) m5 = m6) (e7 : itM 20 (newL 6 c (2 + a) 1 false 0) m6 = m7) (e8 : itM 20 (newL 7 c (2 + b) 1 false 0) m7 = m8)
    (g1 : gotB 20 (newL 3 c (2 + a) 0 false 1) m0 = true) (g2 : gotB 20 (newL 3 c (2 + b) 1 false 1) m1 = true) (g3 : gotB 20 (newL 0 c (2 + a) 1 false 0) m2 = false) (g4 : gotB 20 (newL 3 c (2 + b) 0 false 1) m3 = false) (g5 : gotB 20 (newL 7 c (2 + a) 0 false 0) m4 = true) (g6 : gotB 20 (newL 0 c (2 + a) 1 false 0) m5 = true) (g7 : gotB 20 (newL 6 c (2 + a) 1 false 0) m6 = true) (g8 : gotB 20 (newL 7 c (2 + b) 1 false 0) m7 = true) (z : ∀ i, i < n → m8.f i = 0) :
    Calls Try.prog 7 #[.int .i64 s, .int .i64 a, .int .i64 b] w fun e w' => e = .returned (.bool true) ∧ Below w.heap.size w w' := by
  have E1 := hide e1
  clear e1
  have E2 := hide e2
  clear e2
  have E3 := hide e3
  clear e3
  have E4 := hide e4
  clear e4
  have E5 := hide e5
  clear e5
  have E6 := hide e6
  clear e6
  have E7 := hide e7
  clear e7
  have E8 := hide e8
  clear e8
  have G1 := hide g1
  clear g1
  have G2 := hide g2
  clear g2
  have G3 := hide g3
  clear g3
  have G4 := hide g4
  clear g4
  have G5 := hide g5
  clear g5
  have G6 := hide g6
  clear g6
  have G7 := hide g7
  clear g7
  have G8 := hide g8
  clear g8
  have Z := hide z
  clear z
  have d0 : decide (s < 2) = false := decide_eq_false (by omega)
  have d1 : decide (8 < s) = false := decide_eq_false (by omega)
  have d2 : decide (a < 0) = false := decide_eq_false (by omega)
  have d3 : decide (s ≤ a) = false := decide_eq_false (by omega)
  have d4 : decide (b < 0) = false := decide_eq_false (by omega)
  have d5 : decide (s ≤ b) = false := decide_eq_false (by omega)
  have d6 : (a == b) = false := by simp [ab]
  have na : wrap64 (2 + a) = 2 + a := wrap_in (by omega) (by omega)
  have nb : wrap64 (2 + b) = 2 + b := wrap_in (by omega) (by omega)
  clear h1 h2 a0 a1 b0 b1 ab
  subst hs
  go_enter Try.func7, Try.ntmps7
  go_wp2_with fail
  refine (first_any _).mono ?_
  rintro e w1 ⟨rfl, hb1⟩
  go_wp2_with fail
  refine (one_any 2 1 _).mono ?_
  rw [← hc0]
  have hc0' := hide hc0
  clear hc0
  rintro e w2 ⟨rfl, hb2⟩
  have hb2' := below_then hb1 hb2
  clear hb1 hb2
  unfold cv
  dsimp only
  have lB : w.heap.size ≤ w2.heap.size := hb2'.size
  go_wp2_with fail
  have hx := bx_new c w2
  refine (cells_any c _).mono ?_
  rw [hn]
  rintro e w4 ⟨rfl, hb4⟩
  have hx4 := hx.next hb4
  have hb4' := below_then hb2' (below_call hb4)
  clear hb2' hb4 hx
  generalize w2.heap.size = B at hx4 lB ⊢
  go_wp2_with fail
  refine (new_any n _ hn6).mono ?_
  rintro e w5 ⟨cb, r, rfl, hcb, hr, hc, hb5⟩
  have hE : Env w c B cb r n m0 w5 := ⟨hx4.next hb5, hc, below_then hb4' hb5, lB, Nat.le_trans hb4'.size hcb, Nat.le_trans hb4'.size hr, by have := hx4.lt; omega, by have := hx4.lt; omega⟩
  clear hx4 hc hb4' hb5 hcb hr
  obtain ⟨x0, x1, x2, x3, x4, x5, x6, x7, x8, x9, x10, x11⟩ := hE.x.cells
  go_wp2_with fail
  refine (env_made (write_any c (2 + a) 0 false _) hE).mono ?_
  rintro e _ ⟨bp, rfl, op, hsp, hp, hE1, hb1⟩
  clear x0 x1 x2 x3 x4 x5 x6 x7 x8 x9 x10 x11 hsp hb1 hE
  have hE := hE1
  clear hE1
  go_wp2_with fail
  refine (env_through hE hp op (ok_new hn 3 (2 + a) 0 false 1 (by decide) (by decide) (by decide))).mono ?_
  rw [unhide G1]
  rintro e _ ⟨rfl, hp1, hE1, ht1⟩
  clear hp
  have hp := hp1
  clear hp1
  clear ht1 hE
  have hE := hE1
  clear hE1
  clear hp op
  rw [unhide E1] at hE
  obtain ⟨x0, x1, x2, x3, x4, x5, x6, x7, x8, x9, x10, x11⟩ := hE.x.cells
  go_wp2_with fail
  refine (env_made (write_any c (2 + b) 1 false _) hE).mono ?_
  rintro e _ ⟨bq, rfl, oq, hsq, hq, hE1, hb1⟩
  clear x0 x1 x2 x3 x4 x5 x6 x7 x8 x9 x10 x11 hsq hb1 hE
  have hE := hE1
  clear hE1
  go_wp2_with fail
  refine (env_through hE hq oq (ok_new hn 3 (2 + b) 1 false 1 (by decide) (by decide) (by decide))).mono ?_
  rw [unhide G2]
  rintro e _ ⟨rfl, hq1, hE1, ht1⟩
  clear hq
  have hq := hq1
  clear hq1
  clear ht1 hE
  have hE := hE1
  clear hE1
  clear hq oq
  rw [unhide E2] at hE
  obtain ⟨x0, x1, x2, x3, x4, x5, x6, x7, x8, x9, x10, x11⟩ := hE.x.cells
  go_wp2_with fail
  refine (env_made (read_any c (2 + a) 1 _) hE).mono ?_
  rintro e _ ⟨bu, rfl, ou, hsu, hu, hE1, hb1⟩
  clear x0 x1 x2 x3 x4 x5 x6 x7 x8 x9 x10 x11 hsu hb1 hE
  have hE := hE1
  clear hE1
  go_wp2_with fail
  refine (env_through hE hu ou (ok_new hn 0 (2 + a) 1 false 0 (by decide) (by decide) (by decide))).mono ?_
  rw [unhide G3]
  rintro e _ ⟨rfl, hu1, hE1, ht1⟩
  clear hu
  have hu := hu1
  clear hu1
  clear ht1 hE
  have hE := hE1
  clear hE1
  clear hu ou
  rw [unhide E3] at hE
  obtain ⟨x0, x1, x2, x3, x4, x5, x6, x7, x8, x9, x10, x11⟩ := hE.x.cells
  go_wp2_with fail
  refine (env_made (write_any c (2 + b) 0 false _) hE).mono ?_
  rintro e _ ⟨bv, rfl, ov, hsv, hv, hE1, hb1⟩
  clear x0 x1 x2 x3 x4 x5 x6 x7 x8 x9 x10 x11 hsv hb1 hE
  have hE := hE1
  clear hE1
  go_wp2_with fail
  refine (env_through hE hv ov (ok_new hn 3 (2 + b) 0 false 1 (by decide) (by decide) (by decide))).mono ?_
  rw [unhide G4]
  rintro e _ ⟨rfl, hv1, hE1, ht1⟩
  clear hv
  have hv := hv1
  clear hv1
  clear ht1 hE
  have hE := hE1
  clear hE1
  clear hv ov
  rw [unhide E4] at hE
  go_wp2_with fail
  refine (first_any _).mono ?_
  rintro e _ ⟨rfl, hb1⟩
  have hE1 := hE.next hb1
  clear hb1 hE
  have hE := hE1
  clear hE1
  obtain ⟨x0, x1, x2, x3, x4, x5, x6, x7, x8, x9, x10, x11⟩ := hE.x.cells
  go_wp2_with fail
  refine (env_made (endWrite_any c (2 + a) 0 _) hE).mono ?_
  rintro e _ ⟨bp, rfl, op, hsp, hp, hE1, hb1⟩
  clear x0 x1 x2 x3 x4 x5 x6 x7 x8 x9 x10 x11 hsp hb1 hE
  have hE := hE1
  clear hE1
  go_wp2_with fail
  refine (env_through hE hp op (ok_new hn 7 (2 + a) 0 false 0 (by decide) (by decide) (by decide))).mono ?_
  rw [unhide G5]
  rintro e _ ⟨rfl, hp1, hE1, ht1⟩
  clear hp
  have hp := hp1
  clear hp1
  clear ht1 hE
  have hE := hE1
  clear hE1
  clear hp op
  rw [unhide E5] at hE
  obtain ⟨x0, x1, x2, x3, x4, x5, x6, x7, x8, x9, x10, x11⟩ := hE.x.cells
  go_wp2_with fail
  refine (env_made (read_any c (2 + a) 1 _) hE).mono ?_
  rintro e _ ⟨bq, rfl, oq, hsq, hq, hE1, hb1⟩
  clear x0 x1 x2 x3 x4 x5 x6 x7 x8 x9 x10 x11 hsq hb1 hE
  have hE := hE1
  clear hE1
  go_wp2_with fail
  refine (env_through hE hq oq (ok_new hn 0 (2 + a) 1 false 0 (by decide) (by decide) (by decide))).mono ?_
  rw [unhide G6]
  rintro e _ ⟨rfl, hq1, hE1, ht1⟩
  clear hq
  have hq := hq1
  clear hq1
  clear ht1 hE
  have hE := hE1
  clear hE1
  clear hq oq
  rw [unhide E6] at hE
  obtain ⟨x0, x1, x2, x3, x4, x5, x6, x7, x8, x9, x10, x11⟩ := hE.x.cells
  go_wp2_with fail
  refine (env_made (endRead_any c (2 + a) 1 _) hE).mono ?_
  rintro e _ ⟨bu, rfl, ou, hsu, hu, hE1, hb1⟩
  clear x0 x1 x2 x3 x4 x5 x6 x7 x8 x9 x10 x11 hsu hb1 hE
  have hE := hE1
  clear hE1
  go_wp2_with fail
  refine (env_through hE hu ou (ok_new hn 6 (2 + a) 1 false 0 (by decide) (by decide) (by decide))).mono ?_
  rw [unhide G7]
  rintro e _ ⟨rfl, hu1, hE1, ht1⟩
  clear hu
  have hu := hu1
  clear hu1
  clear ht1 hE
  have hE := hE1
  clear hE1
  clear hu ou
  rw [unhide E7] at hE
  obtain ⟨x0, x1, x2, x3, x4, x5, x6, x7, x8, x9, x10, x11⟩ := hE.x.cells
  go_wp2_with fail
  refine (env_made (endWrite_any c (2 + b) 1 _) hE).mono ?_
  rintro e _ ⟨bv, rfl, ov, hsv, hv, hE1, hb1⟩
  clear x0 x1 x2 x3 x4 x5 x6 x7 x8 x9 x10 x11 hsv hb1 hE
  have hE := hE1
  clear hE1
  go_wp2_with fail
  refine (env_through hE hv ov (ok_new hn 7 (2 + b) 1 false 0 (by decide) (by decide) (by decide))).mono ?_
  rw [unhide G8]
  rintro e _ ⟨rfl, hv1, hE1, ht1⟩
  clear hv
  have hv := hv1
  clear hv1
  clear ht1 hE
  have hE := hE1
  clear hE1
  clear hv ov
  rw [unhide E8] at hE
  obtain ⟨x0, x1, x2, x3, x4, x5, x6, x7, x8, x9, x10, x11⟩ := hE.x.cells
  go_wp2_with fail
  refine (clean_true c cb r n _ _ _ hn hE.s (unhide Z)).mono ?_
  rintro e _ ⟨rfl, hb9⟩
  have hB := below_then hE.b hb9
  go_wp2
  go_ret
  exact ⟨rfl, hB⟩

theorem apart_in (s a b : Int) (w : World) (h1 : 2 ≤ s) (h2 : s ≤ 8) (a0 : 0 ≤ a) (a1 : a < s) (b0 : 0 ≤ b) (b1 : b < s) (ab : a ≠ b) :
    Calls Try.prog 7 #[.int .i64 s, .int .i64 a, .int .i64 b] w fun e w' => e = .returned (.bool true) ∧ Below w.heap.size w w' := by
  obtain ⟨f0, f1, f2, f3, f4, f5, f6, f7, f8, fz⟩ := apart_facts s a b h1 h2 a0 a1 b0 b1 ab
  exact apart_gen s a b w h1 h2 a0 a1 b0 b1 ab _ (by omega) (apC s) rfl rfl f0 (ap1 _ a) (ap2 _ a b) (ap3 _ a b) (ap4 _ a b) (ap5 _ a b) (ap6 _ a b) (ap7 _ a b) (ap8 _ a b) rfl rfl rfl rfl rfl rfl rfl rfl f1 f2 f3 f4 f5 f6 f7 f8 fz

set_option maxRecDepth 100000 in
theorem latchApart_walk (s a b : Int) (w : World) (_ : (Lit.int .i64 s).wf = true) (_ : (Lit.int .i64 a).wf = true) (_ : (Lit.int .i64 b).wf = true) :
    Calls Try.prog 7 #[.int .i64 s, .int .i64 a, .int .i64 b] w fun e w' => e = .returned (.bool true) ∧ Below w.heap.size w w' := by
  by_cases hA : 2 ≤ s ∧ s ≤ 8 ∧ 0 ≤ a ∧ a < s ∧ 0 ≤ b ∧ b < s ∧ a ≠ b
  · exact apart_in s a b w hA.1 hA.2.1 hA.2.2.1 hA.2.2.2.1 hA.2.2.2.2.1 hA.2.2.2.2.2.1 hA.2.2.2.2.2.2
  · go_enter Try.func7, Try.ntmps7
    have hA' := hide hA
    clear hA
    go_wp2_with fail
    refine (first_any _).mono ?_
    rintro e w1 ⟨rfl, hb1⟩
    rcases Bool.eq_false_or_eq_true (decide (s < 2)) with d0 | d0
    · go_wp2_with fail
      refine (first_any _).mono ?_
      rintro e w2 ⟨rfl, hb2⟩
      go_wp2
      go_ret
      exact ⟨rfl, below_then hb1 hb2⟩
    rcases Bool.eq_false_or_eq_true (decide (8 < s)) with d1 | d1
    · go_wp2_with fail
      refine (first_any _).mono ?_
      rintro e w2 ⟨rfl, hb2⟩
      go_wp2
      go_ret
      exact ⟨rfl, below_then hb1 hb2⟩
    rcases Bool.eq_false_or_eq_true (decide (a < 0)) with d2 | d2
    · go_wp2_with fail
      refine (first_any _).mono ?_
      rintro e w2 ⟨rfl, hb2⟩
      go_wp2
      go_ret
      exact ⟨rfl, below_then hb1 hb2⟩
    rcases Bool.eq_false_or_eq_true (decide (s ≤ a)) with d3 | d3
    · go_wp2_with fail
      refine (first_any _).mono ?_
      rintro e w2 ⟨rfl, hb2⟩
      go_wp2
      go_ret
      exact ⟨rfl, below_then hb1 hb2⟩
    rcases Bool.eq_false_or_eq_true (decide (b < 0)) with d4 | d4
    · go_wp2_with fail
      refine (first_any _).mono ?_
      rintro e w2 ⟨rfl, hb2⟩
      go_wp2
      go_ret
      exact ⟨rfl, below_then hb1 hb2⟩
    rcases Bool.eq_false_or_eq_true (decide (s ≤ b)) with d5 | d5
    · go_wp2_with fail
      refine (first_any _).mono ?_
      rintro e w2 ⟨rfl, hb2⟩
      go_wp2
      go_ret
      exact ⟨rfl, below_then hb1 hb2⟩
    rcases Bool.eq_false_or_eq_true (a == b) with d6 | d6
    · go_wp2_with fail
      refine (first_any _).mono ?_
      rintro e w2 ⟨rfl, hb2⟩
      go_wp2
      go_ret
      exact ⟨rfl, below_then hb1 hb2⟩
    exfalso; have hA := unhide hA'; revert hA; simp at d0 d1 d2 d3 d4 d5 d6; omega
end Go.Proofs.Ytlhmpkeljagihaa
