/- The walk of CalcWraps: it answers true. -/
import Derived.Test.YtkmcblhngnebpaaFirst
namespace Go.Proofs.Ytkmcblhngnebpaa
open Go.RowKit

theorem wf64 {n : Int} (h : (Lit.int .i64 n).wf = true) : -9223372036854775808 ≤ n ∧ n ≤ 9223372036854775807 := by
  simp [Lit.wf, IntKind.min, IntKind.max, IntKind.signed, IntKind.bits] at h
  exact ⟨by omega, by omega⟩

theorem prod_bd (t m : Int) (h0 : 1 ≤ m) (h1 : m ≤ 1000000) (h2 : -1000 ≤ t) (h3 : t ≤ 1000) : -1000000000 ≤ t * m ∧ t * m ≤ 1000000000 := by
  constructor
  · have := Int.mul_le_mul_of_nonneg_right h2 (show 0 ≤ m by omega); omega
  · have := Int.mul_le_mul_of_nonneg_right h3 (show 0 ≤ m by omega); omega

theorem wrapL_in (n m : Int) (h : 1 ≤ m) : wrapL n m = n % m := by rw [wrapL, if_neg (by omega)]

set_option maxHeartbeats 400000 in
theorem wraps_out (n m t : Int) (w : World) (hbad : ¬ (1 ≤ m ∧ m ≤ 1000000 ∧ -1000000 ≤ n ∧ n ≤ 1000000 ∧ -1000 ≤ t ∧ t ≤ 1000)) :
    Calls Try.prog 8 #[.int .i64 n, .int .i64 m, .int .i64 t] w fun e w' => e = .returned (.bool true) ∧ Below w.heap.size w w' := by
  by_cases c1 : m < 1
  · clear hbad
    go_enter Try.func8, Try.ntmps8
    go_wp2_with fail
    refine (first_any _).mono ?_
    rintro e w1 ⟨rfl, hb1⟩
    go_wp2_with fail
    refine (first_any _).mono ?_
    rintro e w2 ⟨rfl, hb2⟩
    go_wp2
    go_ret
    exact ⟨rfl, hb1.trans (hb2.mono hb1.size)⟩
  have d1 : decide (m < 1) = false := decide_eq_false c1
  by_cases c2 : 1000000 < m
  · clear hbad
    go_enter Try.func8, Try.ntmps8
    go_wp2_with fail
    refine (first_any _).mono ?_
    rintro e w1 ⟨rfl, hb1⟩
    go_wp2_with fail
    refine (first_any _).mono ?_
    rintro e w2 ⟨rfl, hb2⟩
    go_wp2
    go_ret
    exact ⟨rfl, hb1.trans (hb2.mono hb1.size)⟩
  have d2 : decide (1000000 < m) = false := decide_eq_false c2
  by_cases c3 : n < -1000000
  · clear hbad
    go_enter Try.func8, Try.ntmps8
    go_wp2_with fail
    refine (first_any _).mono ?_
    rintro e w1 ⟨rfl, hb1⟩
    go_wp2_with fail
    refine (first_any _).mono ?_
    rintro e w2 ⟨rfl, hb2⟩
    go_wp2
    go_ret
    exact ⟨rfl, hb1.trans (hb2.mono hb1.size)⟩
  have d3 : decide (n < -1000000) = false := decide_eq_false c3
  by_cases c4 : 1000000 < n
  · clear hbad
    go_enter Try.func8, Try.ntmps8
    go_wp2_with fail
    refine (first_any _).mono ?_
    rintro e w1 ⟨rfl, hb1⟩
    go_wp2_with fail
    refine (first_any _).mono ?_
    rintro e w2 ⟨rfl, hb2⟩
    go_wp2
    go_ret
    exact ⟨rfl, hb1.trans (hb2.mono hb1.size)⟩
  have d4 : decide (1000000 < n) = false := decide_eq_false c4
  by_cases c5 : t < -1000
  · clear hbad
    go_enter Try.func8, Try.ntmps8
    go_wp2_with fail
    refine (first_any _).mono ?_
    rintro e w1 ⟨rfl, hb1⟩
    go_wp2_with fail
    refine (first_any _).mono ?_
    rintro e w2 ⟨rfl, hb2⟩
    go_wp2
    go_ret
    exact ⟨rfl, hb1.trans (hb2.mono hb1.size)⟩
  have d5 : decide (t < -1000) = false := decide_eq_false c5
  by_cases c6 : 1000 < t
  · clear hbad
    go_enter Try.func8, Try.ntmps8
    go_wp2_with fail
    refine (first_any _).mono ?_
    rintro e w1 ⟨rfl, hb1⟩
    go_wp2_with fail
    refine (first_any _).mono ?_
    rintro e w2 ⟨rfl, hb2⟩
    go_wp2
    go_ret
    exact ⟨rfl, hb1.trans (hb2.mono hb1.size)⟩
  exact absurd ⟨by omega, by omega, by omega, by omega, by omega, by omega⟩ hbad

theorem add_turn (n m t : Int) (h : 1 ≤ m) : wrapL (n + t * m) m = wrapL n m := by
  rw [wrapL_in _ _ h, wrapL_in _ _ h, Int.add_mul_emod_self_right]
theorem wrap_again (n m : Int) (h : 1 ≤ m) : wrapL (wrapL n m) m = wrapL n m := by
  rw [wrapL_in n _ h, wrapL_in _ _ h, Int.emod_emod]
theorem wrap_neg (m : Int) (h : 1 ≤ m) : wrapL (-m) m = 0 := by
  rw [wrapL_in _ _ h]; simp
theorem wrap_same (n m : Int) (h : 1 ≤ m) (h0 : 0 ≤ n) (h1 : n < m) : wrapL n m = n := by
  rw [wrapL_in _ _ h, Int.emod_eq_of_lt h0 h1]
theorem wrap_bd (n m : Int) (h : 1 ≤ m) : 0 ≤ wrapL n m ∧ wrapL n m < m := by
  rw [wrapL_in _ _ h]
  exact ⟨Int.emod_nonneg _ (by omega), Int.emod_lt_of_pos _ (by omega)⟩

set_option maxHeartbeats 400000 in
theorem wraps_in (n m t : Int) (w : World) (h1 : 1 ≤ m) (h2 : m ≤ 1000000) (h3 : -1000000 ≤ n) (h4 : n ≤ 1000000) (h5 : -1000 ≤ t) (h6 : t ≤ 1000) :
    Calls Try.prog 8 #[.int .i64 n, .int .i64 m, .int .i64 t] w fun e w' => e = .returned (.bool true) ∧ Below w.heap.size w w' := by
  have d1 : decide (m < 1) = false := decide_eq_false (by omega)
  have d2 : decide (1000000 < m) = false := decide_eq_false (by omega)
  have d3 : decide (n < -1000000) = false := decide_eq_false (by omega)
  have d4 : decide (1000000 < n) = false := decide_eq_false (by omega)
  have d5 : decide (t < -1000) = false := decide_eq_false (by omega)
  have d6 : decide (1000 < t) = false := decide_eq_false (by omega)
  obtain ⟨p1, p2⟩ := prod_bd t m h1 h2 h5 h6
  obtain ⟨q1, q2⟩ := wrap_bd n m h1
  have E1 := hide (add_turn n m t h1)
  have E2 := hide (wrap_again n m h1)
  have E3 := hide (wrap_neg m h1)
  have E4 := hide (wrap_same n m h1)
  go_enter Try.func8, Try.ntmps8
  go_wp2_with fail
  refine (first_any _).mono ?_
  rintro e w1 ⟨rfl, hb1⟩
  go_wp2_with fail
  refine (wrap_any n m _ (by omega) (by omega) (by omega) (by omega)).mono ?_
  rintro e w2 ⟨rfl, rfl⟩
  generalize hv : wrapL n m = v at *
  have HV := hide hv
  clear hv
  go_wp2_with fail
  refine (first_any _).mono ?_
  rintro e w3 ⟨rfl, hb3⟩
  go_wp2_with fail
  refine (wrap_any _ m _ (by omega) (by omega) (by omega) (by omega)).mono ?_
  rw [unhide E1]
  rintro e w4 ⟨rfl, rfl⟩
  go_wp2_with fail
  refine (wrap_any v m _ (by omega) (by omega) (by omega) (by omega)).mono ?_
  rw [unhide E2]
  rintro e w5 ⟨rfl, rfl⟩
  by_cases c1 : n < 0
  · go_wp2_with fail
    refine (wrap_any _ m _ (by omega) (by omega) (by omega) (by omega)).mono ?_
    rw [unhide E3]
    rintro e w6 ⟨rfl, rfl⟩
    go_wp2
    go_ret
    exact ⟨rfl, hb1.trans (hb3.mono hb1.size)⟩
  have e1 : decide (n < 0) = false := decide_eq_false c1
  by_cases c2 : m ≤ n
  · go_wp2_with fail
    refine (wrap_any _ m _ (by omega) (by omega) (by omega) (by omega)).mono ?_
    rw [unhide E3]
    rintro e w6 ⟨rfl, rfl⟩
    go_wp2
    go_ret
    exact ⟨rfl, hb1.trans (hb3.mono hb1.size)⟩
  have e2 : decide (m ≤ n) = false := decide_eq_false c2
  have e3 : (v == n) = true := beq_iff_eq.2 (unhide E4 (by omega) (by omega))
  go_wp2_with fail
  refine (wrap_any _ m _ (by omega) (by omega) (by omega) (by omega)).mono ?_
  rw [unhide E3]
  rintro e w6 ⟨rfl, rfl⟩
  go_wp2
  go_ret
  exact ⟨rfl, hb1.trans (hb3.mono hb1.size)⟩

theorem calcWraps_walk (n m t : Int) (w : World) (_w0 : (Lit.int .i64 n).wf = true) (_w1 : (Lit.int .i64 m).wf = true) (_w2 : (Lit.int .i64 t).wf = true) :
    Calls Try.prog 8 #[.int .i64 n, .int .i64 m, .int .i64 t] w fun e w' => e = .returned (.bool true) ∧ Below w.heap.size w w' := by
  by_cases h : 1 ≤ m ∧ m ≤ 1000000 ∧ -1000000 ≤ n ∧ n ≤ 1000000 ∧ -1000 ≤ t ∧ t ≤ 1000
  · obtain ⟨h1, h2, h3, h4, h5, h6⟩ := h
    exact wraps_in n m t w h1 h2 h3 h4 h5 h6
  · exact wraps_out n m t w h
end Go.Proofs.Ytkmcblhngnebpaa
