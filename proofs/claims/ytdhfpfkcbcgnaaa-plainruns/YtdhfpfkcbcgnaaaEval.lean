/- calc.Eval, Known, Wrap: what each answers. -/
import Derived.Test.YtdhfpfkcbcgnaaaLeafb
namespace Go.Proofs.Ytdhfpfkcbcgnaaa.Calc
open Go.RowKit

theorem hide {p : Prop} (h : p) : Hid p := h
theorem unhide {p : Prop} (h : Hid p) : p := h
def andL (l : List Int) : Int := l.foldl (fun t n => bits .and .i64 t n) (-1)
def orL (l : List Int) : Int := l.foldl (fun t n => bits .or .i64 t n) 0
def b01 (x : Bool) : Int := if x then 1 else 0
/-- The answer of calc.Eval: the number and the error's number. -/
def evalL (kind : Int) (l : List Int) : Int × Int :=
  if kind = 0 then (sumL l, 0) else if kind = 1 then (diffL l, 0) else if kind = 2 then (mulL l, 0)
  else if kind = 3 then (b01 (riseL l), 0) else if kind = 4 then (b01 (alikeL l), 0)
  else if kind = 5 then (andL l, 0) else if kind = 6 then (orL l, 0)
  else if kind = 7 then (if l = [] then (0, 1) else (maxL l, 0))
  else if kind = 8 then (if l = [] then (0, 1) else (minL l, 0))
  else (0, 1)

theorem ret_two {k k' : IntKind} {a b a' b' : Int} (h : a = a') (h' : b = b') : Ending.returned (.tuple #[.int k a, .int k' b]) = .returned (.tuple #[.int k a', .int k' b']) := by rw [h, h']

theorem extreme_any (kind : Int) (hk : kind = 7 ∨ kind = 8) (a : Option Addr) (len cap : Nat) (l : List Int) (w : World) (hs : Seg w a len l) (hm : len ≤ maxLen) :
    Calls Try.prog 62 #[.int .i64 kind, .slice a len cap] w fun e w' => e = .returned (.tuple #[.int .i64 (evalL kind l).1, .int .i64 (evalL kind l).2]) ∧ w' = w := by
  by_cases h0 : len = 0
  · have hl : l = [] := List.eq_nil_of_length_eq_zero (by rw [hs.1]; exact h0)
    have hb : ((len : Int) == 0) = true := beq_iff_eq.2 (by omega)
    have he : evalL kind l = (0, 1) := by rcases hk with rfl | rfl <;> simp [evalL, hl]
    have He := hide he; clear he hl
    go_enter Try.func62, Try.ntmps62
    go_wp2
    go_ret2
    exact ⟨ret_two (by rw [unhide He]) (by rw [unhide He]), rfl⟩
  · have hb : ((len : Int) == 0) = false := beq_eq_false_iff_ne.2 (by omega)
    have hl : l ≠ [] := by rintro rfl; exact h0 (by simpa using hs.1.symm)
    rcases hk with rfl | rfl
    · have he : evalL 7 l = (maxL l, 0) := by simp [evalL, hl]
      have He := hide he; clear he
      go_enter Try.func62, Try.ntmps62
      go_wp2_with (go_at_call 63; refine (max_any _ _ _ _ _ hs hm (by omega)).mono ?_; rintro e w' ⟨rfl, rfl⟩)
      go_ret2
      exact ⟨ret_two (by rw [unhide He]) (by rw [unhide He]), rfl⟩
    · have he : evalL 8 l = (minL l, 0) := by simp [evalL, hl]
      have He := hide he; clear he
      go_enter Try.func62, Try.ntmps62
      go_wp2_with (go_at_call 64; refine (min_any _ _ _ _ _ hs hm (by omega)).mono ?_; rintro e w' ⟨rfl, rfl⟩)
      go_ret2
      exact ⟨ret_two (by rw [unhide He]) (by rw [unhide He]), rfl⟩

theorem eval_any (kind : Int) (a : Option Addr) (len cap : Nat) (l : List Int) (w : World) (hs : Seg w a len l) (hm : len ≤ maxLen) (hcap : len ≤ cap) :
    Calls Try.prog 53 #[.int .i64 kind, .slice a len cap] w fun e w' => e = .returned (.tuple #[.int .i64 (evalL kind l).1, .int .i64 (evalL kind l).2]) ∧ ∃ n, w' = w.drewN n := by
  by_cases k0 : kind = 0
  · subst k0
    go_enter Try.func53, Try.ntmps53
    go_wp2_with (go_at_call 54; refine (sum_any _ _ _ _ _ hs hm).mono ?_; rintro e w' ⟨rfl, rfl⟩)
    go_ret2
    exact ⟨rfl, 0, rfl⟩
  by_cases k1 : kind = 1
  · subst k1; clear k0
    go_enter Try.func53, Try.ntmps53
    go_wp2_with (go_at_call 55; refine (diff_any _ _ _ _ _ hs hm hcap).mono ?_; rintro e w' ⟨rfl, n, rfl⟩)
    go_ret2
    exact ⟨rfl, n, rfl⟩
  by_cases k2 : kind = 2
  · subst k2; clear k0 k1
    go_enter Try.func53, Try.ntmps53
    go_wp2_with (go_at_call 56; refine (mul_any _ _ _ _ _ hs hm).mono ?_; rintro e w' ⟨rfl, rfl⟩)
    go_ret2
    exact ⟨rfl, 0, rfl⟩
  by_cases k3 : kind = 3
  · subst k3; clear k0 k1 k2
    go_enter Try.func53, Try.ntmps53
    go_wp2_with (first | (go_at_call 58; refine (rise_any _ _ _ _ _ hs hm).mono ?_; rintro e w' ⟨rfl, n, rfl⟩) | (go_at_call 57; refine (truth_any _ _).mono ?_; rintro e w' ⟨rfl, rfl⟩))
    all_goals (go_ret2; exact ⟨ret_two (by simp [evalL, b01, *]) rfl, n, rfl⟩)
  by_cases k4 : kind = 4
  · subst k4; clear k0 k1 k2 k3
    go_enter Try.func53, Try.ntmps53
    go_wp2_with (first | (go_at_call 59; refine (alike_any _ _ _ _ _ hs hm).mono ?_; rintro e w' ⟨rfl, rfl⟩) | (go_at_call 57; refine (truth_any _ _).mono ?_; rintro e w' ⟨rfl, rfl⟩))
    all_goals (go_ret2; exact ⟨ret_two (by simp [evalL, b01, *]) rfl, 0, rfl⟩)
  by_cases k5 : kind = 5
  · subst k5; clear k0 k1 k2 k3 k4
    go_enter Try.func53, Try.ntmps53
    go_wp2_with (go_at_call 60; refine (and_any _ _ _ _ _ hs hm).mono ?_; rintro e w' ⟨rfl, rfl⟩)
    go_ret2
    exact ⟨rfl, 0, rfl⟩
  by_cases k6 : kind = 6
  · subst k6; clear k0 k1 k2 k3 k4 k5
    go_enter Try.func53, Try.ntmps53
    go_wp2_with (go_at_call 61; refine (or_any _ _ _ _ _ hs hm).mono ?_; rintro e w' ⟨rfl, rfl⟩)
    go_ret2
    exact ⟨rfl, 0, rfl⟩
  by_cases k7 : kind = 7
  · subst k7; clear k0 k1 k2 k3 k4 k5 k6
    go_enter Try.func53, Try.ntmps53
    go_wp2_with (go_at_call 62; refine (extreme_any 7 (.inl rfl) _ _ _ _ _ hs hm).mono ?_; rintro e w' ⟨rfl, rfl⟩)
    go_ret2
    exact ⟨rfl, 0, rfl⟩
  by_cases k8 : kind = 8
  · subst k8; clear k0 k1 k2 k3 k4 k5 k6 k7
    go_enter Try.func53, Try.ntmps53
    go_wp2_with (go_at_call 62; refine (extreme_any 8 (.inr rfl) _ _ _ _ _ hs hm).mono ?_; rintro e w' ⟨rfl, rfl⟩)
    go_ret2
    exact ⟨rfl, 0, rfl⟩
  · have he : evalL kind l = (0, 1) := by simp [evalL, k0, k1, k2, k3, k4, k5, k6, k7, k8]
    have He := hide he; clear he
    have e0 : (kind == 0) = false := beq_eq_false_iff_ne.2 k0
    have e1 : (kind == 1) = false := beq_eq_false_iff_ne.2 k1
    have e2 : (kind == 2) = false := beq_eq_false_iff_ne.2 k2
    have e3 : (kind == 3) = false := beq_eq_false_iff_ne.2 k3
    have e4 : (kind == 4) = false := beq_eq_false_iff_ne.2 k4
    have e5 : (kind == 5) = false := beq_eq_false_iff_ne.2 k5
    have e6 : (kind == 6) = false := beq_eq_false_iff_ne.2 k6
    have e7 : (kind == 7) = false := beq_eq_false_iff_ne.2 k7
    have e8 : (kind == 8) = false := beq_eq_false_iff_ne.2 k8
    clear k0 k1 k2 k3 k4 k5 k6 k7 k8
    go_enter Try.func53, Try.ntmps53
    go_wp2
    go_ret2
    exact ⟨ret_two (by rw [unhide He]) (by rw [unhide He]), 0, rfl⟩

def knownB (kind : Int) : Bool := decide (0 ≤ kind ∧ kind ≤ 8)
theorem known_any (kind : Int) (w : World) : Calls Try.prog 51 #[.int .i64 kind] w fun e w' => e = .returned (.bool (knownB kind)) ∧ w' = w := by
  by_cases h : 0 ≤ kind
  · by_cases h8 : kind ≤ 8
    · have e : knownB kind = true := by simp [knownB, h, h8]
      have He := hide e; clear e
      go_enter Try.func51, Try.ntmps51
      go_wp2
      go_ret
      exact ⟨ret_bool (unhide He).symm, rfl⟩
    · have e : knownB kind = false := by simp [knownB, h8]
      have He := hide e; clear e
      have d : decide (kind ≤ 8) = false := by simpa using h8
      go_enter Try.func51, Try.ntmps51
      go_wp2
      go_ret
      exact ⟨ret_bool (unhide He).symm, rfl⟩
  · have e : knownB kind = false := by simp [knownB, h]
    have He := hide e; clear e
    have d : decide (0 ≤ kind) = false := by simpa using h
    go_enter Try.func51, Try.ntmps51
    go_wp2
    go_ret
    exact ⟨ret_bool (unhide He).symm, rfl⟩
theorem refknown_any (kind : Int) (w : World) : Calls Try.prog 35 #[.int .i64 kind] w fun e w' => e = .returned (.bool (knownB kind)) ∧ w' = w := by
  by_cases h : 0 ≤ kind
  · by_cases h8 : kind ≤ 8
    · have e : knownB kind = true := by simp [knownB, h, h8]
      have He := hide e; clear e
      go_enter Try.func35, Try.ntmps35
      go_wp2
      go_ret
      exact ⟨ret_bool (unhide He).symm, rfl⟩
    · have e : knownB kind = false := by simp [knownB, h8]
      have He := hide e; clear e
      have d : decide (kind ≤ 8) = false := by simpa using h8
      go_enter Try.func35, Try.ntmps35
      go_wp2
      go_ret
      exact ⟨ret_bool (unhide He).symm, rfl⟩
  · have e : knownB kind = false := by simp [knownB, h]
    have He := hide e; clear e
    have d : decide (0 ≤ kind) = false := by simpa using h
    go_enter Try.func35, Try.ntmps35
    go_wp2
    go_ret
    exact ⟨ret_bool (unhide He).symm, rfl⟩

theorem tmod_emod (n m : Int) : n % m = n.tmod m % m := by
  rw [Int.tmod_def, Int.sub_emod, Int.mul_emod_right, Int.sub_zero, Int.emod_emod]
theorem wrap_low (n m : Int) (h : 1 ≤ m) (hm1 : m ≤ 9223372036854775807) (hlt : n.tmod m < 0) : wrap64 (n.tmod m + m) = n % m := by
  have h1 := Int.lt_tmod_of_pos n (show 0 < m by omega)
  rw [tmod_emod n m, ← Int.add_emod_right, Int.emod_eq_of_lt (by omega) (by omega)]
  generalize n.tmod m = t at *
  unfold wrap64
  omega
theorem wrap_high (n m : Int) (h : 1 ≤ m) (hge : 0 ≤ n.tmod m) : n.tmod m = n % m := by
  have h1 := Int.tmod_lt_of_pos n (show 0 < m by omega)
  rw [tmod_emod n m, Int.emod_eq_of_lt (by omega) (by omega)]
def wrapL (n m : Int) : Int := if m < 1 then 0 else n % m
theorem wrap_any (n m : Int) (w : World) (_hn0 : -9223372036854775808 ≤ n) (_hn1 : n ≤ 9223372036854775807) (hm0 : -9223372036854775808 ≤ m) (hm1 : m ≤ 9223372036854775807) :
    Calls Try.prog 52 #[.int .i64 n, .int .i64 m] w fun e w' => e = .returned (.int .i64 (wrapL n m)) ∧ w' = w := by
  by_cases h : m < 1
  · have e : wrapL n m = 0 := by simp [wrapL, h]
    have He := hide e; clear e
    go_enter Try.func52, Try.ntmps52
    go_wp2
    go_ret
    exact ⟨ret_int (unhide He).symm, rfl⟩
  · have e : wrapL n m = n % m := by simp [wrapL, h]
    have He := hide e; clear e
    have hz : (m == 0) = false := beq_eq_false_iff_ne.2 (by omega)
    go_enter Try.func52, Try.ntmps52
    go_wp2
    · go_ret
      exact ⟨ret_int (by rw [unhide He]; exact wrap_low n m (by assumption) hm1 (by assumption)), rfl⟩
    · go_ret
      exact ⟨ret_int (by rw [unhide He]; exact wrap_high n m (by assumption) (by assumption)), rfl⟩
theorem refwrap_any (n m : Int) (w : World) (_hn0 : -9223372036854775808 ≤ n) (_hn1 : n ≤ 9223372036854775807) (hm0 : -9223372036854775808 ≤ m) (hm1 : m ≤ 9223372036854775807) :
    Calls Try.prog 37 #[.int .i64 n, .int .i64 m] w fun e w' => e = .returned (.int .i64 (wrapL n m)) ∧ w' = w := by
  by_cases h : m < 1
  · have e : wrapL n m = 0 := by simp [wrapL, h]
    have He := hide e; clear e
    go_enter Try.func37, Try.ntmps37
    go_wp2
    go_ret
    exact ⟨ret_int (unhide He).symm, rfl⟩
  · have e : wrapL n m = n % m := by simp [wrapL, h]
    have He := hide e; clear e
    have hz : (m == 0) = false := beq_eq_false_iff_ne.2 (by omega)
    go_enter Try.func37, Try.ntmps37
    go_wp2
    · go_ret
      exact ⟨ret_int (by rw [unhide He]; exact wrap_low n m (by assumption) hm1 (by assumption)), rfl⟩
    · go_ret
      exact ⟨ret_int (by rw [unhide He]; exact wrap_high n m (by assumption) (by assumption)), rfl⟩
end Go.Proofs.Ytdhfpfkcbcgnaaa.Calc
