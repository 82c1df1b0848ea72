/- Texts of this claim, put together in their order. -/
import Derived.Deep.RegionHeld3
import Derived.Test.YtdhfpfkcbcgnaaaOfPlainsteps1
import Derived.Test.YtdhfpfkcbcgnaaaOfPlainsteps2
/- The leaves that draw an order: rising, alike, difference; the answers truth and bit. -/
namespace Go.Proofs.Ytdhfpfkcbcgnaaa.Calc
open Go.RowKit

/-- Each is less than the next one, as far as the first k numbers go. -/
def riseTo (l : List Int) (k : Nat) : Prop := ∀ i, i + 1 < k → l.getD i 0 < l.getD (i + 1) 0
def alikeTo (l : List Int) (k : Nat) : Prop := ∀ i, i < k → l.getD i 0 = l.getD 0 0
def riseL (l : List Int) : Bool := (List.range (l.length - 1)).all fun i => decide (l.getD i 0 < l.getD (i + 1) 0)
def alikeL (l : List Int) : Bool := (List.range l.length).all fun i => decide (l.getD i 0 = l.getD 0 0)

theorem riseL_iff (l : List Int) : riseL l = true ↔ riseTo l l.length := by
  unfold riseL riseTo
  rw [List.all_eq_true]
  constructor
  · intro h i hi; exact of_decide_eq_true (h i (by simp; omega))
  · intro h i hi; exact decide_eq_true (h i (by simp at hi; omega))
theorem alikeL_iff (l : List Int) : alikeL l = true ↔ alikeTo l l.length := by
  unfold alikeL alikeTo
  rw [List.all_eq_true]
  constructor
  · intro h i hi; exact of_decide_eq_true (h i (by simp; omega))
  · intro h i hi; exact decide_eq_true (h i (by simpa using hi))
theorem getD_at (l : List Int) (k : Nat) (h : k < l.length) : l.getD k 0 = l[k] := by simp [h]
theorem getD_opt (l : List Int) (k : Nat) : l.getD k 0 = l[k]?.getD 0 := by simp
theorem rise_no (l : List Int) (k : Nat) (h0 : 0 < k) (h : k < l.length) (hle : l[k] ≤ l[k - 1]?.getD 0) : riseL l = false := by
  rw [← Bool.not_eq_true, riseL_iff]
  intro hr
  have := hr (k - 1) (by omega)
  rw [show k - 1 + 1 = k from by omega, getD_at l k h, getD_opt] at this
  omega
theorem rise_step (l : List Int) (k : Nat) (_h0 : 0 < k) (h : k < l.length) (hlt : l[k - 1]?.getD 0 < l[k]) (hr : riseTo l k) : riseTo l (k + 1) := by
  intro i hi
  by_cases e : i + 1 < k
  · exact hr i e
  · obtain rfl : i = k - 1 := by omega
    rw [show k - 1 + 1 = k from by omega, getD_at l k h, getD_opt]
    exact hlt
theorem rise_all (l : List Int) (k : Nat) (h : ¬ k < l.length) (hr : riseTo l k) : riseL l = true :=
  (riseL_iff l).2 fun i hi => hr i (by omega)
theorem alike_no (l : List Int) (k : Nat) (h : k < l.length) (hne : ¬ l[k] = l[0]?.getD 0) : alikeL l = false := by
  rw [← Bool.not_eq_true, alikeL_iff]
  intro hr
  have := hr k h
  rw [getD_at l k h, getD_opt] at this
  exact hne this
theorem alike_step (l : List Int) (k : Nat) (h : k < l.length) (he : l[k] = l[0]?.getD 0) (hr : alikeTo l k) : alikeTo l (k + 1) := by
  intro i hi
  by_cases e : i < k
  · exact hr i e
  · obtain rfl : i = k := by omega
    rw [getD_at l i h, getD_opt l 0]; exact he
theorem alike_all (l : List Int) (k : Nat) (h : ¬ k < l.length) (hr : alikeTo l k) : alikeL l = true :=
  (alikeL_iff l).2 fun i hi => hr i (by omega)
theorem ret_bool {a b : Bool} (h : a = b) : Ending.returned (.bool a) = .returned (.bool b) := by rw [h]

theorem rise_any (a : Option Addr) (len cap : Nat) (l : List Int) (w : World) (hs : Seg w a len l) (hm : len ≤ maxLen) :
    Calls Try.prog 58 #[.slice a len cap] w fun e w' => e = .returned (.bool (riseL l)) ∧ ∃ n, w' = w.drewN n := by
  unfold maxLen at hm
  obtain ⟨rfl, hs⟩ := hs
  rcases hs with h0 | ⟨b, off, rfl, hc⟩
  · obtain rfl : l = [] := List.eq_nil_of_length_eq_zero h0
    go_enter Try.func58, Try.ntmps58
    go_wp2
    go_loop [3] (fun i => i = .int .i64 1) (fun _ => 1)
    case atStart => exact rfl
    case round =>
      obtain rfl := hrel
      go_wp2
      go_ret
      exact ⟨rfl, 0, rfl⟩
  · go_enter Try.func58, Try.ntmps58
    go_wp2
    go_loopw [3] (fun i w' => ∃ k : Nat, 0 < k ∧ k ≤ l.length + 1 ∧ i = .int .i64 k ∧ riseTo l k ∧ ∃ n, w' = w.drewN n) (fun i _ => l.length + 1 - (intOf i).toNat)
    case atStart => exact ⟨1, by omega, by omega, rfl, fun i h => by omega, 0, rfl⟩
    case round =>
      obtain ⟨k, hk0, hk, rfl, hr, n, rfl⟩ := hrel
      by_cases hlt : k < l.length
      · have hcell := hc k hlt
        have hcell1 := hc (k - 1) (by omega)
        go_wp2
        go_quiet (fail)
        go_wp2
        · go_ret
          exact ⟨ret_bool (rise_no l k hk0 hlt ‹_›).symm, n + nq, by simp⟩
        · go_roundw
          case rel => exact ⟨k + 1, by omega, by omega, by go_num, rise_step l k hk0 hlt ‹_› hr, _, rfl⟩
          case measure => simp [intOf]; omega
      · go_wp2
        go_ret
        exact ⟨ret_bool (rise_all l k hlt hr).symm, n, rfl⟩

theorem alike_any (a : Option Addr) (len cap : Nat) (l : List Int) (w : World) (hs : Seg w a len l) (hm : len ≤ maxLen) :
    Calls Try.prog 59 #[.slice a len cap] w fun e w' => e = .returned (.bool (alikeL l)) ∧ w' = w := by
  unfold maxLen at hm
  obtain ⟨rfl, hs⟩ := hs
  rcases hs with h0 | ⟨b, off, rfl, hc⟩
  · obtain rfl : l = [] := List.eq_nil_of_length_eq_zero h0
    go_enter Try.func59, Try.ntmps59
    go_wp2
    go_loop [7] (fun i => i = .int .i64 0) (fun _ => 1)
    case atStart => exact rfl
    case round =>
      obtain rfl := hrel
      go_wp2
      go_ret
      exact ⟨rfl, rfl⟩
  · go_enter Try.func59, Try.ntmps59
    go_wp2
    go_loop [7] (fun i => ∃ k : Nat, k ≤ l.length ∧ i = .int .i64 k ∧ alikeTo l k) (fun i => l.length - (intOf i).toNat)
    case atStart => exact ⟨0, by omega, rfl, fun i h => by omega⟩
    case round =>
      obtain ⟨k, hk, rfl, hr⟩ := hrel
      by_cases hlt : k < l.length
      · have hcell := hc k hlt
        have hpos : (0 : Int) < (l.length : Int) := by omega
        have hcell1 := head_at hc (by omega)
        go_wp2
        · go_ret
          exact ⟨ret_bool (alike_no l k hlt (by simpa using ‹(l[k] != l[0]?.getD 0) = true›)).symm, rfl⟩
        · go_round
          case rel => exact ⟨k + 1, by omega, by go_num, alike_step l k hlt (by simpa using ‹(l[k] != l[0]?.getD 0) = false›) hr⟩
          case measure => simp [intOf]; omega
      · go_wp2
        go_ret
        exact ⟨ret_bool (alike_all l k hlt hr).symm, rfl⟩

theorem truth_any (x : Bool) (w : World) : Calls Try.prog 57 #[.bool x] w fun e w' => e = .returned (.int .i64 (if x then 1 else 0)) ∧ w' = w := by
  cases x
  · go_enter Try.func57, Try.ntmps57
    go_wp2
    go_ret
    exact ⟨rfl, rfl⟩
  · go_enter Try.func57, Try.ntmps57
    go_wp2
    go_ret
    exact ⟨rfl, rfl⟩
theorem bit_any (x : Bool) (w : World) : Calls Try.prog 38 #[.bool x] w fun e w' => e = .returned (.int .i64 (if x then 1 else 0)) ∧ w' = w := by
  cases x
  · go_enter Try.func38, Try.ntmps38
    go_wp2
    go_ret
    exact ⟨rfl, rfl⟩
  · go_enter Try.func38, Try.ntmps38
    go_wp2
    go_ret
    exact ⟨rfl, rfl⟩

def diffL (l : List Int) : Int := if l = [] then 0 else wrap64 (l.getD 0 0 - sumL l.tail)

theorem seg_tail {w : World} {b off cap : Nat} {l : List Int} (hc : ∀ i, i < l.length → w.cell? ⟨b, off + i, none⟩ = some (.int .i64 (l.getD i 0))) (hcap : l.length ≤ cap) :
    Seg w (if cap = 1 then some ⟨b, off, none⟩ else some ⟨b, off + 1, none⟩) (l.length - 1) l.tail := by
  refine ⟨by simp, ?_⟩
  split
  · exact .inl (by omega)
  · refine .inr ⟨b, off + 1, rfl, fun i hi => ?_⟩
    rw [show off + 1 + i = off + (i + 1) from by omega, hc (i + 1) (by omega)]
    cases l <;> simp

theorem diff_any (a : Option Addr) (len cap : Nat) (l : List Int) (w : World) (hs : Seg w a len l) (hm : len ≤ maxLen) (hcap : len ≤ cap) :
    Calls Try.prog 55 #[.slice a len cap] w fun e w' => e = .returned (.int .i64 (diffL l)) ∧ ∃ n, w' = w.drewN n := by
  unfold maxLen at hm
  obtain ⟨rfl, hs⟩ := hs
  rcases hs with h0 | ⟨b, off, rfl, hc⟩
  · obtain rfl : l = [] := List.eq_nil_of_length_eq_zero h0
    go_enter Try.func55, Try.ntmps55
    go_wp2
    go_ret
    exact ⟨rfl, 0, rfl⟩
  · by_cases h0 : l.length = 0
    · have hb : ((l.length : Int) == 0) = true := by simp [h0]
      go_enter Try.func55, Try.ntmps55
      go_wp2
      go_ret
      exact ⟨ret_int (by rw [diffL, if_pos (List.eq_nil_of_length_eq_zero h0)]), 0, rfl⟩
    · have hb : ((l.length : Int) == 0) = false := beq_eq_false_iff_ne.2 (by omega)
      have hpos : (0 : Int) < (l.length : Int) := by omega
      have hpos' : 0 < l.length := by omega
      have h1 : (1 : Int) ≤ (l.length : Int) := by omega
      have hcell1 := head_at hc (by omega)
      have hst := fun n => seg_tail (w := w.drewN n) (b := b) (off := off) (l := l) hc hcap
      have hst' : l.length - 1 ≤ maxLen := by unfold maxLen; omega
      go_enter Try.func55, Try.ntmps55
      go_wp2
      go_quiet ((go_at_call 54; exact Calls.quiet_of_same (sum_any _ _ _ _ _ (hst _) hst')))
      go_wp2
      all_goals (go_ret; exact ⟨ret_int (by rw [diffL, if_neg (by rintro rfl; simp at h0), getD_at l 0 hpos']), nq, rfl⟩)
end Go.Proofs.Ytdhfpfkcbcgnaaa.Calc

/- calc.Eval, Known, Wrap: what each answers. -/
namespace Go.Proofs.Ytdhfpfkcbcgnaaa.Calc
open Go.RowKit

theorem hide {p : Prop} (h : p) : Hid p := h
theorem unhide {p : Prop} (h : Hid p) : p := h
def andL (l : List Int) : Int := l.foldl (fun t n => bits .and .i64 t n) (-1)
def orL (l : List Int) : Int := l.foldl (fun t n => bits .or .i64 t n) 0
def b01 (x : Bool) : Int := if x then 1 else 0
/-- The answer of calc.Eval: the number and the error's number. -/
def evalL (kind : Int) (l : List Int) : Int × Int :=
  if kind = 0 then (sumL l, 0) else if kind = 1 then (diffL l, 0) else if kind = 2 then (mulL l, 0)
  else if kind = 3 then (b01 (riseL l), 0) else if kind = 4 then (b01 (alikeL l), 0)
  else if kind = 5 then (andL l, 0) else if kind = 6 then (orL l, 0)
  else if kind = 7 then (if l = [] then (0, 1) else (maxL l, 0))
  else if kind = 8 then (if l = [] then (0, 1) else (minL l, 0))
  else (0, 1)

theorem ret_two {k k' : IntKind} {a b a' b' : Int} (h : a = a') (h' : b = b') : Ending.returned (.tuple #[.int k a, .int k' b]) = .returned (.tuple #[.int k a', .int k' b']) := by rw [h, h']

theorem extreme_any (kind : Int) (hk : kind = 7 ∨ kind = 8) (a : Option Addr) (len cap : Nat) (l : List Int) (w : World) (hs : Seg w a len l) (hm : len ≤ maxLen) :
    Calls Try.prog 62 #[.int .i64 kind, .slice a len cap] w fun e w' => e = .returned (.tuple #[.int .i64 (evalL kind l).1, .int .i64 (evalL kind l).2]) ∧ w' = w := by
  by_cases h0 : len = 0
  · have hl : l = [] := List.eq_nil_of_length_eq_zero (by rw [hs.1]; exact h0)
    have hb : ((len : Int) == 0) = true := beq_iff_eq.2 (by omega)
    have he : evalL kind l = (0, 1) := by rcases hk with rfl | rfl <;> simp [evalL, hl]
    have He := hide he; clear he hl
    go_enter Try.func62, Try.ntmps62
    go_wp2
    go_ret2
    exact ⟨ret_two (by rw [unhide He]) (by rw [unhide He]), rfl⟩
  · have hb : ((len : Int) == 0) = false := beq_eq_false_iff_ne.2 (by omega)
    have hl : l ≠ [] := by rintro rfl; exact h0 (by simpa using hs.1.symm)
    rcases hk with rfl | rfl
    · have he : evalL 7 l = (maxL l, 0) := by simp [evalL, hl]
      have He := hide he; clear he
      go_enter Try.func62, Try.ntmps62
      go_wp2_with (go_at_call 63; refine (max_any _ _ _ _ _ hs hm (by omega)).mono ?_; rintro e w' ⟨rfl, rfl⟩)
      go_ret2
      exact ⟨ret_two (by rw [unhide He]) (by rw [unhide He]), rfl⟩
    · have he : evalL 8 l = (minL l, 0) := by simp [evalL, hl]
      have He := hide he; clear he
      go_enter Try.func62, Try.ntmps62
      go_wp2_with (go_at_call 64; refine (min_any _ _ _ _ _ hs hm (by omega)).mono ?_; rintro e w' ⟨rfl, rfl⟩)
      go_ret2
      exact ⟨ret_two (by rw [unhide He]) (by rw [unhide He]), rfl⟩

theorem eval_any (kind : Int) (a : Option Addr) (len cap : Nat) (l : List Int) (w : World) (hs : Seg w a len l) (hm : len ≤ maxLen) (hcap : len ≤ cap) :
    Calls Try.prog 53 #[.int .i64 kind, .slice a len cap] w fun e w' => e = .returned (.tuple #[.int .i64 (evalL kind l).1, .int .i64 (evalL kind l).2]) ∧ ∃ n, w' = w.drewN n := by
  by_cases k0 : kind = 0
  · subst k0
    go_enter Try.func53, Try.ntmps53
    go_wp2_with (go_at_call 54; refine (sum_any _ _ _ _ _ hs hm).mono ?_; rintro e w' ⟨rfl, rfl⟩)
    go_ret2
    exact ⟨rfl, 0, rfl⟩
  by_cases k1 : kind = 1
  · subst k1; clear k0
    go_enter Try.func53, Try.ntmps53
    go_wp2_with (go_at_call 55; refine (diff_any _ _ _ _ _ hs hm hcap).mono ?_; rintro e w' ⟨rfl, n, rfl⟩)
    go_ret2
    exact ⟨rfl, n, rfl⟩
  by_cases k2 : kind = 2
  · subst k2; clear k0 k1
    go_enter Try.func53, Try.ntmps53
    go_wp2_with (go_at_call 56; refine (mul_any _ _ _ _ _ hs hm).mono ?_; rintro e w' ⟨rfl, rfl⟩)
    go_ret2
    exact ⟨rfl, 0, rfl⟩
  by_cases k3 : kind = 3
  · subst k3; clear k0 k1 k2
    go_enter Try.func53, Try.ntmps53
    go_wp2_with (first | (go_at_call 58; refine (rise_any _ _ _ _ _ hs hm).mono ?_; rintro e w' ⟨rfl, n, rfl⟩) | (go_at_call 57; refine (truth_any _ _).mono ?_; rintro e w' ⟨rfl, rfl⟩))
    all_goals (go_ret2; exact ⟨ret_two (by simp [evalL, b01, *]) rfl, n, rfl⟩)
  by_cases k4 : kind = 4
  · subst k4; clear k0 k1 k2 k3
    go_enter Try.func53, Try.ntmps53
    go_wp2_with (first | (go_at_call 59; refine (alike_any _ _ _ _ _ hs hm).mono ?_; rintro e w' ⟨rfl, rfl⟩) | (go_at_call 57; refine (truth_any _ _).mono ?_; rintro e w' ⟨rfl, rfl⟩))
    all_goals (go_ret2; exact ⟨ret_two (by simp [evalL, b01, *]) rfl, 0, rfl⟩)
  by_cases k5 : kind = 5
  · subst k5; clear k0 k1 k2 k3 k4
    go_enter Try.func53, Try.ntmps53
    go_wp2_with (go_at_call 60; refine (and_any _ _ _ _ _ hs hm).mono ?_; rintro e w' ⟨rfl, rfl⟩)
    go_ret2
    exact ⟨rfl, 0, rfl⟩
  by_cases k6 : kind = 6
  · subst k6; clear k0 k1 k2 k3 k4 k5
    go_enter Try.func53, Try.ntmps53
    go_wp2_with (go_at_call 61; refine (or_any _ _ _ _ _ hs hm).mono ?_; rintro e w' ⟨rfl, rfl⟩)
    go_ret2
    exact ⟨rfl, 0, rfl⟩
  by_cases k7 : kind = 7
  · subst k7; clear k0 k1 k2 k3 k4 k5 k6
    go_enter Try.func53, Try.ntmps53
    go_wp2_with (go_at_call 62; refine (extreme_any 7 (.inl rfl) _ _ _ _ _ hs hm).mono ?_; rintro e w' ⟨rfl, rfl⟩)
    go_ret2
    exact ⟨rfl, 0, rfl⟩
  by_cases k8 : kind = 8
  · subst k8; clear k0 k1 k2 k3 k4 k5 k6 k7
    go_enter Try.func53, Try.ntmps53
    go_wp2_with (go_at_call 62; refine (extreme_any 8 (.inr rfl) _ _ _ _ _ hs hm).mono ?_; rintro e w' ⟨rfl, rfl⟩)
    go_ret2
    exact ⟨rfl, 0, rfl⟩
  · have he : evalL kind l = (0, 1) := by simp [evalL, k0, k1, k2, k3, k4, k5, k6, k7, k8]
    have He := hide he; clear he
    have e0 : (kind == 0) = false := beq_eq_false_iff_ne.2 k0
    have e1 : (kind == 1) = false := beq_eq_false_iff_ne.2 k1
    have e2 : (kind == 2) = false := beq_eq_false_iff_ne.2 k2
    have e3 : (kind == 3) = false := beq_eq_false_iff_ne.2 k3
    have e4 : (kind == 4) = false := beq_eq_false_iff_ne.2 k4
    have e5 : (kind == 5) = false := beq_eq_false_iff_ne.2 k5
    have e6 : (kind == 6) = false := beq_eq_false_iff_ne.2 k6
    have e7 : (kind == 7) = false := beq_eq_false_iff_ne.2 k7
    have e8 : (kind == 8) = false := beq_eq_false_iff_ne.2 k8
    clear k0 k1 k2 k3 k4 k5 k6 k7 k8
    go_enter Try.func53, Try.ntmps53
    go_wp2
    go_ret2
    exact ⟨ret_two (by rw [unhide He]) (by rw [unhide He]), 0, rfl⟩

def knownB (kind : Int) : Bool := decide (0 ≤ kind ∧ kind ≤ 8)
theorem known_any (kind : Int) (w : World) : Calls Try.prog 51 #[.int .i64 kind] w fun e w' => e = .returned (.bool (knownB kind)) ∧ w' = w := by
  by_cases h : 0 ≤ kind
  · by_cases h8 : kind ≤ 8
    · have e : knownB kind = true := by simp [knownB, h, h8]
      have He := hide e; clear e
      go_enter Try.func51, Try.ntmps51
      go_wp2
      go_ret
      exact ⟨ret_bool (unhide He).symm, rfl⟩
    · have e : knownB kind = false := by simp [knownB, h8]
      have He := hide e; clear e
      have d : decide (kind ≤ 8) = false := by simpa using h8
      go_enter Try.func51, Try.ntmps51
      go_wp2
      go_ret
      exact ⟨ret_bool (unhide He).symm, rfl⟩
  · have e : knownB kind = false := by simp [knownB, h]
    have He := hide e; clear e
    have d : decide (0 ≤ kind) = false := by simpa using h
    go_enter Try.func51, Try.ntmps51
    go_wp2
    go_ret
    exact ⟨ret_bool (unhide He).symm, rfl⟩
theorem refknown_any (kind : Int) (w : World) : Calls Try.prog 35 #[.int .i64 kind] w fun e w' => e = .returned (.bool (knownB kind)) ∧ w' = w := by
  by_cases h : 0 ≤ kind
  · by_cases h8 : kind ≤ 8
    · have e : knownB kind = true := by simp [knownB, h, h8]
      have He := hide e; clear e
      go_enter Try.func35, Try.ntmps35
      go_wp2
      go_ret
      exact ⟨ret_bool (unhide He).symm, rfl⟩
    · have e : knownB kind = false := by simp [knownB, h8]
      have He := hide e; clear e
      have d : decide (kind ≤ 8) = false := by simpa using h8
      go_enter Try.func35, Try.ntmps35
      go_wp2
      go_ret
      exact ⟨ret_bool (unhide He).symm, rfl⟩
  · have e : knownB kind = false := by simp [knownB, h]
    have He := hide e; clear e
    have d : decide (0 ≤ kind) = false := by simpa using h
    go_enter Try.func35, Try.ntmps35
    go_wp2
    go_ret
    exact ⟨ret_bool (unhide He).symm, rfl⟩

theorem tmod_emod (n m : Int) : n % m = n.tmod m % m := by
  rw [Int.tmod_def, Int.sub_emod, Int.mul_emod_right, Int.sub_zero, Int.emod_emod]
theorem wrap_low (n m : Int) (h : 1 ≤ m) (hm1 : m ≤ 9223372036854775807) (hlt : n.tmod m < 0) : wrap64 (n.tmod m + m) = n % m := by
  have h1 := Int.lt_tmod_of_pos n (show 0 < m by omega)
  rw [tmod_emod n m, ← Int.add_emod_right, Int.emod_eq_of_lt (by omega) (by omega)]
  generalize n.tmod m = t at *
  unfold wrap64
  omega
theorem wrap_high (n m : Int) (h : 1 ≤ m) (hge : 0 ≤ n.tmod m) : n.tmod m = n % m := by
  have h1 := Int.tmod_lt_of_pos n (show 0 < m by omega)
  rw [tmod_emod n m, Int.emod_eq_of_lt (by omega) (by omega)]
def wrapL (n m : Int) : Int := if m < 1 then 0 else n % m
theorem wrap_any (n m : Int) (w : World) (_hn0 : -9223372036854775808 ≤ n) (_hn1 : n ≤ 9223372036854775807) (hm0 : -9223372036854775808 ≤ m) (hm1 : m ≤ 9223372036854775807) :
    Calls Try.prog 52 #[.int .i64 n, .int .i64 m] w fun e w' => e = .returned (.int .i64 (wrapL n m)) ∧ w' = w := by
  by_cases h : m < 1
  · have e : wrapL n m = 0 := by simp [wrapL, h]
    have He := hide e; clear e
    go_enter Try.func52, Try.ntmps52
    go_wp2
    go_ret
    exact ⟨ret_int (unhide He).symm, rfl⟩
  · have e : wrapL n m = n % m := by simp [wrapL, h]
    have He := hide e; clear e
    have hz : (m == 0) = false := beq_eq_false_iff_ne.2 (by omega)
    go_enter Try.func52, Try.ntmps52
    go_wp2
    · go_ret
      exact ⟨ret_int (by rw [unhide He]; exact wrap_low n m (by assumption) hm1 (by assumption)), rfl⟩
    · go_ret
      exact ⟨ret_int (by rw [unhide He]; exact wrap_high n m (by assumption) (by assumption)), rfl⟩
theorem refwrap_any (n m : Int) (w : World) (_hn0 : -9223372036854775808 ≤ n) (_hn1 : n ≤ 9223372036854775807) (hm0 : -9223372036854775808 ≤ m) (hm1 : m ≤ 9223372036854775807) :
    Calls Try.prog 37 #[.int .i64 n, .int .i64 m] w fun e w' => e = .returned (.int .i64 (wrapL n m)) ∧ w' = w := by
  by_cases h : m < 1
  · have e : wrapL n m = 0 := by simp [wrapL, h]
    have He := hide e; clear e
    go_enter Try.func37, Try.ntmps37
    go_wp2
    go_ret
    exact ⟨ret_int (unhide He).symm, rfl⟩
  · have e : wrapL n m = n % m := by simp [wrapL, h]
    have He := hide e; clear e
    have hz : (m == 0) = false := beq_eq_false_iff_ne.2 (by omega)
    go_enter Try.func37, Try.ntmps37
    go_wp2
    · go_ret
      exact ⟨ret_int (by rw [unhide He]; exact wrap_low n m (by assumption) hm1 (by assumption)), rfl⟩
    · go_ret
      exact ⟨ret_int (by rw [unhide He]; exact wrap_high n m (by assumption) (by assumption)), rfl⟩
end Go.Proofs.Ytdhfpfkcbcgnaaa.Calc

/- reckon of a machine: a sum of registers. -/
namespace Go.Proofs.Ytdhfpfkcbcgnaaa
open Go.RowKit

/-- What the registers l hold. -/
def regsD (r l : List Int) : List Int := l.map fun x => r.getD x.toNat 0
theorem regs_snoc {r l : List Int} {k : Nat} (h : k < l.length) : regsD r (l.take (k + 1)) = regsD r (l.take k) ++ [r.getD (l.getD k 0).toNat 0] := by
  unfold regsD
  rw [List.take_add_one, List.getElem?_eq_getElem h, List.map_append]
  simp [h]
theorem ls_seg {w : World} {v : Value} {l : List Int} (h : Ls w.heap.size w v l) : ∃ a cap, v = .slice a l.length cap ∧ l.length ≤ cap ∧ cap ≤ maxLen ∧ Calc.Seg w a l.length l := by
  obtain ⟨a, cap, e, h1, h2, _, h3⟩ := ls_len h
  refine ⟨a, cap, e, h1, h2, h3.1, ?_⟩
  rcases h3.2 with h0 | ⟨b, off, e, _, hc⟩
  · exact .inl h0
  · exact .inr ⟨b, off, e, hc⟩
theorem evalLs_any (kind : Int) (v : Value) (l : List Int) (w : World) (h : Ls w.heap.size w v l) :
    Calls Try.prog 53 #[.int .i64 kind, v] w fun e w' => e = .returned (.tuple #[.int .i64 (Calc.evalL kind l).1, .int .i64 (Calc.evalL kind l).2]) ∧ Below w.heap.size w w' := by
  obtain ⟨a, cap, rfl, h1, h2, h3⟩ := ls_seg h
  refine (Calc.eval_any kind a l.length cap l w h3 (by omega) h1).mono ?_
  rintro e w' ⟨rfl, n, rfl⟩
  exact ⟨rfl, drewN_below _ _⟩
set_option maxRecDepth 100000 in
set_option maxHeartbeats 1000000 in
theorem reckon_any {B : Nat} {c : Cf} {s : St} {b gh gr ch : Nat} {e : Int} {dv wv : Value} {w : World} (h : Ma B c s b gh gr ch e dv wv w) (kind : Int) (v : Value) (l : List Int) (hv : Ls w.heap.size w v l) (hl : l.length ≤ 8) (hr : ∀ x ∈ l, 0 ≤ x ∧ x < s.r.length) :
    Calls Try.prog 48 #[.pointer (some ⟨b, 0, none⟩), .int .i64 kind, v] w fun r w' => r = .returned (.int .i64 (Calc.evalL kind (regsD s.r l)).1) ∧ Below w.heap.size w w' := by
  obtain ⟨n, hnn⟩ : ∃ n, n = l.length := ⟨_, rfl⟩
  obtain ⟨m, hm⟩ : ∃ m, s.r.length = m := ⟨_, rfl⟩
  have hv0 := hv
  obtain ⟨a, cap, rfl, h1, h2, _, h3⟩ := ls_len hv
  have hmax : maxLen = 9223372036854775807 := rfl
  rw [← hnn] at h1 hl ⊢
  replace hnn := hide hnn
  have hnl : (n : Int) ≤ 9223372036854775807 := by omega
  replace hv0 := hide hv0
  replace hr := hide hr
  replace hm := hide hm
  have H := hide h
  clear h h3 hv
  go_enter Try.func48, Try.ntmps48
  go_wp2_with (at_make; refine wpList_mk elInt _ rfl _ _ rfl n rfl rfl (by omega) (by omega) ?_; intro w1 hown1 hb1)
  replace hown1 := hide hown1
  replace hb1 := hide hb1
  go_loopw [7, 17] (fun u i wr => ∃ (k : Nat), k ≤ n ∧ i = .int .i64 k ∧ Below w.heap.size w wr ∧ wr.ownsRow w.heap.size 3 1 u k (vals (regsD s.r (l.take k)))) (fun _ i _ => n - (RowKit.intOf i).toNat)
  case atStart => exact ⟨0, Nat.zero_le _, rfl, unhide hb1, unhide hown1⟩
  case round =>
    obtain ⟨k, hk, rfl, hb, hown⟩ := hrel
    clear hb1 hown1
    by_cases hlt : k < n
    · have kd : decide ((k : Int) < (n : Int)) = true := decide_eq_true (by omega)
      have kl : (k : Int) < (n : Int) := by omega
      have hk2 : k < l.length := by have := unhide hnn; omega
      obtain ⟨_, _, hv, _, _, _, h3⟩ := ls_len ((unhide hv0).later hb)
      cases hv
      obtain ⟨pb, po, rfl, hpb, hcell⟩ := h3.at hk2
      obtain ⟨x, hx⟩ : ∃ x, l.getD k 0 = x := ⟨_, rfl⟩
      have hmem : x ∈ l := by
        rw [← hx]
        have : l.getD k 0 = l[k] := by simp [hk2]
        rw [this]; exact List.getElem_mem hk2
      obtain ⟨x0, x1⟩ := unhide hr x hmem
      obtain ⟨j, rfl⟩ := Int.eq_ofNat_of_zero_le x0
      have hj : j < s.r.length := by omega
      rw [hx] at hcell
      have h4 := (unhide H).next hb
      have m14 := h4.blk.c14
      have mreg := h4.rg.cell hj
      rw [unhide hm] at m14
      have hjm : (j : Int) < (m : Int) := by have := unhide hm; omega
      obtain ⟨y, hy⟩ : ∃ y, s.r.getD j 0 = y := ⟨_, rfl⟩
      rw [hy] at mreg
      have hs := hide (regs_snoc (r := s.r) hk2)
      have bA := below_new wr (.cells #[.int .i64 y] 3)
      have ownA := own_next hown bA
      have gA := hide (below_then hb bA)
      have newsA := news_new wr [.int .i64 y] 3 1 1 1 wr.heap.size rfl rfl (fun q hq => by simp at hq; subst hq; rfl)
      have sA := (unhide gA).size
      replace hx := hide hx
      replace hy := hide hy
      replace ownA := hide ownA
      replace newsA := hide newsA
      clear hown h4 h3 hb bA hmem x0 x1 hj
      go_wp2_with (at_builtin; refine wpList_app elInt _ rfl _ _ rfl w.heap.size _ k (vals (regsD s.r (l.take k))) rfl (unhide ownA) _ 1 [.int .i64 y] rfl (unhide newsA) (by omega) (by omega) sA ?_; intro v6 w6 hown6 hgr6)
      have g6 := hide ((unhide gA).grown hgr6 sA (fun q hq => ((unhide ownA).lt q hq).1))
      have hown7 : w6.ownsRow w.heap.size 3 1 v6 (k + 1) (vals (regsD s.r (l.take (k + 1)))) := by
        rw [unhide hs, unhide hx, Int.toNat_natCast, unhide hy]
        unfold vals at hown6 ⊢; rw [List.map_append]; exact hown6
      replace hown7 := hide hown7
      clear hown6 hgr6 newsA ownA gA
      go_wp2
      go_roundw
      case rel => exact ⟨k + 1, by omega, by go_num, unhide g6, unhide hown7⟩
      case measure => first | omega | (simp; omega) | (simp [RowKit.intOf]; omega)
    · have kd : decide ((k : Int) < (n : Int)) = false := decide_eq_false (by omega)
      have el : l.take k = l := List.take_of_length_le (by have := unhide hnn; omega)
      rw [el] at hown
      have kE := evalLs_any kind _ _ wr (own_ls hown)
      replace hb := hide hb
      replace hown := hide hown
      replace el := hide el
      go_wp2_with fail
      refine kE.mono ?_
      rintro e2 w3 ⟨rfl, b3⟩
      have g3 := hide (below_then (unhide hb) b3)
      clear b3 kE
      go_wp2
      go_ret
      exact ⟨rfl, unhide g3⟩
end Go.Proofs.Ytdhfpfkcbcgnaaa

/- step of a machine. -/
namespace Go.Proofs.Ytdhfpfkcbcgnaaa
open Go.RowKit

/-- One instruction, which is no Retry and no Abort: the state behind it, and which one is next. -/
def stepD (c : Cf) (x : In) (i : Nat) (s : St) : St × Nat :=
  if x.k = 1 then ({ readD s (addrD c x s.r).toNat with r := s.r.set x.a.toNat (s.h.getD (addrD c x s.r).toNat 0) }, i + 1) else
  if x.k = 2 then (writeD s (addrD c x s.r).toNat (s.r.getD x.a.toNat 0), i + 1) else
  if x.k = 3 then ({ s with r := s.r.set x.a.toNat x.b }, i + 1) else
  if x.k = 4 then ({ s with r := s.r.set x.a.toNat (Calc.evalL x.b (regsD s.r x.l)).1 }, i + 1) else
  if x.k = 5 then (if s.r.getD x.a.toNat 0 = 0 then (s, i + 1) else (s, x.b.toNat)) else (s, i + 1)
theorem addr_in {c : Cf} (h : okB c = true) (x : In) (rs : List Int) : 0 ≤ addrD c x rs ∧ addrD c x rs < wordsD c := by
  have h1 : 1 ≤ wordsD c := by unfold wordsD; rw [h, if_pos rfl]; exact (nw_in (okB_hp h)).1
  unfold addrD
  split
  · exact wrapD_in h1
  · split
    · exact wrapD_in h1
    · omega
/-- The facts on a state that hold all along. -/
structure Wf (c : Cf) (s : St) : Prop where
  ok : okB c = true
  h : (s.h.length : Int) = wordsD c
  r : (s.r.length : Int) = c.g
theorem Wf.reg {c : Cf} {s : St} (h : Wf c s) (i : Nat) (x : Int) : Wf c { s with r := s.r.set i x } := ⟨h.ok, h.h, by show (((s.r.set i x).length : Nat) : Int) = _; rw [List.length_set]; exact h.r⟩
theorem Wf.step {c : Cf} {s : St} (h : Wf c s) (x : In) (i : Nat) : Wf c (stepD c x i s).1 := by
  unfold stepD
  split
  · exact ⟨h.ok, h.h, by show (((s.r.set _ _).length : Nat) : Int) = _; rw [List.length_set]; exact h.r⟩
  · split
    · exact ⟨h.ok, by show (((s.h.set _ _).length : Nat) : Int) = _; rw [List.length_set]; exact h.h, h.r⟩
    · split
      · exact h.reg _ _
      · split
        · exact h.reg _ _
        · split
          · split <;> exact h
          · exact h
/-- What step answers. -/
def Stepped (B : Nat) (c : Cf) (x : In) (i : Nat) (s : St) (b gh gr ch : Nat) (e : Int) (w : World) (r : Ending) (w' : World) : Prop :=
  ∃ dv' wv', r = .returned (.int .i64 ((stepD c x i s).2 : Nat)) ∧ Ma B c (stepD c x i s).1 b gh gr ch e dv' wv' w' ∧ Below B w w' ∧ Stay w w'

set_option maxRecDepth 100000 in
set_option maxHeartbeats 2000000 in
theorem step_read {B : Nat} {c : Cf} {s : St} {b gh gr ch : Nat} {e : Int} {dv wv : Value} {w : World} (h : Ma B c s b gh gr ch e dv wv w) (hw : Wf c s) (a b' d : Int) (l : List Int) (va : Option Addr) (vl vc : Nat) (i n : Nat) (hv : Ls w.heap.size w (.slice va vl vc) l) (hst : stB c.g ⟨1, a, b', d, l⟩ i n = true) (hd : s.rd.length ≤ 100) (_hwr : s.wr.length ≤ 100) (hi : i ≤ 100) :
    Calls Try.prog 32 #[.pointer (some ⟨b, 0, none⟩), iv ⟨1, a, b', d, l⟩ (.slice va vl vc), .int .i64 i] w (Stepped B c ⟨1, a, b', d, l⟩ i s b gh gr ch e w) := by
  have hwi : wiB c.g [a] = true := by
    unfold stB at hst
    simp at hst; exact hst.2.1
  rw [wi_one] at hwi
  simp only [Bool.and_eq_true, decide_eq_true_eq] at hwi
  obtain ⟨ja, rfl⟩ := Int.eq_ofNat_of_zero_le hwi.1
  have hja : ja < s.r.length := by have := hw.r; omega
  have hja2 : (ja : Int) < (s.r.length : Int) := by omega
  clear hwi
  have hx := ix_new ⟨1, (ja : Int), b', d, l⟩ (.slice va vl vc) w
  have b1 := below_new w (.cells #[.int .i64 1, .int .i64 (ja : Int), .int .i64 b', .int .i64 d, .slice va vl vc] 44)
  have h1 := h.next b1
  have hv1 := hv.next b1
  have low := h.low
  obtain ⟨m, hm⟩ : ∃ m, s.r.length = m := ⟨_, rfl⟩
  have m14 := h1.blk.c14
  rw [hm] at m14
  have lN : w.heap.size < (w.alloc (.cells #[.int .i64 1, .int .i64 (ja : Int), .int .i64 b', .int .i64 d, .slice va vl vc] 44)).heap.size := hx.lt
  obtain ⟨ia, hia⟩ := Int.eq_ofNat_of_zero_le (addr_in hw.ok ⟨1, (ja : Int), b', d, l⟩ s.r).1
  have hia2 : ia < s.h.length := by have := (addr_in hw.ok ⟨1, (ja : Int), b', d, l⟩ s.r).2; have := hw.h; omega
  have eS : Hid (stepD c ⟨1, (ja : Int), b', d, l⟩ i s = ({ readD s ia with r := s.r.set ja (s.h.getD ia 0) }, i + 1)) := hide (by unfold stepD; rw [if_pos rfl, hia, Int.toNat_natCast, Int.toNat_natCast])
  have kA := addr_any c ⟨1, (ja : Int), b', d, l⟩ va vl vc (.slice (some ⟨gr, 0, none⟩) m m) s.r (w.alloc (.cells #[.int .i64 1, .int .i64 (ja : Int), .int .i64 b', .int .i64 d, .slice va vl vc] 44)).drew (by rw [← hm]; exact h1.drew.rg.ls (Nat.le_refl _) (by have := h1.rm; unfold maxLen; omega))
  unfold cv iv at kA
  rw [hia] at kA
  obtain ⟨z0, z1, z2, z3, z4, z5, z6, z7, z8, z9, z10, z11⟩ := h1.drew.blk.conf
  obtain ⟨u0, u1, u2, u3, u4⟩ := hx.cells
  have H1 := hide h1
  have X1 := hide hx
  rw [hm] at hja2
  have hjm : (ja : Int) < (m : Int) := hja2
  obtain ⟨v, hvv⟩ : ∃ v, s.h.getD ia 0 = v := ⟨_, rfl⟩
  replace hvv := hide hvv
  replace hm := hide hm
  replace hia := hide hia
  replace b1 := hide b1
  clear h hx h1 hv hv1 hst _hwr
  unfold iv
  go_enter Try.func32, Try.ntmps32
  go_wp2_with fail
  go_region_held3 (fun wz => wz.cell? ⟨b, 0, none⟩ = some (.int .i64 c.r) ∧ wz.cell? ⟨b, 1, none⟩ = some (.int .i64 c.o) ∧ wz.cell? ⟨b, 2, none⟩ = some (.int .i64 c.s) ∧ wz.cell? ⟨b, 3, none⟩ = some (.int .i64 c.d) ∧ wz.cell? ⟨b, 4, none⟩ = some (.int .i64 c.t) ∧ wz.cell? ⟨b, 5, none⟩ = some (.int .i64 c.l) ∧ wz.cell? ⟨b, 6, none⟩ = some (.int .i64 c.g) ∧ wz.cell? ⟨b, 7, none⟩ = some (.int .i64 c.k) ∧ wz.cell? ⟨b, 8, none⟩ = some (.int .i64 c.u) ∧ wz.cell? ⟨b, 9, none⟩ = some (.int .i64 c.e) ∧ wz.cell? ⟨b, 10, none⟩ = some (.int .i64 c.i) ∧ wz.cell? ⟨b, 11, none⟩ = some (.int .i64 c.p) ∧ wz.cell? ⟨w.heap.size, 0, none⟩ = some (.int .i64 1) ∧ wz.cell? ⟨w.heap.size, 1, none⟩ = some (.int .i64 (ja : Int)) ∧ wz.cell? ⟨w.heap.size, 2, none⟩ = some (.int .i64 b') ∧ wz.cell? ⟨w.heap.size, 3, none⟩ = some (.int .i64 d) ∧ wz.cell? ⟨w.heap.size, 4, none⟩ = some (.slice va vl vc)) (first | exact ⟨z0, z1, z2, z3, z4, z5, z6, z7, z8, z9, z10, z11, u0, u1, u2, u3, u4⟩ | exact ⟨p0, p1, p2, p3, p4, p5, p6, p7, p8, p9, p10, p11, r0, r1, r2, r3, r4⟩ | exact ⟨q0, q1, q2, q3, q4, q5, q6, q7, q8, q9, q10, q11, s0, s1, s2, s3, s4⟩ | exact ⟨k0, k1, k2, k3, k4, k5, k6, k7, k8, k9, k10, k11, l0, l1, l2, l3, l4⟩)
    (first
      | (go_at_call 46; (with_reducible refine Calls.mono kA ?_); rintro e1 w1 ⟨rfl, hb1⟩; have h2 := (unhide H1).drew.next hb1; have x2 := (unhide X1).drew.next hb1; obtain ⟨p0, p1, p2, p3, p4, p5, p6, p7, p8, p9, p10, p11⟩ := h2.blk.conf; obtain ⟨r0, r1, r2, r3, r4⟩ := x2.cells; have kR := read_any h2 ia hia2 hd; rw [unhide hvv] at kR; have X2 := hide x2; have B2 := hide (below_then (unhide b1).drew hb1); clear x2 hb1 h2)
      | (go_at_call 45; (with_reducible refine Calls.mono kR ?_); rintro e1 w2 ⟨dv2, rfl, h3, b3, t3⟩; have x3 : Ix ⟨1, (ja : Int), b', d, l⟩ (.slice va vl vc) w.heap.size w2 := (t3 _ _ 44 _ (.inl rfl) (unhide X2)).trans (unhide X2); obtain ⟨q0, q1, q2, q3, q4, q5, q6, q7, q8, q9, q10, q11⟩ := h3.blk.conf; obtain ⟨s0, s1, s2, s3, s4⟩ := x3.cells; have rc := h3.rg.cell (i := ja) hja; have rf := h3.rg.free ja; have h4 := h3.setReg (i := ja) hja v; obtain ⟨k0, k1, k2, k3, k4, k5, k6, k7, k8, k9, k10, k11⟩ := h4.blk.conf; have x4 : Ix ⟨1, (ja : Int), b', d, l⟩ (.slice va vl vc) w.heap.size (w2.setCell ⟨gr, ja, none⟩ (.int .i64 v)) := (set_other _ _ _ _ _ (fun e => rb44 h3.rg _ 44 _ (.inl rfl) (by rw [← e]; exact x3))).trans x3; obtain ⟨l0, l1, l2, l3, l4⟩ := x4.cells; have B4 := hide ((((unhide B2).mono low).trans b3).setCell (p := ⟨gr, ja, none⟩) h3.rB (.int .i64 v)); have T4 := hide (((stay_below (unhide B2)).trans t3).set (i := ja) (v := .int .i64 v) (rb44 h3.rg)); replace h4 := hide h4; clear h3 b3 t3 x3 x4))
  go_wp2
  go_ret
  refine ⟨dv2, wv, ?_, ?_, unhide B4, unhide T4⟩
  · rw [unhide eS]
    exact ret_int (by first | rfl | (simp; done) | omega)
  · rw [unhide eS, unhide hvv]
    exact unhide h4
set_option maxRecDepth 100000 in
set_option maxHeartbeats 2000000 in
theorem step_write {B : Nat} {c : Cf} {s : St} {b gh gr ch : Nat} {e : Int} {dv wv : Value} {w : World} (h : Ma B c s b gh gr ch e dv wv w) (hw : Wf c s) (a b' d : Int) (l : List Int) (va : Option Addr) (vl vc : Nat) (i n : Nat) (hv : Ls w.heap.size w (.slice va vl vc) l) (hst : stB c.g ⟨2, a, b', d, l⟩ i n = true) (_hd : s.rd.length ≤ 100) (hwr : s.wr.length ≤ 100) (hi : i ≤ 100) :
    Calls Try.prog 32 #[.pointer (some ⟨b, 0, none⟩), iv ⟨2, a, b', d, l⟩ (.slice va vl vc), .int .i64 i] w (Stepped B c ⟨2, a, b', d, l⟩ i s b gh gr ch e w) := by
  have hwi : wiB c.g [a] = true := by
    unfold stB at hst
    simp at hst; exact hst.2.1
  rw [wi_one] at hwi
  simp only [Bool.and_eq_true, decide_eq_true_eq] at hwi
  obtain ⟨ja, rfl⟩ := Int.eq_ofNat_of_zero_le hwi.1
  have hja : ja < s.r.length := by have := hw.r; omega
  have hja2 : (ja : Int) < (s.r.length : Int) := by omega
  clear hwi
  have hx := ix_new ⟨2, (ja : Int), b', d, l⟩ (.slice va vl vc) w
  have b1 := below_new w (.cells #[.int .i64 2, .int .i64 (ja : Int), .int .i64 b', .int .i64 d, .slice va vl vc] 44)
  have h1 := h.next b1
  have hv1 := hv.next b1
  have low := h.low
  obtain ⟨m, hm⟩ : ∃ m, s.r.length = m := ⟨_, rfl⟩
  have m14 := h1.blk.c14
  rw [hm] at m14
  have lN : w.heap.size < (w.alloc (.cells #[.int .i64 2, .int .i64 (ja : Int), .int .i64 b', .int .i64 d, .slice va vl vc] 44)).heap.size := hx.lt
  obtain ⟨ia, hia⟩ := Int.eq_ofNat_of_zero_le (addr_in hw.ok ⟨2, (ja : Int), b', d, l⟩ s.r).1
  have hia2 : ia < s.h.length := by have := (addr_in hw.ok ⟨2, (ja : Int), b', d, l⟩ s.r).2; have := hw.h; omega
  have eS : Hid (stepD c ⟨2, (ja : Int), b', d, l⟩ i s = (writeD s ia (s.r.getD ja 0), i + 1)) := hide (by unfold stepD; rw [if_neg (show ¬ ((2 : Int) = 1) by decide), if_pos rfl, hia, Int.toNat_natCast, Int.toNat_natCast])
  have kA := addr_any c ⟨2, (ja : Int), b', d, l⟩ va vl vc (.slice (some ⟨gr, 0, none⟩) m m) s.r (w.alloc (.cells #[.int .i64 2, .int .i64 (ja : Int), .int .i64 b', .int .i64 d, .slice va vl vc] 44)).drew (by rw [← hm]; exact h1.drew.rg.ls (Nat.le_refl _) (by have := h1.rm; unfold maxLen; omega))
  unfold cv iv at kA
  rw [hia] at kA
  obtain ⟨z0, z1, z2, z3, z4, z5, z6, z7, z8, z9, z10, z11⟩ := h1.drew.blk.conf
  obtain ⟨u0, u1, u2, u3, u4⟩ := hx.cells
  have z12 := h1.drew.rg.cell hja
  obtain ⟨y, hyy⟩ : ∃ y, s.r.getD ja 0 = y := ⟨_, rfl⟩
  rw [hyy] at z12
  have H1 := hide h1
  have X1 := hide hx
  rw [hm] at hja2
  have hjm : (ja : Int) < (m : Int) := hja2
  replace hyy := hide hyy
  replace hm := hide hm
  replace hia := hide hia
  replace b1 := hide b1
  clear h hx h1 hv hv1 hst _hd
  unfold iv
  go_enter Try.func32, Try.ntmps32
  go_wp2_with fail
  go_region_held3 (fun wz => wz.cell? ⟨b, 0, none⟩ = some (.int .i64 c.r) ∧ wz.cell? ⟨b, 1, none⟩ = some (.int .i64 c.o) ∧ wz.cell? ⟨b, 2, none⟩ = some (.int .i64 c.s) ∧ wz.cell? ⟨b, 3, none⟩ = some (.int .i64 c.d) ∧ wz.cell? ⟨b, 4, none⟩ = some (.int .i64 c.t) ∧ wz.cell? ⟨b, 5, none⟩ = some (.int .i64 c.l) ∧ wz.cell? ⟨b, 6, none⟩ = some (.int .i64 c.g) ∧ wz.cell? ⟨b, 7, none⟩ = some (.int .i64 c.k) ∧ wz.cell? ⟨b, 8, none⟩ = some (.int .i64 c.u) ∧ wz.cell? ⟨b, 9, none⟩ = some (.int .i64 c.e) ∧ wz.cell? ⟨b, 10, none⟩ = some (.int .i64 c.i) ∧ wz.cell? ⟨b, 11, none⟩ = some (.int .i64 c.p) ∧ wz.cell? ⟨w.heap.size, 0, none⟩ = some (.int .i64 2) ∧ wz.cell? ⟨w.heap.size, 1, none⟩ = some (.int .i64 (ja : Int)) ∧ wz.cell? ⟨w.heap.size, 2, none⟩ = some (.int .i64 b') ∧ wz.cell? ⟨w.heap.size, 3, none⟩ = some (.int .i64 d) ∧ wz.cell? ⟨w.heap.size, 4, none⟩ = some (.slice va vl vc) ∧ wz.cell? ⟨gr, ja, none⟩ = some (.int .i64 y)) (first | exact ⟨z0, z1, z2, z3, z4, z5, z6, z7, z8, z9, z10, z11, u0, u1, u2, u3, u4, z12⟩ | exact ⟨p0, p1, p2, p3, p4, p5, p6, p7, p8, p9, p10, p11, r0, r1, r2, r3, r4, p12⟩ | exact ⟨q0, q1, q2, q3, q4, q5, q6, q7, q8, q9, q10, q11, s0, s1, s2, s3, s4, q12⟩)
    (first
      | (go_at_call 46; (with_reducible refine Calls.mono kA ?_); rintro e1 w1 ⟨rfl, hb1⟩; have h2 := (unhide H1).drew.next hb1; have x2 := (unhide X1).drew.next hb1; obtain ⟨p0, p1, p2, p3, p4, p5, p6, p7, p8, p9, p10, p11⟩ := h2.blk.conf; obtain ⟨r0, r1, r2, r3, r4⟩ := x2.cells; have p12 := h2.rg.cell (i := ja) hja; rw [unhide hyy] at p12; have kR := write_any h2 ia hia2 y hwr; have X2 := hide x2; have B2 := hide (below_then (unhide b1).drew hb1); clear x2 hb1 h2)
      | (go_at_call 47; (with_reducible refine Calls.mono kR ?_); rintro e1 w2 ⟨wv2, rfl, h3, b3, t3⟩; have x3 : Ix ⟨2, (ja : Int), b', d, l⟩ (.slice va vl vc) w.heap.size w2 := (t3 _ _ 44 _ (.inl rfl) (unhide X2)).trans (unhide X2); obtain ⟨q0, q1, q2, q3, q4, q5, q6, q7, q8, q9, q10, q11⟩ := h3.blk.conf; obtain ⟨s0, s1, s2, s3, s4⟩ := x3.cells; have q12 := h3.rg.cell (i := ja) hja; replace q12 := q12.trans (congrArg (fun q => some (Value.int .i64 q)) (unhide hyy)); have B4 := hide (((unhide B2).mono low).trans b3); have T4 := hide ((stay_below (unhide B2)).trans t3); replace h3 := hide h3; clear b3 t3 x3))
  go_wp2
  go_ret
  refine ⟨dv, wv2, ?_, ?_, unhide B4, unhide T4⟩
  · rw [unhide eS]
    exact ret_int (by first | rfl | (simp; done) | omega)
  · rw [unhide eS, unhide hyy]
    exact unhide h3
set_option maxRecDepth 100000 in
set_option maxHeartbeats 2000000 in
theorem step_const {B : Nat} {c : Cf} {s : St} {b gh gr ch : Nat} {e : Int} {dv wv : Value} {w : World} (h : Ma B c s b gh gr ch e dv wv w) (hw : Wf c s) (a b' d : Int) (l : List Int) (va : Option Addr) (vl vc : Nat) (i n : Nat) (hv : Ls w.heap.size w (.slice va vl vc) l) (hst : stB c.g ⟨3, a, b', d, l⟩ i n = true) (_hd : s.rd.length ≤ 100) (_hwr : s.wr.length ≤ 100) (hi : i ≤ 100) :
    Calls Try.prog 32 #[.pointer (some ⟨b, 0, none⟩), iv ⟨3, a, b', d, l⟩ (.slice va vl vc), .int .i64 i] w (Stepped B c ⟨3, a, b', d, l⟩ i s b gh gr ch e w) := by
  have hwi : wiB c.g [a] = true := by
    unfold stB at hst
    simp at hst; exact hst.2
  rw [wi_one] at hwi
  simp only [Bool.and_eq_true, decide_eq_true_eq] at hwi
  obtain ⟨ja, rfl⟩ := Int.eq_ofNat_of_zero_le hwi.1
  have hja : ja < s.r.length := by have := hw.r; omega
  have hja2 : (ja : Int) < (s.r.length : Int) := by omega
  clear hwi
  have hx := ix_new ⟨3, (ja : Int), b', d, l⟩ (.slice va vl vc) w
  have b1 := below_new w (.cells #[.int .i64 3, .int .i64 (ja : Int), .int .i64 b', .int .i64 d, .slice va vl vc] 44)
  have h1 := h.next b1
  have hv1 := hv.next b1
  have low := h.low
  obtain ⟨m, hm⟩ : ∃ m, s.r.length = m := ⟨_, rfl⟩
  have m14 := h1.blk.c14
  rw [hm] at m14
  have lN : w.heap.size < (w.alloc (.cells #[.int .i64 3, .int .i64 (ja : Int), .int .i64 b', .int .i64 d, .slice va vl vc] 44)).heap.size := hx.lt
  have eS : Hid (stepD c ⟨3, (ja : Int), b', d, l⟩ i s = ({ s with r := s.r.set ja b' }, i + 1)) := hide (by unfold stepD; rw [if_neg (show ¬ ((3 : Int) = 1) by decide), if_neg (show ¬ ((3 : Int) = 2) by decide), if_pos rfl, Int.toNat_natCast])
  obtain ⟨u0, u1, u2, u3, u4⟩ := hx.cells
  have rc := h1.rg.cell hja
  have rf := h1.rg.free ja
  have h4 := hide (h1.setReg hja b')
  have B4 := hide ((b1.mono low).setCell (p := ⟨gr, ja, none⟩) h1.rB (.int .i64 b'))
  have T4 := hide ((stay_below b1).set (i := ja) (v := .int .i64 b') (rb44 h1.rg))
  rw [hm] at hja2
  have hjm : (ja : Int) < (m : Int) := hja2
  replace hm := hide hm
  clear h hx h1 hv hv1 hst _hd _hwr b1
  unfold iv
  go_enter Try.func32, Try.ntmps32
  go_wp2
  go_ret
  refine ⟨dv, wv, ?_, ?_, unhide B4, unhide T4⟩
  · rw [unhide eS]
    exact ret_int (by first | rfl | (simp; done) | omega)
  · rw [unhide eS]
    exact unhide h4
set_option maxRecDepth 100000 in
set_option maxHeartbeats 2000000 in
theorem step_calc {B : Nat} {c : Cf} {s : St} {b gh gr ch : Nat} {e : Int} {dv wv : Value} {w : World} (h : Ma B c s b gh gr ch e dv wv w) (hw : Wf c s) (a b' d : Int) (l : List Int) (va : Option Addr) (vl vc : Nat) (i n : Nat) (hv : Ls w.heap.size w (.slice va vl vc) l) (hst : stB c.g ⟨4, a, b', d, l⟩ i n = true) (_hd : s.rd.length ≤ 100) (_hwr : s.wr.length ≤ 100) (hi : i ≤ 100) :
    Calls Try.prog 32 #[.pointer (some ⟨b, 0, none⟩), iv ⟨4, a, b', d, l⟩ (.slice va vl vc), .int .i64 i] w (Stepped B c ⟨4, a, b', d, l⟩ i s b gh gr ch e w) := by
  have hre : reB c.g ⟨4, a, b', d, l⟩ = true := by
    unfold stB at hst
    simpa using hst
  unfold reB at hre
  simp only [Bool.and_eq_true, decide_eq_true_eq] at hre
  obtain ⟨hwi, _, _, hl8, hall⟩ := hre
  rw [wi_one] at hwi
  simp only [Bool.and_eq_true, decide_eq_true_eq] at hwi
  obtain ⟨ja, rfl⟩ := Int.eq_ofNat_of_zero_le hwi.1
  have hja : ja < s.r.length := by have := hw.r; omega
  have hja2 : (ja : Int) < (s.r.length : Int) := by omega
  have hin : ∀ x ∈ l, 0 ≤ x ∧ x < (s.r.length : Int) := by
    intro x hx
    unfold wiB at hall
    have := List.all_eq_true.1 hall x hx
    simp only [Bool.and_eq_true, decide_eq_true_eq] at this
    rw [hw.r]; exact this
  clear hwi hall
  have hx := ix_new ⟨4, (ja : Int), b', d, l⟩ (.slice va vl vc) w
  have b1 := below_new w (.cells #[.int .i64 4, .int .i64 (ja : Int), .int .i64 b', .int .i64 d, .slice va vl vc] 44)
  have h1 := h.next b1
  have hv1 := hv.next b1
  have low := h.low
  obtain ⟨m, hm⟩ : ∃ m, s.r.length = m := ⟨_, rfl⟩
  have m14 := h1.blk.c14
  rw [hm] at m14
  have lN : w.heap.size < (w.alloc (.cells #[.int .i64 4, .int .i64 (ja : Int), .int .i64 b', .int .i64 d, .slice va vl vc] 44)).heap.size := hx.lt
  have eS : Hid (stepD c ⟨4, (ja : Int), b', d, l⟩ i s = ({ s with r := s.r.set ja (Calc.evalL b' (regsD s.r l)).1 }, i + 1)) := hide (by unfold stepD; rw [if_neg (show ¬ ((4 : Int) = 1) by decide), if_neg (show ¬ ((4 : Int) = 2) by decide), if_neg (show ¬ ((4 : Int) = 3) by decide), if_pos rfl, Int.toNat_natCast])
  have kA := reckon_any h1.drew b' (.slice va vl vc) l (hv1.next (Below.refl _ _).drew) hl8 hin
  obtain ⟨v, hvv⟩ : ∃ v, (Calc.evalL b' (regsD s.r l)).1 = v := ⟨_, rfl⟩
  rw [hvv] at kA
  replace hvv := hide hvv
  obtain ⟨u0, u1, u2, u3, u4⟩ := hx.cells
  have H1 := hide h1
  have X1 := hide hx
  rw [hm] at hja2
  have hjm : (ja : Int) < (m : Int) := hja2
  replace hm := hide hm
  replace b1 := hide b1
  replace hin := hide hin
  clear h hx h1 hv hv1 hst _hd _hwr hl8
  unfold iv
  go_enter Try.func32, Try.ntmps32
  go_wp2_with fail
  go_region_held3 (fun wz => wz.cell? ⟨w.heap.size, 0, none⟩ = some (.int .i64 4) ∧ wz.cell? ⟨w.heap.size, 1, none⟩ = some (.int .i64 (ja : Int)) ∧ wz.cell? ⟨w.heap.size, 2, none⟩ = some (.int .i64 b') ∧ wz.cell? ⟨w.heap.size, 3, none⟩ = some (.int .i64 d) ∧ wz.cell? ⟨w.heap.size, 4, none⟩ = some (.slice va vl vc)) (first | exact ⟨u0, u1, u2, u3, u4⟩ | exact ⟨r0, r1, r2, r3, r4⟩ | exact ⟨l0, l1, l2, l3, l4⟩)
    (first
      | (go_at_call 48; (with_reducible refine Calls.mono kA ?_); rintro e1 w2 ⟨rfl, hb1⟩; have h3 := (unhide H1).drew.next hb1; have x3 := (unhide X1).drew.next hb1; obtain ⟨r0, r1, r2, r3, r4⟩ := x3.cells; have rc := h3.rg.cell (i := ja) hja; have rf := h3.rg.free ja; have h4 := h3.setReg (i := ja) hja v; have x4 : Ix ⟨4, (ja : Int), b', d, l⟩ (.slice va vl vc) w.heap.size (w2.setCell ⟨gr, ja, none⟩ (.int .i64 v)) := (set_other _ _ _ _ _ (fun e => rb44 h3.rg _ 44 _ (.inl rfl) (by rw [← e]; exact x3))).trans x3; obtain ⟨l0, l1, l2, l3, l4⟩ := x4.cells; have B4 := hide ((((below_then (unhide b1).drew hb1).mono low)).setCell (p := ⟨gr, ja, none⟩) h3.rB (.int .i64 v)); have T4 := hide ((stay_below (below_then (unhide b1).drew hb1)).set (i := ja) (v := .int .i64 v) (rb44 h3.rg)); replace h4 := hide h4; clear h3 x3 x4 hb1))
  go_wp2
  go_ret
  refine ⟨dv, wv, ?_, ?_, unhide B4, unhide T4⟩
  · rw [unhide eS]
    exact ret_int (by first | rfl | (simp; done) | omega)
  · rw [unhide eS, unhide hvv]
    exact unhide h4
set_option maxRecDepth 100000 in
set_option maxHeartbeats 2000000 in
theorem step_jump {B : Nat} {c : Cf} {s : St} {b gh gr ch : Nat} {e : Int} {dv wv : Value} {w : World} (h : Ma B c s b gh gr ch e dv wv w) (hw : Wf c s) (a b' d : Int) (l : List Int) (va : Option Addr) (vl vc : Nat) (i n : Nat) (hv : Ls w.heap.size w (.slice va vl vc) l) (hst : stB c.g ⟨5, a, b', d, l⟩ i n = true) (_hd : s.rd.length ≤ 100) (_hwr : s.wr.length ≤ 100) (hi : i ≤ 100) :
    Calls Try.prog 32 #[.pointer (some ⟨b, 0, none⟩), iv ⟨5, a, b', d, l⟩ (.slice va vl vc), .int .i64 i] w (Stepped B c ⟨5, a, b', d, l⟩ i s b gh gr ch e w) := by
  have hwi : wiB c.g [a] = true ∧ (i : Int) < b' ∧ b' ≤ (n : Int) := by
    unfold stB at hst
    simp at hst; exact hst.2
  obtain ⟨hwi, hib, _⟩ := hwi
  rw [wi_one] at hwi
  simp only [Bool.and_eq_true, decide_eq_true_eq] at hwi
  obtain ⟨ja, rfl⟩ := Int.eq_ofNat_of_zero_le hwi.1
  have hja : ja < s.r.length := by have := hw.r; omega
  have hja2 : (ja : Int) < (s.r.length : Int) := by omega
  clear hwi
  have hx := ix_new ⟨5, (ja : Int), b', d, l⟩ (.slice va vl vc) w
  have b1 := below_new w (.cells #[.int .i64 5, .int .i64 (ja : Int), .int .i64 b', .int .i64 d, .slice va vl vc] 44)
  have h1 := h.next b1
  have hv1 := hv.next b1
  have low := h.low
  obtain ⟨m, hm⟩ : ∃ m, s.r.length = m := ⟨_, rfl⟩
  have m14 := h1.blk.c14
  rw [hm] at m14
  have lN : w.heap.size < (w.alloc (.cells #[.int .i64 5, .int .i64 (ja : Int), .int .i64 b', .int .i64 d, .slice va vl vc] 44)).heap.size := hx.lt
  obtain ⟨u0, u1, u2, u3, u4⟩ := hx.cells
  have rc := h1.rg.cell hja
  obtain ⟨y, hyy⟩ : ∃ y, s.r.getD ja 0 = y := ⟨_, rfl⟩
  rw [hyy] at rc
  have eS : Hid (stepD c ⟨5, (ja : Int), b', d, l⟩ i s = if y = 0 then (s, i + 1) else (s, b'.toNat)) := hide (by unfold stepD; rw [if_neg (show ¬ ((5 : Int) = 1) by decide), if_neg (show ¬ ((5 : Int) = 2) by decide), if_neg (show ¬ ((5 : Int) = 3) by decide), if_neg (show ¬ ((5 : Int) = 4) by decide), if_pos rfl, Int.toNat_natCast, hyy])
  have h4 := hide h1
  have B4 := hide (b1.mono low)
  have T4 := hide (stay_below b1)
  rw [hm] at hja2
  have hjm : (ja : Int) < (m : Int) := hja2
  replace hm := hide hm
  replace hyy := hide hyy
  replace hib := hide hib
  clear h hx h1 hv hv1 hst _hd _hwr b1
  unfold iv
  by_cases y0 : y = 0
  · subst y0
    have e2 : Hid (stepD c ⟨5, (ja : Int), b', d, l⟩ i s = (s, i + 1)) := hide (by rw [unhide eS, if_pos rfl])
    clear eS
    go_enter Try.func32, Try.ntmps32
    go_wp2
    go_ret
    refine ⟨dv, wv, ?_, ?_, unhide B4, unhide T4⟩
    · rw [unhide e2]
      exact ret_int (by first | rfl | (simp; done) | omega)
    · rw [unhide e2]
      exact unhide h4
  · have yb : (y == 0) = false := by simpa using y0
    have e2 : Hid (stepD c ⟨5, (ja : Int), b', d, l⟩ i s = (s, b'.toNat)) := hide (by rw [unhide eS, if_neg y0])
    clear eS
    go_enter Try.func32, Try.ntmps32
    go_wp2
    go_ret
    refine ⟨dv, wv, ?_, ?_, unhide B4, unhide T4⟩
    · rw [unhide e2]
      exact ret_int (by have := unhide hib; show b' = ((b'.toNat : Nat) : Int); omega)
    · rw [unhide e2]
      exact unhide h4
theorem step_any {B : Nat} {c : Cf} {s : St} {b gh gr ch : Nat} {e : Int} {dv wv : Value} {w : World} (h : Ma B c s b gh gr ch e dv wv w) (hw : Wf c s) (x : In) (va : Option Addr) (vl vc : Nat) (i n : Nat) (hv : Ls w.heap.size w (.slice va vl vc) x.l) (hst : stB c.g x i n = true) (h6 : x.k ≠ 6) (h7 : x.k ≠ 7) (hd : s.rd.length ≤ 100) (hwr : s.wr.length ≤ 100) (hi : i ≤ 100) :
    Calls Try.prog 32 #[.pointer (some ⟨b, 0, none⟩), iv x (.slice va vl vc), .int .i64 i] w (Stepped B c x i s b gh gr ch e w) := by
  obtain ⟨k, a, b', d, l⟩ := x
  by_cases k1 : k = 1
  · subst k1; exact step_read h hw a b' d l va vl vc i n hv hst hd hwr hi
  by_cases k2 : k = 2
  · subst k2; exact step_write h hw a b' d l va vl vc i n hv hst hd hwr hi
  by_cases k3 : k = 3
  · subst k3; exact step_const h hw a b' d l va vl vc i n hv hst hd hwr hi
  by_cases k4 : k = 4
  · subst k4; exact step_calc h hw a b' d l va vl vc i n hv hst hd hwr hi
  by_cases k5 : k = 5
  · subst k5; exact step_jump h hw a b' d l va vl vc i n hv hst hd hwr hi
  · exfalso
    replace h6 : k ≠ 6 := h6
    replace h7 : k ≠ 7 := h7
    unfold stB at hst
    simp [k1, k2, k3, k4, k5, h6, h7] at hst

end Go.Proofs.Ytdhfpfkcbcgnaaa

/- play of a machine. -/
namespace Go.Proofs.Ytdhfpfkcbcgnaaa
open Go.RowKit

/-- A program from instruction k on: the state behind it, and its end. -/
def playD (c : Cf) (ps : List In) : Nat → Nat → St → St × Int
  | 0, _, s => (s, 1)
  | f + 1, k, s => if k < ps.length then (if (ps.getD k z0).k = 6 then (s, 2) else if (ps.getD k z0).k = 7 then (s, 3) else playD c ps f (stepD c (ps.getD k z0) k s).2 (stepD c (ps.getD k z0) k s).1) else (s, 1)
theorem play_end {c : Cf} {ps : List In} {f k : Nat} {s : St} (h : ps.length ≤ k) : playD c ps f k s = (s, 1) := by
  cases f with
  | zero => rfl
  | succ f => rw [playD, if_neg (by omega)]
theorem step_rd {c : Cf} {x : In} {i : Nat} {s : St} : (stepD c x i s).1.rd.length ≤ s.rd.length + 1 := by
  unfold stepD
  split
  · simp [readD]
  · split
    · simp [writeD]
    · split
      · simp
      · split
        · simp
        · split
          · split <;> simp
          · simp
theorem step_wr {c : Cf} {x : In} {i : Nat} {s : St} : (stepD c x i s).1.wr.length ≤ s.wr.length + 1 := by
  unfold stepD
  split
  · simp [readD]
  · split
    · simp [writeD]
    · split
      · simp
      · split
        · simp
        · split
          · split <;> simp
          · simp
theorem step_at {c : Cf} {x : In} {i n : Nat} {s : St} (h : stB c.g x i n = true) (hi : i < n) : i < (stepD c x i s).2 ∧ (stepD c x i s).2 ≤ n := by
  unfold stepD
  split
  · exact ⟨Nat.lt_succ_self _, hi⟩
  · split
    · exact ⟨Nat.lt_succ_self _, hi⟩
    · split
      · exact ⟨Nat.lt_succ_self _, hi⟩
      · split
        · exact ⟨Nat.lt_succ_self _, hi⟩
        · split
          · rename_i k1 k2 k3 k4 k5
            split
            · exact ⟨Nat.lt_succ_self _, hi⟩
            · unfold stB at h
              simp [k5] at h
              exact ⟨by show i < x.b.toNat; omega, by show x.b.toNat ≤ n; omega⟩
          · exact ⟨Nat.lt_succ_self _, hi⟩
set_option maxRecDepth 100000 in
set_option maxHeartbeats 2000000 in
theorem play_any {B : Nat} {c : Cf} {s0 : St} {b gh gr ch : Nat} {e : Int} {dv wv : Value} {w : World} (h : Ma B c s0 b gh gr ch e dv wv w) (hw : Wf c s0) (ps : List In) (v : Value) (hp : Ps B w v ps)
    (hck : ∀ i : Nat, i < ps.length → stB c.g (ps.getD i z0) i ps.length = true) (hn : ps.length ≤ 60) (h0 : s0.rd = []) (h00 : s0.wr = []) :
    Calls Try.prog 20 #[.pointer (some ⟨b, 0, none⟩), v] w fun r w' => ∃ dv' wv', r = .returned (.int .i64 (playD c ps ps.length 0 s0).2) ∧ Ma B c (playD c ps ps.length 0 s0).1 b gh gr ch e dv' wv' w' ∧ Below B w w' ∧ Stay w w' := by
  obtain ⟨n, hnn⟩ : ∃ n, n = ps.length := ⟨_, rfl⟩
  obtain ⟨R, hR⟩ : ∃ R, playD c ps ps.length 0 s0 = R := ⟨_, rfl⟩
  rw [hR]
  have hp0 := hp
  obtain ⟨a, cap, rfl, h1, h2, _⟩ := hp
  have hmax : maxLen = 9223372036854775807 := rfl
  rw [← hnn] at h1 hn hck ⊢
  replace hnn := hide hnn
  have hnl : (n : Int) ≤ 9223372036854775807 := by omega
  replace hp0 := hide hp0
  replace hck := hide hck
  replace hR := hide hR
  have H := hide h
  replace hw := hide hw
  clear h
  go_enter Try.func20, Try.ntmps20
  go_wp2_with fail
  go_loopw [5] (fun i wr => ∃ (k : Nat) (s : St) (f : Nat) (dv wv : Value), k ≤ n ∧ i = .int .i64 k ∧ Below B w wr ∧ Stay w wr ∧ Ma B c s b gh gr ch e dv wv wr ∧ Wf c s ∧ s.rd.length ≤ k ∧ s.wr.length ≤ k ∧ n ≤ k + f ∧ playD c ps f k s = R) (fun i _ => n - (RowKit.intOf i).toNat)
  case atStart => exact ⟨0, s0, n, dv, wv, Nat.zero_le _, rfl, Below.refl _ _, Stay.refl _, unhide H, unhide hw, by rw [h0]; exact Nat.le_refl _, by rw [h00]; exact Nat.le_refl _, by omega, by rw [unhide hnn]; exact unhide hR⟩
  case round =>
    obtain ⟨k, s, f, dv1, wv1, hk, rfl, hb, hsy, hm, hwf, hrd, hwr, hf, hr⟩ := hrel
    clear H hw hR h0 h00
    replace hsy := hide hsy
    by_cases hlt : k < n
    · have kd : decide ((k : Int) < (n : Int)) = true := decide_eq_true (by omega)
      have kl : (k : Int) < (n : Int) := by omega
      obtain ⟨_, _, hv, _, _, h3'⟩ := (unhide hp0).later hb
      cases hv
      rcases h3' with h0 | ⟨pb, off, rfl, hbB, hc⟩
      · have := unhide hnn; omega
      have hI := hc k (by have := unhide hnn; omega)
      have hst := unhide hck k hlt
      obtain ⟨x, hxx⟩ : ∃ x, ps.getD k z0 = x := ⟨_, rfl⟩
      rw [hxx] at hI hst
      obtain ⟨f, rfl⟩ : ∃ g, f = g + 1 := ⟨f - 1, by omega⟩
      rw [playD, if_pos (by have := unhide hnn; omega), hxx] at hr
      obtain ⟨c0, c1, c2, c3, u, c4, hu⟩ := hI
      obtain ⟨ua, ul, uc, rfl⟩ : ∃ ua ul uc, u = .slice ua ul uc := by obtain ⟨ua, ul, uc, e, _⟩ := hu; exact ⟨ua, ul, uc, e⟩
      replace hc := hide hc
      replace hb := hide hb
      replace hxx := hide hxx
      by_cases k6 : x.k = 6
      · rw [if_pos k6] at hr
        rw [k6] at c0
        have r : Hid (R = (s, 2)) := hide hr.symm
        have M := hide hm
        clear hr hm hu hst hwf c1 c2 c3 c4
        go_wp2
        go_ret
        refine ⟨dv1, wv1, ?_, ?_, unhide hb, unhide hsy⟩
        · rw [unhide r]; rfl
        · rw [unhide r]; exact unhide M
      · rw [if_neg k6] at hr
        have b6 : (x.k == 6) = false := by simpa using k6
        by_cases k7 : x.k = 7
        · rw [if_pos k7] at hr
          rw [k7] at c0
          have r : Hid (R = (s, 3)) := hide hr.symm
          have M := hide hm
          clear hr hm hu hst hwf c1 c2 c3 c4 k6 b6
          go_wp2
          go_ret
          refine ⟨dv1, wv1, ?_, ?_, unhide hb, unhide hsy⟩
          · rw [unhide r]; rfl
          · rw [unhide r]; exact unhide M
        · rw [if_neg k7] at hr
          have b7 : (x.k == 7) = false := by simpa using k7
          have kS := step_any hm hwf x ua ul uc k n (hu.up hm.low) hst k6 k7 (by omega) (by omega) (by omega)
          have hat := step_at (c := c) (s := s) hst hlt
          have e1 := step_rd (c := c) (x := x) (i := k) (s := s)
          have e2 := step_wr (c := c) (x := x) (i := k) (s := s)
          have w2 := hwf.step x k
          obtain ⟨k', s', hS⟩ : ∃ k' s', stepD c x k s = (s', k') := ⟨_, _, rfl⟩
          unfold Stepped at kS
          rw [hS] at hr kS hat e1 e2 w2
          replace hr := hide hr
          replace hat := hide hat
          replace e1 := hide e1
          replace e2 := hide e2
          replace w2 := hide w2
          replace hS := hide hS
          unfold iv at kS
          clear hm hu hst hwf
          go_wp2_with fail
          refine kS.mono ?_
          rintro e3 w3 ⟨dv2, wv2, rfl, hm3, hb3, hs3⟩
          have g3 := hide ((unhide hb).trans hb3)
          have y3 := hide ((unhide hsy).trans hs3)
          have M := hide hm3
          clear hb3 hm3 kS hs3
          go_wp2
          go_roundw
          case rel =>
            have q1 := unhide hat
            have q2 := unhide e1
            have q3 := unhide e2
            exact ⟨k', s', f, dv2, wv2, q1.2, rfl, unhide g3, unhide y3, unhide M, unhide w2, by have := q1.1; show s'.rd.length ≤ k'; have q2' : s'.rd.length ≤ s.rd.length + 1 := q2; omega, by have := q1.1; show s'.wr.length ≤ k'; have q3' : s'.wr.length ≤ s.wr.length + 1 := q3; omega, by have : k < k' := q1.1; omega, unhide hr⟩
          case measure =>
            have q1 := (unhide hat).1
            have q2 := (unhide hat).2
            replace q1 : k < k' := q1
            replace q2 : k' ≤ n := q2
            first | omega | (simp; omega) | (simp [RowKit.intOf]; omega)
    · have kd : decide ((k : Int) < (n : Int)) = false := decide_eq_false (by omega)
      rw [play_end (by have := unhide hnn; omega)] at hr
      have r : Hid (R = (s, 1)) := hide hr.symm
      have M := hide hm
      replace hb := hide hb
      clear hr hm hwf
      go_wp2
      go_ret
      refine ⟨dv1, wv1, ?_, ?_, unhide hb, unhide hsy⟩
      · rw [unhide r]; rfl
      · rw [unhide r]; exact unhide M
end Go.Proofs.Ytdhfpfkcbcgnaaa
