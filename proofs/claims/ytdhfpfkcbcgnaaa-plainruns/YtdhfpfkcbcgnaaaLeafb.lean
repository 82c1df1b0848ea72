/- The leaves that draw an order: rising, alike, difference; the answers truth and bit. -/
import Derived.Test.YtdhfpfkcbcgnaaaLeaf
namespace Go.Proofs.Ytdhfpfkcbcgnaaa.Calc
open Go.RowKit

/-- Each is less than the next one, as far as the first k numbers go. -/
def riseTo (l : List Int) (k : Nat) : Prop := ∀ i, i + 1 < k → l.getD i 0 < l.getD (i + 1) 0
def alikeTo (l : List Int) (k : Nat) : Prop := ∀ i, i < k → l.getD i 0 = l.getD 0 0
def riseL (l : List Int) : Bool := (List.range (l.length - 1)).all fun i => decide (l.getD i 0 < l.getD (i + 1) 0)
def alikeL (l : List Int) : Bool := (List.range l.length).all fun i => decide (l.getD i 0 = l.getD 0 0)

theorem riseL_iff (l : List Int) : riseL l = true ↔ riseTo l l.length := by
  unfold riseL riseTo
  rw [List.all_eq_true]
  constructor
  · intro h i hi; exact of_decide_eq_true (h i (by simp; omega))
  · intro h i hi; exact decide_eq_true (h i (by simp at hi; omega))
theorem alikeL_iff (l : List Int) : alikeL l = true ↔ alikeTo l l.length := by
  unfold alikeL alikeTo
  rw [List.all_eq_true]
  constructor
  · intro h i hi; exact of_decide_eq_true (h i (by simp; omega))
  · intro h i hi; exact decide_eq_true (h i (by simpa using hi))
theorem getD_at (l : List Int) (k : Nat) (h : k < l.length) : l.getD k 0 = l[k] := by simp [h]
theorem getD_opt (l : List Int) (k : Nat) : l.getD k 0 = l[k]?.getD 0 := by simp
theorem rise_no (l : List Int) (k : Nat) (h0 : 0 < k) (h : k < l.length) (hle : l[k] ≤ l[k - 1]?.getD 0) : riseL l = false := by
  rw [← Bool.not_eq_true, riseL_iff]
  intro hr
  have := hr (k - 1) (by omega)
  rw [show k - 1 + 1 = k from by omega, getD_at l k h, getD_opt] at this
  omega
theorem rise_step (l : List Int) (k : Nat) (_h0 : 0 < k) (h : k < l.length) (hlt : l[k - 1]?.getD 0 < l[k]) (hr : riseTo l k) : riseTo l (k + 1) := by
  intro i hi
  by_cases e : i + 1 < k
  · exact hr i e
  · obtain rfl : i = k - 1 := by omega
    rw [show k - 1 + 1 = k from by omega, getD_at l k h, getD_opt]
    exact hlt
theorem rise_all (l : List Int) (k : Nat) (h : ¬ k < l.length) (hr : riseTo l k) : riseL l = true :=
  (riseL_iff l).2 fun i hi => hr i (by omega)
theorem alike_no (l : List Int) (k : Nat) (h : k < l.length) (hne : ¬ l[k] = l[0]?.getD 0) : alikeL l = false := by
  rw [← Bool.not_eq_true, alikeL_iff]
  intro hr
  have := hr k h
  rw [getD_at l k h, getD_opt] at this
  exact hne this
theorem alike_step (l : List Int) (k : Nat) (h : k < l.length) (he : l[k] = l[0]?.getD 0) (hr : alikeTo l k) : alikeTo l (k + 1) := by
  intro i hi
  by_cases e : i < k
  · exact hr i e
  · obtain rfl : i = k := by omega
    rw [getD_at l i h, getD_opt l 0]; exact he
theorem alike_all (l : List Int) (k : Nat) (h : ¬ k < l.length) (hr : alikeTo l k) : alikeL l = true :=
  (alikeL_iff l).2 fun i hi => hr i (by omega)
theorem ret_bool {a b : Bool} (h : a = b) : Ending.returned (.bool a) = .returned (.bool b) := by rw [h]

theorem rise_any (a : Option Addr) (len cap : Nat) (l : List Int) (w : World) (hs : Seg w a len l) (hm : len ≤ maxLen) :
    Calls Try.prog 58 #[.slice a len cap] w fun e w' => e = .returned (.bool (riseL l)) ∧ ∃ n, w' = w.drewN n := by
  unfold maxLen at hm
  obtain ⟨rfl, hs⟩ := hs
  rcases hs with h0 | ⟨b, off, rfl, hc⟩
  · obtain rfl : l = [] := List.eq_nil_of_length_eq_zero h0
    go_enter Try.func58, Try.ntmps58
    go_wp2
    go_loop [3] (fun i => i = .int .i64 1) (fun _ => 1)
    case atStart => exact rfl
    case round =>
      obtain rfl := hrel
      go_wp2
      go_ret
      exact ⟨rfl, 0, rfl⟩
  · go_enter Try.func58, Try.ntmps58
    go_wp2
    go_loopw [3] (fun i w' => ∃ k : Nat, 0 < k ∧ k ≤ l.length + 1 ∧ i = .int .i64 k ∧ riseTo l k ∧ ∃ n, w' = w.drewN n) (fun i _ => l.length + 1 - (intOf i).toNat)
    case atStart => exact ⟨1, by omega, by omega, rfl, fun i h => by omega, 0, rfl⟩
    case round =>
      obtain ⟨k, hk0, hk, rfl, hr, n, rfl⟩ := hrel
      by_cases hlt : k < l.length
      · have hcell := hc k hlt
        have hcell1 := hc (k - 1) (by omega)
        go_wp2
        go_quiet (fail)
        go_wp2
        · go_ret
          exact ⟨ret_bool (rise_no l k hk0 hlt ‹_›).symm, n + nq, by simp⟩
        · go_roundw
          case rel => exact ⟨k + 1, by omega, by omega, by go_num, rise_step l k hk0 hlt ‹_› hr, _, rfl⟩
          case measure => simp [intOf]; omega
      · go_wp2
        go_ret
        exact ⟨ret_bool (rise_all l k hlt hr).symm, n, rfl⟩

theorem alike_any (a : Option Addr) (len cap : Nat) (l : List Int) (w : World) (hs : Seg w a len l) (hm : len ≤ maxLen) :
    Calls Try.prog 59 #[.slice a len cap] w fun e w' => e = .returned (.bool (alikeL l)) ∧ w' = w := by
  unfold maxLen at hm
  obtain ⟨rfl, hs⟩ := hs
  rcases hs with h0 | ⟨b, off, rfl, hc⟩
  · obtain rfl : l = [] := List.eq_nil_of_length_eq_zero h0
    go_enter Try.func59, Try.ntmps59
    go_wp2
    go_loop [7] (fun i => i = .int .i64 0) (fun _ => 1)
    case atStart => exact rfl
    case round =>
      obtain rfl := hrel
      go_wp2
      go_ret
      exact ⟨rfl, rfl⟩
  · go_enter Try.func59, Try.ntmps59
    go_wp2
    go_loop [7] (fun i => ∃ k : Nat, k ≤ l.length ∧ i = .int .i64 k ∧ alikeTo l k) (fun i => l.length - (intOf i).toNat)
    case atStart => exact ⟨0, by omega, rfl, fun i h => by omega⟩
    case round =>
      obtain ⟨k, hk, rfl, hr⟩ := hrel
      by_cases hlt : k < l.length
      · have hcell := hc k hlt
        have hpos : (0 : Int) < (l.length : Int) := by omega
        have hcell1 := head_at hc (by omega)
        go_wp2
        · go_ret
          exact ⟨ret_bool (alike_no l k hlt (by simpa using ‹(l[k] != l[0]?.getD 0) = true›)).symm, rfl⟩
        · go_round
          case rel => exact ⟨k + 1, by omega, by go_num, alike_step l k hlt (by simpa using ‹(l[k] != l[0]?.getD 0) = false›) hr⟩
          case measure => simp [intOf]; omega
      · go_wp2
        go_ret
        exact ⟨ret_bool (alike_all l k hlt hr).symm, rfl⟩

theorem truth_any (x : Bool) (w : World) : Calls Try.prog 57 #[.bool x] w fun e w' => e = .returned (.int .i64 (if x then 1 else 0)) ∧ w' = w := by
  cases x
  · go_enter Try.func57, Try.ntmps57
    go_wp2
    go_ret
    exact ⟨rfl, rfl⟩
  · go_enter Try.func57, Try.ntmps57
    go_wp2
    go_ret
    exact ⟨rfl, rfl⟩
theorem bit_any (x : Bool) (w : World) : Calls Try.prog 38 #[.bool x] w fun e w' => e = .returned (.int .i64 (if x then 1 else 0)) ∧ w' = w := by
  cases x
  · go_enter Try.func38, Try.ntmps38
    go_wp2
    go_ret
    exact ⟨rfl, rfl⟩
  · go_enter Try.func38, Try.ntmps38
    go_wp2
    go_ret
    exact ⟨rfl, rfl⟩

def diffL (l : List Int) : Int := if l = [] then 0 else wrap64 (l.getD 0 0 - sumL l.tail)

theorem seg_tail {w : World} {b off cap : Nat} {l : List Int} (hc : ∀ i, i < l.length → w.cell? ⟨b, off + i, none⟩ = some (.int .i64 (l.getD i 0))) (hcap : l.length ≤ cap) :
    Seg w (if cap = 1 then some ⟨b, off, none⟩ else some ⟨b, off + 1, none⟩) (l.length - 1) l.tail := by
  refine ⟨by simp, ?_⟩
  split
  · exact .inl (by omega)
  · refine .inr ⟨b, off + 1, rfl, fun i hi => ?_⟩
    rw [show off + 1 + i = off + (i + 1) from by omega, hc (i + 1) (by omega)]
    cases l <;> simp

theorem diff_any (a : Option Addr) (len cap : Nat) (l : List Int) (w : World) (hs : Seg w a len l) (hm : len ≤ maxLen) (hcap : len ≤ cap) :
    Calls Try.prog 55 #[.slice a len cap] w fun e w' => e = .returned (.int .i64 (diffL l)) ∧ ∃ n, w' = w.drewN n := by
  unfold maxLen at hm
  obtain ⟨rfl, hs⟩ := hs
  rcases hs with h0 | ⟨b, off, rfl, hc⟩
  · obtain rfl : l = [] := List.eq_nil_of_length_eq_zero h0
    go_enter Try.func55, Try.ntmps55
    go_wp2
    go_ret
    exact ⟨rfl, 0, rfl⟩
  · by_cases h0 : l.length = 0
    · have hb : ((l.length : Int) == 0) = true := by simp [h0]
      go_enter Try.func55, Try.ntmps55
      go_wp2
      go_ret
      exact ⟨ret_int (by rw [diffL, if_pos (List.eq_nil_of_length_eq_zero h0)]), 0, rfl⟩
    · have hb : ((l.length : Int) == 0) = false := beq_eq_false_iff_ne.2 (by omega)
      have hpos : (0 : Int) < (l.length : Int) := by omega
      have hpos' : 0 < l.length := by omega
      have h1 : (1 : Int) ≤ (l.length : Int) := by omega
      have hcell1 := head_at hc (by omega)
      have hst := fun n => seg_tail (w := w.drewN n) (b := b) (off := off) (l := l) hc hcap
      have hst' : l.length - 1 ≤ maxLen := by unfold maxLen; omega
      go_enter Try.func55, Try.ntmps55
      go_wp2
      go_quiet ((go_at_call 54; exact Calls.quiet_of_same (sum_any _ _ _ _ _ (hst _) hst')))
      go_wp2
      all_goals (go_ret; exact ⟨ret_int (by rw [diffL, if_neg (by rintro rfl; simp at h0), getD_at l 0 hpos']), nq, rfl⟩)
end Go.Proofs.Ytdhfpfkcbcgnaaa.Calc
