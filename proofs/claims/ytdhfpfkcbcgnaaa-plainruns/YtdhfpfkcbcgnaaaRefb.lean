/- The reference's Eval over a list that is not empty. -/
import Derived.Test.YtdhfpfkcbcgnaaaRef
namespace Go.Proofs.Ytdhfpfkcbcgnaaa.Calc
open Go.RowKit

theorem rise_first (l : List Int) : riseTo l 1 := fun i h => by omega
theorem rise_zero (l : List Int) : riseTo l 0 := fun i h => by omega
theorem alike_zero (l : List Int) : alikeTo l 0 := fun i h => by omega
theorem rise_iff (l : List Int) (k : Nat) (h0 : 0 < k) (h : k < l.length) : riseTo l (k + 1) ↔ riseTo l k ∧ l[k - 1]?.getD 0 < l[k] := by
  constructor
  · intro hr
    refine ⟨fun i hi => hr i (by omega), ?_⟩
    have := hr (k - 1) (by omega)
    rwa [show k - 1 + 1 = k from by omega, getD_at l k h, getD_opt] at this
  · rintro ⟨hr, hlt⟩
    exact rise_step l k h0 h hlt hr
theorem alike_iff (l : List Int) (k : Nat) (h : k < l.length) : alikeTo l (k + 1) ↔ alikeTo l k ∧ l[k] = l[0]?.getD 0 := by
  constructor
  · intro hr
    refine ⟨fun i hi => hr i (by omega), ?_⟩
    have := hr k (by omega)
    rwa [getD_at l k h, getD_opt l 0] at this
  · rintro ⟨hr, he⟩
    exact alike_step l k h he hr

theorem rise_false {l : List Int} {k : Nat} (h : false = true ↔ riseTo l k) : false = true ↔ riseTo l (k + 1) :=
  ⟨fun e => (by cases e), fun hr => h.2 fun i hi => hr i (by omega)⟩
theorem alike_false {l : List Int} {k : Nat} (h : false = true ↔ alikeTo l k) : false = true ↔ alikeTo l (k + 1) :=
  ⟨fun e => (by cases e), fun hr => h.2 fun i hi => hr i (by omega)⟩
theorem rise_true {l : List Int} {k : Nat} (h : riseTo l k) (h0 : 0 < k) (hk : k < l.length) : decide (l[k - 1]?.getD 0 < l[k]) = true ↔ riseTo l (k + 1) := by
  rw [rise_iff l k h0 hk, decide_eq_true_iff]
  exact ⟨fun e => ⟨h, e⟩, fun e => e.2⟩
theorem alike_true {l : List Int} {k : Nat} (h : alikeTo l k) (hk : k < l.length) (hp : 0 < l.length) : (l[k] == l[0]) = true ↔ alikeTo l (k + 1) := by
  rw [alike_iff l k hk, beq_iff_eq, ← getD_opt l 0, getD_at l 0 hp]
  exact ⟨fun e => ⟨h, e⟩, fun e => e.2⟩
theorem rise_at_one (l : List Int) : true = true ↔ riseTo l (0 + 1) := ⟨fun _ i h => by omega, fun _ => rfl⟩
theorem alike_at_one (l : List Int) : true = true ↔ alikeTo l (0 + 1) := by
  refine ⟨fun _ => ?_, fun _ => rfl⟩
  intro i h
  obtain rfl : i = 0 := by omega
  rfl
theorem bool_of {b : Bool} {p : Prop} (h : b = true ↔ p) {c : Bool} (k : c = true ↔ p) : b = c := by
  rw [Bool.eq_iff_iff, h, k]
theorem rise_end {l : List Int} {k : Nat} {b : Bool} (h : b = true ↔ riseTo l k) (hk : ¬ k < l.length) (hk' : k ≤ l.length) : b = riseL l := by
  obtain rfl : k = l.length := by omega
  exact bool_of h (riseL_iff l)
theorem alike_end {l : List Int} {k : Nat} {b : Bool} (h : b = true ↔ alikeTo l k) (hk : ¬ k < l.length) (hk' : k ≤ l.length) : b = alikeL l := by
  obtain rfl : k = l.length := by omega
  exact bool_of h (alikeL_iff l)

theorem sumL_cons (x : Int) (t : List Int) : sumL (x :: t) % 18446744073709551616 = (x + sumL t) % 18446744073709551616 := by
  have key : ∀ (t : List Int) (a : Int), t.foldl add2 a % 18446744073709551616 = (a + t.foldl add2 0) % 18446744073709551616 := by
    intro t
    induction t with
    | nil => intro a; simp
    | cons y t ih =>
      intro a
      simp only [List.foldl_cons]
      rw [ih (add2 a y), Int.add_emod a, ih (add2 0 y), ← Int.add_emod]
      unfold add2 wrap64
      omega
  rw [sumL_eq, sumL_eq]
  simp only [List.foldl_cons]
  rw [key t]
  unfold add2 wrap64
  omega
theorem diff_ref (l : List Int) (h : 0 < l.length) : wrap64 (l[0] - wrap64 (sumL l - l[0])) = diffL l := by
  cases l with
  | nil => simp at h
  | cons x t =>
    have hs := sumL_cons x t
    rw [diffL, if_neg (by simp)]
    simp only [List.getElem_cons_zero, List.getD_cons_zero, List.tail_cons]
    generalize sumL (x :: t) = u at *
    generalize sumL t = v at *
    unfold wrap64
    omega

set_option maxRecDepth 100000 in
set_option maxHeartbeats 2000000 in
theorem ref_low (kind : Int) (b off len cap : Nat) (l : List Int) (w : World) (hl : l.length = len) (hc : ∀ i, i < l.length → w.cell? ⟨b, off + i, none⟩ = some (.int .i64 (l.getD i 0))) (hm : len ≤ maxLen) (hpos : 0 < len) (hk : knownB kind = true) (d7 : kind < 7) :
    Calls Try.prog 24 #[.int .i64 kind, .slice (some ⟨b, off, none⟩) len cap] w fun e w' => e = .returned (.tuple #[.int .i64 (evalL kind l).1, .int .i64 (evalL kind l).2]) ∧ ∃ n, w' = w.drewN n := by
  unfold maxLen at hm
  subst hl
  have HK := hide hk
  have HC := hide (kind_cases kind hk)
  clear hk
  have hz := head_at hc hpos
  have hposI : (0 : Int) < (l.length : Int) := by omega
  have hne : ((l.length : Int) == 0) = false := beq_eq_false_iff_ne.2 (by omega)
  have d7' : decide (7 ≤ kind) = false := decide_eq_false (by omega)
  go_enter Try.func24, Try.ntmps24
  go_wp2_with fail
  refine (refknown_any kind _).mono ?_
  rw [unhide HK]
  rintro e w1 ⟨rfl, hw1⟩
  subst w1
  go_wp2
  go_loopw [6, 7, 8, 9, 10, 11, 12] (fun s p a o x y i w' => ∃ (k : Nat) (bl be : Bool), k ≤ l.length ∧ s = .int .i64 (sumTo l k) ∧ p = .int .i64 (mulTo l k) ∧ a = .int .i64 (andTo l k) ∧ o = .int .i64 (orTo l k) ∧ x = .bool bl ∧ y = .bool be ∧ i = .int .i64 k ∧ (bl = true ↔ riseTo l k) ∧ (be = true ↔ alikeTo l k) ∧ ∃ n, w' = w.drewN n) (fun _ _ _ _ _ _ i _ => l.length - (intOf i).toNat)
  case atStart => exact ⟨0, true, true, by omega, rfl, rfl, rfl, rfl, rfl, rfl, rfl, by simp [rise_zero], by simp [alike_zero], 0, rfl⟩
  case round =>
    obtain ⟨k, bl, be, hk, rfl, rfl, rfl, rfl, rfl, rfl, rfl, hbl, hbe, n, rfl⟩ := hrel
    have HBL := hide hbl
    have HBE := hide hbe
    clear hbl hbe
    by_cases hlt : k < l.length
    · have hcell := hc k hlt
      cases bl
      · cases be
        · go_wp2
          go_quiet (fail)
          go_wp2
          go_quiet (fail)
          go_wp2
          go_quiet (fail)
          go_wp2
          go_roundw
          case rel => exact ⟨k + 1, _, _, by omega, by rw [sumTo_succ l k hlt], by rw [mulTo_succ l k hlt], by rw [andTo_succ l k hlt], by rw [orTo_succ l k hlt], rfl, rfl, by go_num, rise_false (unhide HBL), alike_false (unhide HBE), _, rfl⟩
          case measure => simp [intOf]; omega
        · have HA := hide ((unhide HBE).1 rfl)
          clear HBE
          go_wp2
          go_quiet (fail)
          go_wp2
          go_quiet (fail)
          go_wp2
          go_quiet (fail)
          go_wp2
          go_roundw
          case rel => exact ⟨k + 1, _, _, by omega, by rw [sumTo_succ l k hlt], by rw [mulTo_succ l k hlt], by rw [andTo_succ l k hlt], by rw [orTo_succ l k hlt], rfl, rfl, by go_num, rise_false (unhide HBL), alike_true (unhide HA) hlt hpos, _, rfl⟩
          case measure => simp [intOf]; omega
      · have HR := hide ((unhide HBL).1 rfl)
        clear HBL
        by_cases h0 : 0 < k
        · have hk0 : ((k : Int) == 0) = false := beq_eq_false_iff_ne.2 (by omega)
          have hcell1 := hc (k - 1) (by omega)
          cases be
          · go_wp2
            go_quiet (fail)
            go_wp2
            go_quiet (fail)
            go_wp2
            go_quiet (fail)
            go_wp2
            go_roundw
            case rel => exact ⟨k + 1, _, _, by omega, by rw [sumTo_succ l k hlt], by rw [mulTo_succ l k hlt], by rw [andTo_succ l k hlt], by rw [orTo_succ l k hlt], rfl, rfl, by go_num, rise_true (unhide HR) h0 hlt, alike_false (unhide HBE), _, rfl⟩
            case measure => simp [intOf]; omega
          · have HA := hide ((unhide HBE).1 rfl)
            clear HBE
            go_wp2
            go_quiet (fail)
            go_wp2
            go_quiet (fail)
            go_wp2
            go_quiet (fail)
            go_wp2
            go_roundw
            case rel => exact ⟨k + 1, _, _, by omega, by rw [sumTo_succ l k hlt], by rw [mulTo_succ l k hlt], by rw [andTo_succ l k hlt], by rw [orTo_succ l k hlt], rfl, rfl, by go_num, rise_true (unhide HR) h0 hlt, alike_true (unhide HA) hlt hpos, _, rfl⟩
            case measure => simp [intOf]; omega
        · obtain rfl : k = 0 := by omega
          clear hcell
          cases be
          · go_wp2
            go_quiet (fail)
            go_wp2
            go_quiet (fail)
            go_wp2
            go_quiet (fail)
            go_wp2
            go_roundw
            case rel => exact ⟨0 + 1, _, _, by omega, by rw [sumTo_succ l 0 hlt], by rw [mulTo_succ l 0 hlt], by rw [andTo_succ l 0 hlt], by rw [orTo_succ l 0 hlt], rfl, rfl, by go_num, rise_at_one l, alike_false (unhide HBE), _, rfl⟩
            case measure => simp [intOf]; omega
          · have HA := hide ((unhide HBE).1 rfl)
            clear HBE
            go_wp2
            go_quiet (fail)
            go_wp2
            go_quiet (fail)
            go_wp2
            go_quiet (fail)
            go_wp2
            go_roundw
            case rel => exact ⟨0 + 1, _, _, by omega, by rw [sumTo_succ l 0 hlt], by rw [mulTo_succ l 0 hlt], by rw [andTo_succ l 0 hlt], by rw [orTo_succ l 0 hlt], rfl, rfl, by go_num, rise_at_one l, alike_at_one l, _, rfl⟩
            case measure => simp [intOf]; omega
    · have e1 := rise_end (unhide HBL) hlt hk
      have e2 := alike_end (unhide HBE) hlt hk
      subst e1 e2
      clear HBL HBE
      rcases unhide HC with rfl | rfl | rfl | rfl | rfl | rfl | rfl | rfl | rfl
      · go_wp2
        go_ret2
        exact ⟨ret_two (by rw [sumTo_all l k hlt]; simp [evalL]) (by simp [evalL]), n, rfl⟩
      · go_wp2
        go_quiet (fail)
        go_wp2
        go_ret2
        exact ⟨ret_two (by rw [sumTo_all l k hlt, diff_ref l hpos]; simp [evalL]) (by simp [evalL]), n + nq, by simp⟩
      · go_wp2
        go_ret2
        exact ⟨ret_two (by rw [mulTo_all l k hlt]; simp [evalL]) (by simp [evalL]), n, rfl⟩
      · go_wp2_with (go_at_call 38; refine (bit_any _ _).mono ?_; rintro e w2 ⟨rfl, hw2⟩; subst w2)
        all_goals (go_ret2; exact ⟨ret_two (by simp [evalL, b01, *]) (by simp [evalL]), n, rfl⟩)
      · go_wp2_with (go_at_call 38; refine (bit_any _ _).mono ?_; rintro e w2 ⟨rfl, hw2⟩; subst w2)
        all_goals (go_ret2; exact ⟨ret_two (by simp [evalL, b01, *]) (by simp [evalL]), n, rfl⟩)
      · go_wp2
        go_ret2
        exact ⟨ret_two (by rw [andTo_all l k hlt]; simp [evalL]) (by simp [evalL]), n, rfl⟩
      · go_wp2
        go_ret2
        exact ⟨ret_two (by rw [orTo_all l k hlt]; simp [evalL]) (by simp [evalL]), n, rfl⟩
      · omega
      · omega
end Go.Proofs.Ytdhfpfkcbcgnaaa.Calc
