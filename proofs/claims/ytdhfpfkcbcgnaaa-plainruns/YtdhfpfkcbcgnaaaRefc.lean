/- The reference's Eval over a list that is not empty: the greatest and the least. -/
import Derived.Test.YtdhfpfkcbcgnaaaRefb
namespace Go.Proofs.Ytdhfpfkcbcgnaaa.Calc
open Go.RowKit

theorem maxTo_zero (l : List Int) (h : 0 < l.length) : maxTo l 0 = l[0] := by simp [maxTo, h]
theorem minTo_zero (l : List Int) (h : 0 < l.length) : minTo l 0 = l[0] := by simp [minTo, h]

set_option maxRecDepth 100000 in
set_option maxHeartbeats 2000000 in
theorem ref_high (kind : Int) (b off len cap : Nat) (l : List Int) (w : World) (hl : l.length = len) (hc : ∀ i, i < l.length → w.cell? ⟨b, off + i, none⟩ = some (.int .i64 (l.getD i 0))) (hm : len ≤ maxLen) (hpos : 0 < len) (hk : knownB kind = true) (d7 : 7 ≤ kind) :
    Calls Try.prog 24 #[.int .i64 kind, .slice (some ⟨b, off, none⟩) len cap] w fun e w' => e = .returned (.tuple #[.int .i64 (evalL kind l).1, .int .i64 (evalL kind l).2]) ∧ ∃ n, w' = w.drewN n := by
  unfold maxLen at hm
  subst hl
  have HK := hide hk
  have HC := hide (kind_cases kind hk)
  clear hk
  have hz := head_at hc hpos
  have hposI : (0 : Int) < (l.length : Int) := by omega
  have hne : ((l.length : Int) == 0) = false := beq_eq_false_iff_ne.2 (by omega)
  have d7' : decide (7 ≤ kind) = true := decide_eq_true (by omega)
  go_enter Try.func24, Try.ntmps24
  go_wp2_with fail
  refine (refknown_any kind _).mono ?_
  rw [unhide HK]
  rintro e w1 ⟨rfl, hw1⟩
  subst w1
  go_wp2
  go_loopw [6, 7, 8, 9, 10, 11, 12] (fun s p a o x y i w' => ∃ (k : Nat) (bl be : Bool), k ≤ l.length ∧ s = .int .i64 (sumTo l k) ∧ p = .int .i64 (mulTo l k) ∧ a = .int .i64 (andTo l k) ∧ o = .int .i64 (orTo l k) ∧ x = .bool bl ∧ y = .bool be ∧ i = .int .i64 k ∧ (bl = true ↔ riseTo l k) ∧ (be = true ↔ alikeTo l k) ∧ ∃ n, w' = w.drewN n) (fun _ _ _ _ _ _ i _ => l.length - (intOf i).toNat)
  case atStart => exact ⟨0, true, true, by omega, rfl, rfl, rfl, rfl, rfl, rfl, rfl, by simp [rise_zero], by simp [alike_zero], 0, rfl⟩
  case round =>
    obtain ⟨k, bl, be, hk, rfl, rfl, rfl, rfl, rfl, rfl, rfl, hbl, hbe, n, rfl⟩ := hrel
    have HBL := hide hbl
    have HBE := hide hbe
    clear hbl hbe
    by_cases hlt : k < l.length
    · have hcell := hc k hlt
      cases bl
      · cases be
        · go_wp2
          go_quiet (fail)
          go_wp2
          go_quiet (fail)
          go_wp2
          go_quiet (fail)
          go_wp2
          go_roundw
          case rel => exact ⟨k + 1, _, _, by omega, by rw [sumTo_succ l k hlt], by rw [mulTo_succ l k hlt], by rw [andTo_succ l k hlt], by rw [orTo_succ l k hlt], rfl, rfl, by go_num, rise_false (unhide HBL), alike_false (unhide HBE), _, rfl⟩
          case measure => simp [intOf]; omega
        · have HA := hide ((unhide HBE).1 rfl)
          clear HBE
          go_wp2
          go_quiet (fail)
          go_wp2
          go_quiet (fail)
          go_wp2
          go_quiet (fail)
          go_wp2
          go_roundw
          case rel => exact ⟨k + 1, _, _, by omega, by rw [sumTo_succ l k hlt], by rw [mulTo_succ l k hlt], by rw [andTo_succ l k hlt], by rw [orTo_succ l k hlt], rfl, rfl, by go_num, rise_false (unhide HBL), alike_true (unhide HA) hlt hpos, _, rfl⟩
          case measure => simp [intOf]; omega
      · have HR := hide ((unhide HBL).1 rfl)
        clear HBL
        by_cases h0 : 0 < k
        · have hk0 : ((k : Int) == 0) = false := beq_eq_false_iff_ne.2 (by omega)
          have hcell1 := hc (k - 1) (by omega)
          cases be
          · go_wp2
            go_quiet (fail)
            go_wp2
            go_quiet (fail)
            go_wp2
            go_quiet (fail)
            go_wp2
            go_roundw
            case rel => exact ⟨k + 1, _, _, by omega, by rw [sumTo_succ l k hlt], by rw [mulTo_succ l k hlt], by rw [andTo_succ l k hlt], by rw [orTo_succ l k hlt], rfl, rfl, by go_num, rise_true (unhide HR) h0 hlt, alike_false (unhide HBE), _, rfl⟩
            case measure => simp [intOf]; omega
          · have HA := hide ((unhide HBE).1 rfl)
            clear HBE
            go_wp2
            go_quiet (fail)
            go_wp2
            go_quiet (fail)
            go_wp2
            go_quiet (fail)
            go_wp2
            go_roundw
            case rel => exact ⟨k + 1, _, _, by omega, by rw [sumTo_succ l k hlt], by rw [mulTo_succ l k hlt], by rw [andTo_succ l k hlt], by rw [orTo_succ l k hlt], rfl, rfl, by go_num, rise_true (unhide HR) h0 hlt, alike_true (unhide HA) hlt hpos, _, rfl⟩
            case measure => simp [intOf]; omega
        · obtain rfl : k = 0 := by omega
          clear hcell
          cases be
          · go_wp2
            go_quiet (fail)
            go_wp2
            go_quiet (fail)
            go_wp2
            go_quiet (fail)
            go_wp2
            go_roundw
            case rel => exact ⟨0 + 1, _, _, by omega, by rw [sumTo_succ l 0 hlt], by rw [mulTo_succ l 0 hlt], by rw [andTo_succ l 0 hlt], by rw [orTo_succ l 0 hlt], rfl, rfl, by go_num, rise_at_one l, alike_false (unhide HBE), _, rfl⟩
            case measure => simp [intOf]; omega
          · have HA := hide ((unhide HBE).1 rfl)
            clear HBE
            go_wp2
            go_quiet (fail)
            go_wp2
            go_quiet (fail)
            go_wp2
            go_quiet (fail)
            go_wp2
            go_roundw
            case rel => exact ⟨0 + 1, _, _, by omega, by rw [sumTo_succ l 0 hlt], by rw [mulTo_succ l 0 hlt], by rw [andTo_succ l 0 hlt], by rw [orTo_succ l 0 hlt], rfl, rfl, by go_num, rise_at_one l, alike_at_one l, _, rfl⟩
            case measure => simp [intOf]; omega
    · have hlst : l ≠ [] := by rintro rfl; simp at hpos
      have HN := hide hlst
      clear hlst HBL HBE
      have e0 : (kind == 0) = false := beq_eq_false_iff_ne.2 (by omega)
      have e1 : (kind == 1) = false := beq_eq_false_iff_ne.2 (by omega)
      have e2 : (kind == 2) = false := beq_eq_false_iff_ne.2 (by omega)
      have e3 : (kind == 3) = false := beq_eq_false_iff_ne.2 (by omega)
      have e4 : (kind == 4) = false := beq_eq_false_iff_ne.2 (by omega)
      have e5 : (kind == 5) = false := beq_eq_false_iff_ne.2 (by omega)
      have e6 : (kind == 6) = false := beq_eq_false_iff_ne.2 (by omega)
      go_wp2
      go_quiet (fail)
      go_wp2
      go_loopw [13, 14, 15] (fun x y i w' => ∃ j : Nat, j ≤ l.length ∧ x = .int .i64 (maxTo l j) ∧ y = .int .i64 (minTo l j) ∧ i = .int .i64 j ∧ ∃ n, w' = w.drewN n) (fun _ _ i _ => l.length - (intOf i).toNat)
      case atStart => exact ⟨0, by omega, by rw [maxTo_zero l hpos], by rw [minTo_zero l hpos], rfl, n + nq, by simp⟩
      case round =>
        obtain ⟨j, hj, rfl, rfl, rfl, n2, rfl⟩ := hrel
        by_cases hjl : j < l.length
        · have hcell := hc j hjl
          go_wp2
          go_quiet (fail)
          go_wp2
          go_roundw
          case rel => exact ⟨j + 1, by omega, by rw [maxTo_succ l j hjl]; rfl, by rw [minTo_succ l j hjl]; rfl, by go_num, _, rfl⟩
          case measure => simp [intOf]; omega
        · rcases (show kind = 7 ∨ kind = 8 by have := unhide HC; omega) with rfl | rfl
          · go_wp2
            go_ret2
            exact ⟨ret_two (by rw [maxTo_all l j hjl]; simp [evalL, unhide HN]) (by simp [evalL, unhide HN]), _, rfl⟩
          · go_wp2
            go_ret2
            exact ⟨ret_two (by rw [minTo_all l j hjl]; simp [evalL, unhide HN]) (by simp [evalL, unhide HN]), _, rfl⟩

/-- The reference's Eval, whatever the kind and the list. -/
theorem ref_any (kind : Int) (a : Option Addr) (len cap : Nat) (l : List Int) (w : World) (hs : Seg w a len l) (hm : len ≤ maxLen) :
    Calls Try.prog 24 #[.int .i64 kind, .slice a len cap] w fun e w' => e = .returned (.tuple #[.int .i64 (evalL kind l).1, .int .i64 (evalL kind l).2]) ∧ ∃ n, w' = w.drewN n := by
  by_cases hbad : knownB kind = false ∨ 7 ≤ kind ∧ len = 0
  · exact ref_bad kind a len cap l w hs hbad
  · have hk : knownB kind = true := by
      cases h : knownB kind
      · exact absurd (.inl h) hbad
      · rfl
    by_cases h0 : len = 0
    · subst h0
      obtain rfl : l = [] := List.eq_nil_of_length_eq_zero hs.1
      exact ref_none kind a cap w hk (by omega)
    · rcases hs.2 with h | ⟨b, off, rfl, hc⟩
      · exact absurd h h0
      · have hl := hs.1
        subst hl
        by_cases h7 : 7 ≤ kind
        · exact ref_high kind b off _ cap l w rfl hc hm (by omega) hk h7
        · exact ref_low kind b off _ cap l w rfl hc hm (by omega) hk (by omega)
end Go.Proofs.Ytdhfpfkcbcgnaaa.Calc
