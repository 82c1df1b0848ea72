/- The walk of CellAdds: it answers true. -/
import Derived.Test.YtmaofephcfnlhaaRow
namespace Go.Proofs.Ytmaofephcfnlhaa
open Go.RowKit

theorem addD_at (n k : Nat) (x v : Int) (h : k < n) : addD n (setW (fun _ => 0) (k : Int) x) k v = wrap64 (x + v) := by
  simp [addD, hasB_yes (show (0 : Int) ≤ k by omega) (show (k : Int) < n by omega), setW_same]
theorem addW_at (f : Nat → Int) (k : Nat) (x v : Int) : addW (setW f (k : Int) x) k v = setW f k (wrap64 (x + v)) := by
  unfold addW; rw [setW_twice, setW_at]
theorem wordD_at (n k : Nat) (f : Nat → Int) (h : k < n) : wordD n f k = f k := by
  simp [wordD, hasB_yes (show (0 : Int) ≤ k by omega) (show (k : Int) < n by omega)]
theorem err_in (n k : Nat) (h : k < n) : errOf (hasB n k) = 0 := by
  simp [errOf, hasB_yes (show (0 : Int) ≤ k by omega) (show (k : Int) < n by omega)]

set_option maxRecDepth 100000 in
theorem adds_out (a : Option Addr) (len cap : Nat) (at_ : Int) (w : World) (hm : len ≤ maxLen) (hbad : ¬ (len ≤ 200 ∧ 0 ≤ at_ ∧ at_ ≤ 3)) :
    Calls Try.prog 6 #[.slice a len cap, .int .i64 at_] w fun e w' => e = .returned (.bool true) ∧ Below w.heap.size w w' := by
  unfold maxLen at hm
  have key : ((200 : Int) < (len : Int)) ∨ (decide ((200 : Int) < (len : Int)) = false ∧ at_ < 0) ∨ (decide ((200 : Int) < (len : Int)) = false ∧ decide (at_ < 0) = false ∧ 3 < at_) := by
    by_cases h1 : (200 : Int) < (len : Int)
    · exact .inl h1
    · by_cases h2 : at_ < 0
      · exact .inr (.inl ⟨decide_eq_false h1, h2⟩)
      · exact .inr (.inr ⟨decide_eq_false h1, decide_eq_false h2, by omega⟩)
  clear hbad
  rcases key with c1 | ⟨d1, c1⟩ | ⟨d1, d2, c1⟩
  all_goals
    go_enter Try.func6, Try.ntmps6
    go_wp2_with fail
    refine (first_any _).mono ?_
    rintro e w1 ⟨rfl, hb1⟩
    go_wp2_with fail
    refine (new_any 4 w1 (by decide)).mono ?_
    rintro e w2 ⟨b, r, rfl, hb, hr, hc, hbel⟩
    go_wp2_with fail
    refine (first_any _).mono ?_
    rintro e w3 ⟨rfl, hb3⟩
    go_wp2
    go_ret
    exact ⟨rfl, bthen (bthen hb1 hbel (Nat.le_refl _)) hb3 (Nat.le_refl _)⟩

set_option maxRecDepth 100000 in
set_option maxHeartbeats 2000000 in
theorem adds_in (a : Option Addr) (len cap t : Nat) (l : List Int) (w : World) (hs : SegK .i64 w a len l) (h1 : len ≤ 200) (ht : t < 4) :
    Calls Try.prog 6 #[.slice a len cap, .int .i64 (t : Int)] w fun e w' => e = .returned (.bool true) ∧ Below w.heap.size w w' := by
  have d1 : decide ((200 : Int) < (len : Int)) = false := decide_eq_false (by omega)
  have d2 : decide ((t : Int) < 0) = false := decide_eq_false (by omega)
  have d3 : decide ((3 : Int) < (t : Int)) = false := decide_eq_false (by omega)
  have hsb := hide hs.low
  have hlen := hide hs.1
  have E0 := hide (err_in 4 t ht)
  clear hs
  go_enter Try.func6, Try.ntmps6
  go_wp2_with fail
  refine (first_any _).mono ?_
  rintro e w1 ⟨rfl, hb1⟩
  go_wp2_with fail
  refine (new_any 4 w1 (by decide)).mono ?_
  rintro e w2 ⟨b, r, rfl, hb, hr, hc, hbel2⟩
  have hB := hide (bthen hb1 hbel2 (Nat.le_refl _))
  have hb' : w.heap.size ≤ b := Nat.le_trans hb1.size hb
  have hr' : w.heap.size ≤ r := Nat.le_trans hb1.size hr
  clear hb1 hbel2 hb hr
  go_wp2_with fail
  go_loopw [7, 8] (fun s i wr => ∃ k : Nat, k ≤ len ∧ i = .int .i64 k ∧ s = .int .i64 (sumTo l k) ∧ Cel 56 wr b r 4 (setW (fun _ => 0) (t : Int) (sumTo l k)) k ∧ Below w.heap.size w wr) (fun _ i _ => len - (intOf i).toNat)
  case atStart =>
    exact ⟨0, Nat.zero_le _, rfl, rfl, by rw [sumTo_zero, setW_id (fun _ => 0) t]; exact hc, unhide hB⟩
  case round =>
    obtain ⟨k, hk, rfl, rfl, hcr, hbr⟩ := hrel
    by_cases hlt : k < len
    · obtain ⟨b0, off, rfl, _, hcell⟩ := ((unhide hsb).later hbr).at hlt
      have hsum := hide (sumTo_succ l k (by rw [unhide hlen]; exact hlt))
      obtain ⟨x, hx⟩ : ∃ x, x = l.getD k 0 := ⟨_, rfl⟩
      rw [← hx] at hcell hsum
      clear hx
      obtain ⟨s, hs⟩ : ∃ s, s = sumTo l k := ⟨_, rfl⟩
      rw [← hs] at hcr hsum
      rw [← hs]
      have hs' := hide hs
      clear hs
      have hbr' := hide hbr
      clear hbr
      go_wp2_with fail
      refine (add_any b r 4 _ _ t x wr hcr).mono ?_
      rw [unhide E0, addD_at 4 t s x ht, addW_at]
      rintro e w3 ⟨rfl, hc3, ht3⟩
      have e3 : wrap64 ((k : Int) + 1) = (k : Int) + 1 := wrap_small (by omega) (by omega)
      rw [e3] at hc3
      clear e3
      have hbel3 := hide ((unhide hbr').trans (ht3.below hb' hr'))
      clear ht3
      go_wp2_with fail
      refine (peek_any b r 4 _ _ t w3 hc3).mono ?_
      rw [wordD_at 4 t _ ht, setW_same]
      rintro e w4 ⟨rfl, rfl⟩
      go_wp2_with fail
      refine (count_any b r 4 _ _ w4 hc3).mono ?_
      rintro e w5 ⟨rfl, rfl⟩
      go_wp2
      go_roundw
      case rel => exact ⟨k + 1, by omega, by go_num, by rw [unhide hsum], by rw [unhide hsum]; exact hc3, unhide hbel3⟩
      case measure => simp [intOf]; omega
    · obtain rfl : k = len := by omega
      have hbr' := hide hbr
      clear hbr
      have e4 : errOf (hasB 4 4) = 1 := by decide
      have e5 : errOf (hasB 4 (-1)) = 1 := by decide
      have e6 : wrap64 (wrap64 ((k : Int) + 1) + 1) = (k : Int) + 2 := by unfold wrap64; omega
      have e7 : addD 4 (setW (fun _ => 0) (t : Int) (sumTo l k)) 4 1 = 0 := by simp [addD, hasB]
      have e8 : wordD 4 (setW (fun _ => 0) (t : Int) (sumTo l k)) 9 = 0 := by simp [wordD, hasB]
      have e9 : wordD 4 (setW (fun _ => 0) (t : Int) (sumTo l k)) (-1) = 0 := by simp [wordD, hasB]
      have E4 := hide e4
      have E5 := hide e5
      have E6 := hide e6
      have E7 := hide e7
      have E8 := hide e8
      have E9 := hide e9
      clear e4 e5 e6 e7 e8 e9
      go_wp2_with fail
      refine (add_any b r 4 _ _ 4 1 wr hcr).mono ?_
      rw [unhide E4, unhide E7]
      rintro e w3 ⟨rfl, hc3, ht3⟩
      replace hc3 := hc3.congr (g := setW (fun _ => 0) (t : Int) (sumTo l k)) (fun i hi => (setW_out (by decide) i hi).symm)
      go_wp2_with fail
      refine (load_any b r 4 _ _ (-1) w3 hc3).mono ?_
      rw [unhide E5, unhide E9]
      rintro e w4 ⟨rfl, hc4, ht4⟩
      rw [unhide E6] at hc4
      have hbel4 := hide ((unhide hbr').trans ((ht3.trans ht4).below hb' hr'))
      clear ht3 ht4 hc3 hcr hc
      go_wp2_with fail
      go_loop [15] (fun q => ∃ j : Nat, j ≤ 4 ∧ q = .int .i64 j) (fun q => 4 - (intOf q).toNat)
      case atStart => exact ⟨0, Nat.zero_le _, rfl⟩
      case round =>
        obtain ⟨j, hj, rfl⟩ := hrel
        by_cases hj4 : j < 4
        · by_cases hjt : j = t
          · have q1 : ((j : Int) != (t : Int)) = false := by simp [hjt]
            clear hjt
            go_wp2
            go_round
            case rel => exact ⟨j + 1, by omega, by go_num⟩
            case measure => simp [intOf]; omega
          · have q1 : ((j : Int) != (t : Int)) = true := by simp; omega
            have q2 := hide ((wordD_at 4 j (setW (fun _ => 0) (t : Int) (sumTo l k)) hj4).trans (setW_other _ t j _ hjt))
            clear hjt
            go_wp2_with fail
            refine (peek_any b r 4 _ _ j w4 hc4).mono ?_
            rw [unhide q2]
            rintro e w5 ⟨rfl, rfl⟩
            go_wp2
            go_round
            case rel => exact ⟨j + 1, by omega, by go_num⟩
            case measure => simp [intOf]; omega
        · obtain rfl : j = 4 := by omega
          go_wp2_with fail
          refine (first_any _).mono ?_
          rintro e w5 ⟨rfl, hb5⟩
          have hc5 := hc4.later hb5 hc4.lt hc4.rlt
          go_wp2_with fail
          refine (count_any b r 4 _ _ w5 hc5).mono ?_
          rintro e w6 ⟨rfl, rfl⟩
          go_wp2_with fail
          refine (peek_any b r 4 _ _ 9 w6 hc5).mono ?_
          rw [unhide E8]
          rintro e w7 ⟨rfl, rfl⟩
          go_wp2
          go_ret
          exact ⟨rfl, bthen (unhide hbel4) hb5 (Nat.le_refl _)⟩

theorem cellAdds_walk (a0 : Option Addr) (len0 cap0 : Nat) (l : List Int) (a1 : Int) (w : World) (hs : SegK .i64 w a0 len0 l) (hlc : len0 ≤ cap0) (hcm : cap0 ≤ maxLen) (_ : ∀ n ∈ l, (Lit.int .i64 n).wf = true) (_ : (Lit.int .i64 a1).wf = true) :
    Calls Try.prog 6 #[.slice a0 len0 cap0, .int .i64 a1] w fun e w' => e = .returned (.bool true) ∧ Below w.heap.size w w' := by
  by_cases h : len0 ≤ 200 ∧ 0 ≤ a1 ∧ a1 ≤ 3
  · obtain ⟨t, rfl⟩ := Int.eq_ofNat_of_zero_le h.2.1
    exact adds_in a0 len0 cap0 t l w hs h.1 (by omega)
  · exact adds_out a0 len0 cap0 a1 w (by omega) h
end Go.Proofs.Ytmaofephcfnlhaa
