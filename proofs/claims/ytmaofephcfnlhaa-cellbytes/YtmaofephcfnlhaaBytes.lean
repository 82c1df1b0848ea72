/- The walk of CellBytes: it answers true. -/
import Derived.Test.YtmaofephcfnlhaaRow
import Derived.Test.YtmaofephcfnlhaaMathb
namespace Go.Proofs.Ytmaofephcfnlhaa
open Go.RowKit

/-- Three words, of which the middle one is x. -/
def mid (x : Int) : Nat → Int := fun j => if j = 1 then x else 0
theorem three_cases {P : Nat → Prop} (h0 : P 0) (h1 : P 1) (h2 : P 2) : ∀ i, i < 3 → P i := fun i hi => by
  match i, hi with
  | 0, _ => exact h0
  | 1, _ => exact h1
  | 2, _ => exact h2
theorem mid_store (x : Int) : ∀ i, i < 3 → setW (fun _ => 0) 1 x i = mid x i := three_cases rfl rfl rfl
theorem sbOk_in (n i j v : Nat) (hi : i < n) (hj : j < 8) (hv : v < 256) : sbOk n i j v = true := by
  simp [sbOk, hasB, byteB]; omega
theorem mid_put (x : Int) (j v : Nat) (hj : j < 8) (hv : v < 256) : ∀ i, i < 3 → sbW 3 (mid x) 1 j v i = mid (putByte x j v) i := by
  have h : sbOk 3 1 j v = true := sbOk_in 3 1 j v (by decide) hj hv
  apply three_cases <;> simp [sbW, h, setW, mid]
theorem mid_byte (x : Int) (j : Nat) (hj : j < 8) : lbD 3 (mid x) 1 j = byteOf x j := by
  have h : lbOk 3 1 j = true := by simp [lbOk, hasB, byteB]; omega
  simp [lbD, h, mid]
theorem mid_err (j : Nat) (hj : j < 8) : errOf (lbOk 3 1 j) = 0 := by
  have h : lbOk 3 1 j = true := by simp [lbOk, hasB, byteB]; omega
  simp [errOf, h]

set_option maxRecDepth 100000 in
theorem bytes_out (x k b : Int) (w : World) (hbad : ¬ ((0 ≤ k ∧ k ≤ 7) ∧ (0 ≤ b ∧ b ≤ 255))) :
    Calls Try.prog 4 #[.int .i64 x, .int .i64 k, .int .i64 b] w fun e w' => e = .returned (.bool true) ∧ Below w.heap.size w w' := by
  have key : (k < 0) ∨ (decide (k < 0) = false ∧ 7 < k) ∨ (decide (k < 0) = false ∧ decide (7 < k) = false ∧ b < 0) ∨ (decide (k < 0) = false ∧ decide (7 < k) = false ∧ decide (b < 0) = false ∧ 255 < b) := by
    by_cases h1 : k < 0
    · exact .inl h1
    · by_cases h2 : 7 < k
      · exact .inr (.inl ⟨decide_eq_false h1, h2⟩)
      · by_cases h3 : b < 0
        · exact .inr (.inr (.inl ⟨decide_eq_false h1, decide_eq_false h2, h3⟩))
        · exact .inr (.inr (.inr ⟨decide_eq_false h1, decide_eq_false h2, decide_eq_false h3, by omega⟩))
  clear hbad
  rcases key with c1 | ⟨d1, c1⟩ | ⟨d1, d2, c1⟩ | ⟨d1, d2, d3, c1⟩
  all_goals
    go_enter Try.func4, Try.ntmps4
    go_wp2_with fail
    refine (first_any _).mono ?_
    rintro e w1 ⟨rfl, hb1⟩
    go_wp2_with fail
    refine (new_any 3 w1 (by decide)).mono ?_
    rintro e w2 ⟨b, r, rfl, hb, hr, hc, hbel⟩
    go_wp2_with fail
    refine (first_any _).mono ?_
    rintro e w3 ⟨rfl, hb3⟩
    go_wp2
    go_ret
    exact ⟨rfl, bthen (bthen hb1 hbel (Nat.le_refl _)) hb3 (Nat.le_refl _)⟩

theorem bytes_next {b r : Nat} {X y : Int} {j : Nat} {w : World} (hj : j < 8) (hy : byteOf X j = y) (hc : Cel 56 w b r 3 (mid X) (10 - j)) :
    (∃ i : Nat, i < 8 ∧ Value.int .i64 ((j : Int) - 1) = .int .i64 i ∧ Value.int .u64 (bits .or .u64 (IntKind.u64.wrap (top X (j + 1) * 256)) y) = .int .u64 (top X (i + 1)) ∧ Cel 56 w b r 3 (mid X) (9 - i)) ∨
    (Value.int .i64 ((j : Int) - 1) = .int .i64 (-1) ∧ Value.int .u64 (bits .or .u64 (IntKind.u64.wrap (top X (j + 1) * 256)) y) = .int .u64 (top X 0) ∧ Cel 56 w b r 3 (mid X) 10) := by
  rw [top_step X y j hj hy]
  match j, hj with
  | 0, _ => exact .inr ⟨rfl, rfl, hc⟩
  | i + 1, h => exact .inl ⟨i, by omega, by congr 1; omega, rfl, by rwa [show (9 : Int) - i = 10 - ((i + 1 : Nat) : Int) by omega]⟩

set_option maxRecDepth 100000 in
set_option maxHeartbeats 2000000 in
theorem bytes_in (x : Int) (k v : Nat) (w : World) (hk : k < 8) (hv : v < 256) :
    Calls Try.prog 4 #[.int .i64 x, .int .i64 (k : Int), .int .i64 (v : Int)] w fun e w' => e = .returned (.bool true) ∧ Below w.heap.size w w' := by
  have d1 : decide ((k : Int) < 0) = false := decide_eq_false (by omega)
  have d2 : decide ((7 : Int) < (k : Int)) = false := decide_eq_false (by omega)
  have d3 : decide ((v : Int) < 0) = false := decide_eq_false (by omega)
  have d4 : decide ((255 : Int) < (v : Int)) = false := decide_eq_false (by omega)
  obtain ⟨X, hX⟩ : ∃ X, X = putByte x k v := ⟨_, rfl⟩
  have hX' := hide hX
  clear hX
  have E0 := hide (show errOf (hasB 3 1) = 0 from rfl)
  have E1 := hide (show errOf (sbOk 3 1 k v) = 0 by have h : sbOk 3 1 k v = true := sbOk_in 3 1 k v (by decide) hk hv
                                                    simp [errOf, h])
  have E2 := hide (show wrap64 (wrap64 (0 + 1) + 1) = 2 by simp [wrap64])
  go_enter Try.func4, Try.ntmps4
  go_wp2_with fail
  refine (first_any _).mono ?_
  rintro e w1 ⟨rfl, hb1⟩
  go_wp2_with fail
  refine (new_any 3 w1 (by decide)).mono ?_
  rintro e w2 ⟨b, r, rfl, hb, hr, hc, hbel2⟩
  have hb' : w.heap.size ≤ b := Nat.le_trans hb1.size hb
  have hr' : w.heap.size ≤ r := Nat.le_trans hb1.size hr
  have hB2 := hide (bthen hb1 hbel2 (Nat.le_refl _))
  clear hb1 hbel2 hb hr
  go_wp2_with fail
  refine (store_any b r 3 _ _ 1 x w2 hc).mono ?_
  rw [unhide E0]
  rintro e w3 ⟨rfl, hc3, ht3⟩
  replace hc3 := hc3.congr (mid_store x)
  go_wp2_with fail
  refine (storeByte_any b r 3 _ _ 1 k v w3 hc3).mono ?_
  rw [unhide E1, unhide E2]
  rintro e w4 ⟨rfl, hc4, ht4⟩
  replace hc4 := hc4.congr (mid_put x k v hk hv)
  rw [← unhide hX'] at hc4
  have hB := hide ((unhide hB2).trans ((ht3.trans ht4).below hb' hr'))
  clear hc hB2 ht3 ht4 hc3
  go_wp2_with fail
  go_loopw [9, 10] (fun t i wr => ((∃ j : Nat, j < 8 ∧ i = .int .i64 j ∧ t = .int .u64 (top X (j + 1)) ∧ Cel 56 wr b r 3 (mid X) (9 - j)) ∨ (i = .int .i64 (-1) ∧ t = .int .u64 (top X 0) ∧ Cel 56 wr b r 3 (mid X) 10)) ∧ Below w.heap.size w wr) (fun _ i _ => (intOf i + 1).toNat)
  case atStart =>
    exact ⟨.inl ⟨7, by decide, rfl, by simp [top]; omega, hc4⟩, unhide hB⟩
  case round =>
    obtain ⟨⟨j, hj, rfl, rfl, hcr⟩ | ⟨rfl, rfl, hcr⟩, hbr⟩ := hrel
    · have hbr' := hide hbr
      clear hbr
      have e1 : wrap64 ((9 : Int) - j + 1) = 10 - j := by unfold wrap64; omega
      have E3 := hide e1
      clear e1
      have e4 := byte_u64 x j hj
      by_cases hjk : j = k
      · have q1 : ((j : Int) == (k : Int)) = true := by simp [hjk]
        have hget := hide (show byteOf X j = v by rw [unhide hX', hjk]; exact get_put_same x k v hk (by omega) (by omega))
        have hjk' := hide hjk
        clear hjk
        go_wp2_with fail
        refine (loadByte_any b r 3 _ _ 1 j wr hcr).mono ?_
        rw [mid_byte X j hj, mid_err j hj, unhide hget, unhide E3]
        rintro e w5 ⟨rfl, hc5, ht5⟩
        have hbel5 := hide ((unhide hbr').trans (ht5.below hb' hr'))
        clear ht5 hcr hc4
        go_wp2
        go_roundw
        case rel => exact ⟨bytes_next hj (unhide hget) hc5, unhide hbel5⟩
        case measure => simp [intOf]
      · have q1 : ((j : Int) == (k : Int)) = false := by simp; omega
        have hget := hide (show byteOf X j = byteOf x j by rw [unhide hX']; exact get_put_other x k j v hk hj hjk (by omega) (by omega))
        have hjk' := hide hjk
        clear hjk
        go_wp2_with fail
        refine (loadByte_any b r 3 _ _ 1 j wr hcr).mono ?_
        rw [mid_byte X j hj, mid_err j hj, unhide hget, unhide E3]
        rintro e w5 ⟨rfl, hc5, ht5⟩
        have hbel5 := hide ((unhide hbr').trans (ht5.below hb' hr'))
        clear ht5 hcr hc4
        go_wp2
        go_roundw
        case rel => exact ⟨by rw [uwrap_byte]; exact bytes_next hj (unhide hget) hc5, unhide hbel5⟩
        case measure => simp [intOf]
    · have hbr' := hide hbr
      clear hbr
      have e6 : top X 0 = IntKind.u64.wrap X := by rw [top_zero, IntKind.wrap_u64]
      have E6 := hide e6
      clear e6
      have E7 := hide (show wordD 3 (mid X) 1 = X by simp [wordD, hasB, mid])
      have E8 := hide (show wordD 3 (mid X) 0 = 0 by simp [wordD, mid])
      have E9 := hide (show wordD 3 (mid X) 2 = 0 by simp [wordD, mid])
      have E10 := hide (show wrap64 ((10 : Int) + 1) = 11 by simp [wrap64])
      rw [unhide E6]
      go_wp2_with fail
      refine (load_any b r 3 _ _ 1 wr hcr).mono ?_
      rw [unhide E0, unhide E7, unhide E10]
      rintro e w5 ⟨rfl, hc5, ht5⟩
      have hbel5 := hide ((unhide hbr').trans (ht5.below hb' hr'))
      clear ht5 hcr hc4
      go_wp2_with fail
      refine (first_any _).mono ?_
      rintro e w6 ⟨rfl, hb6⟩
      have hc6 := hc5.later hb6 hc5.lt hc5.rlt
      go_wp2_with fail
      refine (peek_any b r 3 _ _ 0 w6 hc6).mono ?_
      rw [unhide E8]
      rintro e w7 ⟨rfl, rfl⟩
      go_wp2_with fail
      refine (peek_any b r 3 _ _ 2 w7 hc6).mono ?_
      rw [unhide E9]
      rintro e w8 ⟨rfl, rfl⟩
      go_wp2_with fail
      refine (count_any b r 3 _ _ w8 hc6).mono ?_
      rintro e w9 ⟨rfl, rfl⟩
      go_wp2
      go_ret
      exact ⟨rfl, bthen (unhide hbel5) hb6 (Nat.le_refl _)⟩

theorem cellBytes_walk (a0 a1 a2 : Int) (w : World) (_ : (Lit.int .i64 a0).wf = true) (_ : (Lit.int .i64 a1).wf = true) (_ : (Lit.int .i64 a2).wf = true) :
    Calls Try.prog 4 #[.int .i64 a0, .int .i64 a1, .int .i64 a2] w fun e w' => e = .returned (.bool true) ∧ Below w.heap.size w w' := by
  by_cases h : (0 ≤ a1 ∧ a1 ≤ 7) ∧ (0 ≤ a2 ∧ a2 ≤ 255)
  · obtain ⟨k, rfl⟩ := Int.eq_ofNat_of_zero_le h.1.1
    obtain ⟨v, rfl⟩ := Int.eq_ofNat_of_zero_le h.2.1
    exact bytes_in a0 k v w (by omega) (by omega)
  · exact bytes_out a0 a1 a2 w h
end Go.Proofs.Ytmaofephcfnlhaa
