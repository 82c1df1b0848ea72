/- The walk of CellEight: it answers true. -/
import Derived.Test.YtmaofephcfnlhaaRow
import Derived.Test.YtmaofephcfnlhaaMathb
namespace Go.Proofs.Ytmaofephcfnlhaa
open Go.RowKit

/-- The lowest m bytes of X. -/
def low (X : Int) (m : Nat) : Int := X % 2 ^ (8 * m)
theorem low_zero (X : Int) : low X 0 = 0 := by simp [low]
theorem low_eight (X : Int) : low X 8 = IntKind.u64.wrap X := by rw [IntKind.wrap_u64]; simp [low]
theorem low_step (X : Int) (y j : Nat) (hj : j < 8) (hy : y < 256) : low (putByte X j y) (j + 1) = low X j + y * 2 ^ (8 * j) := by
  unfold low putByte wrap64
  rcases eight hj with rfl | rfl | rfl | rfl | rfl | rfl | rfl | rfl <;> (simp; omega)
theorem or_high (X : Int) (y j : Nat) (hj : j < 8) (hy : y < 256) : bits .or .u64 (low X j) (IntKind.u64.wrap ((y : Int) * 2 ^ (8 * j))) = low X j + y * 2 ^ (8 * j) := by
  have hp : (0 : Int) < 2 ^ (8 * j) := Int.pow_pos (by decide)
  obtain ⟨p, hp'⟩ := Int.eq_ofNat_of_zero_le (show 0 ≤ low X j from Int.emod_nonneg _ (by omega))
  have hlt : low X j < 2 ^ (8 * j) := Int.emod_lt_of_pos _ hp
  rw [hp'] at hlt ⊢
  have hlt' : p < 2 ^ (8 * j) := by
    have : ((2 ^ (8 * j) : Nat) : Int) = (2 : Int) ^ (8 * j) := by simp
    omega
  have hbig : y * 2 ^ (8 * j) + p < 18446744073709551616 := by
    rcases eight hj with rfl | rfl | rfl | rfl | rfl | rfl | rfl | rfl <;> (simp at hlt' ⊢; omega)
  rw [or_u64, B_uwrap, B_vs, B_nat, BitVec.toNat_or, BitVec.toNat_ofNat, BitVec.toNat_ofNat, Nat.mod_eq_of_lt (by omega), Nat.mod_eq_of_lt (by omega), Nat.or_comm, nat_or_low y p (8 * j) hlt']
  simp; omega
theorem one_put (X : Int) (y j : Nat) (hj : j < 8) (hy : y < 256) : ∀ i, i < 1 → sbW 1 (fun _ => X) 0 j y i = putByte X j y := by
  have h : sbOk 1 0 j y = true := by simp [sbOk, hasB, byteB]; omega
  intro i hi
  obtain rfl : i = 0 := by omega
  simp [sbW, h, setW]
theorem one_ok (y j : Nat) (hj : j < 8) (hy : y < 256) : errOf (sbOk 1 0 j y) = 0 := by
  have h : sbOk 1 0 j y = true := by simp [sbOk, hasB, byteB]; omega
  simp [errOf, h]
theorem one_set (x : Int) : ∀ i, i < 1 → setW (fun _ => 0) 0 x i = x := by
  intro i hi
  obtain rfl : i = 0 := by omega
  rfl
theorem one_word (X : Int) : wordD 1 (fun _ => X) 0 = X := by simp [wordD, hasB]

set_option maxRecDepth 100000 in
theorem eight_out (x : Int) (a : Option Addr) (len cap : Nat) (w : World) (hbad : ((len : Int) != 8) = true) :
    Calls Try.prog 8 #[.int .i64 x, .slice a len cap] w fun e w' => e = .returned (.bool true) ∧ Below w.heap.size w w' := by
  go_enter Try.func8, Try.ntmps8
  go_wp2_with fail
  refine (first_any _).mono ?_
  rintro e w1 ⟨rfl, hb1⟩
  go_wp2_with fail
  refine (new_any 1 w1 (by decide)).mono ?_
  rintro e w2 ⟨b, r, rfl, hb, hr, hc, hbel⟩
  go_wp2_with fail
  refine (first_any _).mono ?_
  rintro e w3 ⟨rfl, hb3⟩
  go_wp2
  go_ret
  exact ⟨rfl, bthen (bthen hb1 hbel (Nat.le_refl _)) hb3 (Nat.le_refl _)⟩

set_option maxRecDepth 100000 in
set_option maxHeartbeats 2000000 in
theorem eight_in (x : Int) (a : Option Addr) (cap : Nat) (l : List Int) (w : World) (hs : SegK .u8 w a 8 l) (hw : ∀ n ∈ l, (Lit.int .u8 n).wf = true) :
    Calls Try.prog 8 #[.int .i64 x, .slice a 8 cap] w fun e w' => e = .returned (.bool true) ∧ Below w.heap.size w w' := by
  have hsb := hide hs.low
  have hlen := hide hs.1
  have hw' := hide hw
  clear hs hw
  have E0 := hide (show errOf (hasB 1 0) = 0 from rfl)
  go_enter Try.func8, Try.ntmps8
  go_wp2_with fail
  refine (first_any _).mono ?_
  rintro e w1 ⟨rfl, hb1⟩
  go_wp2_with fail
  refine (new_any 1 w1 (by decide)).mono ?_
  rintro e w2 ⟨b, r, rfl, hb, hr, hc, hbel2⟩
  have hb' : w.heap.size ≤ b := Nat.le_trans hb1.size hb
  have hr' : w.heap.size ≤ r := Nat.le_trans hb1.size hr
  have hB2 := hide (bthen hb1 hbel2 (Nat.le_refl _))
  clear hb1 hbel2 hb hr
  go_wp2_with fail
  refine (store_any b r 1 _ _ 0 x w2 hc).mono ?_
  rw [unhide E0]
  rintro e w3 ⟨rfl, hc3, ht3⟩
  replace hc3 := hc3.congr (one_set x)
  have hB := hide ((unhide hB2).trans (ht3.below hb' hr'))
  clear hc hB2 ht3
  go_wp2_with fail
  go_loopw [7, 8] (fun t i wr => ∃ m : Nat, ∃ X c : Int, m ≤ 8 ∧ i = .int .i64 m ∧ t = .int .u64 (low X m) ∧ Cel 56 wr b r 1 (fun _ => X) c ∧ Below w.heap.size w wr) (fun _ i _ => 8 - (intOf i).toNat)
  case atStart =>
    exact ⟨0, x, _, by decide, rfl, by rw [low_zero], hc3, unhide hB⟩
  case round =>
    obtain ⟨m, X, c, hm, rfl, rfl, hcr, hbr⟩ := hrel
    clear hc3
    by_cases hlt : m < 8
    · obtain ⟨b0, off, rfl, hb0, hcell⟩ := ((unhide hsb).later hbr).at hlt
      have hy : ∃ y : Nat, l.getD m 0 = (y : Int) ∧ y < 256 := by
        have h1 : l.getD m 0 ∈ l := by
          rw [List.getD_eq_getElem?_getD, List.getElem?_eq_getElem (by rw [unhide hlen]; exact hlt)]
          exact List.getElem_mem _
        have h2 := (unhide hw') _ h1
        simp [Lit.wf, IntKind.min, IntKind.max, IntKind.signed, IntKind.bits] at h2
        obtain ⟨y, hy⟩ := Int.eq_ofNat_of_zero_le h2.1
        exact ⟨y, hy, by omega⟩
      obtain ⟨y, hy, hy2⟩ := hy
      rw [hy] at hcell
      clear hy
      have hbr' := hide hbr
      clear hbr
      go_wp2_with fail
      refine (storeByte_any b r 1 _ _ 0 m y wr hcr).mono ?_
      rw [one_ok y m hlt hy2]
      rintro e w4 ⟨rfl, hc4, ht4⟩
      replace hc4 := hc4.congr (one_put X y m hlt hy2)
      have hcell4 := ((ht4.below hb' hr').cell (p := ⟨b0, off + m, none⟩) hb0).trans hcell
      have hbel4 := hide ((unhide hbr').trans (ht4.below hb' hr'))
      clear ht4 hcell hcr
      go_wp2
      go_roundw
      case rel => exact ⟨m + 1, putByte X m y, _, by omega, by go_num, by rw [low_step X y m hlt hy2, ← or_high X y m hlt hy2], hc4, unhide hbel4⟩
      case measure => simp [intOf]; omega
    · obtain rfl : m = 8 := by omega
      have hbr' := hide hbr
      clear hbr
      have e1 := low_eight X
      have E1 := hide (show errOf (sbOk 1 0 8 0) = 1 by decide)
      have E2 := hide (show errOf (sbOk 1 0 0 256) = 1 by decide)
      have E3 := hide (show errOf (sbOk 1 1 0 0) = 1 by decide)
      have F1 := hide (show sbW 1 (fun _ => X) 0 8 0 = (fun _ => X) by simp [sbW, show sbOk 1 0 8 0 = false by decide])
      have F2 := hide (show sbW 1 (fun _ => X) 0 0 256 = (fun _ => X) by simp [sbW, show sbOk 1 0 0 256 = false by decide])
      have F3 := hide (show sbW 1 (fun _ => X) 1 0 0 = (fun _ => X) by simp [sbW, show sbOk 1 1 0 0 = false by decide])
      rw [e1]
      clear e1
      go_wp2_with fail
      refine (first_any _).mono ?_
      rintro e w5 ⟨rfl, hb5⟩
      have hc5 := hcr.later hb5 hcr.lt hcr.rlt
      have hbel5 := hide (bthen (unhide hbr') hb5 (Nat.le_refl _))
      clear hb5 hcr
      go_wp2_with fail
      refine (peek_any b r 1 _ _ 0 w5 hc5).mono ?_
      rw [one_word]
      rintro e w6 ⟨rfl, rfl⟩
      go_wp2_with fail
      refine (storeByte_any b r 1 _ _ 0 8 0 w6 hc5).mono ?_
      rw [unhide E1, unhide F1]
      rintro e w7 ⟨rfl, hc7, ht7⟩
      go_wp2_with fail
      refine (storeByte_any b r 1 _ _ 0 0 256 w7 hc7).mono ?_
      rw [unhide E2, unhide F2]
      rintro e w8 ⟨rfl, hc8, ht8⟩
      go_wp2_with fail
      refine (storeByte_any b r 1 _ _ 1 0 0 w8 hc8).mono ?_
      rw [unhide E3, unhide F3]
      rintro e w9 ⟨rfl, hc9, ht9⟩
      go_wp2_with fail
      refine (peek_any b r 1 _ _ 0 w9 hc9).mono ?_
      rw [one_word]
      rintro e w10 ⟨rfl, rfl⟩
      go_wp2
      go_ret
      exact ⟨rfl, (unhide hbel5).trans (((ht7.trans ht8).trans ht9).below hb' hr')⟩

theorem cellEight_walk (a0 : Int) (a1 : Option Addr) (len1 cap1 : Nat) (l : List Int) (w : World) (_ : (Lit.int .i64 a0).wf = true) (hs : SegK .u8 w a1 len1 l) (_ : len1 ≤ cap1) (_ : cap1 ≤ maxLen) (hw : ∀ n ∈ l, (Lit.int .u8 n).wf = true) :
    Calls Try.prog 8 #[.int .i64 a0, .slice a1 len1 cap1] w fun e w' => e = .returned (.bool true) ∧ Below w.heap.size w w' := by
  by_cases h : len1 = 8
  · subst h
    exact eight_in a0 a1 cap1 l w hs hw
  · exact eight_out a0 a1 len1 cap1 w (by simp; omega)
end Go.Proofs.Ytmaofephcfnlhaa
