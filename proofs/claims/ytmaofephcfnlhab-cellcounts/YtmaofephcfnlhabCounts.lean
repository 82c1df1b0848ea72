/- The walk of CellCounts: it answers true. -/
import Derived.Test.YtmaofephcfnlhabStructs
namespace Go.Proofs.Ytmaofephcfnlhab
open Go.RowKit

theorem op_cells {w w' : World} {g : Nat} {vs : Array Value} {t : TypeId} (h : w.heap[g]? = some (.cells vs t (0, 0))) (e : w'.heap[g]? = w.heap[g]?) (i : Nat) : w'.cell? ⟨g, i, none⟩ = vs[i]? := by
  simp [World.cell?, e, h]

set_option maxRecDepth 100000 in
set_option maxHeartbeats 4000000 in
theorem counts_in (a : Option Addr) (len cap : Nat) (Z : Nat → Nat → Int) (w : World) (hs : RecsB 5 w.heap.size w a len Z) (h1 : len ≤ 300) :
    Calls Try.prog 3 #[.slice a len cap] w fun e w' => e = .returned (.bool true) ∧ Below w.heap.size w w' := by
  have d1 : decide ((300 : Int) < (len : Int)) = false := decide_eq_false (by omega)
  have hsb := hide hs
  clear hs
  go_enter Try.func3, Try.ntmps3
  go_wp2_with fail
  refine (first_any _).mono ?_
  rintro e w1 ⟨rfl, hb1⟩
  go_wp2_with fail
  refine (new_any 3 w1 (by decide)).mono ?_
  rintro e w2 ⟨b, r, rfl, hb, hr, hc, hbel2⟩
  have hb' : w.heap.size ≤ b := Nat.le_trans hb1.size hb
  have hr' : w.heap.size ≤ r := Nat.le_trans hb1.size hr
  have hB2 := hide (bthen hb1 hbel2 (Nat.le_refl _))
  clear hb1 hbel2 hb hr
  go_wp2_with fail
  go_loopw [5] (fun i wr => ∃ k : Nat, ∃ f : Nat → Int, k ≤ len ∧ i = .int .i64 k ∧ Cel 42 wr b r 3 f k ∧ Below w.heap.size w wr) (fun i _ => len - (intOf i).toNat)
  case atStart => exact ⟨0, _, Nat.zero_le _, rfl, hc, unhide hB2⟩
  case round =>
    obtain ⟨k, f, hk, rfl, hcr, hbr⟩ := hrel
    clear hc
    by_cases hlt : k < len
    · obtain ⟨b0, off, rfl, hb0, hcell⟩ := ((unhide hsb).later hbr).at hlt
      have c0 := hcell 0 (by decide)
      have c1 := hcell 1 (by decide)
      have c2 := hcell 2 (by decide)
      have c3 := hcell 3 (by decide)
      have c4 := hcell 4 (by decide)
      clear hcell
      rw [Nat.add_zero] at c0
      generalize Z k 0 = K at c0
      generalize Z k 1 = A at c1
      generalize Z k 2 = J at c2
      generalize Z k 3 = V at c3
      generalize Z k 4 = U at c4
      have hbg : b < wr.heap.size := hcr.lt
      have hrg : r < wr.heap.size := hcr.rlt
      have hal : Below wr.heap.size wr (wr.alloc (.cells #[.int .i64 K, .int .i64 A, .int .i64 J, .int .i64 V, .int .i64 U] 29)) := (Below.refl _ _).alloc (Nat.le_refl _) _
      have hop := hide (heap_alloc_new wr (.cells #[.int .i64 K, .int .i64 A, .int .i64 J, .int .i64 V, .int .i64 U] 29 (0, 0)))
      have hbr' := hide (bthen hbr hal (Nat.le_refl _))
      have hc3 := hcr.later hal hbg hrg
      have e3 : wrap64 ((k : Int) + 1) = (k : Int) + 1 := wrap_small (by omega) (by omega)
      have E3 := hide e3
      clear hbr hal hcr e3
      by_cases k0 : K = 0
      · subst k0
        go_wp2_with fail
        refine (load_any b r 3 _ _ A _ hc3).mono ?_
        rw [unhide E3]
        rintro e w4 ⟨rfl, hc4, ht4⟩
        have o1 := op_cells (unhide hop) (ht4.block wr.heap.size (by omega) (by omega)) 1
        simp only [List.getElem?_toArray, List.getElem?_cons_succ, List.getElem?_cons_zero] at o1
        have hbel4 := hide ((unhide hbr').trans (ht4.below hb' hr'))
        clear ht4 hc3 c0 c1 c2 c3 c4
        go_wp2_with fail
        refine (peek_any b r 3 _ _ A w4 hc4).mono ?_
        rintro e w5 ⟨rfl, rfl⟩
        go_wp2_with fail
        refine (count_any b r 3 _ _ w5 hc4).mono ?_
        rintro e w6 ⟨rfl, rfl⟩
        go_wp2_with fail
        refine (len_any b r 3 _ _ w6 hc4).mono ?_
        rintro e w7 ⟨rfl, rfl⟩
        go_wp2
        go_roundw
        case rel => exact ⟨k + 1, _, by omega, by go_num, hc4, unhide hbel4⟩
        case measure => simp [intOf]; omega
      have q0 : (K == 0) = false := by simp [k0]
      clear k0
      by_cases k1 : K = 1
      · subst k1
        go_wp2_with fail
        refine (store_any b r 3 _ _ A V _ hc3).mono ?_
        rw [unhide E3]
        rintro e w4 ⟨rfl, hc4, ht4⟩
        have o1 := op_cells (unhide hop) (ht4.block wr.heap.size (by omega) (by omega)) 1
        simp only [List.getElem?_toArray, List.getElem?_cons_succ, List.getElem?_cons_zero] at o1
        have hbel4 := hide ((unhide hbr').trans (ht4.below hb' hr'))
        clear ht4 hc3 c0 c1 c2 c3 c4
        go_wp2_with fail
        refine (peek_any b r 3 _ _ A w4 hc4).mono ?_
        rintro e w5 ⟨rfl, rfl⟩
        go_wp2_with fail
        refine (count_any b r 3 _ _ w5 hc4).mono ?_
        rintro e w6 ⟨rfl, rfl⟩
        go_wp2_with fail
        refine (len_any b r 3 _ _ w6 hc4).mono ?_
        rintro e w7 ⟨rfl, rfl⟩
        go_wp2
        go_roundw
        case rel => exact ⟨k + 1, _, by omega, by go_num, hc4, unhide hbel4⟩
        case measure => simp [intOf]; omega
      have q1 : (K == 1) = false := by simp [k1]
      clear k1
      by_cases k2 : K = 2
      · subst k2
        go_wp2_with fail
        refine (swap_any b r 3 _ _ A U V _ hc3).mono ?_
        rw [unhide E3]
        rintro e w4 ⟨rfl, hc4, ht4⟩
        have o1 := op_cells (unhide hop) (ht4.block wr.heap.size (by omega) (by omega)) 1
        simp only [List.getElem?_toArray, List.getElem?_cons_succ, List.getElem?_cons_zero] at o1
        have hbel4 := hide ((unhide hbr').trans (ht4.below hb' hr'))
        clear ht4 hc3 c0 c1 c2 c3 c4
        go_wp2_with fail
        refine (peek_any b r 3 _ _ A w4 hc4).mono ?_
        rintro e w5 ⟨rfl, rfl⟩
        go_wp2_with fail
        refine (count_any b r 3 _ _ w5 hc4).mono ?_
        rintro e w6 ⟨rfl, rfl⟩
        go_wp2_with fail
        refine (len_any b r 3 _ _ w6 hc4).mono ?_
        rintro e w7 ⟨rfl, rfl⟩
        go_wp2
        go_roundw
        case rel => exact ⟨k + 1, _, by omega, by go_num, hc4, unhide hbel4⟩
        case measure => simp [intOf]; omega
      have q2 : (K == 2) = false := by simp [k2]
      clear k2
      by_cases k3 : K = 3
      · subst k3
        go_wp2_with fail
        refine (add_any b r 3 _ _ A V _ hc3).mono ?_
        rw [unhide E3]
        rintro e w4 ⟨rfl, hc4, ht4⟩
        have o1 := op_cells (unhide hop) (ht4.block wr.heap.size (by omega) (by omega)) 1
        simp only [List.getElem?_toArray, List.getElem?_cons_succ, List.getElem?_cons_zero] at o1
        have hbel4 := hide ((unhide hbr').trans (ht4.below hb' hr'))
        clear ht4 hc3 c0 c1 c2 c3 c4
        go_wp2_with fail
        refine (peek_any b r 3 _ _ A w4 hc4).mono ?_
        rintro e w5 ⟨rfl, rfl⟩
        go_wp2_with fail
        refine (count_any b r 3 _ _ w5 hc4).mono ?_
        rintro e w6 ⟨rfl, rfl⟩
        go_wp2_with fail
        refine (len_any b r 3 _ _ w6 hc4).mono ?_
        rintro e w7 ⟨rfl, rfl⟩
        go_wp2
        go_roundw
        case rel => exact ⟨k + 1, _, by omega, by go_num, hc4, unhide hbel4⟩
        case measure => simp [intOf]; omega
      have q3 : (K == 3) = false := by simp [k3]
      clear k3
      by_cases k4 : K = 4
      · subst k4
        go_wp2_with fail
        refine (loadByte_any b r 3 _ _ A J _ hc3).mono ?_
        rw [unhide E3]
        rintro e w4 ⟨rfl, hc4, ht4⟩
        have o1 := op_cells (unhide hop) (ht4.block wr.heap.size (by omega) (by omega)) 1
        simp only [List.getElem?_toArray, List.getElem?_cons_succ, List.getElem?_cons_zero] at o1
        have hbel4 := hide ((unhide hbr').trans (ht4.below hb' hr'))
        clear ht4 hc3 c0 c1 c2 c3 c4
        go_wp2_with fail
        refine (peek_any b r 3 _ _ A w4 hc4).mono ?_
        rintro e w5 ⟨rfl, rfl⟩
        go_wp2_with fail
        refine (count_any b r 3 _ _ w5 hc4).mono ?_
        rintro e w6 ⟨rfl, rfl⟩
        go_wp2_with fail
        refine (len_any b r 3 _ _ w6 hc4).mono ?_
        rintro e w7 ⟨rfl, rfl⟩
        go_wp2
        go_roundw
        case rel => exact ⟨k + 1, _, by omega, by go_num, hc4, unhide hbel4⟩
        case measure => simp [intOf]; omega
      have q4 : (K == 4) = false := by simp [k4]
      clear k4
      go_wp2_with fail
      refine (storeByte_any b r 3 _ _ A J V _ hc3).mono ?_
      rw [unhide E3]
      rintro e w4 ⟨rfl, hc4, ht4⟩
      have o1 := op_cells (unhide hop) (ht4.block wr.heap.size (by omega) (by omega)) 1
      simp only [List.getElem?_toArray, List.getElem?_cons_succ, List.getElem?_cons_zero] at o1
      have hbel4 := hide ((unhide hbr').trans (ht4.below hb' hr'))
      clear ht4 hc3 c0 c1 c2 c3 c4
      go_wp2_with fail
      refine (peek_any b r 3 _ _ A w4 hc4).mono ?_
      rintro e w5 ⟨rfl, rfl⟩
      go_wp2_with fail
      refine (count_any b r 3 _ _ w5 hc4).mono ?_
      rintro e w6 ⟨rfl, rfl⟩
      go_wp2_with fail
      refine (len_any b r 3 _ _ w6 hc4).mono ?_
      rintro e w7 ⟨rfl, rfl⟩
      go_wp2
      go_roundw
      case rel => exact ⟨k + 1, _, by omega, by go_num, hc4, unhide hbel4⟩
      case measure => simp [intOf]; omega
    · obtain rfl : k = len := by omega
      have hbr' := hide hbr
      clear hbr
      go_wp2_with fail
      refine (first_any _).mono ?_
      rintro e w5 ⟨rfl, hb5⟩
      go_wp2
      go_ret
      exact ⟨rfl, bthen (unhide hbr') hb5 (Nat.le_refl _)⟩

set_option maxRecDepth 100000 in
theorem counts_out (a : Option Addr) (len cap : Nat) (w : World) (hbad : (300 : Int) < (len : Int)) :
    Calls Try.prog 3 #[.slice a len cap] w fun e w' => e = .returned (.bool true) ∧ Below w.heap.size w w' := by
  go_enter Try.func3, Try.ntmps3
  go_wp2_with fail
  refine (first_any _).mono ?_
  rintro e w1 ⟨rfl, hb1⟩
  go_wp2_with fail
  refine (new_any 3 w1 (by decide)).mono ?_
  rintro e w2 ⟨b, r, rfl, hb, hr, hc, hbel⟩
  go_wp2_with fail
  refine (first_any _).mono ?_
  rintro e w3 ⟨rfl, hb3⟩
  go_wp2
  go_ret
  exact ⟨rfl, bthen (bthen hb1 hbel (Nat.le_refl _)) hb3 (Nat.le_refl _)⟩

theorem cellCounts_walk (a0 : Option Addr) (len0 cap0 : Nat) (Z : Nat → Nat → Int) (w : World) (hs : RecsB 5 w.heap.size w a0 len0 Z) (_ : len0 ≤ cap0) (_ : cap0 ≤ maxLen) (_ : ∀ i, i < len0 → ∀ j, j < 5 → (Lit.int .i64 (Z i j)).wf = true) :
    Calls Try.prog 3 #[.slice a0 len0 cap0] w fun e w' => e = .returned (.bool true) ∧ Below w.heap.size w w' := by
  by_cases h : len0 ≤ 300
  · exact counts_in a0 len0 cap0 Z w hs h
  · exact counts_out a0 len0 cap0 w (by omega)
end Go.Proofs.Ytmaofephcfnlhab
