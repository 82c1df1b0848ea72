/- The walk of CellPlays: it answers true. -/
import Derived.Test.YtmaofephcfnlhaaPeek
namespace Go.Proofs.Ytmaofephcfnlhaa
open Go.RowKit

set_option maxRecDepth 100000 in
theorem plays_long (n : Int) (a : Option Addr) (len cap : Nat) (w : World) (hbad : (500 : Int) < (len : Int)) :
    Calls Try.prog 3 #[.int .i64 n, .slice a len cap] w fun e w' => e = .returned (.bool true) ∧ Below w.heap.size w w' := by
  go_enter Try.func3, Try.ntmps3
  go_wp2_with fail
  refine (first_any _).mono ?_
  rintro e w1 ⟨rfl, hb1⟩
  go_wp2_with fail
  refine (first_any _).mono ?_
  rintro e w3 ⟨rfl, hb3⟩
  go_wp2
  go_ret
  exact ⟨rfl, bthen hb1 hb3 (Nat.le_refl _)⟩

set_option maxRecDepth 100000 in
theorem plays_none (n : Int) (a : Option Addr) (len cap : Nat) (w : World) (h1 : len ≤ 500) (hn : n < 0 ∨ 65536 < n) :
    Calls Try.prog 3 #[.int .i64 n, .slice a len cap] w fun e w' => e = .returned (.bool true) ∧ Below w.heap.size w w' := by
  have d1 : decide ((500 : Int) < (len : Int)) = false := decide_eq_false (by omega)
  have hn' := hide hn
  clear hn
  go_enter Try.func3, Try.ntmps3
  go_wp2_with fail
  refine (first_any _).mono ?_
  rintro e w1 ⟨rfl, hb1⟩
  go_wp2_with fail
  refine (new_bad n w1 (unhide hn')).mono ?_
  rintro e w2 ⟨rfl, rfl⟩
  go_wp2_with fail
  refine (rnew_bad n w2 (unhide hn')).mono ?_
  rintro e w3 ⟨rfl, rfl⟩
  go_wp2_with fail
  go_loop [9] (fun i => i = .int .i64 0) (fun i => 1)
  case atStart => rfl
  case round =>
    subst hrel
    go_wp2_with fail
    refine (first_any _).mono ?_
    rintro e w4 ⟨rfl, hb4⟩
    go_wp2
    go_ret
    exact ⟨rfl, bthen hb1 hb4 (Nat.le_refl _)⟩

set_option maxRecDepth 100000 in
set_option maxHeartbeats 8000000 in
theorem plays_in (n : Nat) (a : Option Addr) (len cap : Nat) (Z : Nat → Nat → Int) (w : World) (hs : RecsB 5 w.heap.size w a len Z) (h1 : len ≤ 500) (hn : n ≤ 65536) :
    Calls Try.prog 3 #[.int .i64 (n : Int), .slice a len cap] w fun e w' => e = .returned (.bool true) ∧ Below w.heap.size w w' := by
  have d1 : decide ((500 : Int) < (len : Int)) = false := decide_eq_false (by omega)
  have hsb := hide hs
  clear hs
  go_enter Try.func3, Try.ntmps3
  go_wp2_with fail
  refine (first_any _).mono ?_
  rintro e w1 ⟨rfl, hb1⟩
  go_wp2_with fail
  refine (new_any n w1 hn).mono ?_
  rintro e w2 ⟨b, r, rfl, hb, hr, hc, hbel2⟩
  go_wp2_with fail
  refine (rnew_any n w2 hn).mono ?_
  rintro e w3 ⟨rb, rr, rfl, hrb, hrr, hx, hbel3⟩
  have hb' : w.heap.size ≤ b := Nat.le_trans hb1.size hb
  have hr' : w.heap.size ≤ r := Nat.le_trans hb1.size hr
  have hbm : b < w2.heap.size := hc.lt
  have hrm : r < w2.heap.size := hc.rlt
  have hc3 := hc.later hbel3 hbm hrm
  have hB3 := hide (bthen (bthen hb1 hbel2 (Nat.le_refl _)) hbel3 (Nat.le_refl _))
  have hrb' : w.heap.size ≤ rb := by omega
  have hrr' : w.heap.size ≤ rr := by omega
  clear hb1 hbel2 hb hr hc hbel3
  go_wp2_with fail
  go_loopw [9] (fun i wr => ∃ k : Nat, ∃ f : Nat → Int, ∃ c : Int, k ≤ len ∧ i = .int .i64 k ∧ Cel 56 wr b r n f c ∧ Cel 44 wr rb rr n f c ∧ Below w.heap.size w wr) (fun i _ => len - (intOf i).toNat)
  case atStart => exact ⟨0, _, _, Nat.zero_le _, rfl, hc3, hx, unhide hB3⟩
  case round =>
    obtain ⟨k, f, c, hk, rfl, hcr, hxr, hbr⟩ := hrel
    clear hc3 hx
    by_cases hlt : k < len
    · obtain ⟨b0, off, rfl, hb0, hcell⟩ := ((unhide hsb).later hbr).at hlt
      have c0 := hcell 0 (by decide)
      have c1 := hcell 1 (by decide)
      have c2 := hcell 2 (by decide)
      have c3 := hcell 3 (by decide)
      have c4 := hcell 4 (by decide)
      clear hcell
      rw [Nat.add_zero] at c0
      generalize Z k 0 = K at c0
      generalize Z k 1 = A at c1
      generalize Z k 2 = J at c2
      generalize Z k 3 = V at c3
      generalize Z k 4 = U at c4
      have gb : b < wr.heap.size := hcr.lt
      have gr : r < wr.heap.size := hcr.rlt
      have grb : rb < wr.heap.size := hxr.lt
      have grr : rr < wr.heap.size := hxr.rlt
      have hal : Below wr.heap.size wr (wr.alloc (.cells #[.int .i64 K, .int .i64 A, .int .i64 J, .int .i64 V, .int .i64 U] 32)) := (Below.refl _ _).alloc (Nat.le_refl _) _
      have hop := hide (heap_alloc_new wr (.cells #[.int .i64 K, .int .i64 A, .int .i64 J, .int .i64 V, .int .i64 U] 32 (0, 0)))
      have hbr' := hide (bthen hbr hal (Nat.le_refl _))
      have hc3 := hcr.later hal gb gr
      have hx3 := hxr.later hal grb grr
      clear hbr hal hcr hxr
      by_cases k0 : K = 0
      · subst k0
        as_aux_lemma =>
          go_wp2_with fail
          refine (load_any b r n _ _ A _ hc3).mono ?_
          rintro e w4 ⟨rfl, hc4, ht4⟩
          have hx4 := hx3.stays ht4 (by omega) (by omega) (by omega) (by omega)
          have n1 := op_cells (unhide hop) (ht4.block wr.heap.size (by omega) (by omega)) 1
          have n2 := op_cells (unhide hop) (ht4.block wr.heap.size (by omega) (by omega)) 2
          have n3 := op_cells (unhide hop) (ht4.block wr.heap.size (by omega) (by omega)) 3
          have n4 := op_cells (unhide hop) (ht4.block wr.heap.size (by omega) (by omega)) 4
          simp only [List.getElem?_toArray, List.getElem?_cons_succ, List.getElem?_cons_zero] at n1 n2 n3 n4
          go_wp2_with fail
          refine (rload_any rb rr n _ _ A _ hx4).mono ?_
          rintro e w5 ⟨rfl, hx5, ht5⟩
          have hc5 := hc4.stays ht5 (by omega) (by omega) (by omega) (by omega)
          have hsame : ∀ q, q ≠ b → q ≠ r → q ≠ rb → q ≠ rr → w5.heap[q]? = _ := fun q q1 q2 q3 q4 => (ht5.block q q3 q4).trans (ht4.block q q1 q2)
          have hbel5 := hide (((unhide hbr').trans (ht4.below hb' hr')).trans (ht5.below hrb' hrr'))
          clear ht4 ht5 hc4 hx4 hc3 hx3 n1 n2 n3 n4
          have o1 := op_cells (unhide hop) (hsame wr.heap.size (by omega) (by omega) (by omega) (by omega)) 1
          simp only [List.getElem?_toArray, List.getElem?_cons_succ, List.getElem?_cons_zero] at o1
          have x1 := hx5.cell1
          clear hsame c0 c1 c2 c3 c4
          go_wp2_with fail
          have hcq := fun (m : Nat) => hc5.drewN m
          have hxq := fun (m : Nat) => hx5.drewN m
          go_quiet ((first | (go_at_call 24; exact Calls.quiet_of_same (peek_any _ _ _ _ _ _ _ (hcq _))) | (go_at_call 25; exact Calls.quiet_of_same (rpeek_any _ _ _ _ _ _ _ (hxq _))) | (go_at_call 26; exact Calls.quiet_of_same (count_any _ _ _ _ _ _ (hcq _))) | (go_at_call 27; exact Calls.quiet_of_same (len_any _ _ _ _ _ _ (hcq _)))))
          go_wp2
          go_roundw
          case rel => exact ⟨k + 1, _, _, by omega, by go_num, hc5.drewN _, hx5.drewN _, below_drewN (unhide hbel5) _⟩
          case measure => simp [intOf]; omega
      have q0 : (K == 0) = false := by simp [k0]
      clear k0
      by_cases k1 : K = 1
      · subst k1
        as_aux_lemma =>
          have m1 := op_cells (unhide hop) rfl 1
          have m2 := op_cells (unhide hop) rfl 2
          have m3 := op_cells (unhide hop) rfl 3
          simp only [List.getElem?_toArray, List.getElem?_cons_succ, List.getElem?_cons_zero] at m1 m2 m3
          go_wp2_with fail
          go_region_held3 (fun wz => wz.cell? ⟨wr.heap.size, 1, none⟩ = some (.int .i64 A) ∧ wz.cell? ⟨wr.heap.size, 2, none⟩ = some (.int .i64 J) ∧ wz.cell? ⟨wr.heap.size, 3, none⟩ = some (.int .i64 V)) (first | exact ⟨m1, m2, m3⟩ | exact ⟨n1, n2, n3⟩ | exact ⟨l1, l2, l3⟩)
            (first
              | (go_at_call 14; refine (store_any b r n _ _ A V _ hc3.drew).mono ?_; rintro e w4 ⟨rfl, hc4, ht4⟩; have hx4 := hx3.drew.stays ht4 (by omega) (by omega) (by omega) (by omega); have n1 := op_cells (unhide hop) (ht4.block wr.heap.size (by omega) (by omega)) 1; have n2 := op_cells (unhide hop) (ht4.block wr.heap.size (by omega) (by omega)) 2; have n3 := op_cells (unhide hop) (ht4.block wr.heap.size (by omega) (by omega)) 3; simp only [List.getElem?_toArray, List.getElem?_cons_succ, List.getElem?_cons_zero] at n1 n2 n3)
              | (go_at_call 15; refine (rstore_any rb rr n _ _ A V _ hx4).mono ?_; rintro e w5 ⟨rfl, hx5, ht5⟩; have l1 := op_cells (unhide hop) ((ht5.block wr.heap.size (by omega) (by omega)).trans (ht4.block wr.heap.size (by omega) (by omega))) 1; have l2 := op_cells (unhide hop) ((ht5.block wr.heap.size (by omega) (by omega)).trans (ht4.block wr.heap.size (by omega) (by omega))) 2; have l3 := op_cells (unhide hop) ((ht5.block wr.heap.size (by omega) (by omega)).trans (ht4.block wr.heap.size (by omega) (by omega))) 3; simp only [List.getElem?_toArray, List.getElem?_cons_succ, List.getElem?_cons_zero] at l1 l2 l3))
          have hc5 := hc4.stays ht5 (by omega) (by omega) (by omega) (by omega)
          have hsame : ∀ q, q ≠ b → q ≠ r → q ≠ rb → q ≠ rr → w5.heap[q]? = _ := fun q q1 q2 q3 q4 => (ht5.block q q3 q4).trans (ht4.block q q1 q2)
          have hbel5 := hide (((unhide hbr').drew.trans (ht4.below hb' hr')).trans (ht5.below hrb' hrr'))
          clear ht4 ht5 hc4 hx4 hc3 hx3 m1 m2 m3 n1 n2 n3 l1 l2 l3
          have o1 := op_cells (unhide hop) (hsame wr.heap.size (by omega) (by omega) (by omega) (by omega)) 1
          simp only [List.getElem?_toArray, List.getElem?_cons_succ, List.getElem?_cons_zero] at o1
          have x1 := hx5.cell1
          clear hsame c0 c1 c2 c3 c4
          go_wp2_with fail
          have hcq := fun (m : Nat) => hc5.drewN m
          have hxq := fun (m : Nat) => hx5.drewN m
          go_quiet ((first | (go_at_call 24; exact Calls.quiet_of_same (peek_any _ _ _ _ _ _ _ (hcq _))) | (go_at_call 25; exact Calls.quiet_of_same (rpeek_any _ _ _ _ _ _ _ (hxq _))) | (go_at_call 26; exact Calls.quiet_of_same (count_any _ _ _ _ _ _ (hcq _))) | (go_at_call 27; exact Calls.quiet_of_same (len_any _ _ _ _ _ _ (hcq _)))))
          go_wp2
          go_roundw
          case rel => exact ⟨k + 1, _, _, by omega, by go_num, hc5.drewN _, hx5.drewN _, below_drewN (unhide hbel5) _⟩
          case measure => simp [intOf]; omega
      have q1 : (K == 1) = false := by simp [k1]
      clear k1
      by_cases k2 : K = 2
      · subst k2
        as_aux_lemma =>
          go_wp2_with fail
          refine (swap_any b r n _ _ A U V _ hc3).mono ?_
          rintro e w4 ⟨rfl, hc4, ht4⟩
          have hx4 := hx3.stays ht4 (by omega) (by omega) (by omega) (by omega)
          have n1 := op_cells (unhide hop) (ht4.block wr.heap.size (by omega) (by omega)) 1
          have n2 := op_cells (unhide hop) (ht4.block wr.heap.size (by omega) (by omega)) 2
          have n3 := op_cells (unhide hop) (ht4.block wr.heap.size (by omega) (by omega)) 3
          have n4 := op_cells (unhide hop) (ht4.block wr.heap.size (by omega) (by omega)) 4
          simp only [List.getElem?_toArray, List.getElem?_cons_succ, List.getElem?_cons_zero] at n1 n2 n3 n4
          go_wp2_with fail
          refine (rswap_any rb rr n _ _ A U V _ hx4).mono ?_
          rintro e w5 ⟨rfl, hx5, ht5⟩
          have hc5 := hc4.stays ht5 (by omega) (by omega) (by omega) (by omega)
          have hsame : ∀ q, q ≠ b → q ≠ r → q ≠ rb → q ≠ rr → w5.heap[q]? = _ := fun q q1 q2 q3 q4 => (ht5.block q q3 q4).trans (ht4.block q q1 q2)
          have hbel5 := hide (((unhide hbr').trans (ht4.below hb' hr')).trans (ht5.below hrb' hrr'))
          clear ht4 ht5 hc4 hx4 hc3 hx3 n1 n2 n3 n4
          have o1 := op_cells (unhide hop) (hsame wr.heap.size (by omega) (by omega) (by omega) (by omega)) 1
          simp only [List.getElem?_toArray, List.getElem?_cons_succ, List.getElem?_cons_zero] at o1
          have x1 := hx5.cell1
          clear hsame c0 c1 c2 c3 c4
          go_wp2_with fail
          have hcq := fun (m : Nat) => hc5.drewN m
          have hxq := fun (m : Nat) => hx5.drewN m
          go_quiet ((first | (go_at_call 24; exact Calls.quiet_of_same (peek_any _ _ _ _ _ _ _ (hcq _))) | (go_at_call 25; exact Calls.quiet_of_same (rpeek_any _ _ _ _ _ _ _ (hxq _))) | (go_at_call 26; exact Calls.quiet_of_same (count_any _ _ _ _ _ _ (hcq _))) | (go_at_call 27; exact Calls.quiet_of_same (len_any _ _ _ _ _ _ (hcq _)))))
          go_wp2
          go_roundw
          case rel => exact ⟨k + 1, _, _, by omega, by go_num, hc5.drewN _, hx5.drewN _, below_drewN (unhide hbel5) _⟩
          case measure => simp [intOf]; omega
      have q2 : (K == 2) = false := by simp [k2]
      clear k2
      by_cases k3 : K = 3
      · subst k3
        as_aux_lemma =>
          go_wp2_with fail
          refine (add_any b r n _ _ A V _ hc3).mono ?_
          rintro e w4 ⟨rfl, hc4, ht4⟩
          have hx4 := hx3.stays ht4 (by omega) (by omega) (by omega) (by omega)
          have n1 := op_cells (unhide hop) (ht4.block wr.heap.size (by omega) (by omega)) 1
          have n2 := op_cells (unhide hop) (ht4.block wr.heap.size (by omega) (by omega)) 2
          have n3 := op_cells (unhide hop) (ht4.block wr.heap.size (by omega) (by omega)) 3
          have n4 := op_cells (unhide hop) (ht4.block wr.heap.size (by omega) (by omega)) 4
          simp only [List.getElem?_toArray, List.getElem?_cons_succ, List.getElem?_cons_zero] at n1 n2 n3 n4
          go_wp2_with fail
          refine (radd_any rb rr n _ _ A V _ hx4).mono ?_
          rintro e w5 ⟨rfl, hx5, ht5⟩
          have hc5 := hc4.stays ht5 (by omega) (by omega) (by omega) (by omega)
          have hsame : ∀ q, q ≠ b → q ≠ r → q ≠ rb → q ≠ rr → w5.heap[q]? = _ := fun q q1 q2 q3 q4 => (ht5.block q q3 q4).trans (ht4.block q q1 q2)
          have hbel5 := hide (((unhide hbr').trans (ht4.below hb' hr')).trans (ht5.below hrb' hrr'))
          clear ht4 ht5 hc4 hx4 hc3 hx3 n1 n2 n3 n4
          have o1 := op_cells (unhide hop) (hsame wr.heap.size (by omega) (by omega) (by omega) (by omega)) 1
          simp only [List.getElem?_toArray, List.getElem?_cons_succ, List.getElem?_cons_zero] at o1
          have x1 := hx5.cell1
          clear hsame c0 c1 c2 c3 c4
          go_wp2_with fail
          have hcq := fun (m : Nat) => hc5.drewN m
          have hxq := fun (m : Nat) => hx5.drewN m
          go_quiet ((first | (go_at_call 24; exact Calls.quiet_of_same (peek_any _ _ _ _ _ _ _ (hcq _))) | (go_at_call 25; exact Calls.quiet_of_same (rpeek_any _ _ _ _ _ _ _ (hxq _))) | (go_at_call 26; exact Calls.quiet_of_same (count_any _ _ _ _ _ _ (hcq _))) | (go_at_call 27; exact Calls.quiet_of_same (len_any _ _ _ _ _ _ (hcq _)))))
          go_wp2
          go_roundw
          case rel => exact ⟨k + 1, _, _, by omega, by go_num, hc5.drewN _, hx5.drewN _, below_drewN (unhide hbel5) _⟩
          case measure => simp [intOf]; omega
      have q3 : (K == 3) = false := by simp [k3]
      clear k3
      by_cases k4 : K = 4
      · subst k4
        as_aux_lemma =>
          go_wp2_with fail
          refine (loadByte_any b r n _ _ A J _ hc3).mono ?_
          rintro e w4 ⟨rfl, hc4, ht4⟩
          have hx4 := hx3.stays ht4 (by omega) (by omega) (by omega) (by omega)
          have n1 := op_cells (unhide hop) (ht4.block wr.heap.size (by omega) (by omega)) 1
          have n2 := op_cells (unhide hop) (ht4.block wr.heap.size (by omega) (by omega)) 2
          have n3 := op_cells (unhide hop) (ht4.block wr.heap.size (by omega) (by omega)) 3
          have n4 := op_cells (unhide hop) (ht4.block wr.heap.size (by omega) (by omega)) 4
          simp only [List.getElem?_toArray, List.getElem?_cons_succ, List.getElem?_cons_zero] at n1 n2 n3 n4
          go_wp2_with fail
          refine (rloadByte_any rb rr n _ _ A J _ hx4).mono ?_
          rintro e w5 ⟨rfl, hx5, ht5⟩
          have hc5 := hc4.stays ht5 (by omega) (by omega) (by omega) (by omega)
          have hsame : ∀ q, q ≠ b → q ≠ r → q ≠ rb → q ≠ rr → w5.heap[q]? = _ := fun q q1 q2 q3 q4 => (ht5.block q q3 q4).trans (ht4.block q q1 q2)
          have hbel5 := hide (((unhide hbr').trans (ht4.below hb' hr')).trans (ht5.below hrb' hrr'))
          clear ht4 ht5 hc4 hx4 hc3 hx3 n1 n2 n3 n4
          have o1 := op_cells (unhide hop) (hsame wr.heap.size (by omega) (by omega) (by omega) (by omega)) 1
          simp only [List.getElem?_toArray, List.getElem?_cons_succ, List.getElem?_cons_zero] at o1
          have x1 := hx5.cell1
          clear hsame c0 c1 c2 c3 c4
          go_wp2_with fail
          have hcq := fun (m : Nat) => hc5.drewN m
          have hxq := fun (m : Nat) => hx5.drewN m
          go_quiet ((first | (go_at_call 24; exact Calls.quiet_of_same (peek_any _ _ _ _ _ _ _ (hcq _))) | (go_at_call 25; exact Calls.quiet_of_same (rpeek_any _ _ _ _ _ _ _ (hxq _))) | (go_at_call 26; exact Calls.quiet_of_same (count_any _ _ _ _ _ _ (hcq _))) | (go_at_call 27; exact Calls.quiet_of_same (len_any _ _ _ _ _ _ (hcq _)))))
          go_wp2
          go_roundw
          case rel => exact ⟨k + 1, _, _, by omega, by go_num, hc5.drewN _, hx5.drewN _, below_drewN (unhide hbel5) _⟩
          case measure => simp [intOf]; omega
      have q4 : (K == 4) = false := by simp [k4]
      clear k4
      by_cases k5 : K = 5
      · subst k5
        as_aux_lemma =>
          have m1 := op_cells (unhide hop) rfl 1
          have m2 := op_cells (unhide hop) rfl 2
          have m3 := op_cells (unhide hop) rfl 3
          simp only [List.getElem?_toArray, List.getElem?_cons_succ, List.getElem?_cons_zero] at m1 m2 m3
          go_wp2_with fail
          go_region_held3 (fun wz => wz.cell? ⟨wr.heap.size, 1, none⟩ = some (.int .i64 A) ∧ wz.cell? ⟨wr.heap.size, 2, none⟩ = some (.int .i64 J) ∧ wz.cell? ⟨wr.heap.size, 3, none⟩ = some (.int .i64 V)) (first | exact ⟨m1, m2, m3⟩ | exact ⟨n1, n2, n3⟩ | exact ⟨l1, l2, l3⟩)
            (first
              | (go_at_call 22; refine (storeByte_any b r n _ _ A J V _ hc3.drew).mono ?_; rintro e w4 ⟨rfl, hc4, ht4⟩; have hx4 := hx3.drew.stays ht4 (by omega) (by omega) (by omega) (by omega); have n1 := op_cells (unhide hop) (ht4.block wr.heap.size (by omega) (by omega)) 1; have n2 := op_cells (unhide hop) (ht4.block wr.heap.size (by omega) (by omega)) 2; have n3 := op_cells (unhide hop) (ht4.block wr.heap.size (by omega) (by omega)) 3; simp only [List.getElem?_toArray, List.getElem?_cons_succ, List.getElem?_cons_zero] at n1 n2 n3)
              | (go_at_call 23; refine (rstoreByte_any rb rr n _ _ A J V _ hx4).mono ?_; rintro e w5 ⟨rfl, hx5, ht5⟩; have l1 := op_cells (unhide hop) ((ht5.block wr.heap.size (by omega) (by omega)).trans (ht4.block wr.heap.size (by omega) (by omega))) 1; have l2 := op_cells (unhide hop) ((ht5.block wr.heap.size (by omega) (by omega)).trans (ht4.block wr.heap.size (by omega) (by omega))) 2; have l3 := op_cells (unhide hop) ((ht5.block wr.heap.size (by omega) (by omega)).trans (ht4.block wr.heap.size (by omega) (by omega))) 3; simp only [List.getElem?_toArray, List.getElem?_cons_succ, List.getElem?_cons_zero] at l1 l2 l3))
          have hc5 := hc4.stays ht5 (by omega) (by omega) (by omega) (by omega)
          have hsame : ∀ q, q ≠ b → q ≠ r → q ≠ rb → q ≠ rr → w5.heap[q]? = _ := fun q q1 q2 q3 q4 => (ht5.block q q3 q4).trans (ht4.block q q1 q2)
          have hbel5 := hide (((unhide hbr').drew.trans (ht4.below hb' hr')).trans (ht5.below hrb' hrr'))
          clear ht4 ht5 hc4 hx4 hc3 hx3 m1 m2 m3 n1 n2 n3 l1 l2 l3
          have o1 := op_cells (unhide hop) (hsame wr.heap.size (by omega) (by omega) (by omega) (by omega)) 1
          simp only [List.getElem?_toArray, List.getElem?_cons_succ, List.getElem?_cons_zero] at o1
          have x1 := hx5.cell1
          clear hsame c0 c1 c2 c3 c4
          go_wp2_with fail
          have hcq := fun (m : Nat) => hc5.drewN m
          have hxq := fun (m : Nat) => hx5.drewN m
          go_quiet ((first | (go_at_call 24; exact Calls.quiet_of_same (peek_any _ _ _ _ _ _ _ (hcq _))) | (go_at_call 25; exact Calls.quiet_of_same (rpeek_any _ _ _ _ _ _ _ (hxq _))) | (go_at_call 26; exact Calls.quiet_of_same (count_any _ _ _ _ _ _ (hcq _))) | (go_at_call 27; exact Calls.quiet_of_same (len_any _ _ _ _ _ _ (hcq _)))))
          go_wp2
          go_roundw
          case rel => exact ⟨k + 1, _, _, by omega, by go_num, hc5.drewN _, hx5.drewN _, below_drewN (unhide hbel5) _⟩
          case measure => simp [intOf]; omega
      have q5 : (K == 5) = false := by simp [k5]
      clear k5
      as_aux_lemma =>
        have hsame : ∀ q, q ≠ b → q ≠ r → q ≠ rb → q ≠ rr → (wr.alloc (.cells #[.int .i64 K, .int .i64 A, .int .i64 J, .int .i64 V, .int .i64 U] 32)).heap[q]? = _ := fun q _ _ _ _ => rfl
        have hc5 := hc3
        have hx5 := hx3
        have hbel5 := hbr'
        have o1 := op_cells (unhide hop) (hsame wr.heap.size (by omega) (by omega) (by omega) (by omega)) 1
        simp only [List.getElem?_toArray, List.getElem?_cons_succ, List.getElem?_cons_zero] at o1
        have x1 := hx5.cell1
        clear hsame
        go_wp2_with fail
        have hcq := fun (m : Nat) => hc5.drewN m
        have hxq := fun (m : Nat) => hx5.drewN m
        go_quiet ((first | (go_at_call 24; exact Calls.quiet_of_same (peek_any _ _ _ _ _ _ _ (hcq _))) | (go_at_call 25; exact Calls.quiet_of_same (rpeek_any _ _ _ _ _ _ _ (hxq _))) | (go_at_call 26; exact Calls.quiet_of_same (count_any _ _ _ _ _ _ (hcq _))) | (go_at_call 27; exact Calls.quiet_of_same (len_any _ _ _ _ _ _ (hcq _)))))
        go_wp2
        go_roundw
        case rel => exact ⟨k + 1, _, _, by omega, by go_num, hc5.drewN _, hx5.drewN _, below_drewN (unhide hbel5) _⟩
        case measure => simp [intOf]; omega
    · obtain rfl : k = len := by omega
      have hbr' := hide hbr
      clear hbr
      go_wp2_with fail
      refine (first_any _).mono ?_
      rintro e w5 ⟨rfl, hb5⟩
      go_wp2
      go_ret
      exact ⟨rfl, bthen (unhide hbr') hb5 (Nat.le_refl _)⟩

theorem cellPlays_walk (a0 : Int) (a1 : Option Addr) (len1 cap1 : Nat) (Z : Nat → Nat → Int) (w : World) (_ : (Lit.int .i64 a0).wf = true) (hs : RecsB 5 w.heap.size w a1 len1 Z) (_ : len1 ≤ cap1) (_ : cap1 ≤ maxLen) (_ : ∀ i, i < len1 → ∀ j, j < 5 → (Lit.int .i64 (Z i j)).wf = true) :
    Calls Try.prog 3 #[.int .i64 a0, .slice a1 len1 cap1] w fun e w' => e = .returned (.bool true) ∧ Below w.heap.size w w' := by
  by_cases h : len1 ≤ 500
  · by_cases h0 : 0 ≤ a0 ∧ a0 ≤ 65536
    · obtain ⟨n, rfl⟩ := Int.eq_ofNat_of_zero_le h0.1
      exact plays_in n a1 len1 cap1 Z w hs h (by omega)
    · exact plays_none a0 a1 len1 cap1 w h (by omega)
  · exact plays_long a0 a1 len1 cap1 w (by omega)
end Go.Proofs.Ytmaofephcfnlhaa
