/- The walk of CellLast: it answers true. -/
import Derived.Test.YtmaofephcfnlhaaStructs
namespace Go.Proofs.Ytmaofephcfnlhaa
open Go.RowKit

set_option maxRecDepth 100000 in
set_option maxHeartbeats 2000000 in
theorem last_in (a : Option Addr) (len cap : Nat) (Z : Nat → Nat → Int) (w : World) (hs : RecsB 5 w.heap.size w a len Z) (h1 : len ≤ 300) :
    Calls Try.prog 7 #[.slice a len cap] w fun e w' => e = .returned (.bool true) ∧ Below w.heap.size w w' := by
  have d1 : decide ((300 : Int) < (len : Int)) = false := decide_eq_false (by omega)
  have hsb := hide hs
  clear hs
  go_enter Try.func7, Try.ntmps7
  go_wp2_with fail
  refine (first_any _).mono ?_
  rintro e w1 ⟨rfl, hb1⟩
  go_wp2_with fail
  refine (new_any 20 w1 (by decide)).mono ?_
  rintro e w2 ⟨b, r, rfl, hb, hr, hc, hbel2⟩
  have hb' : w.heap.size ≤ b := Nat.le_trans hb1.size hb
  have hr' : w.heap.size ≤ r := Nat.le_trans hb1.size hr
  have hB2 := hide (bthen hb1 hbel2 (Nat.le_refl _))
  clear hb1 hbel2 hb hr
  have hbg : b < w2.heap.size := hc.lt
  have hrg : r < w2.heap.size := hc.rlt
  go_wp2
  go_loopw [6] (fun i wr => ∃ k : Nat, ∃ f : Nat → Int, ∃ c : Int, k ≤ len ∧ i = .int .i64 k ∧ Cel 56 wr b r 20 f c ∧ wr.rowIs w2.heap.size 51 20 (fun j => .int .i64 (f j)) ∧ Below w.heap.size w wr) (fun i _ => len - (intOf i).toNat)
  case atStart =>
    refine ⟨0, fun _ => 0, 0, Nat.zero_le _, rfl, hc.later ((Below.refl w2.heap.size w2).alloc (Nat.le_refl _) _) hbg hrg, ?_, (unhide hB2).trans (((Below.refl w2.heap.size w2).alloc (Nat.le_refl _) _).mono (unhide hB2).size)⟩
    have h := World.rowIs_alloc w2 (Array.replicate 20 (.int .i64 0)) 51 (fun _ => .int .i64 0) (by intro i hi; simp at hi; simp [hi])
    exact h
  case round =>
    obtain ⟨k, f, c, hk, rfl, hcr, hgr, hbr⟩ := hrel
    clear hc
    by_cases hlt : k < len
    · obtain ⟨b0, off, rfl, hb0, hcell⟩ := ((unhide hsb).later hbr).at hlt
      have c1 := hcell 1 (by decide)
      have c3 := hcell 3 (by decide)
      clear hcell
      have hbr' := hide hbr
      clear hbr
      obtain ⟨A, hA⟩ : ∃ A, A = Z k 1 := ⟨_, rfl⟩
      obtain ⟨V, hV⟩ : ∃ V, V = Z k 3 := ⟨_, rfl⟩
      rw [← hA] at c1
      rw [← hV] at c3
      clear hA hV
      by_cases hA : 0 ≤ A ∧ A ≤ 19
      · obtain ⟨t, rfl⟩ := Int.eq_ofNat_of_zero_le hA.1
        have ht : t < 20 := by omega
        have q1 : decide ((t : Int) < 0) = false := decide_eq_false (by omega)
        have q2 : decide ((19 : Int) < (t : Int)) = false := decide_eq_false (by omega)
        have E1 := hide (show errOf (hasB 20 t) = 0 by simp [errOf, hasB_yes (show (0 : Int) ≤ t by omega) (show (t : Int) < (20 : Nat) by omega)])
        clear hA
        go_wp2_with fail
        refine (store_any b r 20 _ _ t V wr hcr).mono ?_
        rw [unhide E1]
        rintro e w3 ⟨rfl, hc3, ht3⟩
        have hg3 := hgr.of_block (ht3.block w2.heap.size (by omega) (by omega))
        have hbel3 := (unhide hbr').trans (ht3.below hb' hr')
        have c3' := ((ht3.below hb' hr').cell (p := ⟨b0, off + k * 5 + 3, none⟩) hb0).trans c3
        have x1 := hg3.cell ht
        have x2 := hg3.frozen t
        have hgw : w.heap.size ≤ w2.heap.size := by omega
        have hbel4 := hide (hbel3.setCell (p := ⟨w2.heap.size, t, none⟩) hgw (.int .i64 V))
        have hg4 := hide ((hg3.set t (.int .i64 V)).congr (g := fun j => .int .i64 (setW f t V j)) (fun i _ => by rw [← setW_nat]; show (if i = t then Value.int .i64 V else .int .i64 (f i)) = .int .i64 (if i = t then V else f i); split <;> rfl))
        have hc4 := hide (hc3.of_blocks (w' := w3.setCell ⟨w2.heap.size, t, none⟩ (.int .i64 V)) (Below.heap_setCell _ _ _ _ (by show b ≠ w2.heap.size; omega)) (Below.heap_setCell _ _ _ _ (by show r ≠ w2.heap.size; omega)))
        clear c1 c3 hcr hgr ht3 hbel3 hg3 hc3
        go_wp2
        go_roundw
        case rel => exact ⟨k + 1, _, _, by omega, by go_num, unhide hc4, unhide hg4, unhide hbel4⟩
        case measure => simp [intOf]; omega
      · have E1 := hide (show errOf (hasB 20 A) = 1 by
          have : hasB 20 A = false := hasB_no.2 (by omega)
          simp [errOf, this])
        have key : A < 0 ∨ (decide (A < 0) = false ∧ 19 < A) := by
          by_cases h : A < 0
          · exact .inl h
          · exact .inr ⟨decide_eq_false h, by omega⟩
        have hno := hide (hasB_no.2 (show ¬ (0 ≤ A ∧ A < (20 : Nat)) by omega))
        clear hA
        rcases key with p1 | ⟨p0, p1⟩
        all_goals
          go_wp2_with fail
          refine (store_any b r 20 _ _ A V wr hcr).mono ?_
          rw [unhide E1]
          rintro e w3 ⟨rfl, hc3, ht3⟩
          have hg3 := hide (hgr.of_block (ht3.block w2.heap.size (by omega) (by omega)))
          have hbel3 := hide ((unhide hbr').trans (ht3.below hb' hr'))
          replace hc3 := hide (hc3.congr (g := f) (fun i hi => (setW_out (unhide hno) i hi).symm))
          clear c1 c3 hcr hgr ht3
          go_wp2
          go_roundw
          case rel => exact ⟨k + 1, _, _, by omega, by go_num, unhide hc3, unhide hg3, unhide hbel3⟩
          case measure => simp [intOf]; omega
    · obtain rfl : k = len := by omega
      have hbr' := hide hbr
      clear hbr
      have hgw : w.heap.size ≤ w2.heap.size := by omega
      go_wp2
      go_loopw [8] (fun i wq => ∃ q : Nat, ∃ c : Int, q ≤ 20 ∧ i = .int .i64 q ∧ Cel 56 wq b r 20 f c ∧ wq.rowIs w2.heap.size 51 20 (fun j => .int .i64 (f j)) ∧ Below w.heap.size w wq) (fun i _ => 20 - (intOf i).toNat)
      case atStart => exact ⟨0, c, by decide, rfl, hcr, hgr, unhide hbr'⟩
      case round =>
        clear hcr hgr
        obtain ⟨q, d, hq, rfl, hcq, hgq, hbq⟩ := hrel
        by_cases hlq : q < 20
        · have E1 := hide (show errOf (hasB 20 q) = 0 by simp [errOf, hasB_yes (show (0 : Int) ≤ q by omega) (show (q : Int) < (20 : Nat) by omega)])
          have E2 := hide (show wordD 20 f q = f q by simp [wordD, hasB_yes (show (0 : Int) ≤ q by omega) (show (q : Int) < (20 : Nat) by omega)])
          have hbq' := hide hbq
          clear hbq
          go_wp2_with fail
          refine (load_any b r 20 _ _ q _ hcq).mono ?_
          rw [unhide E1, unhide E2]
          rintro e w3 ⟨rfl, hc3, ht3⟩
          have hg3 := hgq.of_block (ht3.block w2.heap.size (by omega) (by omega))
          have hbel3 := hide ((unhide hbq').trans (ht3.below hb' hr'))
          have x1 := hg3.cell hlq
          have hg3' := hide hg3
          clear hcq hgq ht3 hg3
          go_wp2
          go_roundw
          case rel => exact ⟨q + 1, _, by omega, by go_num, hc3, unhide hg3', unhide hbel3⟩
          case measure => simp [intOf]; omega
        · obtain rfl : q = 20 := by omega
          have hbq' := hide hbq
          clear hbq
          go_wp2_with fail
          refine (first_any _).mono ?_
          rintro e w5 ⟨rfl, hb5⟩
          go_wp2
          go_ret
          exact ⟨rfl, bthen (unhide hbq') hb5 (Nat.le_refl _)⟩

set_option maxRecDepth 100000 in
theorem last_out (a : Option Addr) (len cap : Nat) (w : World) (hbad : (300 : Int) < (len : Int)) :
    Calls Try.prog 7 #[.slice a len cap] w fun e w' => e = .returned (.bool true) ∧ Below w.heap.size w w' := by
  go_enter Try.func7, Try.ntmps7
  go_wp2_with fail
  refine (first_any _).mono ?_
  rintro e w1 ⟨rfl, hb1⟩
  go_wp2_with fail
  refine (new_any 20 w1 (by decide)).mono ?_
  rintro e w2 ⟨b, r, rfl, hb, hr, hc, hbel⟩
  go_wp2_with fail
  refine (first_any _).mono ?_
  rintro e w3 ⟨rfl, hb3⟩
  go_wp2
  go_ret
  exact ⟨rfl, bthen (bthen hb1 hbel (Nat.le_refl _)) hb3 (Nat.le_refl _)⟩

theorem cellLast_walk (a0 : Option Addr) (len0 cap0 : Nat) (Z : Nat → Nat → Int) (w : World) (hs : RecsB 5 w.heap.size w a0 len0 Z) (_ : len0 ≤ cap0) (_ : cap0 ≤ maxLen) (_ : ∀ i, i < len0 → ∀ j, j < 5 → (Lit.int .i64 (Z i j)).wf = true) :
    Calls Try.prog 7 #[.slice a0 len0 cap0] w fun e w' => e = .returned (.bool true) ∧ Below w.heap.size w w' := by
  by_cases h : len0 ≤ 300
  · exact last_in a0 len0 cap0 Z w hs h
  · exact last_out a0 len0 cap0 w (by omega)
end Go.Proofs.Ytmaofephcfnlhaa
