/- The walk of CellSwaps: it answers true. -/
import Derived.Test.YtmaofephcfnlhaaRow
namespace Go.Proofs.Ytmaofephcfnlhaa
open Go.RowKit

/-- Two words. -/
def two (x s : Int) : Nat → Int := fun j => if j = 0 then x else s
theorem two_cases {P : Nat → Prop} (h0 : P 0) (h1 : P 1) : ∀ i, i < 2 → P i := fun i hi => by
  match i, hi with
  | 0, _ => exact h0
  | 1, _ => exact h1
theorem two_store (x : Int) : ∀ i, i < 2 → setW (fun _ => 0) 0 x i = two x 0 i := two_cases rfl rfl
theorem two_swap (x s v : Int) : ∀ i, i < 2 → swapW 2 (two x s) 0 x v i = two v s i := two_cases (by simp [swapW, swapB, hasB, two, setW]) (by simp [swapW, swapB, hasB, two, setW])
theorem two_stay (x s old v : Int) (h : x ≠ old) : ∀ i, i < 2 → swapW 2 (two x s) 0 old v i = two x s i := two_cases (by simp [swapW, swapB, hasB, two, h]) (by simp [swapW, swapB, hasB, two, h])
theorem two_add (x s v : Int) : ∀ i, i < 2 → addW (two x s) 1 v i = two x (wrap64 (s + v)) i := two_cases (by simp [addW, two, setW]) (by simp [addW, two, setW])
theorem two_swapB (x s : Int) : swapB 2 (two x s) 0 x = true := by simp [swapB, hasB, two]
theorem two_stayB (x s old : Int) (h : x ≠ old) : swapB 2 (two x s) 0 old = false := by simp [swapB, hasB, two, h]
theorem two_addD (x s v : Int) : addD 2 (two x s) 1 v = wrap64 (s + v) := by simp [addD, hasB, two]
theorem two_word (x s : Int) : wordD 2 (two x s) 0 = x := by simp [wordD, hasB, two]
theorem two_err0 : errOf (hasB 2 0) = 0 := rfl
theorem two_err1 : errOf (hasB 2 1) = 0 := rfl

set_option maxRecDepth 100000 in
theorem swaps_out (old : Int) (a : Option Addr) (len cap : Nat) (w : World) (hbad : (100 : Int) < (len : Int)) :
    Calls Try.prog 5 #[.int .i64 old, .slice a len cap] w fun e w' => e = .returned (.bool true) ∧ Below w.heap.size w w' := by
  go_enter Try.func5, Try.ntmps5
  go_wp2_with fail
  refine (first_any _).mono ?_
  rintro e w1 ⟨rfl, hb1⟩
  go_wp2_with fail
  refine (new_any 2 w1 (by decide)).mono ?_
  rintro e w2 ⟨b, r, rfl, hb, hr, hc, hbel⟩
  go_wp2_with fail
  refine (first_any _).mono ?_
  rintro e w3 ⟨rfl, hb3⟩
  go_wp2
  go_ret
  exact ⟨rfl, bthen (bthen hb1 hbel (Nat.le_refl _)) hb3 (Nat.le_refl _)⟩

set_option maxRecDepth 100000 in
set_option maxHeartbeats 2000000 in
theorem swaps_in (old : Int) (a : Option Addr) (len cap : Nat) (l : List Int) (w : World) (hs : SegK .i64 w a len l) (h1 : len ≤ 100) :
    Calls Try.prog 5 #[.int .i64 old, .slice a len cap] w fun e w' => e = .returned (.bool true) ∧ Below w.heap.size w w' := by
  have d1 : decide ((100 : Int) < (len : Int)) = false := decide_eq_false (by omega)
  have hsb := hide hs.low
  have hlen := hide hs.1
  clear hs
  go_enter Try.func5, Try.ntmps5
  go_wp2_with fail
  refine (first_any _).mono ?_
  rintro e w1 ⟨rfl, hb1⟩
  go_wp2_with fail
  refine (new_any 2 w1 (by decide)).mono ?_
  rintro e w2 ⟨b, r, rfl, hb, hr, hc, hbel2⟩
  have hb' : w.heap.size ≤ b := Nat.le_trans hb1.size hb
  have hr' : w.heap.size ≤ r := Nat.le_trans hb1.size hr
  have hB2 := hide (bthen hb1 hbel2 (Nat.le_refl _))
  clear hb1 hbel2 hb hr
  go_wp2_with fail
  refine (store_any b r 2 _ _ 0 old w2 hc).mono ?_
  rw [two_err0]
  rintro e w3 ⟨rfl, hc3, ht3⟩
  replace hc3 := hc3.congr (two_store old)
  have hB := hide ((unhide hB2).trans (ht3.below hb' hr'))
  clear hc hB2 ht3
  go_wp2_with fail
  go_loopw [7, 8, 9] (fun u s i wr => ∃ k : Nat, ∃ x c : Int, k ≤ len ∧ i = .int .i64 k ∧ s = .int .i64 (sumTo l k) ∧ ((u = .int .i64 0 ∧ x = old) ∨ (u = .int .i64 1 ∧ x ≠ old)) ∧ Cel 56 wr b r 2 (two x (sumTo l k)) c ∧ Below w.heap.size w wr) (fun _ _ i _ => len - (intOf i).toNat)
  case atStart =>
    exact ⟨0, old, _, Nat.zero_le _, rfl, rfl, .inl ⟨rfl, rfl⟩, by rw [sumTo_zero]; exact hc3, unhide hB⟩
  case round =>
    obtain ⟨k, x, c, hk, rfl, rfl, hu, hcr, hbr⟩ := hrel
    by_cases hlt : k < len
    · obtain ⟨b0, off, rfl, hb0, hcell⟩ := ((unhide hsb).later hbr).at hlt
      have hsum := hide (sumTo_succ l k (by rw [unhide hlen]; exact hlt))
      obtain ⟨y, hy⟩ : ∃ y, y = l.getD k 0 := ⟨_, rfl⟩
      rw [← hy] at hcell hsum
      clear hy
      obtain ⟨s, hs⟩ : ∃ s, s = sumTo l k := ⟨_, rfl⟩
      rw [← hs] at hcr hsum
      rw [← hs]
      clear hs
      have hbr' := hide hbr
      clear hbr
      have e0 := two_word x s
      rcases hu with ⟨rfl, rfl⟩ | ⟨rfl, hne⟩
      · clear e0
        by_cases hyx : y = x
        · have q1 : (y != x) = false := by simp [hyx]
          have hyx' := hide hyx
          clear hyx
          go_wp2_with fail
          refine (peek_any b r 2 _ _ 0 wr hcr).mono ?_
          rw [two_word]
          rintro e w4 ⟨rfl, rfl⟩
          go_wp2_with fail
          refine (swap_any b r 2 _ _ 0 x y w4 hcr).mono ?_
          rw [two_swapB, two_err0]
          rintro e w5 ⟨rfl, hc5, ht5⟩
          replace hc5 := hc5.congr (two_swap x s y)
          have hcell5 := ((ht5.below hb' hr').cell (p := ⟨b0, off + k, none⟩) hb0).trans hcell
          clear hcell
          go_wp2_with fail
          refine (add_any b r 2 _ _ 1 y w5 hc5).mono ?_
          rw [two_addD, two_err1]
          rintro e w6 ⟨rfl, hc6, ht6⟩
          replace hc6 := hc6.congr (two_add y s y)
          have hbel6 := hide ((unhide hbr').trans ((ht5.trans ht6).below hb' hr'))
          clear ht5 ht6 hc5 hcr hc3
          go_wp2
          go_roundw
          case rel => exact ⟨k + 1, y, _, by omega, by go_num, by rw [unhide hsum], .inl ⟨rfl, unhide hyx'⟩, by rw [unhide hsum]; exact hc6, unhide hbel6⟩
          case measure => simp [intOf]; omega
        · have q1 : (y != x) = true := by simp [hyx]
          have hyx' := hide hyx
          clear hyx
          go_wp2_with fail
          refine (peek_any b r 2 _ _ 0 wr hcr).mono ?_
          rw [two_word]
          rintro e w4 ⟨rfl, rfl⟩
          go_wp2_with fail
          refine (swap_any b r 2 _ _ 0 x y w4 hcr).mono ?_
          rw [two_swapB, two_err0]
          rintro e w5 ⟨rfl, hc5, ht5⟩
          replace hc5 := hc5.congr (two_swap x s y)
          have hcell5 := ((ht5.below hb' hr').cell (p := ⟨b0, off + k, none⟩) hb0).trans hcell
          clear hcell
          go_wp2_with fail
          refine (add_any b r 2 _ _ 1 y w5 hc5).mono ?_
          rw [two_addD, two_err1]
          rintro e w6 ⟨rfl, hc6, ht6⟩
          replace hc6 := hc6.congr (two_add y s y)
          have hbel6 := hide ((unhide hbr').trans ((ht5.trans ht6).below hb' hr'))
          clear ht5 ht6 hc5 hcr hc3
          go_wp2
          go_roundw
          case rel => exact ⟨k + 1, y, _, by omega, by go_num, by rw [unhide hsum], .inr ⟨rfl, unhide hyx'⟩, by rw [unhide hsum]; exact hc6, unhide hbel6⟩
          case measure => simp [intOf]; omega
      · have q1 : (x == old) = false := by simp [hne]
        have hne' := hide hne
        clear hne e0
        go_wp2_with fail
        refine (peek_any b r 2 _ _ 0 wr hcr).mono ?_
        rw [two_word]
        rintro e w4 ⟨rfl, rfl⟩
        go_wp2_with fail
        refine (swap_any b r 2 _ _ 0 old y w4 hcr).mono ?_
        rw [two_stayB x s old (unhide hne'), two_err0]
        rintro e w5 ⟨rfl, hc5, ht5⟩
        replace hc5 := hc5.congr (two_stay x s old y (unhide hne'))
        have hcell5 := ((ht5.below hb' hr').cell (p := ⟨b0, off + k, none⟩) hb0).trans hcell
        clear hcell
        go_wp2_with fail
        refine (add_any b r 2 _ _ 1 y w5 hc5).mono ?_
        rw [two_addD, two_err1]
        rintro e w6 ⟨rfl, hc6, ht6⟩
        replace hc6 := hc6.congr (two_add x s y)
        have hbel6 := hide ((unhide hbr').trans ((ht5.trans ht6).below hb' hr'))
        clear ht5 ht6 hc5 hcr hc3
        go_wp2
        go_roundw
        case rel => exact ⟨k + 1, x, _, by omega, by go_num, by rw [unhide hsum], .inr ⟨rfl, unhide hne'⟩, by rw [unhide hsum]; exact hc6, unhide hbel6⟩
        case measure => simp [intOf]; omega
    · obtain rfl : k = len := by omega
      have hbr' := hide hbr
      clear hbr hc3
      rcases hu with ⟨rfl, rfl⟩ | ⟨rfl, hne⟩
      · go_wp2_with fail
        refine (first_any _).mono ?_
        rintro e w5 ⟨rfl, hb5⟩
        have hc5 := hcr.later hb5 hcr.lt hcr.rlt
        go_wp2_with fail
        refine (peek_any b r 2 _ _ 0 w5 hc5).mono ?_
        rw [two_word]
        rintro e w6 ⟨rfl, rfl⟩
        go_wp2
        go_ret
        exact ⟨rfl, bthen (unhide hbr') hb5 (Nat.le_refl _)⟩
      · have q1 : (x == old) = false := by simp [hne]
        clear hne
        go_wp2_with fail
        refine (first_any _).mono ?_
        rintro e w5 ⟨rfl, hb5⟩
        have hc5 := hcr.later hb5 hcr.lt hcr.rlt
        go_wp2_with fail
        refine (peek_any b r 2 _ _ 0 w5 hc5).mono ?_
        rw [two_word]
        rintro e w6 ⟨rfl, rfl⟩
        go_wp2
        go_ret
        exact ⟨rfl, bthen (unhide hbr') hb5 (Nat.le_refl _)⟩

theorem cellSwaps_walk (a0 : Int) (a1 : Option Addr) (len1 cap1 : Nat) (l : List Int) (w : World) (_ : (Lit.int .i64 a0).wf = true) (hs : SegK .i64 w a1 len1 l) (_ : len1 ≤ cap1) (_ : cap1 ≤ maxLen) (_ : ∀ n ∈ l, (Lit.int .i64 n).wf = true) :
    Calls Try.prog 5 #[.int .i64 a0, .slice a1 len1 cap1] w fun e w' => e = .returned (.bool true) ∧ Below w.heap.size w w' := by
  by_cases h : len1 ≤ 100
  · exact swaps_in a0 a1 len1 cap1 l w hs h
  · exact swaps_out a0 a1 len1 cap1 w (by omega)
end Go.Proofs.Ytmaofephcfnlhaa
