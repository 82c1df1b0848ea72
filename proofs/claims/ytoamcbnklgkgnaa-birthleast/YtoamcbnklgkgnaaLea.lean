/- BirthLeast's walk. -/
import Derived.Test.YtoamcbnklgkgnaaDsk
namespace Go.Proofs.Ytoamcbnklgkgnaa
open Go.RowKit

theorem min_all : ∀ (l : List Int) (k : Nat), k < l.length → (∀ j, j < k + 1 → Lib.minOf (l.take (k + 1)) ≤ l.getD j 0) ∧ ∃ j, j < k + 1 ∧ l.getD j 0 = Lib.minOf (l.take (k + 1))
  | l, 0, h => by
    rw [Lib.minOf_one]
    exact ⟨fun j hj => by rw [show j = 0 by omega]; exact Int.le_refl _, 0, by omega, rfl⟩
  | l, k + 1, h => by
    obtain ⟨h1, j, h2, h3⟩ := min_all l k (by omega)
    have e := min_step l (k + 1) (by omega) h
    rw [e]
    by_cases c : l.getD (k + 1) 0 < Lib.minOf (l.take (k + 1))
    · rw [if_pos c]
      refine ⟨fun j hj => ?_, k + 1, by omega, rfl⟩
      rcases (show j < k + 1 ∨ j = k + 1 by omega) with h4 | rfl
      · have := h1 j h4; omega
      · exact Int.le_refl _
    · rw [if_neg c]
      refine ⟨fun j hj => ?_, j, by omega, h3⟩
      rcases (show j < k + 1 ∨ j = k + 1 by omega) with h4 | rfl
      · exact h1 j h4
      · omega
theorem min_facts {l : List Int} (h : 0 < l.length) : (∀ j, j < l.length → Lib.minOf l ≤ l.getD j 0) ∧ ∃ j, j < l.length ∧ l.getD j 0 = Lib.minOf l := by
  have := min_all l (l.length - 1) (by omega)
  rw [show l.length - 1 + 1 = l.length by omega, List.take_length] at this
  exact this
/-- One number more. -/
theorem min_more {l : List Int} (h : 0 < l.length) (x : Int) : Lib.minOf (l ++ [x]) = if x < Lib.minOf l then x else Lib.minOf l := by
  have e := min_step (l ++ [x]) l.length h (by simp)
  rw [List.take_left] at e
  have e2 : (l ++ [x]).take (l.length + 1) = l ++ [x] := List.take_of_length_le (by simp)
  have e3 : (l ++ [x]).getD l.length 0 = x := by simp [List.getD]
  rw [e2, e3] at e
  exact e
set_option maxRecDepth 100000 in
set_option maxHeartbeats 4000000 in
theorem least_in (a : Option Addr) (n cap : Nat) (l : List Int) (x : Int) (W : World) (s0 : SegK .i64 W a n l) (hnil : a = none → cap = 0) (h0 : 0 < n) (h1 : n ≤ 1000) :
    Calls Try.prog 5 #[.slice a n cap, .int .i64 x] W fun e w' => e = .returned (.bool true) ∧ Below W.heap.size W w' := by
  have hl : l.length = n := s0.1
  have k3 : (n : Int) ≤ 1000 := by omega
  have k4 : (0 : Int) < n := by omega
  obtain ⟨m, hm⟩ : ∃ m, m = Lib.minOf l := ⟨_, rfl⟩
  obtain ⟨lo, fd⟩ := min_facts (l := l) (by omega)
  rw [← hm] at lo fd
  have hV : leastV l = .tuple #[.int .i64 m, .bool true] := by unfold leastV; rw [if_neg (by omega), decide_eq_true (by omega), hm]
  have hX : leastV (l ++ [x]) = .tuple #[.int .i64 (if x < m then x else m), .bool true] := by
    unfold leastV
    rw [if_neg (by simp), decide_eq_true (by simp), min_more (by omega), ← hm]
  replace hV := hide hV
  replace hX := hide hX
  replace hl := hide hl
  replace lo := hide lo
  replace fd := hide fd
  replace hm := hide hm
  replace hnil := hide hnil
  replace s0 := hide s0
  go_enter Try.func5, Try.ntmps5
  go_wp2_with fail
  refine (first_any W).mono ?_
  rintro e w1 ⟨rfl, b1⟩
  have s1 := hide ((unhide s0).later b1)
  replace b1 := hide b1
  go_wp2_with fail
  refine (least_any a n cap l w1 (unhide s1) (by omega)).mono ?_
  rw [unhide hV]
  rintro e w2 ⟨rfl, rfl⟩
  go_wp2_with fail
  go_loopw [7, 8] (fun f s wr => ∃ (i : Nat) (v : Bool), i ≤ n ∧ f = .bool v ∧ s = .int .i64 i ∧ Hid (v = true ↔ ∃ j, j < i ∧ l.getD j 0 = m) ∧ wr = w2) (fun _ s _ => n - (intOf s).toNat)
  case atStart => exact ⟨0, false, Nat.zero_le _, rfl, rfl, ⟨fun h => by (cases h), fun ⟨j, h, _⟩ => by omega⟩, rfl⟩
  case round =>
    obtain ⟨i, v, hi, rfl, rfl, hv, rfl⟩ := hrel
    by_cases hlt : i < n
    · obtain ⟨b, off, rfl, hc⟩ := (unhide s1).at hlt
      have hlo := unhide lo i (by rw [unhide hl]; exact hlt)
      obtain ⟨y, hy⟩ : ∃ y, y = l.getD i 0 := ⟨_, rfl⟩
      rw [← hy] at hc hlo
      have hlo2 : ¬ y < m := by omega
      have hv2 : Hid ((v || y == m) = true ↔ ∃ j, j < i + 1 ∧ l.getD j 0 = m) := by
        constructor
        · intro h
          rw [Bool.or_eq_true] at h
          rcases h with h | h
          · obtain ⟨j, h1, h2⟩ := (unhide hv).1 h
            exact ⟨j, by omega, h2⟩
          · exact ⟨i, by omega, by rw [← hy]; exact beq_iff_eq.1 h⟩
        · rintro ⟨j, h1, h2⟩
          rw [Bool.or_eq_true]
          rcases (show j < i ∨ j = i by omega) with h3 | rfl
          · exact .inl ((unhide hv).2 ⟨j, h3, h2⟩)
          · exact .inr (beq_iff_eq.2 (by rw [hy]; exact h2))
      replace hy := hide hy
      replace hlo := hide hlo
      cases v with
      | true =>
        go_wp2
        go_roundw
        case rel => exact ⟨i + 1, true, by omega, rfl, by go_num, by have := unhide hv2; rw [Bool.true_or] at this; exact this, trivial⟩
        case measure => simp [intOf]; omega
      | false =>
        go_wp2
        go_roundw
        case rel => exact ⟨i + 1, y == m, by omega, rfl, by go_num, by have := unhide hv2; rw [Bool.false_or] at this; exact this, trivial⟩
        case measure => simp [intOf]; omega
    · obtain rfl : i = n := by omega
      obtain rfl : v = true := (unhide hv).2 (by obtain ⟨j, h1, h2⟩ := unhide fd; exact ⟨j, by rw [← unhide hl]; exact h1, h2⟩)
      clear hv
      obtain ⟨M, hM⟩ : ∃ M, M = wr.heap.size := ⟨_, rfl⟩
      obtain ⟨w4, hw4⟩ : ∃ w4, w4 = wr.alloc (.cells #[] 3) := ⟨_, rfl⟩
      have bw4 : Below wr.heap.size wr w4 := by rw [hw4]; exact below_new wr _
      have own1 : Hid ((wr.alloc (.cells #[] 3)).ownsRow M 3 1 (.slice (some ⟨wr.heap.size, 0, none⟩) 0 0) 0 (vals [])) := by
        rw [hM]
        exact ⟨rfl, .inr ⟨wr.heap.size, 0, #[], rfl, Nat.le_refl _, heap_alloc_new wr _, Nat.le_refl _, by decide, rfl, rfl⟩⟩
      have seg4 := hide ((unhide s1).later bw4)
      have B4 := hide (below_then (unhide b1) bw4)
      have hM4 : Hid (M ≤ w4.heap.size) := by rw [hM]; exact bw4.size
      have hMW : Hid (W.heap.size ≤ M) := by rw [hM]; exact (unhide b1).size
      have hM5 : Hid (wr.heap.size = M) := hM.symm
      clear bw4
      rw [hw4] at seg4 B4 hM4
      clear hw4 hM
      go_wp2_with (at_builtin; first
        | (refine wpList_append_seg _ (by rfl) (.tmp 56) (.tmp 57) rfl M _ 0 [] rfl (unhide own1) a i cap l rfl (unhide seg4) (unhide hnil) (by omega) (unhide hM4) ?_; intro v5 w5 o5 g5; have I5 : Is M v5 l w5 := (by have h := o5; rw [List.nil_append, Nat.zero_add, ← unhide hl] at h; exact h); obtain ⟨ag, cg, hag⟩ := I5.form; rw [unhide hl] at hag; subst hag; replace I5 := hide I5; have B5 := hide ((unhide B4).trans ((grown_below g5 (unhide hM4) (fun k hk => by have e2 : some wr.heap.size = some k := hk; injection e2 with e3; rw [← e3, unhide hM5]; exact Nat.le_refl _)).mono (unhide hMW))); have hM6 := hide (Nat.le_trans (unhide hM4) g5.size); clear o5 g5 own1 seg4)
        | (refine wpList_push w5 rfl (.tmp 58) (.tmp 60) rfl M ag i cg l x _ rfl rfl rfl (unhide hl) (unhide I5) (unhide hM6) (by omega) ?_; intro g7 cap7 w7 a1 a2; have B7 := hide ((unhide B5).trans ((grown_below a2 (unhide hM6) (fun k hk => by have h9 := (World.ownsRow.lt (unhide I5) k hk).1; exact h9)).mono (unhide hMW))); replace a1 := hide a1; clear a2))
      have seg7 : Hid (SegK .i64 w7 (some ⟨g7, 0, none⟩) (i + 1) (l ++ [x])) := by
        obtain ⟨a', c', e, sg⟩ := (unhide a1).rd
        injection e with e1 e2 e3
        rw [e1, e2]
        exact sg
      refine (least_any _ (i + 1) cap7 (l ++ [x]) w7 (unhide seg7) (by omega)).mono ?_
      rw [unhide hX]
      rintro e w8 ⟨rfl, rfl⟩
      have C2 := hide (first_any w8)
      by_cases c : x < m
      · have cx : (if x < m then x else m) = x := if_pos c
        rw [cx]
        have c2 : x ≤ m := by omega
        have c3 : (x == m) = false := beq_eq_false_iff_ne.2 (by omega)
        clear cx
        go_wp2_with fail
        refine (unhide C2).mono ?_
        rintro e w9 ⟨rfl, b9⟩
        replace b9 := hide (below_then (unhide B7) b9)
        clear C2
        go_wp2
        go_ret
        exact ⟨rfl, unhide b9⟩
      · have cx : (if x < m then x else m) = m := if_neg c
        rw [cx]
        clear cx
        go_wp2_with fail
        refine (unhide C2).mono ?_
        rintro e w9 ⟨rfl, b9⟩
        replace b9 := hide (below_then (unhide B7) b9)
        clear C2
        go_wp2
        go_ret
        exact ⟨rfl, unhide b9⟩
theorem birthLeast_walk (a0 : Option Addr) (len0 cap0 : Nat) (l0 : List Int) (a1 : Int) (W : World) (s0 : SegK .i64 W a0 len0 l0) (_lc0 : len0 ≤ cap0) (_cm0 : cap0 ≤ maxLen) (nil0 : a0 = none → cap0 = 0) (_wz0 : ∀ z ∈ l0, (Lit.int .i64 z).wf = true) (_w1 : (Lit.int .i64 a1).wf = true) :
    Calls Try.prog 5 #[.slice a0 len0 cap0, .int .i64 a1] W fun e w' => e = .returned (.bool true) ∧ Below W.heap.size W w' := by
  by_cases g0 : 1000 < len0
  · have C1 := hide (first_any W)
    have g1 : (1000 : Int) < (len0 : Int) := by omega
    replace s0 := hide s0
    replace nil0 := hide nil0
    go_enter Try.func5, Try.ntmps5
    go_wp2_with fail
    refine (unhide C1).mono ?_
    rintro e w1 ⟨rfl, b1⟩
    clear C1
    have C2 := hide (first_any w1)
    go_wp2_with fail
    refine (unhide C2).mono ?_
    rintro e w2 ⟨rfl, b2⟩
    replace b2 := hide (below_then b1 b2)
    clear C2
    go_wp2
    go_ret
    exact ⟨rfl, unhide b2⟩
  by_cases g2 : len0 = 0
  · subst g2
    obtain rfl : l0 = [] := List.eq_nil_of_length_eq_zero s0.1
    have C1 := hide (first_any W)
    have hV : leastV [] = .tuple #[.int .i64 0, .bool false] := by unfold leastV; rfl
    replace hV := hide hV
    replace s0 := hide s0
    replace nil0 := hide nil0
    go_enter Try.func5, Try.ntmps5
    go_wp2_with fail
    refine (unhide C1).mono ?_
    rintro e w1 ⟨rfl, b1⟩
    clear C1
    go_wp2_with fail
    refine (least_any a0 0 cap0 [] w1 ⟨rfl, .inl rfl⟩ (by decide)).mono ?_
    rw [unhide hV]
    rintro e w2 ⟨rfl, rfl⟩
    have C2 := hide (first_any w2)
    go_wp2_with fail
    refine (unhide C2).mono ?_
    rintro e w3 ⟨rfl, b3⟩
    replace b3 := hide (below_then b1 b3)
    clear C2
    go_wp2
    go_ret
    exact ⟨rfl, unhide b3⟩
  exact least_in a0 len0 cap0 l0 a1 W s0 nil0 (by omega) (by omega)
end Go.Proofs.Ytoamcbnklgkgnaa
