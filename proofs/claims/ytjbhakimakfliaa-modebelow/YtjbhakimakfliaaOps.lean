/- Package mode and the reference: Fits, Covers, Intent, Reads, Writes; the statements' own 'first'. -/
import Derived.Test.YtjbhakimakfliaaLeaf
namespace Go.Proofs.Ytjbhakimakfliaa
open Go.RowKit

theorem seg1 (w : World) (x : Int) : SegK .i64 (w.alloc (.cells #[.int .i64 x] 3)) (some ⟨w.heap.size, 0, none⟩) 1 [x] := seg_new w [x]
theorem seg2 (w : World) (x y : Int) : SegK .i64 (w.alloc (.cells #[.int .i64 x, .int .i64 y] 3)) (some ⟨w.heap.size, 0, none⟩) 2 [x, y] := seg_new w [x, y]
theorem seg3 (w : World) (x y z : Int) : SegK .i64 (w.alloc (.cells #[.int .i64 x, .int .i64 y, .int .i64 z] 3)) (some ⟨w.heap.size, 0, none⟩) 3 [x, y, z] := seg_new w [x, y, z]
theorem seg5 (w : World) (x y z u v : Int) : SegK .i64 (w.alloc (.cells #[.int .i64 x, .int .i64 y, .int .i64 z, .int .i64 u, .int .i64 v] 3)) (some ⟨w.heap.size, 0, none⟩) 5 [x, y, z, u, v] := seg_new w [x, y, z, u, v]

/-- What fits. -/
def fitsB (a b : Int) : Bool :=
  if a == 0 then knownB b else if a == 1 then hasB b [0, 1, 2, 3, 4] else if a == 2 then hasB b [0, 1, 2] else if a == 3 then hasB b [0, 1, 3] else if a == 4 then hasB b [0, 1] else if a == 5 then hasB b [0] else false
theorem fits_any (a b : Int) (w : World) : Calls Try.prog 12 #[.int .i64 a, .int .i64 b] w fun e w' => e = .returned (.bool (fitsB a b)) ∧ Below w.heap.size w w' := by
  rcases Bool.eq_false_or_eq_true (a == 0) with h0 | h0
  · have E := hide (show fitsB a b = knownB b by simp only [fitsB, h0]; rfl)
    go_enter Try.func12, Try.ntmps12
    go_wp2_with fail
    refine (known_any b _).mono ?_
    rintro e w' ⟨rfl, rfl⟩
    go_wp2
    go_ret
    exact ⟨ret_bool (unhide E).symm, Below.refl _ _⟩
  rcases Bool.eq_false_or_eq_true (a == 1) with h1 | h1
  · have E := hide (show fitsB a b = hasB b [0, 1, 2, 3, 4] by simp only [fitsB, h0, h1]; rfl)
    go_enter Try.func12, Try.ntmps12
    go_wp2_with fail
    refine (oneOf_any b _ _ _ [0, 1, 2, 3, 4] _ (seg5 w 0 1 2 3 4) (by decide)).mono ?_
    rintro e w' ⟨rfl, rfl⟩
    go_wp2
    go_ret
    exact ⟨ret_bool (unhide E).symm, below_new _ _⟩
  rcases Bool.eq_false_or_eq_true (a == 2) with h2 | h2
  · have E := hide (show fitsB a b = hasB b [0, 1, 2] by simp only [fitsB, h0, h1, h2]; rfl)
    go_enter Try.func12, Try.ntmps12
    go_wp2_with fail
    refine (oneOf_any b _ _ _ [0, 1, 2] _ (seg3 w 0 1 2) (by decide)).mono ?_
    rintro e w' ⟨rfl, rfl⟩
    go_wp2
    go_ret
    exact ⟨ret_bool (unhide E).symm, below_new _ _⟩
  rcases Bool.eq_false_or_eq_true (a == 3) with h3 | h3
  · have E := hide (show fitsB a b = hasB b [0, 1, 3] by simp only [fitsB, h0, h1, h2, h3]; rfl)
    go_enter Try.func12, Try.ntmps12
    go_wp2_with fail
    refine (oneOf_any b _ _ _ [0, 1, 3] _ (seg3 w 0 1 3) (by decide)).mono ?_
    rintro e w' ⟨rfl, rfl⟩
    go_wp2
    go_ret
    exact ⟨ret_bool (unhide E).symm, below_new _ _⟩
  rcases Bool.eq_false_or_eq_true (a == 4) with h4 | h4
  · have E := hide (show fitsB a b = hasB b [0, 1] by simp only [fitsB, h0, h1, h2, h3, h4]; rfl)
    go_enter Try.func12, Try.ntmps12
    go_wp2_with fail
    refine (oneOf_any b _ _ _ [0, 1] _ (seg2 w 0 1) (by decide)).mono ?_
    rintro e w' ⟨rfl, rfl⟩
    go_wp2
    go_ret
    exact ⟨ret_bool (unhide E).symm, below_new _ _⟩
  rcases Bool.eq_false_or_eq_true (a == 5) with h5 | h5
  · have E := hide (show fitsB a b = hasB b [0] by simp only [fitsB, h0, h1, h2, h3, h4, h5]; rfl)
    go_enter Try.func12, Try.ntmps12
    go_wp2_with fail
    refine (oneOf_any b _ _ _ [0] _ (seg1 w 0) (by decide)).mono ?_
    rintro e w' ⟨rfl, rfl⟩
    go_wp2
    go_ret
    exact ⟨ret_bool (unhide E).symm, below_new _ _⟩
  have E := hide (show fitsB a b = false by simp only [fitsB, h0, h1, h2, h3, h4, h5]; rfl)
  go_enter Try.func12, Try.ntmps12
  go_wp2
  go_ret
  exact ⟨ret_bool (unhide E).symm, Below.refl _ _⟩

/-- What covers. -/
def coversB (h t : Int) : Bool := knownB t && (joinD (joinD 0 h) t == h)
theorem supL_two (h t : Int) : supL [h, t] = joinD (joinD 0 h) t := rfl
theorem supL_three (h t c : Int) : supL [h, t, c] = joinD (joinD (joinD 0 h) t) c := rfl
theorem supL_one (h : Int) : supL [h] = joinD 0 h := rfl
theorem covers_any (h t : Int) (w : World) : Calls Try.prog 14 #[.int .i64 h, .int .i64 t] w fun e w' => e = .returned (.bool (coversB h t)) ∧ Below w.heap.size w w' := by
  cases hk : knownB t
  · have E := hide (show coversB h t = false by simp [coversB, hk])
    have K := hide hk
    clear hk
    go_enter Try.func14, Try.ntmps14
    go_wp2_with fail
    refine (known_any t _).mono ?_
    rw [unhide K]
    rintro e w' ⟨rfl, rfl⟩
    go_wp2
    go_ret
    exact ⟨ret_bool (unhide E).symm, Below.refl _ _⟩
  · have E := hide (show coversB h t = (supL [h, t] == h) by simp [coversB, hk, supL_two])
    have K := hide hk
    clear hk
    go_enter Try.func14, Try.ntmps14
    go_wp2_with fail
    refine (known_any t _).mono ?_
    rw [unhide K]
    rintro e w' ⟨rfl, rfl⟩
    go_wp2_with fail
    refine (sup_any _ _ _ [h, t] _ (seg2 _ h t) (by decide)).mono ?_
    rintro e w' ⟨rfl, rfl⟩
    go_wp2
    go_ret
    exact ⟨ret_bool (unhide E).symm, below_new _ _⟩
theorem covers_known {h t : Int} (e : coversB h t = true) : knownB h = true := by
  unfold coversB at e
  rw [Bool.and_eq_true] at e
  obtain ⟨e1, e2⟩ := e
  have := of_decide_eq_true (show decide (joinD (joinD 0 h) t = h) = true from by simpa using e2)
  rw [known_iff] at *
  unfold joinD at this
  rw [if_pos (known_iff.2 e1)] at this
  by_cases hk : knownB h = true
  · exact known_iff.1 hk
  · rw [Bool.not_eq_true] at hk
    rw [hk] at this
    simp at this
    omega
theorem rcovers_any (h t : Int) (w : World) : Calls Try.prog 15 #[.int .i64 h, .int .i64 t] w fun e w' => e = .returned (.bool (coversB h t)) ∧ Below w.heap.size w w' := by
  cases hh : knownB h
  · have E := hide (show coversB h t = false by
      cases hc : coversB h t
      · rfl
      · rw [covers_known hc] at hh; exact hh)
    have K := hide hh
    clear hh
    go_enter Try.func15, Try.ntmps15
    go_wp2_with fail
    refine (mode_any h _).mono ?_
    rw [unhide K]
    rintro e w' ⟨rfl, rfl⟩
    go_wp2
    go_ret
    exact ⟨ret_bool (unhide E).symm, Below.refl _ _⟩
  have K' := hide hh
  clear hh
  cases hk : knownB t
  · have E := hide (show coversB h t = false by simp [coversB, hk])
    have K := hide hk
    clear hk
    go_enter Try.func15, Try.ntmps15
    go_wp2_with fail
    refine (mode_any h _).mono ?_
    rw [unhide K']
    rintro e w' ⟨rfl, rfl⟩
    go_wp2_with fail
    refine (mode_any t _).mono ?_
    rw [unhide K]
    rintro e w' ⟨rfl, rfl⟩
    go_wp2
    go_ret
    exact ⟨ret_bool (unhide E).symm, Below.refl _ _⟩
  · have E := hide (show coversB h t = (supL [h, t] == h) by simp [coversB, hk, supL_two])
    have K := hide hk
    clear hk
    go_enter Try.func15, Try.ntmps15
    go_wp2_with fail
    refine (mode_any h _).mono ?_
    rw [unhide K']
    rintro e w' ⟨rfl, rfl⟩
    go_wp2_with fail
    refine (mode_any t _).mono ?_
    rw [unhide K]
    rintro e w' ⟨rfl, rfl⟩
    go_wp2_with fail
    refine (rsup_any _ _ _ [h, t] _ (seg2 _ h t) (by decide)).mono ?_
    rintro e w' ⟨rfl, rfl⟩
    go_wp2
    go_ret
    exact ⟨ret_bool (unhide E).symm, below_new _ _⟩

/-- How what lies above is held. -/
def intentD (m : Int) : Int := if m == 1 then 1 else if m == 3 then 1 else if m == 2 then 2 else if m == 4 then 2 else if m == 5 then 2 else 0
theorem intent_any (m : Int) (w : World) : Calls Try.prog 18 #[.int .i64 m] w fun e w' => e = .returned (.int .i64 (intentD m)) ∧ w' = w := by
  rcases Bool.eq_false_or_eq_true (m == 1) with h1 | h1
  · have E := hide (show intentD m = 1 by simp only [intentD, h1]; rfl)
    go_enter Try.func18, Try.ntmps18
    go_wp2
    go_ret
    exact ⟨ret_int (unhide E).symm, rfl⟩
  rcases Bool.eq_false_or_eq_true (m == 3) with h3 | h3
  · have E := hide (show intentD m = 1 by simp only [intentD, h1, h3]; rfl)
    go_enter Try.func18, Try.ntmps18
    go_wp2
    go_ret
    exact ⟨ret_int (unhide E).symm, rfl⟩
  rcases Bool.eq_false_or_eq_true (m == 2) with h2 | h2
  · have E := hide (show intentD m = 2 by simp only [intentD, h1, h3, h2]; rfl)
    go_enter Try.func18, Try.ntmps18
    go_wp2
    go_ret
    exact ⟨ret_int (unhide E).symm, rfl⟩
  rcases Bool.eq_false_or_eq_true (m == 4) with h4 | h4
  · have E := hide (show intentD m = 2 by simp only [intentD, h1, h3, h2, h4]; rfl)
    go_enter Try.func18, Try.ntmps18
    go_wp2
    go_ret
    exact ⟨ret_int (unhide E).symm, rfl⟩
  rcases Bool.eq_false_or_eq_true (m == 5) with h5 | h5
  · have E := hide (show intentD m = 2 by simp only [intentD, h1, h3, h2, h4, h5]; rfl)
    go_enter Try.func18, Try.ntmps18
    go_wp2
    go_ret
    exact ⟨ret_int (unhide E).symm, rfl⟩
  have E := hide (show intentD m = 0 by simp only [intentD, h1, h3, h2, h4, h5]; rfl)
  go_enter Try.func18, Try.ntmps18
  go_wp2
  go_ret
  exact ⟨ret_int (unhide E).symm, rfl⟩
theorem rintent_any (m : Int) (w : World) : Calls Try.prog 19 #[.int .i64 m] w fun e w' => e = .returned (.int .i64 (intentD m)) ∧ w' = w := by
  rcases Bool.eq_false_or_eq_true (m == 1) with h1 | h1
  · have E := hide (show intentD m = 1 by simp only [intentD, h1]; rfl)
    go_enter Try.func19, Try.ntmps19
    go_wp2
    go_ret
    exact ⟨ret_int (unhide E).symm, rfl⟩
  rcases Bool.eq_false_or_eq_true (m == 3) with h3 | h3
  · have E := hide (show intentD m = 1 by simp only [intentD, h1, h3]; rfl)
    go_enter Try.func19, Try.ntmps19
    go_wp2
    go_ret
    exact ⟨ret_int (unhide E).symm, rfl⟩
  rcases Bool.eq_false_or_eq_true (m == 2) with h2 | h2
  · have E := hide (show intentD m = 2 by simp only [intentD, h1, h3, h2]; rfl)
    go_enter Try.func19, Try.ntmps19
    go_wp2
    go_ret
    exact ⟨ret_int (unhide E).symm, rfl⟩
  rcases Bool.eq_false_or_eq_true (m == 4) with h4 | h4
  · have E := hide (show intentD m = 2 by simp only [intentD, h1, h3, h2, h4]; rfl)
    go_enter Try.func19, Try.ntmps19
    go_wp2
    go_ret
    exact ⟨ret_int (unhide E).symm, rfl⟩
  rcases Bool.eq_false_or_eq_true (m == 5) with h5 | h5
  · have E := hide (show intentD m = 2 by simp only [intentD, h1, h3, h2, h4, h5]; rfl)
    go_enter Try.func19, Try.ntmps19
    go_wp2
    go_ret
    exact ⟨ret_int (unhide E).symm, rfl⟩
  have E := hide (show intentD m = 0 by simp only [intentD, h1, h3, h2, h4, h5]; rfl)
  go_enter Try.func19, Try.ntmps19
  go_wp2
  go_ret
  exact ⟨ret_int (unhide E).symm, rfl⟩

/-- Who reads, who writes all that lies below. -/
def readsB (m : Int) : Bool := decide (3 ≤ m) && decide (m ≤ 5)
def writesB (m : Int) : Bool := m == 5
theorem reads_any (m : Int) (w : World) : Calls Try.prog 20 #[.int .i64 m] w fun e w' => e = .returned (.bool (readsB m)) ∧ Below w.heap.size w w' := by
  have E := hide (show hasB m [3, 4, 5] = readsB m by
    rw [Bool.eq_iff_iff]
    simp [hasB, readsB]
    omega)
  go_enter Try.func20, Try.ntmps20
  go_wp2_with fail
  refine (oneOf_any m _ _ _ [3, 4, 5] _ (seg3 w 3 4 5) (by decide)).mono ?_
  rintro e w' ⟨rfl, rfl⟩
  go_wp2
  go_ret
  exact ⟨ret_bool (unhide E), below_new _ _⟩
theorem rreads_any (m : Int) (w : World) : Calls Try.prog 21 #[.int .i64 m] w fun e w' => e = .returned (.bool (readsB m)) ∧ w' = w := by
  unfold readsB
  by_cases h1 : 3 ≤ m <;> by_cases h2 : m ≤ 5
  all_goals
    go_enter Try.func21, Try.ntmps21
    go_wp2
    go_ret
    exact ⟨by simp [h1, h2], rfl⟩
theorem writes_any (m : Int) (w : World) : Calls Try.prog 22 #[.int .i64 m] w fun e w' => e = .returned (.bool (writesB m)) ∧ Below w.heap.size w w' := by
  have E := hide (show hasB m [5] = writesB m by simp [hasB, writesB])
  go_enter Try.func22, Try.ntmps22
  go_wp2_with fail
  refine (oneOf_any m _ _ _ [5] _ (seg1 w 5) (by decide)).mono ?_
  rintro e w' ⟨rfl, rfl⟩
  go_wp2
  go_ret
  exact ⟨ret_bool (unhide E), below_new _ _⟩
theorem rwrites_any (m : Int) (w : World) : Calls Try.prog 23 #[.int .i64 m] w fun e w' => e = .returned (.bool (writesB m)) ∧ w' = w := by
  go_enter Try.func23, Try.ntmps23
  go_wp2
  go_ret
  exact ⟨rfl, rfl⟩

theorem first_any (w : World) : Calls Try.prog 9 #[] w fun e w' => e = .returned (.bool true) ∧ Below w.heap.size w w' := by
  have e1 : supL [2, 3] = 4 := by decide
  have e2 : supL [] = 0 := rfl
  have e3 : fitsB 5 1 = false := by decide
  have E1 := hide e1
  have E2 := hide e2
  have E3 := hide e3
  clear e1 e2 e3
  go_enter Try.func9, Try.ntmps9
  go_wp2_with fail
  refine (sup_any _ _ _ [2, 3] _ (seg2 _ 2 3) (by decide)).mono ?_
  rw [unhide E1]
  rintro e w' ⟨rfl, rfl⟩
  go_wp2_with fail
  refine (sup_any _ _ _ [] _ (seg_nil _ _) (by decide)).mono ?_
  rw [unhide E2]
  rintro e w' ⟨rfl, rfl⟩
  go_wp2_with fail
  refine (fits_any 5 1 _).mono ?_
  rw [unhide E3]
  rintro e w' ⟨rfl, hb⟩
  go_wp2
  go_ret
  exact ⟨rfl, below_then (below_new _ _) hb⟩
end Go.Proofs.Ytjbhakimakfliaa
