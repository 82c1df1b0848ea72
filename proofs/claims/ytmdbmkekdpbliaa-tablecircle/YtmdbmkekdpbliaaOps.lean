/- Package mode and the reference: Fits, Covers, Intent, Reads, Writes; the statements' own 'first'. -/
import Derived.Test.YtmdbmkekdpbliaaLeaf
namespace Go.Proofs.Ytmdbmkekdpbliaa
open Go.RowKit

theorem seg1 (w : World) (x : Int) : SegK .i64 (w.alloc (.cells #[.int .i64 x] 3)) (some ⟨w.heap.size, 0, none⟩) 1 [x] := seg_new w [x]
theorem seg2 (w : World) (x y : Int) : SegK .i64 (w.alloc (.cells #[.int .i64 x, .int .i64 y] 3)) (some ⟨w.heap.size, 0, none⟩) 2 [x, y] := seg_new w [x, y]
theorem seg3 (w : World) (x y z : Int) : SegK .i64 (w.alloc (.cells #[.int .i64 x, .int .i64 y, .int .i64 z] 3)) (some ⟨w.heap.size, 0, none⟩) 3 [x, y, z] := seg_new w [x, y, z]
theorem seg5 (w : World) (x y z u v : Int) : SegK .i64 (w.alloc (.cells #[.int .i64 x, .int .i64 y, .int .i64 z, .int .i64 u, .int .i64 v] 3)) (some ⟨w.heap.size, 0, none⟩) 5 [x, y, z, u, v] := seg_new w [x, y, z, u, v]

/-- What fits. -/
def fitsB (a b : Int) : Bool :=
  if a == 0 then knownB b else if a == 1 then hasB b [0, 1, 2, 3, 4] else if a == 2 then hasB b [0, 1, 2] else if a == 3 then hasB b [0, 1, 3] else if a == 4 then hasB b [0, 1] else if a == 5 then hasB b [0] else false
theorem fits_any (a b : Int) (w : World) : Calls Try.prog 27 #[.int .i64 a, .int .i64 b] w fun e w' => e = .returned (.bool (fitsB a b)) ∧ Below w.heap.size w w' := by
  rcases Bool.eq_false_or_eq_true (a == 0) with h0 | h0
  · have E := hide (show fitsB a b = knownB b by simp only [fitsB, h0]; rfl)
    go_enter Try.func27, Try.ntmps27
    go_wp2_with fail
    refine (known_any b _).mono ?_
    rintro e w' ⟨rfl, rfl⟩
    go_wp2
    go_ret
    exact ⟨ret_bool (unhide E).symm, Below.refl _ _⟩
  rcases Bool.eq_false_or_eq_true (a == 1) with h1 | h1
  · have E := hide (show fitsB a b = hasB b [0, 1, 2, 3, 4] by simp only [fitsB, h0, h1]; rfl)
    go_enter Try.func27, Try.ntmps27
    go_wp2_with fail
    refine (oneOf_any b _ _ _ [0, 1, 2, 3, 4] _ (seg5 w 0 1 2 3 4) (by decide)).mono ?_
    rintro e w' ⟨rfl, rfl⟩
    go_wp2
    go_ret
    exact ⟨ret_bool (unhide E).symm, below_new _ _⟩
  rcases Bool.eq_false_or_eq_true (a == 2) with h2 | h2
  · have E := hide (show fitsB a b = hasB b [0, 1, 2] by simp only [fitsB, h0, h1, h2]; rfl)
    go_enter Try.func27, Try.ntmps27
    go_wp2_with fail
    refine (oneOf_any b _ _ _ [0, 1, 2] _ (seg3 w 0 1 2) (by decide)).mono ?_
    rintro e w' ⟨rfl, rfl⟩
    go_wp2
    go_ret
    exact ⟨ret_bool (unhide E).symm, below_new _ _⟩
  rcases Bool.eq_false_or_eq_true (a == 3) with h3 | h3
  · have E := hide (show fitsB a b = hasB b [0, 1, 3] by simp only [fitsB, h0, h1, h2, h3]; rfl)
    go_enter Try.func27, Try.ntmps27
    go_wp2_with fail
    refine (oneOf_any b _ _ _ [0, 1, 3] _ (seg3 w 0 1 3) (by decide)).mono ?_
    rintro e w' ⟨rfl, rfl⟩
    go_wp2
    go_ret
    exact ⟨ret_bool (unhide E).symm, below_new _ _⟩
  rcases Bool.eq_false_or_eq_true (a == 4) with h4 | h4
  · have E := hide (show fitsB a b = hasB b [0, 1] by simp only [fitsB, h0, h1, h2, h3, h4]; rfl)
    go_enter Try.func27, Try.ntmps27
    go_wp2_with fail
    refine (oneOf_any b _ _ _ [0, 1] _ (seg2 w 0 1) (by decide)).mono ?_
    rintro e w' ⟨rfl, rfl⟩
    go_wp2
    go_ret
    exact ⟨ret_bool (unhide E).symm, below_new _ _⟩
  rcases Bool.eq_false_or_eq_true (a == 5) with h5 | h5
  · have E := hide (show fitsB a b = hasB b [0] by simp only [fitsB, h0, h1, h2, h3, h4, h5]; rfl)
    go_enter Try.func27, Try.ntmps27
    go_wp2_with fail
    refine (oneOf_any b _ _ _ [0] _ (seg1 w 0) (by decide)).mono ?_
    rintro e w' ⟨rfl, rfl⟩
    go_wp2
    go_ret
    exact ⟨ret_bool (unhide E).symm, below_new _ _⟩
  have E := hide (show fitsB a b = false by simp only [fitsB, h0, h1, h2, h3, h4, h5]; rfl)
  go_enter Try.func27, Try.ntmps27
  go_wp2
  go_ret
  exact ⟨ret_bool (unhide E).symm, Below.refl _ _⟩

/-- What covers. -/
def coversB (h t : Int) : Bool := knownB t && (joinD (joinD 0 h) t == h)
theorem supL_two (h t : Int) : supL [h, t] = joinD (joinD 0 h) t := rfl
theorem supL_three (h t c : Int) : supL [h, t, c] = joinD (joinD (joinD 0 h) t) c := rfl
theorem supL_one (h : Int) : supL [h] = joinD 0 h := rfl
theorem covers_any (h t : Int) (w : World) : Calls Try.prog 40 #[.int .i64 h, .int .i64 t] w fun e w' => e = .returned (.bool (coversB h t)) ∧ Below w.heap.size w w' := by
  cases hk : knownB t
  · have E := hide (show coversB h t = false by simp [coversB, hk])
    have K := hide hk
    clear hk
    go_enter Try.func40, Try.ntmps40
    go_wp2_with fail
    refine (known_any t _).mono ?_
    rw [unhide K]
    rintro e w' ⟨rfl, rfl⟩
    go_wp2
    go_ret
    exact ⟨ret_bool (unhide E).symm, Below.refl _ _⟩
  · have E := hide (show coversB h t = (supL [h, t] == h) by simp [coversB, hk, supL_two])
    have K := hide hk
    clear hk
    go_enter Try.func40, Try.ntmps40
    go_wp2_with fail
    refine (known_any t _).mono ?_
    rw [unhide K]
    rintro e w' ⟨rfl, rfl⟩
    go_wp2_with fail
    refine (sup_any _ _ _ [h, t] _ (seg2 _ h t) (by decide)).mono ?_
    rintro e w' ⟨rfl, rfl⟩
    go_wp2
    go_ret
    exact ⟨ret_bool (unhide E).symm, below_new _ _⟩
theorem covers_known {h t : Int} (e : coversB h t = true) : knownB h = true := by
  unfold coversB at e
  rw [Bool.and_eq_true] at e
  obtain ⟨e1, e2⟩ := e
  have := of_decide_eq_true (show decide (joinD (joinD 0 h) t = h) = true from by simpa using e2)
  rw [known_iff] at *
  unfold joinD at this
  rw [if_pos (known_iff.2 e1)] at this
  by_cases hk : knownB h = true
  · exact known_iff.1 hk
  · rw [Bool.not_eq_true] at hk
    rw [hk] at this
    simp at this
    omega
/-- How what lies above is held. -/
def intentD (m : Int) : Int := if m == 1 then 1 else if m == 3 then 1 else if m == 2 then 2 else if m == 4 then 2 else if m == 5 then 2 else 0
/-- Who reads, who writes all that lies below. -/
def readsB (m : Int) : Bool := decide (3 ≤ m) && decide (m ≤ 5)
def writesB (m : Int) : Bool := m == 5
end Go.Proofs.Ytmdbmkekdpbliaa
