/- The reference's Fits; what holds of the six modes, by looking at all of them. -/
import Derived.Test.YtjbhakimakfliaaOps
namespace Go.Proofs.Ytjbhakimakfliaa
open Go.RowKit

theorem six {m : Int} (h : knownB m = true) : ∃ i : Fin 6, m = (i.val : Int) := by
  have := known_iff.1 h
  exact ⟨⟨m.toNat, by omega⟩, by simp; omega⟩
theorem each {m : Int} (h : knownB m = true) : m = 0 ∨ m = 1 ∨ m = 2 ∨ m = 3 ∨ m = 4 ∨ m = 5 := by
  have := known_iff.1 h
  omega
theorem fits_known {a b : Int} (h : fitsB a b = true) : knownB a = true ∧ knownB b = true := by
  unfold fitsB at h
  simp only [known_iff, hasB] at *
  repeat' split at h
  all_goals simp_all [known_iff]
  all_goals omega

set_option maxHeartbeats 4000000 in
theorem rfits_in (a b : Int) (w : World) (ha : knownB a = true) (hb : knownB b = true) : Calls Try.prog 13 #[.int .i64 a, .int .i64 b] w fun e w' => e = .returned (.bool (fitsB a b)) ∧ Below w.heap.size w w' := by
  rcases each ha with rfl | rfl | rfl | rfl | rfl | rfl <;> rcases each hb with rfl | rfl | rfl | rfl | rfl | rfl
  all_goals
    have Ha := hide ha
    have Hb := hide hb
    clear ha hb
    go_enter Try.func13, Try.ntmps13
    go_wp2_with fail
    refine (mode_any _ _).mono ?_
    rw [unhide Ha]
    rintro e w' ⟨rfl, rfl⟩
    go_wp2_with fail
    refine (mode_any _ _).mono ?_
    rw [unhide Hb]
    rintro e w' ⟨rfl, rfl⟩
    go_wp2
    go_ret
    exact ⟨ret_bool (by decide), below_new _ _⟩
theorem rfits_any (a b : Int) (w : World) : Calls Try.prog 13 #[.int .i64 a, .int .i64 b] w fun e w' => e = .returned (.bool (fitsB a b)) ∧ Below w.heap.size w w' := by
  cases ha : knownB a
  · have E := hide (show fitsB a b = false by
      cases h : fitsB a b
      · rfl
      · rw [(fits_known h).1] at ha; exact ha)
    have Ha := hide ha
    clear ha
    go_enter Try.func13, Try.ntmps13
    go_wp2_with fail
    refine (mode_any _ _).mono ?_
    rw [unhide Ha]
    rintro e w' ⟨rfl, rfl⟩
    go_wp2
    go_ret
    exact ⟨ret_bool (unhide E).symm, Below.refl _ _⟩
  cases hb : knownB b
  · have E := hide (show fitsB a b = false by
      cases h : fitsB a b
      · rfl
      · rw [(fits_known h).2] at hb; exact hb)
    have Ha := hide ha
    have Hb := hide hb
    clear ha hb
    go_enter Try.func13, Try.ntmps13
    go_wp2_with fail
    refine (mode_any _ _).mono ?_
    rw [unhide Ha]
    rintro e w' ⟨rfl, rfl⟩
    go_wp2_with fail
    refine (mode_any _ _).mono ?_
    rw [unhide Hb]
    rintro e w' ⟨rfl, rfl⟩
    go_wp2
    go_ret
    exact ⟨ret_bool (unhide E).symm, Below.refl _ _⟩
  · exact rfits_in a b w ha hb
end Go.Proofs.Ytjbhakimakfliaa
