/- What Path of package shape answers, in one. -/
import Derived.Test.YtkoaedhbjdbjdaaPath
import Derived.Test.YtkoaedhbjdbjdaaRec
namespace Go.Proofs.Ytkoaedhbjdbjdaa
open Go.RowKit

/-- What Path answers, whatever the word. -/
def isB (c : Cf) (a : Int) : Bool := decide (0 ≤ a) && decide (a < wordsD c)
def pr (c : Cf) (a : Int) : Int := if isB c a then rD c a else 0
def po (c : Cf) (a : Int) : Int := if isB c a then c.r + oD c a else 0
def ps (c : Cf) (a : Int) : Int := if isB c a then c.r + no c + sD c a else 0
theorem isB_iff {c : Cf} {a : Int} : isB c a = true ↔ 0 ≤ a ∧ a < wordsD c := by simp [isB]
theorem isB_no {c : Cf} {a : Int} : isB c a = false ↔ ¬ (0 ≤ a ∧ a < wordsD c) := by rw [← isB_iff]; simp

theorem path_any (c : Cf) (a : Int) (w : World) : Calls Try.prog 9 #[cv c, .int .i64 a] w fun e w' => e = .returned (.tuple #[.int .i64 (pr c a), .int .i64 (po c a), .int .i64 (ps c a), .int .i64 (errOf (isB c a))]) ∧ Below w.heap.size w w' := by
  unfold pr po ps
  cases h : isB c a
  · exact path_no c a w (isB_no.1 h)
  · obtain ⟨h0, h1⟩ := isB_iff.1 h
    have hk := words_pos h0 h1
    rw [words_eq hk] at h1
    exact path_ok c a w hk h0 h1

end Go.Proofs.Ytkoaedhbjdbjdaa
