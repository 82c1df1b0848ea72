/- What holds of the six modes, by looking at all of them. -/
import Derived.Test.YtmdbmkekdpbliaaOps
namespace Go.Proofs.Ytmdbmkekdpbliaa
open Go.RowKit

theorem six {m : Int} (h : knownB m = true) : ∃ i : Fin 6, m = (i.val : Int) := by
  have := known_iff.1 h
  exact ⟨⟨m.toNat, by omega⟩, by simp; omega⟩
/-- The least above two. -/
def sup2 (a b : Int) : Int := joinD (joinD 0 a) b
theorem supL_pair (a b : Int) : supL [a, b] = sup2 a b := rfl
theorem supL_triple (a b c : Int) : supL [a, b, c] = joinD (sup2 a b) c := rfl

set_option maxRecDepth 20000 in
theorem two_facts : ∀ i j : Fin 6, let a : Int := i.val; let b : Int := j.val;
    fitsB b a = fitsB a b ∧ sup2 b a = sup2 a b ∧ sup2 a a = a ∧ knownB (sup2 a b) = true ∧ coversB (sup2 a b) a = true ∧ coversB (sup2 a b) b = true ∧
    (coversB a b = true → coversB (intentD a) (intentD b) = true ∧ (readsB b = true → readsB a = true) ∧ (writesB b = true → writesB a = true)) ∧
    (coversB a b = true → coversB b a = true → a = b) ∧ (writesB a = true → readsB a = true) ∧
    (writesB a = true → b ≠ 0 → fitsB a b = false) ∧ (readsB a = true → coversB b 2 = true → fitsB a b = false) ∧ fitsB 0 a = true ∧ fitsB a 0 = true ∧
    fitsB (intentD a) (intentD b) = true ∧ coversB a (intentD a) = true ∧ intentD (intentD a) = intentD a ∧
    coversB a a = true ∧ coversB a 0 = true ∧ coversB 5 a = true ∧ (coversB a b = true ∨ coversB b a = true ∨ a + b = 5) := by
  decide +kernel
set_option maxRecDepth 20000 in
theorem three_facts : ∀ i j k : Fin 6, let a : Int := i.val; let b : Int := j.val; let c : Int := k.val;
    sup2 (sup2 a b) c = joinD (sup2 a b) c ∧ (fitsB c (sup2 a b) = true → fitsB c a = true ∧ fitsB c b = true) ∧
    (coversB c a = true → coversB c b = true → coversB c (sup2 a b) = true) ∧
    (coversB a b = true → coversB b c = true → coversB a c = true) ∧ (coversB a b = true → fitsB a c = true → fitsB b c = true) := by
  decide +kernel
end Go.Proofs.Ytmdbmkekdpbliaa
