/- What LatchApart meets: all cases. -/
import Derived.Test.YtlhmpkeljagihaaEnv
namespace Go.Proofs.Ytlhmpkeljagihaa
open Go.RowKit

def apC (s : Int) : Cf := { oneC 2 1 with s := s }
def ap1 (c : Cf) (a : Int) : Mm := itM 20 (newL 3 c (2 + a) 0 false 1) m0
def ap2 (c : Cf) (a b : Int) : Mm := itM 20 (newL 3 c (2 + b) 1 false 1) (ap1 c a)
def ap3 (c : Cf) (a b : Int) : Mm := itM 20 (newL 0 c (2 + a) 1 false 0) (ap2 c a b)
def ap4 (c : Cf) (a b : Int) : Mm := itM 20 (newL 3 c (2 + b) 0 false 1) (ap3 c a b)
def ap5 (c : Cf) (a b : Int) : Mm := itM 20 (newL 7 c (2 + a) 0 false 0) (ap4 c a b)
def ap6 (c : Cf) (a b : Int) : Mm := itM 20 (newL 0 c (2 + a) 1 false 0) (ap5 c a b)
def ap7 (c : Cf) (a b : Int) : Mm := itM 20 (newL 6 c (2 + a) 1 false 0) (ap6 c a b)
def ap8 (c : Cf) (a b : Int) : Mm := itM 20 (newL 7 c (2 + b) 1 false 0) (ap7 c a b)
def apG (n : Nat) (c : Cf) (a b : Int) : Prop :=
  cellsD c = (n : Int) ∧ gotB 20 (newL 3 c (2 + a) 0 false 1) m0 = true ∧ gotB 20 (newL 3 c (2 + b) 1 false 1) (ap1 c a) = true ∧ gotB 20 (newL 0 c (2 + a) 1 false 0) (ap2 c a b) = false ∧ gotB 20 (newL 3 c (2 + b) 0 false 1) (ap3 c a b) = false ∧
  gotB 20 (newL 7 c (2 + a) 0 false 0) (ap4 c a b) = true ∧ gotB 20 (newL 0 c (2 + a) 1 false 0) (ap5 c a b) = true ∧ gotB 20 (newL 6 c (2 + a) 1 false 0) (ap6 c a b) = true ∧ gotB 20 (newL 7 c (2 + b) 1 false 0) (ap7 c a b) = true ∧ ∀ i, i < n → (ap8 c a b).f i = 0
theorem apG2 : ∀ a b : Fin 2, a ≠ b → apG 18 (apC 2) (a.val : Int) (b.val : Int) := by unfold apG; decide +kernel
theorem apG3 : ∀ a b : Fin 3, a ≠ b → apG 27 (apC 3) (a.val : Int) (b.val : Int) := by unfold apG; decide +kernel
theorem apG4 : ∀ a b : Fin 4, a ≠ b → apG 36 (apC 4) (a.val : Int) (b.val : Int) := by unfold apG; decide +kernel
theorem apG5 : ∀ a b : Fin 5, a ≠ b → apG 45 (apC 5) (a.val : Int) (b.val : Int) := by unfold apG; decide +kernel
theorem apG6 : ∀ a b : Fin 6, a ≠ b → apG 54 (apC 6) (a.val : Int) (b.val : Int) := by unfold apG; decide +kernel
theorem apG7 : ∀ a b : Fin 7, a ≠ b → apG 63 (apC 7) (a.val : Int) (b.val : Int) := by unfold apG; decide +kernel
theorem apG8 : ∀ a b : Fin 8, a ≠ b → apG 72 (apC 8) (a.val : Int) (b.val : Int) := by unfold apG; decide +kernel

theorem apart_facts (s a b : Int) (h1 : 2 ≤ s) (h2 : s ≤ 8) (a0 : 0 ≤ a) (a1 : a < s) (b0 : 0 ≤ b) (b1 : b < s) (ab : a ≠ b) : apG (9 * s.toNat) (apC s) a b := by
  obtain ⟨a, rfl⟩ := Int.eq_ofNat_of_zero_le a0
  obtain ⟨b, rfl⟩ := Int.eq_ofNat_of_zero_le b0
  have hs : s = 2 ∨ s = 3 ∨ s = 4 ∨ s = 5 ∨ s = 6 ∨ s = 7 ∨ s = 8 := by omega
  rcases hs with rfl | rfl | rfl | rfl | rfl | rfl | rfl
  · exact apG2 ⟨a, by omega⟩ ⟨b, by omega⟩ (by intro e; apply ab; have := congrArg Fin.val e; simp at this; omega)
  · exact apG3 ⟨a, by omega⟩ ⟨b, by omega⟩ (by intro e; apply ab; have := congrArg Fin.val e; simp at this; omega)
  · exact apG4 ⟨a, by omega⟩ ⟨b, by omega⟩ (by intro e; apply ab; have := congrArg Fin.val e; simp at this; omega)
  · exact apG5 ⟨a, by omega⟩ ⟨b, by omega⟩ (by intro e; apply ab; have := congrArg Fin.val e; simp at this; omega)
  · exact apG6 ⟨a, by omega⟩ ⟨b, by omega⟩ (by intro e; apply ab; have := congrArg Fin.val e; simp at this; omega)
  · exact apG7 ⟨a, by omega⟩ ⟨b, by omega⟩ (by intro e; apply ab; have := congrArg Fin.val e; simp at this; omega)
  · exact apG8 ⟨a, by omega⟩ ⟨b, by omega⟩ (by intro e; apply ab; have := congrArg Fin.val e; simp at this; omega)
end Go.Proofs.Ytlhmpkeljagihaa
