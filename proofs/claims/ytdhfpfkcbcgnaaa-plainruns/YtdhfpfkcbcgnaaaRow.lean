/- A slice of integers that comes in, as the walks read it. -/
import Derived.Test.YtdhfpfkcbcgnaaaSizes
import Derived.Below
namespace Go.Proofs.Ytdhfpfkcbcgnaaa
open Go.RowKit

/-- A slice of integers that is read: 'len' cells from 'a' on hold the numbers 'l'. -/
def SegK (k : IntKind) (w : World) (a : Option Addr) (len : Nat) (l : List Int) : Prop :=
  l.length = len ∧ (len = 0 ∨ ∃ b off, a = some ⟨b, off, none⟩ ∧ ∀ i, i < len → w.cell? ⟨b, off + i, none⟩ = some (.int k (l.getD i 0)))
/-- .. as it lies below B. -/
def SegB (k : IntKind) (B : Nat) (w : World) (a : Option Addr) (len : Nat) (l : List Int) : Prop :=
  l.length = len ∧ (len = 0 ∨ ∃ b off, a = some ⟨b, off, none⟩ ∧ b < B ∧ ∀ i, i < len → w.cell? ⟨b, off + i, none⟩ = some (.int k (l.getD i 0)))
theorem SegK.low {k : IntKind} {w : World} {a : Option Addr} {len : Nat} {l : List Int} (h : SegK k w a len l) : SegB k w.heap.size w a len l := by
  refine ⟨h.1, ?_⟩
  rcases h.2 with h0 | ⟨b, off, rfl, hc⟩
  · exact .inl h0
  · by_cases e : len = 0
    · exact .inl e
    · refine .inr ⟨b, off, rfl, ?_, hc⟩
      have := hc 0 (by omega)
      simp only [World.cell?] at this
      by_cases hb : b < w.heap.size
      · exact hb
      · simp [Array.getElem?_eq_none (show w.heap.size ≤ b by omega)] at this
theorem SegB.later {k : IntKind} {B : Nat} {w w' : World} {a : Option Addr} {len : Nat} {l : List Int} (h : SegB k B w a len l) (hb : Below B w w') : SegB k B w' a len l := by
  rcases h.2 with h0 | ⟨b, off, rfl, hlt, hc⟩
  · exact ⟨h.1, .inl h0⟩
  · exact ⟨h.1, .inr ⟨b, off, rfl, hlt, fun i hi => (hb.cell hlt).trans (hc i hi)⟩⟩
theorem SegB.at {k : IntKind} {B : Nat} {w : World} {a : Option Addr} {len : Nat} {l : List Int} (h : SegB k B w a len l) {i : Nat} (hi : i < len) :
    ∃ b off, a = some ⟨b, off, none⟩ ∧ b < B ∧ w.cell? ⟨b, off + i, none⟩ = some (.int k (l.getD i 0)) := by
  rcases h.2 with h0 | ⟨b, off, rfl, hlt, hc⟩
  · omega
  · exact ⟨b, off, rfl, hlt, hc i hi⟩

/-- A slice of integers that came in: nil, or 'cap' cells that hold the numbers 'zs', of which the first 'len' are its elements. -/
def IsRow (k : IntKind) (w : World) (a : Option Addr) (len cap : Nat) (zs : List Int) : Prop :=
  (a = none ∧ len = 0 ∧ cap = 0 ∧ zs = []) ∨
  ∃ x, a = some x ∧ len ≤ cap ∧ cap ≤ maxLen ∧ zs.length = cap ∧ (∀ i, i < zs.length → w.cell? (x.add i) = some (.int k (zs.getD i 0))) ∧ ∀ n ∈ zs, (Lit.int k n).wf = true

theorem isRow_seg {k : IntKind} {w : World} {a : Option Addr} {len cap : Nat} {zs : List Int} (h : IsRow k w a len cap zs) :
    SegK k w a len (zs.take len) ∧ len ≤ cap ∧ cap ≤ maxLen ∧ ∀ n ∈ zs.take len, (Lit.int k n).wf = true := by
  rcases h with ⟨rfl, rfl, rfl, rfl⟩ | ⟨x, rfl, hl, hm, hz, hcell, hwz⟩
  · exact ⟨⟨rfl, .inl rfl⟩, Nat.le_refl _, Nat.zero_le _, by simp⟩
  · refine ⟨⟨by simp; omega, ?_⟩, hl, hm, fun n hn => hwz n (List.mem_of_mem_take hn)⟩
    by_cases h0 : len = 0
    · exact .inl h0
    · obtain ⟨b, off, spot⟩ := x
      have hc := hcell 0 (by omega)
      have hspot : spot = none := by simpa [Addr.add] using World.cell?_spot hc
      subst hspot
      refine .inr ⟨b, off, rfl, fun i hi => ?_⟩
      have := hcell i (by omega)
      simp [Addr.add] at this
      have e : (if i = 0 then (⟨b, off, none⟩ : Addr) else ⟨b, off + i, none⟩) = ⟨b, off + i, none⟩ := by
        by_cases h : i = 0 <;> simp [h]
      rw [e] at this
      rw [this]
      simp [hi]

end Go.Proofs.Ytdhfpfkcbcgnaaa
