/- Slices of structs whose fields are all whole numbers: how one that came in lies in memory. -/
import Derived.Test.YtmdbmkekdpbliaaRow
import Derived.Deep.Slices
import Derived.ProofKit
namespace Go.Proofs.Ytmdbmkekdpbliaa
open Go.RowKit Go.Deep

/-- The type e is a struct of N fields, each one cell, each a whole number of 64 bits. -/
def plainInts (P : Program) (e : TypeId) (N : Nat) : Bool :=
  match P.underlying e with
  | some (.struct fs) => (fs.size == N) && ((P.cellsOf e == N) && (List.range N).all fun i =>
      match fs[i]? with
      | some f => (f.offset == i) && ((P.cellsOf f.type == 1) && match P.underlying f.type with
          | some (.int .i64) => true
          | _ => false)
      | none => false)
  | _ => false
theorem plainInts_out {P : Program} {e : TypeId} {N : Nat} (h : plainInts P e N = true) : ∃ fs : Array Field, P.underlying e = some (.struct fs) ∧ fs.size = N ∧ P.cellsOf e = N ∧
    ∀ (i : Nat) (f : Field), fs[i]? = some f → f.offset = i ∧ P.cellsOf f.type = 1 ∧ P.underlying f.type = some (.int .i64) := by
  unfold plainInts at h
  split at h
  · rename_i fs hfs
    simp only [Bool.and_eq_true, beq_iff_eq, List.all_eq_true, List.mem_range] at h
    obtain ⟨h1, h2, h3⟩ := h
    refine ⟨fs, hfs, h1, h2, fun i f hf => ?_⟩
    have hi : i < N := by
      rw [← h1]
      obtain ⟨hlt, _⟩ := Array.getElem?_eq_some_iff.1 hf
      exact hlt
    have h4 := h3 i hi
    rw [hf] at h4
    simp only [Bool.and_eq_true, beq_iff_eq] at h4
    obtain ⟨h5, h6, h7⟩ := h4
    refine ⟨h5, h6, ?_⟩
    split at h7
    · assumption
    · cases h7
  · cases h

section
variable {H : Type} {enc : TypeId × Value → H} {P : Program} {w : World} {base : Nat} {spare : Nat → Bool} {held : Bool}
theorem open_structs {t e : TypeId} {N fuel : Nat} {cs : List Value} {x : DataW H × List MemPlace} (ht : P.underlying t = some (.slice e)) (hp : plainInts P e N = true)
    (h : DataW.trod enc P w base spare held fuel t cs = some x) :
    cs = [.slice none 0 0] ∨
    ∃ (a : Addr) (len cap : Nat) (Z : Nat → Nat → Int), cs = [.slice (some a) len cap] ∧ len ≤ cap ∧ cap ≤ maxLen ∧
      ∀ i, i < len → ∀ j, j < N → w.cell? (a.add (i * N + j)) = some (.int .i64 (Z i j)) ∧ (Lit.int .i64 (Z i j)).wf = true := by
  obtain ⟨fs, he, hN, ce, hall⟩ := plainInts_out hp
  rcases open_slice ht h with h0 | ⟨a, len, cap, m, n, D, Pl, rfl, hb, hl, hm, hmm, rfl, hx⟩
  · exact Or.inl h0.1
  right
  have hlm : len ≤ m := by rw [hmm]; split <;> omega
  have each : ∀ i, i < len → ∃ q : Nat → Int, ∀ j, j < N → w.cell? (a.add (i * N + j)) = some (.int .i64 (q j)) ∧ (Lit.int .i64 (q j)).wf = true := by
    intro i hi
    obtain ⟨cs', h1, h2⟩ := hx i (by omega)
    rw [ce] at h1
    obtain ⟨_, hlen, hcell⟩ := World.cells?_some h1
    obtain ⟨xs, k, hk, hxy, _, hxl, hf⟩ := DataW.trod_struct he h2
    refine choose_lt (p := fun j z => w.cell? (a.add (i * N + j)) = some (.int .i64 z) ∧ (Lit.int .i64 z).wf = true) ?_
    intro j hj
    have hj' : j < fs.size := by omega
    obtain ⟨o1, o2, o3⟩ := hall j fs[j] (Array.getElem?_eq_getElem hj')
    have g := hf j fs[j] (Array.getElem?_eq_getElem hj')
    rw [o1, o2] at g
    have e1 := hcell j (by omega)
    rw [add_add] at e1
    have hjc : j < cs'.length := by omega
    rw [List.drop_eq_getElem_cons hjc, List.take_succ_cons, List.take_zero, List.getElem?_eq_getElem (by omega)] at g
    obtain ⟨z, hz, _, hw⟩ := DataW.trod_int o3 g
    refine ⟨z, ?_, hw⟩
    rw [e1, List.getElem?_eq_getElem hjc]
    simpa using hz
  obtain ⟨q, hq⟩ := choose_lt each
  exact ⟨a, len, cap, q, rfl, hl, hm, hq⟩
end

/-- A slice of structs of N numbers that came in: element i's field j is Z i j. -/
def IsRecs (N : Nat) (w : World) (a : Option Addr) (len cap : Nat) (Z : Nat → Nat → Int) : Prop :=
  (a = none ∧ len = 0 ∧ cap = 0) ∨
  ∃ x, a = some x ∧ len ≤ cap ∧ cap ≤ maxLen ∧ ∀ i, i < len → ∀ j, j < N → w.cell? (x.add (i * N + j)) = some (.int .i64 (Z i j)) ∧ (Lit.int .i64 (Z i j)).wf = true
/-- .. as it lies below B. -/
def RecsB (N B : Nat) (w : World) (a : Option Addr) (len : Nat) (Z : Nat → Nat → Int) : Prop :=
  len = 0 ∨ ∃ b off, a = some ⟨b, off, none⟩ ∧ b < B ∧ ∀ i, i < len → ∀ j, j < N → w.cell? ⟨b, off + i * N + j, none⟩ = some (.int .i64 (Z i j))
theorem isRecs_low {N : Nat} {w : World} {a : Option Addr} {len cap : Nat} {Z : Nat → Nat → Int} (hN : 0 < N) (h : IsRecs N w a len cap Z) :
    RecsB N w.heap.size w a len Z ∧ len ≤ cap ∧ cap ≤ maxLen ∧ ∀ i, i < len → ∀ j, j < N → (Lit.int .i64 (Z i j)).wf = true := by
  rcases h with ⟨rfl, rfl, rfl⟩ | ⟨x, rfl, hl, hm, hc⟩
  · exact ⟨.inl rfl, Nat.le_refl _, Nat.zero_le _, fun i hi => absurd hi (Nat.not_lt_zero _)⟩
  · refine ⟨?_, hl, hm, fun i hi j hj => (hc i hi j hj).2⟩
    by_cases h0 : len = 0
    · exact .inl h0
    · obtain ⟨b, off, spot⟩ := x
      have h1 := (hc 0 (by omega) 0 hN).1
      have hspot : spot = none := by simpa [Addr.add] using World.cell?_spot h1
      subst hspot
      have hbl : b < w.heap.size := by
        simp [Addr.add, World.cell?] at h1
        by_cases hb : b < w.heap.size
        · exact hb
        · simp [Array.getElem?_eq_none (show w.heap.size ≤ b by omega)] at h1
      refine .inr ⟨b, off, rfl, hbl, fun i hi j hj => ?_⟩
      have h2 := (hc i hi j hj).1
      have e : Addr.add ⟨b, off, none⟩ (i * N + j) = ⟨b, off + i * N + j, none⟩ := by
        rw [Nat.add_assoc]
        generalize i * N + j = q
        by_cases h : q = 0 <;> simp [Addr.add, h]
      rwa [e] at h2
theorem RecsB.later {N B : Nat} {w w' : World} {a : Option Addr} {len : Nat} {Z : Nat → Nat → Int} (h : RecsB N B w a len Z) (hb : Below B w w') : RecsB N B w' a len Z := by
  rcases h with h0 | ⟨b, off, rfl, hlt, hc⟩
  · exact .inl h0
  · exact .inr ⟨b, off, rfl, hlt, fun i hi j hj => (hb.cell hlt).trans (hc i hi j hj)⟩
theorem RecsB.at {N B : Nat} {w : World} {a : Option Addr} {len : Nat} {Z : Nat → Nat → Int} (h : RecsB N B w a len Z) {i : Nat} (hi : i < len) :
    ∃ b off, a = some ⟨b, off, none⟩ ∧ b < B ∧ ∀ j, j < N → w.cell? ⟨b, off + i * N + j, none⟩ = some (.int .i64 (Z i j)) := by
  rcases h with h0 | ⟨b, off, rfl, hlt, hc⟩
  · omega
  · exact ⟨b, off, rfl, hlt, hc i hi⟩
end Go.Proofs.Ytmdbmkekdpbliaa
