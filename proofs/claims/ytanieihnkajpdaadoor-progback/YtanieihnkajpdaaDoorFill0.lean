/- slices.Clone; filled of package prog. -/
import Derived.Test.YtanieihnkajpdaaDoorPrint
import Derived.Laws.ResultCell
namespace Go.Proofs.YtanieihnkajpdaaDoor
open Go.RowKit

theorem own_keep {w W : World} {B : Nat} {v : Value} {n : Nat} {xs : List Value} (h : w.ownsRow B 3 1 v n xs) (hk : ∀ (k : Nat) (cur : Array Value) (fr : Nat × Nat), w.heap[k]? = some (Obj.cells cur 3 fr) → W.heap[k]? = w.heap[k]?) : W.ownsRow B 3 1 v n xs := by
  refine ⟨h.1, ?_⟩
  rcases h.2 with h0 | ⟨g, cap, cur, hv, hB, hg, r⟩
  · exact .inl h0
  · exact .inr ⟨g, cap, cur, hv, hB, (hk g cur _ hg).trans hg, r⟩
theorem own_base {w : World} {B : Nat} {v : Value} {n : Nat} {xs : List Value} (h : w.ownsRow B 3 1 v n xs) : w.ownsRow 0 3 1 v n xs := by
  refine ⟨h.1, ?_⟩
  rcases h.2 with h0 | ⟨g, cap, cur, hv, hB, r⟩
  · exact .inl h0
  · exact .inr ⟨g, cap, cur, hv, Nat.zero_le _, r⟩
/-- The numbers l lie in a row of their own: v. -/
def Lo (w : World) (v : Value) (l : List Int) : Prop := ∃ a c, v = .slice a l.length c ∧ w.ownsRow 0 3 1 v l.length (vals l)
theorem lo_nil (w : World) : Lo w (.slice none 0 0) [] := ⟨none, 0, rfl, rfl, .inl ⟨rfl, rfl⟩⟩
theorem Lo.ls {w : World} {v : Value} {l : List Int} (h : Lo w v l) : Ls w.heap.size w v l := own_ls h.choose_spec.choose_spec.2
theorem Lo.next {w w' : World} {v : Value} {l : List Int} (h : Lo w v l) (hb : Below w.heap.size w w') : Lo w' v l := by
  obtain ⟨a, c, e, h⟩ := h
  exact ⟨a, c, e, own_next h hb⟩
theorem Lo.keep {w W : World} {v : Value} {l : List Int} (h : Lo w v l) (hk : ∀ (k : Nat) (cur : Array Value) (fr : Nat × Nat), w.heap[k]? = some (Obj.cells cur 3 fr) → W.heap[k]? = w.heap[k]?) : Lo W v l := by
  obtain ⟨a, c, e, h⟩ := h
  exact ⟨a, c, e, own_keep h hk⟩
theorem lo_own {w : World} {B : Nat} {v : Value} {n : Nat} {l : List Int} (h : w.ownsRow B 3 1 v n (vals l)) (hn : n = l.length) : Lo w v l := by
  subst hn
  rcases h.2 with ⟨e, e2⟩ | ⟨g, cap, cur, e, r⟩
  · exact ⟨none, 0, by rw [e, e2], own_base h⟩
  · exact ⟨_, cap, e, own_base h⟩
theorem clone_any (v : Value) (l : List Int) (w : World) (h : Ls w.heap.size w v l) (hs : l.length ≤ 100000) :
    Calls Tryd.prog 50 #[v] w fun e w' => ∃ a c, e = .returned (.slice a l.length c) ∧ Below w.heap.size w w' ∧ Lo w' (.slice a l.length c) l := by
  obtain ⟨a, cap, rfl, h1, h2, h3, h4⟩ := ls_len h
  by_cases hl : l.length = 0
  · have e0 : l = [] := List.length_eq_zero_iff.1 hl
    subst e0
    cases a with
    | none =>
      refine (Tryd.slices_Clone_int_nil 0 cap w).mono ?_
      rintro e w' ⟨rfl, rfl⟩
      exact ⟨none, 0, rfl, Below.refl _ _, lo_nil _⟩
    | some ad =>
      refine (Tryd.slices_Clone_int_zero ad cap w).mono ?_
      rintro e w' ⟨u, rfl, hu, _, hb⟩
      obtain ⟨a, c, e, h⟩ := lo_own (l := []) hu rfl
      subst e
      exact ⟨a, c, rfl, hb, ⟨a, c, rfl, h⟩⟩
  · obtain ⟨b, off, rfl, hlt, _⟩ := h4.at (show 0 < l.length by omega)
    refine (Tryd.slices_Clone_int b off l.length cap l w (Nat.le_refl _) (by omega) (fun j hj => ?_)).mono ?_
    · obtain ⟨b', off', e, _, hc⟩ := h4.at hj
      obtain ⟨rfl, rfl⟩ : b = b' ∧ off = off' := by simpa using e
      exact hc
    · rintro e w' ⟨u, rfl, hu, _, hb⟩
      have hu2 : w'.ownsRow w.heap.size 3 1 u l.length (vals l) := by unfold vals; simpa using hu
      obtain ⟨a, c, e, h⟩ := lo_own hu2 rfl
      subst e
      exact ⟨a, c, rfl, hb, ⟨a, c, rfl, h⟩⟩
/-- What lies behind the first k numbers. -/
theorem ls_drop {B : Nat} {w : World} {b off len cap k : Nat} {l : List Int} (h : Ls B w (.slice (some ⟨b, off, none⟩) len cap) l) (hk : k ≤ len) : Ls B w (.slice (some ⟨b, off + k, none⟩) (len - k) (cap - k)) (l.drop k) := by
  obtain ⟨a, ca, e, h1, h2, h3, h4⟩ := ls_len h
  injection e with e1 e2 e3
  subst e2; subst e3; subst e1
  refine ⟨_, _, _, rfl, by omega, by omega, (fun e => by cases e), by simp, ?_⟩
  by_cases hl : l.length - k = 0
  · exact .inl hl
  · obtain ⟨b', off', e5, hlt, _⟩ := h4.at (show 0 < l.length by omega)
    obtain ⟨rfl, rfl⟩ : b = b' ∧ off = off' := by simpa using e5
    refine .inr ⟨b, off + k, rfl, hlt, fun i hi => ?_⟩
    obtain ⟨b', off', e5, _, hc⟩ := h4.at (show k + i < l.length by omega)
    obtain ⟨rfl, rfl⟩ : b = b' ∧ off = off' := by simpa using e5
    rw [Nat.add_assoc, hc]
    simp [List.getElem?_drop]
theorem ls_zero (B : Nat) (w : World) (ad : Addr) (cap : Nat) (hc : cap ≤ maxLen) : Ls B w (.slice (some ad) 0 cap) [] := ⟨_, 0, cap, rfl, Nat.zero_le _, hc, (fun e => by cases e), rfl, .inl rfl⟩
theorem ls_nil (B : Nat) (w : World) : Ls B w (.slice none 0 0) [] := ⟨none, 0, 0, rfl, Nat.le_refl _, Nat.zero_le _, fun _ => rfl, rfl, .inl rfl⟩

/-- The five cells of an instruction are written over. -/
theorem five_other (w : World) (N : Nat) (v0 v1 v2 v3 v4 : Value) (b o : Nat) (h : b ≠ N) : (((((w.setCell ⟨N, 0, none⟩ v0).setCell ⟨N, 1, none⟩ v1).setCell ⟨N, 2, none⟩ v2).setCell ⟨N, 3, none⟩ v3).setCell ⟨N, 4, none⟩ v4).cell? ⟨b, o, none⟩ = w.cell? ⟨b, o, none⟩ := by
  have q : ∀ j, (⟨b, o, none⟩ : Addr) ≠ ⟨N, j, none⟩ := fun j e => h (by injection e)
  have q1 : ∀ (W : World) (j : Nat) (v : Value), (W.setCell ⟨N, j, none⟩ v).cell? ⟨b, o, none⟩ = W.cell? ⟨b, o, none⟩ := fun W j v => World.cell?_setCell_other _ _ _ _ (fun e => q j e.symm)
  rw [q1, q1, q1, q1, q1]
theorem five_block (w : World) (N : Nat) (v0 v1 v2 v3 v4 : Value) (k : Nat) (h : k ≠ N) : (((((w.setCell ⟨N, 0, none⟩ v0).setCell ⟨N, 1, none⟩ v1).setCell ⟨N, 2, none⟩ v2).setCell ⟨N, 3, none⟩ v3).setCell ⟨N, 4, none⟩ v4).heap[k]? = w.heap[k]? := by
  have q : ∀ (W : World) (j : Nat) (v : Value), (W.setCell ⟨N, j, none⟩ v).heap[k]? = W.heap[k]? := fun W j v => Deep.blk_setCell_other _ _ _ _ h
  rw [q, q, q, q, q]
theorem five_below (w0 w : World) (B N : Nat) (hB : B ≤ N) (h : Below B w0 w) (v0 v1 v2 v3 v4 : Value) : Below B w0 (((((w.setCell ⟨N, 0, none⟩ v0).setCell ⟨N, 1, none⟩ v1).setCell ⟨N, 2, none⟩ v2).setCell ⟨N, 3, none⟩ v3).setCell ⟨N, 4, none⟩ v4) :=
  ((((h.setCell (p := ⟨N, 0, none⟩) hB v0).setCell (p := ⟨N, 1, none⟩) hB v1).setCell (p := ⟨N, 2, none⟩) hB v2).setCell (p := ⟨N, 3, none⟩) hB v3).setCell (p := ⟨N, 4, none⟩) hB v4
/-- What lies in a row of numbers is not met. -/
theorem five_lo {w : World} {N : Nat} {x : In} {u : Value} (hx : Ix x u N w) (v0 v1 v2 v3 v4 : Value) {v : Value} {l : List Int} (h : Lo w v l) : Lo (((((w.setCell ⟨N, 0, none⟩ v0).setCell ⟨N, 1, none⟩ v1).setCell ⟨N, 2, none⟩ v2).setCell ⟨N, 3, none⟩ v3).setCell ⟨N, 4, none⟩ v4) v l :=
  h.keep fun k cur fr hk => five_block w N v0 v1 v2 v3 v4 k (fun e => by subst e; unfold Ix at hx; rw [hk] at hx; cases hx)
theorem Ix.frozen {x : In} {v : Value} {b : Nat} {w : World} (h : Ix x v b w) (i : Nat) : w.frozen? ⟨b, i, none⟩ = false := Lib.frozen_of_heap h i
/-- The instruction of this kind that names these numbers. -/
def fillD (k : Int) (ns : List Int) : Option In :=
  if (k = 1 ∨ k = 2) ∧ ns.length = 3 then some ⟨k, ns.getD 0 0, ns.getD 1 0, ns.getD 2 0, []⟩ else
  if (k = 3 ∨ k = 5) ∧ ns.length = 2 then some ⟨k, ns.getD 0 0, ns.getD 1 0, 0, []⟩ else
  if k = 4 ∧ 2 ≤ ns.length then some ⟨k, ns.getD 0 0, ns.getD 1 0, 0, ns.drop 2⟩ else
  if (k = 6 ∨ k = 7) ∧ ns.length = 0 then some ⟨k, 0, 0, 0, []⟩ else none
/-- What filled and parseLine answer. -/
def Filled (o : Option In) (w : World) (e : Ending) (w' : World) : Prop :=
  ∃ (x : In) (v : Value), e = .returned (.tuple #[iv x v, .bool o.isSome]) ∧ Lo w' v x.l ∧ Below w.heap.size w w' ∧ (o = some x ∨ o = none)
end Go.Proofs.YtanieihnkajpdaaDoor
