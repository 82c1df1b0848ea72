/- A program in a row of the call's own, one of whose instructions is written over. -/
import Derived.Test.YtanieihnkajpdaaDoorFirst
namespace Go.Proofs.YtanieihnkajpdaaDoor
open Go.RowKit

theorem own_set {w : World} {B g n cap : Nat} {xs : List Value} (h : w.ownsRow B 32 5 (.slice (some ⟨g, 0, none⟩) n cap) n xs) (k : Nat) (v : Value) :
    (w.setCell ⟨g, k, none⟩ v).ownsRow B 32 5 (.slice (some ⟨g, 0, none⟩) n cap) n (xs.set k v) := by
  refine ⟨by rw [List.length_set]; exact h.1, ?_⟩
  rcases h.2 with ⟨e, _⟩ | ⟨g', cap', cur, e, hB, hg, hn, hc, hs, ht⟩
  · cases e
  · obtain ⟨rfl, rfl⟩ : g = g' ∧ cap = cap' := by simpa using e
    refine .inr ⟨g, cap, cur.setIfInBounds k v, rfl, hB, ?_, hn, hc, by simpa using hs, ?_⟩
    · show (w.heap.modify g _)[g]? = _
      rw [Array.getElem?_modify, if_pos rfl, hg]
      rfl
    · rw [Array.toList_setIfInBounds, ← ht, List.take_set]
theorem flat_set : ∀ (qs : List (In × Value)) (i : Nat) (q : In × Value), i < qs.length →
    flat (qs.set i q) = (((((flat qs).set (i * 5) (.int .i64 q.1.k)).set (i * 5 + 1) (.int .i64 q.1.a)).set (i * 5 + 2) (.int .i64 q.1.b)).set (i * 5 + 3) (.int .i64 q.1.c)).set (i * 5 + 4) q.2
  | [], i, q, h => by simp at h
  | p :: r, 0, q, _ => rfl
  | p :: r, i + 1, q, h => by
    have ih := flat_set r i q (by simpa using h)
    have e : ∀ j, (i + 1) * 5 + j = (i * 5 + j) + 1 + 1 + 1 + 1 + 1 := fun j => by omega
    have e0 : (i + 1) * 5 = (i * 5) + 1 + 1 + 1 + 1 + 1 := by omega
    rw [e 1, e 2, e 3, e 4, e0]
    show insC p ++ flat (r.set i q) = _
    rw [ih]
    rfl
/-- The program (with where its numbers lie) in block g. -/
structure Pq (B : Nat) (w : World) (g n cap : Nat) (qs : List (In × Value)) : Prop where
  own : w.ownsRow B 32 5 (.slice (some ⟨g, 0, none⟩) n cap) n (flat qs)
  len : qs.length = n
  lo : ∀ q ∈ qs, Lo w q.2 q.1.l
section
variable {B : Nat} {w : World} {g n cap : Nat} {qs : List (In × Value)}
theorem Pq.next (h : Pq B w g n cap qs) {w' : World} (hb : Below w.heap.size w w') : Pq B w' g n cap qs := ⟨own_next h.own hb, h.len, fun q hq => (h.lo q hq).next hb⟩
theorem Pq.ps (h : Pq B w g n cap qs) : Ps w.heap.size w (.slice (some ⟨g, 0, none⟩) n cap) (qs.map (·.1)) :=
  Po.ps ⟨B, qs, rfl, by rw [List.length_map, h.len]; exact h.own, h.lo⟩
theorem Pq.row (h : Pq B w g n cap qs) : ∃ cur, w.heap[g]? = some (.cells cur 32 (0, 0)) ∧ B ≤ g := by
  rcases h.own.2 with ⟨e, _⟩ | ⟨g', cap', cur, e, hB, hg, _⟩
  · cases e
  · obtain ⟨rfl, rfl⟩ : g = g' ∧ cap = cap' := by simpa using e
    exact ⟨cur, hg, hB⟩
theorem Pq.cells (h : Pq B w g n cap qs) {i : Nat} (hi : i < n) : (∃ v, w.cell? ⟨g, i * 5, none⟩ = some v) ∧ (∃ v, w.cell? ⟨g, i * 5 + 1, none⟩ = some v) ∧ (∃ v, w.cell? ⟨g, i * 5 + 2, none⟩ = some v) ∧ (∃ v, w.cell? ⟨g, i * 5 + 3, none⟩ = some v) ∧ (∃ v, w.cell? ⟨g, i * 5 + 4, none⟩ = some v) := by
  have hq : i < qs.length := by rw [h.len]; exact hi
  have cell : ∀ j v, j < 5 → (insC qs[i])[j]? = some v → w.cell? ⟨g, i * 5 + j, none⟩ = some v := fun j v hj hv => by
    have := h.own.cells (g := g) rfl (i * 5 + j) v ((flat_at qs i j qs[i] (List.getElem?_eq_getElem hq) hj).trans hv)
    rw [addr_add, Nat.zero_add] at this
    exact this
  exact ⟨⟨_, cell 0 _ (by decide) rfl⟩, ⟨_, cell 1 _ (by decide) rfl⟩, ⟨_, cell 2 _ (by decide) rfl⟩, ⟨_, cell 3 _ (by decide) rfl⟩, ⟨_, cell 4 _ (by decide) rfl⟩⟩
theorem Pq.frozen (h : Pq B w g n cap qs) (k : Nat) : w.frozen? ⟨g, k, none⟩ = false := by
  obtain ⟨cur, hg, _⟩ := h.row
  exact Lib.frozen_of_heap hg k
theorem Pq.put (h : Pq B w g n cap qs) {i : Nat} (hi : i < n) (x : In) {v : Value} (hv : Lo w v x.l) :
    Pq B (((((w.setCell ⟨g, i * 5, none⟩ (.int .i64 x.k)).setCell ⟨g, i * 5 + 1, none⟩ (.int .i64 x.a)).setCell ⟨g, i * 5 + 2, none⟩ (.int .i64 x.b)).setCell ⟨g, i * 5 + 3, none⟩ (.int .i64 x.c)).setCell ⟨g, i * 5 + 4, none⟩ v) g n cap (qs.set i (x, v)) := by
  obtain ⟨cur, hg, _⟩ := h.row
  have keep : ∀ {v' : Value} {l : List Int}, Lo w v' l → Lo (((((w.setCell ⟨g, i * 5, none⟩ (.int .i64 x.k)).setCell ⟨g, i * 5 + 1, none⟩ (.int .i64 x.a)).setCell ⟨g, i * 5 + 2, none⟩ (.int .i64 x.b)).setCell ⟨g, i * 5 + 3, none⟩ (.int .i64 x.c)).setCell ⟨g, i * 5 + 4, none⟩ v) v' l := fun hl => hl.keep fun k c fr hk => by
    have ne : k ≠ g := fun e => by subst e; rw [hk] at hg; cases hg
    have q : ∀ (W : World) (j : Nat) (u : Value), (W.setCell ⟨g, j, none⟩ u).heap[k]? = W.heap[k]? := fun W j u => Deep.blk_setCell_other _ _ _ _ ne
    rw [q, q, q, q, q]
  refine ⟨?_, by rw [List.length_set]; exact h.len, fun q hq => ?_⟩
  · rw [flat_set qs i (x, v) (by rw [h.len]; exact hi)]
    exact own_set (own_set (own_set (own_set (own_set h.own _ _) _ _) _ _) _ _) _ _
  · rcases List.mem_or_eq_of_mem_set hq with hq | rfl
    · exact keep (h.lo q hq)
    · exact keep hv
theorem Pq.below (h : Pq B w g n cap qs) {w0 : World} (hb : Below B w0 w) (i : Nat) (v0 v1 v2 v3 v4 : Value) : Below B w0 (((((w.setCell ⟨g, i * 5, none⟩ v0).setCell ⟨g, i * 5 + 1, none⟩ v1).setCell ⟨g, i * 5 + 2, none⟩ v2).setCell ⟨g, i * 5 + 3, none⟩ v3).setCell ⟨g, i * 5 + 4, none⟩ v4) := by
  obtain ⟨_, _, hB⟩ := h.row
  exact ((((hb.setCell (p := ⟨g, i * 5, none⟩) hB v0).setCell (p := ⟨g, i * 5 + 1, none⟩) hB v1).setCell (p := ⟨g, i * 5 + 2, none⟩) hB v2).setCell (p := ⟨g, i * 5 + 3, none⟩) hB v3).setCell (p := ⟨g, i * 5 + 4, none⟩) hB v4
end
/-- The program that ProgOdd makes. -/
def cst (i : Nat) : In := ⟨3, bits .and .i64 (i : Int) 3, (i : Int), 0, []⟩
def cstQ (i : Nat) : In × Value := (cst i, .slice none 0 0)
theorem cst_ok : ∀ i : Fin 60, wiB 4 [bits .and .i64 ((i.val : Nat) : Int) 3] = true := by decide +kernel
theorem cst_st (i n : Nat) (h : i < 60) : stB 4 (cst i) i n = true := by
  have := cst_ok ⟨i, h⟩
  simp only [stB, cst]
  simpa using this
theorem cst_snoc (k : Nat) : (List.range (k + 1)).map cstQ = (List.range k).map cstQ ++ [cstQ k] := by
  rw [List.range_succ, List.map_append]; rfl
theorem check_cst (n : Nat) (h : n ≤ 60) : checkD smallC (((List.range n).map cstQ).map (·.1)) = 0 := by
  refine ch_yes (by decide) (by simpa using h) (fun i hi => ?_)
  have hi2 : i < n := by simpa using hi
  have e : (((List.range n).map cstQ).map (·.1)).getD i z0 = cst i := by
    simp [hi2, cstQ]
  rw [e]
  exact cst_st i _ (by omega)
theorem check_set (n t : Nat) (h : n ≤ 60) (ht : t < n) (x : In) (v : Value) (qs : List (In × Value)) (hq : qs.length = n) (hc : ∀ i, i < n → i ≠ t → (qs.map (·.1)).getD i z0 = cst i) :
    checkD smallC ((qs.set t (x, v)).map (·.1)) = if stB 4 x t n then 0 else 2 := by
  have hl : ((qs.set t (x, v)).map (·.1)).length = n := by simpa using hq
  have at_t : ((qs.set t (x, v)).map (·.1)).getD t z0 = x := by simp [hq, ht]
  cases hs : stB 4 x t n
  · have := ch_no (c := smallC) (ps := (qs.set t (x, v)).map (·.1)) (k := t) (by omega) (by rw [at_t, hl]; exact hs)
    rw [this]; rfl
  · have := ch_yes (c := smallC) (ps := (qs.set t (x, v)).map (·.1)) (by decide) (by omega) (fun i hi => by
      rw [hl]
      by_cases e : i = t
      · subst e; rw [at_t]; exact hs
      · have e2 : ((qs.set t (x, v)).map (·.1)).getD i z0 = cst i := by
          rw [← hc i (by omega) e]
          have e3 : ¬ t = i := fun h => e h.symm
          simp [e3]
        rw [e2]
        exact cst_st i n (by omega))
    rw [this]; rfl
end Go.Proofs.YtanieihnkajpdaaDoor
