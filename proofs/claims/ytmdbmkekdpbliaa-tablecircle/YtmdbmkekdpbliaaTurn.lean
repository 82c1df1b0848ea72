/- A lane whose rows are written over. -/
import Derived.Test.YtmdbmkekdpbliaaLane
namespace Go.Proofs.Ytmdbmkekdpbliaa
open Go.RowKit

theorem set_other (w : World) (b j k : Nat) (v : Value) (h : k ≠ b) : (w.setCell ⟨b, j, none⟩ v).heap[k]? = w.heap[k]? := Deep.blk_setCell_other _ _ _ _ h
namespace La
variable {B : Nat} {H Q : List En} {b : Nat} {hv qv : Value} {w w' : World}
theorem ne_h (h : La B H Q b hv qv w) : hv.ownBlock ≠ some b := fun e => by
  obtain ⟨cur, hc⟩ := h.hr.ty b e
  rw [h.blk] at hc; cases hc
theorem ne_q (h : La B H Q b hv qv w) : qv.ownBlock ≠ some b := fun e => by
  obtain ⟨cur, hc⟩ := h.qr.ty b e
  rw [h.blk] at hc; cases hc
theorem grown0 (h : La B H Q b hv qv w) (hg : w.grownBy w' hv.ownBlock) : w'.heap[b]? = some (.cells #[hv, qv] 76 (0, 0)) := (hg.block b h.lt (fun e => h.ne_h e.symm)).trans h.blk
theorem grown1 (h : La B H Q b hv qv w) (hg : w.grownBy w' qv.ownBlock) : w'.heap[b]? = some (.cells #[hv, qv] 76 (0, 0)) := (hg.block b h.lt (fun e => h.ne_q e.symm)).trans h.blk
theorem put0 (h : La B H Q b hv qv w) {v : Value} {H' : List En} (hg : w.grownBy w' hv.ownBlock) (he : Es B v H' w') (ha : At hv v w.heap.size) (hs : Srt H') : La B H' Q b v qv (w'.setCell ⟨b, 0, none⟩ v) ∧ Mv b hv qv v qv w (w'.setCell ⟨b, 0, none⟩ v) := by
  have hb := h.grown0 hg
  have nv : v.ownBlock ≠ some b := fun e => by
    obtain ⟨cur, hc⟩ := he.ty b e
    rw [hb] at hc; cases hc
  refine ⟨⟨?_, ?_, ?_, ?_, h.bB, hs⟩, ⟨hg.os, hg.tape, hg.output, ?_, ?_, ha, At.refl _ _⟩⟩
  · show (w'.heap.modify b _)[b]? = _
    rw [Array.getElem?_modify, if_pos rfl, hb]; rfl
  · exact he.keep fun k hk => set_other _ _ _ _ _ (fun e => nv (by rw [← e]; exact hk))
  · exact (h.qr.keep fun k hk => hg.block k (h.qr.lt k hk).2 (fun e => h.dq k e.symm hk)).keep fun k hk => set_other _ _ _ _ _ (fun e => h.ne_q (by rw [← e]; exact hk))
  · intro k hk hk2
    rcases ha k hk with h1 | h1
    · exact h.dq k h1 hk2
    · have := (h.qr.lt k hk2).2; omega
  · show w.heap.size ≤ (w'.heap.modify b _).size
    rw [Array.size_modify]; exact hg.size
  · intro k hk h1 h2 h3
    exact (set_other _ _ _ _ _ h1).trans (hg.block k hk (fun e => h2 e.symm))
theorem put1 (h : La B H Q b hv qv w) {v : Value} {Q' : List En} (hg : w.grownBy w' qv.ownBlock) (he : Es B v Q' w') (ha : At qv v w.heap.size) : La B H Q' b hv v (w'.setCell ⟨b, 1, none⟩ v) ∧ Mv b hv qv hv v w (w'.setCell ⟨b, 1, none⟩ v) := by
  have hb := h.grown1 hg
  have nv : v.ownBlock ≠ some b := fun e => by
    obtain ⟨cur, hc⟩ := he.ty b e
    rw [hb] at hc; cases hc
  refine ⟨⟨?_, ?_, ?_, ?_, h.bB, h.srt⟩, ⟨hg.os, hg.tape, hg.output, ?_, ?_, At.refl _ _, ha⟩⟩
  · show (w'.heap.modify b _)[b]? = _
    rw [Array.getElem?_modify, if_pos rfl, hb]; rfl
  · exact (h.hr.keep fun k hk => hg.block k (h.hr.lt k hk).2 (fun e => h.dq k hk e.symm)).keep fun k hk => set_other _ _ _ _ _ (fun e => h.ne_h (by rw [← e]; exact hk))
  · exact he.keep fun k hk => set_other _ _ _ _ _ (fun e => nv (by rw [← e]; exact hk))
  · intro k hk hk2
    rcases ha k hk2 with h1 | h1
    · exact h.dq k hk h1
    · have := (h.hr.lt k hk).2; omega
  · show w.heap.size ≤ (w'.heap.modify b _).size
    rw [Array.size_modify]; exact hg.size
  · intro k hk h1 h2 h3
    exact (set_other _ _ _ _ _ h1).trans (hg.block k hk (fun e => h3 e.symm))
end La
theorem pairs_set : ∀ (l : List En) (i : Nat) (y : En), pairs (l.set i y) = ((pairs l).set (i * 2) (.int .i64 y.1)).set (i * 2 + 1) (.int .i64 y.2)
  | [], i, y => by simp [pairs]
  | p :: r, 0, y => rfl
  | p :: r, i + 1, y => by
    rw [show (i + 1) * 2 = i * 2 + 1 + 1 by omega]
    show Value.int .i64 p.1 :: Value.int .i64 p.2 :: pairs (r.set i y) = Value.int .i64 p.1 :: Value.int .i64 p.2 :: (((pairs r).set (i * 2) (.int .i64 y.1)).set (i * 2 + 1) (.int .i64 y.2))
    rw [pairs_set r i y]
theorem setc (w : World) {g i : Nat} {v : Value} {cur : Array Value} {t : TypeId} {fr : Nat × Nat} (h : w.heap[g]? = some (.cells cur t fr)) : (w.setCell ⟨g, i, none⟩ v).heap[g]? = some (.cells (cur.setIfInBounds i v) t fr) := by
  show (w.heap.modify g _)[g]? = _
  rw [Array.getElem?_modify, if_pos rfl, h]; rfl
theorem Rb.set {g cap : Nat} {l : List En} {w : World} (h : Rb g cap l w) (i : Nat) (y : En) : Rb g cap (l.set i y) ((w.setCell ⟨g, i * 2, none⟩ (.int .i64 y.1)).setCell ⟨g, i * 2 + 1, none⟩ (.int .i64 y.2)) := by
  obtain ⟨⟨cur, h, hs, e⟩, h1, h2⟩ := h
  refine ⟨⟨(cur.setIfInBounds (i * 2) (.int .i64 y.1)).setIfInBounds (i * 2 + 1) (.int .i64 y.2), ?_, ?_, ?_⟩, ?_, h2⟩
  · exact setc _ (setc _ h)
  · rw [Array.size_setIfInBounds, Array.size_setIfInBounds]; exact hs
  · rw [List.length_set, Array.toList_setIfInBounds, Array.toList_setIfInBounds, List.take_set, List.take_set, e, pairs_set]
  · rw [List.length_set]; exact h1
theorem At_row {g n cap n' cap' : Nat} {N : Nat} : At (.slice (some ⟨g, 0, none⟩) n cap) (.slice (some ⟨g, 0, none⟩) n' cap') N := fun _ hk => .inl hk
/-- y holds what it wants, in the stead of what it held. -/
def putD (y : En) (l : List En) : List En := if hasD y.1 l then l.set (posD y.1 l) y else l.take (posD y.1 l) ++ y :: l.drop (posD y.1 l)
theorem pos_below (k : Int) : ∀ {l : List En} {j : Nat}, j < posD k l → (l.getD j (0, 0)).1 < k
  | [], j, h => by simp [posD] at h
  | p :: r, j, h => by
    unfold posD at h
    split at h
    · rename_i hp
      cases j with
      | zero => simpa using hp
      | succ j => simpa using pos_below k (l := r) (j := j) (by omega)
    · omega
theorem pos_above (k : Int) : ∀ {l : List En}, posD k l < l.length → k ≤ (l.getD (posD k l) (0, 0)).1
  | [], h => by simp [posD] at h
  | p :: r, h => by
    unfold posD at h ⊢
    split at h
    · rename_i hp
      simp only [hp, if_true]
      have := pos_above k (l := r) (by simpa using h)
      simpa using this
    · rename_i hp
      simp only [hp, if_false]
      simpa using hp
theorem srt_put {y : En} {l : List En} (h : Srt l) : Srt (putD y l) := by
  unfold putD Srt
  split
  · rename_i hh
    obtain ⟨p1, p2, _⟩ := look_pos h hh
    rw [List.pairwise_iff_getElem]
    intro i j hi hj hij
    rw [List.length_set] at hi hj
    have hlt := srt_lt h hij hj
    simp only [List.getD, List.getElem?_eq_getElem hi, List.getElem?_eq_getElem hj, Option.getD_some] at hlt
    simp only [List.getD, List.getElem?_eq_getElem p1, Option.getD_some] at p2
    rw [List.getElem_set, List.getElem_set]
    split <;> split
    · omega
    · rename_i a _; subst a; omega
    · rename_i _ a; subst a; omega
    · exact hlt
  · rename_i hh
    have hle := posD_le y.1 l
    have hno : ∀ t, (ht : t < l.length) → l[t].1 ≠ y.1 := by
      intro t ht e
      exact hh (has_yes' ht (by simpa [List.getD, ht] using e))
    rw [List.pairwise_append]
    refine ⟨h.sublist (List.take_sublist _ _), ?_, ?_⟩
    · rw [List.pairwise_cons]
      refine ⟨fun x hx => ?_, h.sublist (List.drop_sublist _ _)⟩
      obtain ⟨j, hj, rfl⟩ := List.getElem_of_mem hx
      rw [List.length_drop] at hj
      rw [List.getElem_drop]
      have hp : posD y.1 l < l.length := by omega
      have ha := pos_above y.1 hp
      have hn := hno (posD y.1 l + j) (by omega)
      by_cases e : j = 0
      · subst e
        simp only [List.getD, List.getElem?_eq_getElem hp, Option.getD_some] at ha
        simp only [Nat.add_zero] at hn ⊢
        omega
      · have hlt := srt_lt h (show posD y.1 l < posD y.1 l + j by omega) (by omega)
        simp only [List.getD, List.getElem?_eq_getElem (show posD y.1 l + j < l.length by omega), Option.getD_some] at hlt ha
        omega
    · intro a ha x hx
      have h1 : a.1 < y.1 := by
        obtain ⟨j, hj, rfl⟩ := List.getElem_of_mem ha
        rw [List.length_take] at hj
        rw [List.getElem_take]
        have := pos_below y.1 (l := l) (j := j) (by omega)
        simpa [List.getD, show j < l.length by omega] using this
      rcases List.mem_cons.1 hx with rfl | hx
      · exact h1
      · obtain ⟨j, hj, rfl⟩ := List.getElem_of_mem hx
        rw [List.length_drop] at hj
        rw [List.getElem_drop]
        have hp : posD y.1 l < l.length := by omega
        have ha := pos_above y.1 hp
        by_cases e : j = 0
        · subst e
          simp only [List.getD, List.getElem?_eq_getElem hp, Option.getD_some] at ha
          simp only [Nat.add_zero]
          omega
        · have hlt := srt_lt h (show posD y.1 l < posD y.1 l + j by omega) (by omega)
          simp only [List.getD, List.getElem?_eq_getElem (show posD y.1 l + j < l.length by omega), Option.getD_some] at hlt ha
          omega
theorem put_len (y : En) (l : List En) : (putD y l).length ≤ l.length + 1 := by
  unfold putD
  split
  · rw [List.length_set]; omega
  · rw [ins_len l _ y (posD_le _ _)]; omega
end Go.Proofs.Ytmdbmkekdpbliaa
