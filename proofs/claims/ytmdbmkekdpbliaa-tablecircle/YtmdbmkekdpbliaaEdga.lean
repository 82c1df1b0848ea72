/- LaneEdges: a round, plainly. -/
import Derived.Test.YtmdbmkekdpbliaaEdg
namespace Go.Proofs.Ytmdbmkekdpbliaa
open Go.RowKit
variable {H Q : List En}

theorem look_once : ∀ {l : List En} {y : En}, Once l → y ∈ l → lookD y.1 l = y.2
  | [], y, _, h => by cases h
  | p :: r, y, ho, h => by
    obtain ⟨h1, h2⟩ := List.pairwise_cons.1 ho
    unfold lookD
    rcases List.mem_cons.1 h with rfl | h3
    · simp
    · have hne := h1 y h3
      rw [if_neg (by simpa using hne)]
      exact look_once h2 h3
theorem fits_none : ∀ i : Fin 6, fitsB (i.val : Int) 0 = true := by decide +kernel
theorem fits_zero {m : Int} (h : md m) : fitsB m 0 = true := by
  obtain ⟨h1, h2⟩ := h
  obtain ⟨k, rfl⟩ : ∃ k : Nat, m = (k : Int) := ⟨m.toNat, by omega⟩
  exact fits_none ⟨k, by omega⟩
theorem edge_round {y : En} {bl : List Int} {i : Nat} (hi : i < bl.length) (hy : md y.2) (hs : Srt H) (h : Fine H Q) (hne : ∀ c ∈ bl, y.1 ≠ c)
    (hI : Wt y (bl.drop i) H Q ∨ (lookD y.1 Q = 0 ∧ lookD y.1 H = y.2)) :
    (lookD y.1 Q = 0 → fitsB y.2 (lookD (bl.getD i 0) H) = true ∧ (Wt y (bl.drop (i + 1)) H Q ∨ (lookD y.1 Q = 0 ∧ lookD y.1 H = y.2))) ∧
    (lookD y.1 Q ≠ 0 → Wt y (bl.drop (i + 1)) (leaveD (bl.getD i 0) H Q).2.1 (leaveD (bl.getD i 0) H Q).2.2 ∨ (lookD y.1 (leaveD (bl.getD i 0) H Q).2.2 = 0 ∧ lookD y.1 (leaveD (bl.getD i 0) H Q).2.1 = y.2)) := by
  have hmem : bl.getD i 0 ∈ bl := by simp [List.getD, hi]
  have hd : bl.drop i = bl.getD i 0 :: bl.drop (i + 1) := by rw [List.drop_eq_getElem_cons hi]; simp [List.getD, hi]
  have hyn : y.2 ≠ 0 := by have := hy.1; omega
  constructor
  · intro h0
    rcases hI with hw | hr
    · obtain ⟨⟨P, hQ, _⟩, _⟩ := hw
      have : y ∈ Q := by rw [hQ]; exact List.mem_append_right _ (List.mem_singleton.2 rfl)
      have := look_once h.ok.once this
      omega
    · refine ⟨?_, .inr hr⟩
      have hyH : (y.1, y.2) ∈ H := by
        cases hh : hasD y.1 H
        · have := look_no hh; omega
        · have := look_mem hh; rw [hr.2] at this; exact this
      cases hc : hasD (bl.getD i 0) H
      · rw [look_no hc]; exact fits_zero hy
      · exact h.fit _ hyH _ (look_mem hc) (hne _ hmem)
  · intro h0
    rcases hI with hw | hr
    · rw [hd] at hw
      exact edge_step hs h hw (hne _ hmem)
    · exact absurd hr.1 h0
theorem edge_last {y : En} {bl : List Int} (h : Fine H Q) (hI : Wt y (bl.drop bl.length) H Q ∨ (lookD y.1 Q = 0 ∧ lookD y.1 H = y.2)) : lookD y.1 Q = 0 ∧ lookD y.1 H = y.2 := by
  rcases hI with hw | hr
  · rw [List.drop_length] at hw
    exact absurd hw (edge_end h)
  · exact hr
theorem met_len (i : Nat) (y : En) : (metD H Q i y).length ≤ Q.length + H.length := by
  unfold metD
  rw [List.length_append, List.length_map, List.length_map, List.length_take]
  have := List.length_filter_le (fun x => hindD x y) H
  omega
theorem blocks_len (who : Int) : (blocksD who H Q).length ≤ Q.length + H.length := by
  unfold blocksD
  split
  · rename_i i _
    refine Nat.le_trans (Lib.compact_length_le _) ?_
    rw [sortI_len]
    exact met_len _ _
  · simp
end Go.Proofs.Ytmdbmkekdpbliaa
