/- LaneFits: the plain facts. -/
import Derived.Test.YtmdbmkekdpbliaaInv2
namespace Go.Proofs.Ytmdbmkekdpbliaa
open Go.RowKit
variable {H Q : List En}

theorem once_ne {l : List En} (h : Once l) {i j : Nat} (hij : i < j) (hj : j < l.length) : (l.getD i (0, 0)).1 ≠ (l.getD j (0, 0)).1 := by
  have := List.pairwise_iff_getElem.1 h i j (by omega) hj hij
  simpa [List.getD, hj, show i < l.length by omega] using this
theorem getD_mem {l : List En} {i : Nat} (hi : i < l.length) : l.getD i (0, 0) ∈ l := by simp [List.getD, hi]
theorem blocks_at (h : Once Q) {x : Nat} (hx : x < Q.length) : blocksD (Q.getD x (0, 0)).1 H Q = canon (metD H Q x (Q.getD x (0, 0))) := by
  have e : idxD (isWho (Q.getD x (0, 0)).1) Q = (x : Int) := idx_at hx (fun t ht => by
    have := once_ne h ht hx
    simpa [isWho] using this) (by simp [isWho])
  unfold blocksD
  rw [e]; rfl
theorem take_who {x z : Nat} (hz : z < x) (hx : x ≤ Q.length) : (Q.getD z (0, 0)).1 ∈ (Q.take x).map (·.1) := by
  rw [List.mem_map]
  refine ⟨Q.getD z (0, 0), ?_, rfl⟩
  rw [List.mem_take_iff_getElem]
  exact ⟨z, by omega, by simp [List.getD, show z < Q.length by omega]⟩
theorem wait_facts (h : Fine H Q) {x : Nat} (hx : x < Q.length) (bl : List Int) (hb : bl = blocksD (Q.getD x (0, 0)).1 H Q) :
    0 < bl.length ∧ bl.length ≤ H.length + Q.length ∧ bl.any (fun y => y == (Q.getD x (0, 0)).1) = false ∧ lookD (Q.getD x (0, 0)).1 Q = (Q.getD x (0, 0)).2 ∧ coversB (Q.getD x (0, 0)).2 (lookD (Q.getD x (0, 0)).1 H) = true ∧
    ∀ z, z < x → bl.any (fun y => y == (Q.getD z (0, 0)).1) = true ∧ (lookD (Q.getD x (0, 0)).1 H = 0 ∨ (lookD (Q.getD z (0, 0)).1 H == 0) = false) := by
  rw [blocks_at h.ok.once hx] at hb
  obtain ⟨c1, _⟩ := canon_facts (metD H Q x (Q.getD x (0, 0)))
  rw [← hb] at c1
  have hlen : bl.length ≤ H.length + Q.length := by
    rw [hb]
    unfold canon
    refine Nat.le_trans (Lib.compact_length_le _) ?_
    rw [sortI_len]
    unfold metD
    rw [List.length_append, List.length_map, List.length_map, List.length_take]
    have := List.length_filter_le (fun z => hindD z (Q.getD x (0, 0))) H
    omega
  refine ⟨?_, hlen, ?_, ?_, h.cov _ (getD_mem hx), fun z hz => ⟨?_, ?_⟩⟩
  · have hex : ∃ a, a ∈ metD H Q x (Q.getD x (0, 0)) := by
      unfold metD
      cases x with
      | succ n => exact ⟨_, List.mem_append_left _ (take_who (z := 0) (by omega) (by omega))⟩
      | zero =>
        cases hQ : Q with
        | nil => rw [hQ] at hx; simp at hx
        | cons q r =>
          obtain ⟨a, ha, ha2⟩ := fits_no.1 (h.ok.first q r hQ)
          refine ⟨a.1, List.mem_append_right _ ?_⟩
          rw [List.mem_map]
          exact ⟨a, by rw [List.mem_filter]; exact ⟨ha, by simpa using ha2⟩, rfl⟩
    obtain ⟨a, ha⟩ := hex
    exact List.length_pos_of_mem ((c1 a).2 ha)
  · rw [List.any_eq_false]
    intro a ha e
    have e2 : a = (Q.getD x (0, 0)).1 := by simpa using e
    have := (c1 a).1 ha
    unfold metD at this
    rcases List.mem_append.1 this with h2 | h2
    · obtain ⟨q, hq, e3⟩ := List.mem_map.1 h2
      obtain ⟨j, hj, rfl⟩ := List.mem_take_iff_getElem.1 hq
      have := once_ne h.ok.once (show j < x by omega) hx
      apply this
      rw [← e2, ← e3]
      simp [List.getD, show j < Q.length by omega]
    · obtain ⟨q, hq, e3⟩ := List.mem_map.1 h2
      rw [List.mem_filter] at hq
      have h5 := hq.2
      unfold hindD at h5
      simp only [Bool.and_eq_true, bne_iff_ne] at h5
      exact h5.1 (e3.trans e2)
  · refine (look_at hx (fun t ht => ?_) (by simp [isWho])).symm
    have := once_ne h.ok.once ht hx
    simpa [isWho] using this
  · rw [List.any_eq_true]
    exact ⟨_, (c1 _).2 (by unfold metD; exact List.mem_append_left _ (take_who hz (by omega))), by simp⟩
  · cases e : hasD (Q.getD x (0, 0)).1 H
    · exact .inl (look_no e)
    · right
      have h6 := List.pairwise_iff_getElem.1 h.ahead z x (by omega) hx hz
      have e1 : Q[z] = Q.getD z (0, 0) := by simp [List.getD, show z < Q.length by omega]
      have e2 : Q[x] = Q.getD x (0, 0) := by simp [List.getD, hx]
      rw [e1, e2] at h6
      have h7 := h6 e
      rw [beq_eq_false_iff_ne]
      intro e3
      rw [(look_zero h.ok.hm).1 e3] at h7; cases h7
theorem hold_facts (hs : Srt H) (h : Fine H Q) {x z : Nat} (hz : z < x) (hx : x < H.length) : fitsB (H.getD x (0, 0)).2 (H.getD z (0, 0)).2 = true ∧ (H.getD z (0, 0)).1 < (H.getD x (0, 0)).1 := by
  have := srt_lt hs hz hx
  exact ⟨h.fit _ (getD_mem hx) _ (getD_mem (by omega)) (by omega), this⟩
end Go.Proofs.Ytmdbmkekdpbliaa
