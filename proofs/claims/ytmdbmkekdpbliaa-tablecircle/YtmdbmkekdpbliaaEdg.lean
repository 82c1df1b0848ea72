/- LaneEdges: the plain facts. -/
import Derived.Test.YtmdbmkekdpbliaaFt
namespace Go.Proofs.Ytmdbmkekdpbliaa
open Go.RowKit
variable {H Q : List En}

theorem out_last {c : Int} {y : En} (h : y.1 ≠ c) : ∀ (P : List En), out1 c (P ++ [y]) = out1 c P ++ [y]
  | [] => by
    unfold out1
    have e : isWho c y = false := by simpa [isWho] using h
    simp [e]
  | p :: r => by
    have ih := out_last h r
    unfold out1 at ih ⊢
    rw [List.cons_append, List.eraseP_cons, List.eraseP_cons]
    cases e : isWho c p
    · simp only [cond_false, List.cons_append]; rw [ih]
    · simp only [cond_true]
/-- y waits last; whoever waits ahead of it, or holds against it, is in b. -/
def Wt (y : En) (b : List Int) (H Q : List En) : Prop := (∃ P, Q = P ++ [y] ∧ ∀ x ∈ P, x.1 ∈ b) ∧ ∀ h ∈ H, hindD h y = true → h.1 ∈ b
theorem edge_step {y : En} {c : Int} {b : List Int} (hs : Srt H) (h : Fine H Q) (hw : Wt y (c :: b) H Q) (hc : y.1 ≠ c) :
    Wt y b (leaveD c H Q).2.1 (leaveD c H Q).2.2 ∨ (lookD y.1 (leaveD c H Q).2.2 = 0 ∧ lookD y.1 (leaveD c H Q).2.1 = y.2) := by
  obtain ⟨⟨P, hQ, hP⟩, hh⟩ := hw
  have hs1 := out_srt (who := c) hs
  have ho1 := out_once (who := c) h.ok.once
  obtain ⟨i1, _, _, i4, _⟩ := grant_facts (out1 c Q) (out1 c H) hs1 ho1 (fun x hx => h.ok.hm x (out_mem hx)) (fun x hx => h.ok.qm x (out_mem hx))
  obtain ⟨_, k2⟩ := grant_keep (out1 c Q) (out1 c H) hs1
  have hle := grant_le (out1 c Q) (out1 c H)
  have hQ1 : out1 c Q = out1 c P ++ [y] := by rw [hQ]; exact out_last hc P
  have hP1 : ∀ x ∈ out1 c P, x.1 ∈ b := fun x hx => by
    have hx2 : x ∈ out1 c Q := by rw [hQ1]; exact List.mem_append_left _ hx
    have hne := out_gone h.ok.once x hx2
    rcases List.mem_cons.1 (hP x (out_mem hx)) with e | e
    · exact absurd e hne
    · exact e
  have hlen : (out1 c Q).length = (out1 c P).length + 1 := by rw [hQ1]; simp
  unfold leaveD
  by_cases hn : (grantD (out1 c H) (out1 c Q)).1 = (out1 c Q).length
  · right
    constructor
    · show lookD y.1 ((out1 c Q).drop _) = 0
      rw [List.drop_eq_nil_of_le (by omega)]; rfl
    · refine look_uniq i4 (i1 y ?_)
      rw [List.take_of_length_le (by omega), hQ1]
      exact List.mem_append_right _ (List.mem_singleton.2 rfl)
  · left
    have hnp : (grantD (out1 c H) (out1 c Q)).1 ≤ (out1 c P).length := by omega
    refine ⟨⟨(out1 c P).drop (grantD (out1 c H) (out1 c Q)).1, ?_, fun x hx => hP1 x (List.mem_of_mem_drop hx)⟩, fun z hz hz2 => ?_⟩
    · show (out1 c Q).drop (grantD (out1 c H) (out1 c Q)).1 = _
      generalize (grantD (out1 c H) (out1 c Q)).1 = n at hnp ⊢
      rw [hQ1, List.drop_append_of_le_length hnp]
    · rcases k2 z hz with h5 | h5
      · have hne := out_gone (srt_once hs) z h5
        rcases List.mem_cons.1 (hh z (out_mem h5) hz2) with e | e
        · exact absurd e hne
        · exact e
      · refine hP1 z ?_
        generalize (grantD (out1 c H) (out1 c Q)).1 = n at hnp h5
        rw [hQ1, List.take_append_of_le_length hnp] at h5
        exact List.mem_of_mem_take h5
/-- When nobody is left that it waits for, it does not wait. -/
theorem edge_end {y : En} (h : Fine H Q) : ¬ Wt y [] H Q := by
  rintro ⟨⟨P, hQ, hP⟩, hh⟩
  have hPn : P = [] := by
    cases P with
    | nil => rfl
    | cons p r => have := hP p List.mem_cons_self; cases this
  rw [hPn, List.nil_append] at hQ
  obtain ⟨z, hz, hz2⟩ := fits_no.1 (h.ok.first y [] hQ)
  have := hh z hz hz2
  cases this
theorem edge_start (h : Once Q) (hq : 0 < Q.length) : Wt (Q.getD (Q.length - 1) (0, 0)) (blocksD (Q.getD (Q.length - 1) (0, 0)).1 H Q) H Q ∧ ∀ c ∈ blocksD (Q.getD (Q.length - 1) (0, 0)).1 H Q, (Q.getD (Q.length - 1) (0, 0)).1 ≠ c := by
  have hx : Q.length - 1 < Q.length := by omega
  rw [blocks_at h hx]
  obtain ⟨c1, _⟩ := canon_facts (metD H Q (Q.length - 1) (Q.getD (Q.length - 1) (0, 0)))
  refine ⟨⟨⟨Q.take (Q.length - 1), ?_, fun x hx2 => ?_⟩, fun z hz hz2 => ?_⟩, fun c hc e => ?_⟩
  · have e := drop_at hx
    rw [show Q.length - 1 + 1 = Q.length by omega, List.drop_length] at e
    conv => lhs; rw [← List.take_append_drop (Q.length - 1) Q]
    rw [e]
  · refine (c1 _).2 ?_
    unfold metD
    exact List.mem_append_left _ (List.mem_map.2 ⟨x, hx2, rfl⟩)
  · refine (c1 _).2 ?_
    unfold metD
    exact List.mem_append_right _ (List.mem_map.2 ⟨z, List.mem_filter.2 ⟨hz, by simpa using hz2⟩, rfl⟩)
  · have := (c1 c).1 hc
    unfold metD at this
    rcases List.mem_append.1 this with h2 | h2
    · obtain ⟨q, hq2, e3⟩ := List.mem_map.1 h2
      obtain ⟨j, hj, rfl⟩ := List.mem_take_iff_getElem.1 hq2
      have h4 := once_ne h (show j < Q.length - 1 by omega) hx
      apply h4
      rw [e, ← e3]
      simp [List.getD, show j < Q.length by omega]
    · obtain ⟨q, hq2, e3⟩ := List.mem_map.1 h2
      rw [List.mem_filter] at hq2
      have h5 := hq2.2
      unfold hindD at h5
      simp only [Bool.and_eq_true, bne_iff_ne] at h5
      exact h5.1 (e3.trans e.symm)
end Go.Proofs.Ytmdbmkekdpbliaa
