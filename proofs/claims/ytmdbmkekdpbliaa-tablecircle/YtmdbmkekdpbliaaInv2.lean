/- What Ask and Leave keep, the rest of it (plain facts). -/
import Derived.Test.YtmdbmkekdpbliaaInv
namespace Go.Proofs.Ytmdbmkekdpbliaa
open Go.RowKit
variable {H Q : List En}

theorem srt_same {l : List En} (hs : Srt l) {x y : En} (hx : x ∈ l) (hy : y ∈ l) (e : x.1 = y.1) : x = y := by
  have h1 := look_uniq (k := x.1) (v := x.2) hs hx
  have h2 := look_uniq (k := x.1) (v := y.2) hs (by rw [e]; exact hy)
  exact Prod.ext e (h1.symm.trans h2)
theorem put_mem2 {y z : En} (hs : Srt H) (h : z ∈ putD y H) : z = y ∨ (z ∈ H ∧ z.1 ≠ y.1) := by
  by_cases e : z.1 = y.1
  · exact .inl (srt_same (srt_put hs) h (mem_put hs) e)
  · rcases put_mem h with h | h
    · exact .inl h
    · exact .inr ⟨h, e⟩
theorem has_put {y : En} (hs : Srt H) (k : Int) : hasD k (putD y H) = true ↔ k = y.1 ∨ hasD k H = true := by
  constructor
  · intro h
    obtain ⟨x, hx, e⟩ := has_iff.1 h
    rcases put_mem hx with rfl | hx
    · exact .inl e.symm
    · exact .inr (has_iff.2 ⟨x, hx, e⟩)
  · rintro (h | h)
    · exact has_iff.2 ⟨y, mem_put hs, h.symm⟩
    · obtain ⟨x, hx, e⟩ := has_iff.1 h
      by_cases e2 : x.1 = y.1
      · exact has_iff.2 ⟨y, mem_put hs, by rw [← e2]; exact e⟩
      · exact has_iff.2 ⟨x, put_old hs hx e2, e⟩
theorem look_put {y : En} (hs : Srt H) {k : Int} (hk : k ≠ y.1) : lookD k (putD y H) = lookD k H := by
  cases e : hasD k H
  · rw [look_no e]
    apply look_no
    cases e2 : hasD k (putD y H)
    · rfl
    · rcases (has_put hs k).1 e2 with h | h
      · exact absurd h hk
      · rw [e] at h; cases h
  · exact look_uniq (srt_put hs) (put_old hs (look_mem e) hk)
/-- All that is held fits together. -/
def Fit (H : List En) : Prop := ∀ x ∈ H, ∀ y ∈ H, x.1 ≠ y.1 → fitsB x.2 y.2 = true
theorem fits_comm {a b : Int} (ha : md a) (hb : md b) : fitsB a b = fitsB b a := by
  obtain ⟨i, rfl⟩ := six (m := a) (known_iff.2 ⟨by have := ha.1; omega, ha.2⟩)
  obtain ⟨j, rfl⟩ := six (m := b) (known_iff.2 ⟨by have := hb.1; omega, hb.2⟩)
  have key : ∀ i j : Fin 6, fitsB (i.val : Int) (j.val : Int) = fitsB (j.val : Int) (i.val : Int) := by decide +kernel
  exact key i j
theorem fit_put {y : En} (hs : Srt H) (hm : ∀ x ∈ H, md x.2) (hy : md y.2) (h : Fit H) (hf : fitsL y H = true) : Fit (putD y H) := by
  have key : ∀ x ∈ H, x.1 ≠ y.1 → fitsB y.2 x.2 = true := fun x hx hne => by
    unfold fitsL at hf
    rw [Bool.not_eq_true', List.any_eq_false] at hf
    have := hf x hx
    unfold hindD at this
    cases e : fitsB y.2 x.2
    · exfalso; apply this; simp [hne, e]
    · rfl
  intro x hx z hz hne
  rcases put_mem2 hs hx with ex | ⟨hx2, nx⟩ <;> rcases put_mem2 hs hz with ez | ⟨hz2, nz⟩
  · rw [ex, ez] at hne; exact absurd rfl hne
  · rw [ex]; exact key z hz2 nz
  · rw [ez, fits_comm (hm x hx2) hy]; exact key x hx2 nx
  · exact h x hx2 z hz2 hne
/-- Those that hold something wait ahead of those that do not. -/
def Ahead (H Q : List En) : Prop := Q.Pairwise (fun a c => hasD c.1 H = true → hasD a.1 H = true)
theorem conv_has (hm : ∀ x ∈ H, md x.2) : ∀ {Q : List En}, ∀ x ∈ Q.take (convD H Q), hasD x.1 H = true
  | [], x, h => by simp at h
  | q :: r, x, h => by
    unfold convD at h
    split at h
    · simp at h
    · rename_i hq
      rw [List.take_succ_cons] at h
      rcases List.mem_cons.1 h with rfl | h
      · cases e : hasD x.1 H
        · exact absurd (by rw [look_no e]; rfl) hq
        · rfl
      · exact conv_has hm x h
theorem ahead_wait {held : Int} {y : En} (hm : ∀ x ∈ H, md x.2) (hh : held = lookD y.1 H) (h : Ahead H Q) : Ahead H (waitD held y H Q) := by
  unfold waitD Ahead
  split
  · rename_i e
    have e0 : hasD y.1 H = false := (look_zero hm).1 (by rw [← hh]; simpa using e)
    rw [List.pairwise_append]
    exact ⟨h, List.pairwise_singleton _ _, fun a _ c hc h2 => by rw [List.mem_singleton.1 hc, e0] at h2; cases h2⟩
  · rename_i e
    have e0 : hasD y.1 H = true := by
      cases e2 : hasD y.1 H
      · exact absurd (by rw [hh, look_no e2]; rfl) e
      · rfl
    rw [List.pairwise_append]
    refine ⟨List.Pairwise.sublist (List.take_sublist _ _) h, ?_, fun a ha c _ _ => conv_has hm a ha⟩
    rw [List.pairwise_cons]
    exact ⟨fun c _ _ => e0, List.Pairwise.sublist (List.drop_sublist _ _) h⟩
/-- All of it. -/
structure Fine (H Q : List En) : Prop where
  ok : Ok H Q
  fit : Fit H
  ahead : Ahead H Q
  cov : ∀ x ∈ Q, coversB x.2 (lookD x.1 H) = true
theorem fine_nil : Fine [] [] := ⟨ok_nil, fun x h => (by cases h), List.Pairwise.nil, fun x h => (by cases h)⟩
theorem goal_cov {held m : Int} (hh : held = 0 ∨ md held) (hm : knownB m = true) : coversB (goal held m) held = true ∧ coversB (goal held m) m = true := by
  have hk : knownB held = true := by
    rw [known_iff]
    rcases hh with h | h
    · omega
    · exact ⟨by have := h.1; omega, h.2⟩
  obtain ⟨i, rfl⟩ := six hk
  obtain ⟨j, rfl⟩ := six hm
  have key : ∀ i j : Fin 6, (coversB (goal (i.val : Int) (j.val : Int)) (i.val : Int) && coversB (goal (i.val : Int) (j.val : Int)) (j.val : Int)) = true := by decide +kernel
  simpa using key i j
theorem ask_fine (who m : Int) (hs : Srt H) (h : Fine H Q) : Fine (askD who m H Q).2.1 (askD who m H Q).2.2 ∧
    ((askD who m H Q).1 = 1 → coversB (lookD who (askD who m H Q).2.1) m = true ∧ coversB (lookD who (askD who m H Q).2.1) (lookD who H) = true) ∧
    ((askD who m H Q).1 ≠ 1 → lookD who (askD who m H Q).2.1 = lookD who H) := by
  have hok := (ask_ok who m hs h.ok).1
  cases hk : okD who m Q
  · have e : askD who m H Q = (0, H, Q) := by unfold askD; rw [hk]; rfl
    rw [e]
    exact ⟨h, fun e => absurd e (show ¬ ((0 : Int) = 1) by decide), fun _ => rfl⟩
  · obtain ⟨⟨h1, h2⟩, h3⟩ : (knownB m = true ∧ (m == 0) = false) ∧ (lookD who Q == 0) = true := by
      unfold okD at hk
      simpa using hk
    have hnq : hasD who Q = false := (look_zero h.ok.qm).1 (by simpa using h3)
    have hheld : lookD who H = 0 ∨ md (lookD who H) := by
      cases e : hasD who H
      · exact .inl (look_no e)
      · exact .inr (h.ok.hm _ (look_mem e))
    obtain ⟨g1, _⟩ := goal_md hheld h1 h2
    obtain ⟨g3, g4⟩ := goal_cov hheld h1
    obtain ⟨held, hd⟩ : ∃ held, held = lookD who H := ⟨_, rfl⟩
    obtain ⟨t, ht⟩ : ∃ t, t = goal held m := ⟨_, rfl⟩
    rw [← hd, ← ht] at g1 g3 g4
    cases hs1 : (t == held)
    · cases hp : (passD held H Q && fitsL (who, t) H)
      · have e : askD who m H Q = (2, H, waitD held (who, t) H Q) := by unfold askD; simp only [hk, ← hd, ← ht, hs1, hp]; rfl
        rw [e] at hok ⊢
        refine ⟨⟨hok, h.fit, ahead_wait (y := (who, t)) h.ok.hm hd h.ahead, fun x hx => ?_⟩, fun e => absurd e (show ¬ ((2 : Int) = 1) by decide), fun _ => rfl⟩
        rcases wait_mem.1 hx with rfl | hx
        · show coversB t (lookD who H) = true
          rw [← hd]; exact g3
        · exact h.cov x hx
      · have e : askD who m H Q = (1, putD (who, t) H, Q) := by unfold askD; simp only [hk, ← hd, ← ht, hs1, hp]; rfl
        rw [Bool.and_eq_true] at hp
        rw [e] at hok ⊢
        have hl : lookD who (putD (who, t) H) = t := look_uniq (srt_put hs) (mem_put hs)
        refine ⟨⟨hok, fit_put hs h.ok.hm g1 h.fit hp.2, ?_, fun x hx => ?_⟩, fun _ => ?_, fun e => absurd rfl e⟩
        · cases e0 : hasD who H
          · have hQ : Q = [] := by
              have h5 := hp.1
              unfold passD at h5
              rw [hd, look_no e0] at h5
              simpa using h5
            rw [hQ]; exact List.Pairwise.nil
          · have same : ∀ k, hasD k (putD (who, t) H) = hasD k H := fun k => by
              cases e1 : hasD k H
              · cases e2 : hasD k (putD (who, t) H)
                · rfl
                · rcases (has_put hs k).1 e2 with h6 | h6
                  · rw [h6] at e1; rw [e0] at e1; cases e1
                  · rw [e1] at h6; cases h6
              · exact (has_put hs k).2 (.inr e1)
            unfold Ahead
            simp only [same]
            exact h.ahead
        · show coversB x.2 (lookD x.1 (putD (who, t) H)) = true
          rw [look_put hs (hasnt hnq x hx)]; exact h.cov x hx
        · show coversB (lookD who (putD (who, t) H)) m = true ∧ coversB (lookD who (putD (who, t) H)) (lookD who H) = true
          rw [hl, ← hd]; exact ⟨g4, g3⟩
    · have e : askD who m H Q = (1, H, Q) := by unfold askD; simp only [hk, ← hd, ← ht, hs1]; rfl
      have e2 : t = held := by simpa using hs1
      rw [e]
      refine ⟨h, fun _ => ?_, fun e => absurd rfl e⟩
      show coversB (lookD who H) m = true ∧ coversB (lookD who H) (lookD who H) = true
      rw [← hd, ← e2]
      refine ⟨g4, ?_⟩
      rw [← e2] at g3; exact g3
theorem grant_keep : ∀ (Q H : List En), Srt H → (∀ z ∈ H, (∀ q ∈ Q.take (grantD H Q).1, q.1 ≠ z.1) → z ∈ (grantD H Q).2) ∧ (∀ z ∈ (grantD H Q).2, z ∈ H ∨ z ∈ Q.take (grantD H Q).1)
  | [], H, _ => ⟨fun z h _ => h, fun z h => .inl h⟩
  | x :: r, H, hs => by
    cases hf : fitsL x H
    · rw [grant_stop hf]
      exact ⟨fun z h _ => h, fun z h => .inl h⟩
    · rw [grant_cons hf]
      obtain ⟨i1, i2⟩ := grant_keep r (putD x H) (srt_put hs)
      refine ⟨fun z hz hne => ?_, fun z hz => ?_⟩
      · rw [List.take_succ_cons] at hne
        exact i1 z (put_old hs hz (fun e => hne x List.mem_cons_self e.symm)) (fun q hq => hne q (List.mem_cons_of_mem _ hq))
      · rw [List.take_succ_cons]
        rcases i2 z hz with h | h
        · rcases put_mem h with rfl | h
          · exact .inr List.mem_cons_self
          · exact .inl h
        · exact .inr (List.mem_cons_of_mem _ h)
theorem grant_fit : ∀ (Q H : List En), Srt H → (∀ x ∈ H, md x.2) → (∀ x ∈ Q, md x.2) → Fit H → Fit (grantD H Q).2
  | [], H, _, _, _, h => h
  | x :: r, H, hs, hm, qm, h => by
    cases hf : fitsL x H
    · rw [grant_stop hf]; exact h
    · rw [grant_cons hf]
      have hx := qm x List.mem_cons_self
      refine grant_fit r (putD x H) (srt_put hs) (fun z hz => ?_) (fun z hz => qm z (List.mem_cons_of_mem _ hz)) (fit_put hs hm hx h hf)
      rcases put_mem hz with rfl | hz
      · exact hx
      · exact hm z hz
theorem out_keep {who : Int} {l : List En} {z : En} (h : z ∈ l) (hne : z.1 ≠ who) : z ∈ out1 who l := by
  unfold out1
  rw [List.mem_eraseP_of_neg]
  · exact h
  · simpa [isWho] using hne
theorem leave_fine (who : Int) (hs : Srt H) (h : Fine H Q) : Fine (leaveD who H Q).2.1 (leaveD who H Q).2.2 ∧ lookD who (leaveD who H Q).2.1 = 0 ∧ lookD who (leaveD who H Q).2.2 = 0 := by
  obtain ⟨hok, _, h3, h4⟩ := leave_ok who hs h.ok
  have no : ∀ {l : List En}, (∀ x ∈ l, x.1 ≠ who) → lookD who l = 0 := fun {l} hl => look_no (by
    cases e : hasD who l
    · rfl
    · obtain ⟨x, hx, e2⟩ := has_iff.1 e
      exact absurd e2 (hl x hx))
  have hs1 := out_srt (who := who) hs
  have ho1 := out_once (who := who) h.ok.once
  have hm1 : ∀ x ∈ out1 who H, md x.2 := fun x hx => h.ok.hm x (out_mem hx)
  have qm1 : ∀ x ∈ out1 who Q, md x.2 := fun x hx => h.ok.qm x (out_mem hx)
  have hfit1 : Fit (out1 who H) := fun x hx y hy => h.fit x (out_mem hx) y (out_mem hy)
  obtain ⟨k1, k2⟩ := grant_keep (out1 who Q) (out1 who H) hs1
  obtain ⟨_, _, _, srt', _⟩ := grant_facts (out1 who Q) (out1 who H) hs1 ho1 hm1 qm1
  have apart : ∀ x ∈ (out1 who Q).drop (grantD (out1 who H) (out1 who Q)).1, ∀ q ∈ (out1 who Q).take (grantD (out1 who H) (out1 who Q)).1, q.1 ≠ x.1 := fun x hx q hq => by
    have h2 : ((out1 who Q).take (grantD (out1 who H) (out1 who Q)).1 ++ (out1 who Q).drop (grantD (out1 who H) (out1 who Q)).1).Pairwise (fun a b => a.1 ≠ b.1) := by rw [List.take_append_drop]; exact ho1
    exact (List.pairwise_append.1 h2).2.2 q hq x hx
  have has' : ∀ x ∈ (out1 who Q).drop (grantD (out1 who H) (out1 who Q)).1, hasD x.1 (grantD (out1 who H) (out1 who Q)).2 = hasD x.1 H := fun x hx => by
    have hne := out_gone h.ok.once x (List.mem_of_mem_drop hx)
    cases e1 : hasD x.1 H
    · cases e2 : hasD x.1 (grantD (out1 who H) (out1 who Q)).2
      · rfl
      · obtain ⟨z, hz, e3⟩ := has_iff.1 e2
        rcases k2 z hz with h5 | h5
        · rw [has_iff.2 ⟨z, out_mem h5, e3⟩] at e1; cases e1
        · exact absurd e3 (apart x hx z h5)
    · obtain ⟨z, hz, e3⟩ := has_iff.1 e1
      exact has_iff.2 ⟨z, k1 z (out_keep hz (by rw [e3]; exact hne)) (fun q hq => by rw [e3]; exact apart x hx q hq), e3⟩
  refine ⟨⟨hok, grant_fit _ _ hs1 hm1 qm1 hfit1, ?_, fun x hx => ?_⟩, no (fun x hx => (h3 x hx).1), no (fun x hx => (h4 x hx).1)⟩
  · show List.Pairwise _ _
    have hsub : ((out1 who Q).drop (grantD (out1 who H) (out1 who Q)).1).Sublist Q := (List.drop_sublist _ _).trans List.eraseP_sublist
    have := List.Pairwise.sublist hsub h.ahead
    refine this.imp_of_mem (fun {a c} ha hc h6 h7 => ?_)
    have h7' : hasD c.1 (grantD (out1 who H) (out1 who Q)).2 = true := h7
    show hasD a.1 (grantD (out1 who H) (out1 who Q)).2 = true
    rw [has' a ha]
    rw [has' c hc] at h7'
    exact h6 h7'
  · have hx' : x ∈ (out1 who Q).drop (grantD (out1 who H) (out1 who Q)).1 := hx
    have hne := out_gone h.ok.once x (List.mem_of_mem_drop hx')
    have e : lookD x.1 (leaveD who H Q).2.1 = lookD x.1 H := by
      show lookD x.1 (grantD (out1 who H) (out1 who Q)).2 = _
      cases e1 : hasD x.1 H
      · rw [look_no e1, look_no (by rw [has' x hx']; exact e1)]
      · exact look_uniq srt' (k1 _ (out_keep (look_mem e1) hne) (fun q hq => apart x hx' q hq))
    rw [e]
    exact h.cov x (out_mem (List.mem_of_mem_drop hx'))
end Go.Proofs.Ytmdbmkekdpbliaa
