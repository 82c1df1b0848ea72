/- What Ask and Leave keep (plain facts). -/
import Derived.Test.YtmdbmkekdpbliaaFst
import Derived.Test.YtmdbmkekdpbliaaSix
namespace Go.Proofs.Ytmdbmkekdpbliaa
open Go.RowKit

/-- A mode that one can hold. -/
def md (m : Int) : Prop := 1 ≤ m ∧ m ≤ 5
theorem has_iff {k : Int} {l : List En} : hasD k l = true ↔ ∃ x ∈ l, x.1 = k := by
  unfold hasD
  rw [List.any_eq_true]
  simp
theorem hasnt {k : Int} {l : List En} (h : hasD k l = false) : ∀ x ∈ l, x.1 ≠ k := fun x hx e => by
  rw [has_iff.2 ⟨x, hx, e⟩] at h; cases h
theorem look_mem {k : Int} : ∀ {l : List En}, hasD k l = true → (k, lookD k l) ∈ l
  | [], h => by cases h
  | p :: r, h => by
    unfold lookD
    cases e : (p.1 == k)
    · have h2 : hasD k r = true := by
        unfold hasD at h ⊢
        rw [List.any_cons, e] at h
        simpa using h
      exact List.mem_cons_of_mem _ (look_mem h2)
    · have : p.1 = k := by simpa using e
      rw [← this]
      exact List.mem_cons_self
theorem look_zero {k : Int} {l : List En} (hm : ∀ x ∈ l, md x.2) : lookD k l = 0 ↔ hasD k l = false := by
  refine ⟨fun h => ?_, look_no⟩
  cases e : hasD k l
  · rfl
  · have := (hm _ (look_mem e)).1
    simp only at this; omega
theorem look_uniq {k v : Int} : ∀ {l : List En}, Srt l → (k, v) ∈ l → lookD k l = v
  | [], _, h => by cases h
  | p :: r, hs, h => by
    obtain ⟨h1, h2⟩ := List.pairwise_cons.1 hs
    unfold lookD
    rcases List.mem_cons.1 h with e | h
    · subst e; simp
    · have := h1 _ h
      have e : (p.1 == k) = false := by rw [beq_eq_false_iff_ne]; simp only at this; omega
      rw [e]
      exact look_uniq (l := r) h2 h
theorem put_mem {y z : En} {l : List En} (h : z ∈ putD y l) : z = y ∨ z ∈ l := by
  unfold putD at h
  split at h
  · rcases List.mem_or_eq_of_mem_set h with h | h
    · exact .inr h
    · exact .inl h
  · rcases List.mem_append.1 h with h | h
    · exact .inr (List.mem_of_mem_take h)
    · rcases List.mem_cons.1 h with h | h
      · exact .inl h
      · exact .inr (List.mem_of_mem_drop h)
theorem mem_put {y : En} {l : List En} (hs : Srt l) : y ∈ putD y l := by
  unfold putD
  split
  · rename_i hh
    exact List.mem_set (look_pos hs hh).1 y
  · exact List.mem_append_right _ List.mem_cons_self
theorem put_old {y z : En} {l : List En} (hs : Srt l) (h : z ∈ l) (hne : z.1 ≠ y.1) : z ∈ putD y l := by
  unfold putD
  split
  · rename_i hh
    obtain ⟨p1, p2, _⟩ := look_pos hs hh
    obtain ⟨j, hj, rfl⟩ := List.getElem_of_mem h
    have hjp : posD y.1 l ≠ j := by
      rintro e
      apply hne
      have e2 : (l.getD j (0, 0)).1 = y.1 := by rw [← e]; exact p2
      simpa [List.getD, hj] using e2
    have : (l.set (posD y.1 l) y)[j]'(by rw [List.length_set]; exact hj) = l[j] := List.getElem_set_ne hjp _
    rw [← this]
    exact List.getElem_mem _
  · rw [← List.take_append_drop (posD y.1 l) l] at h
    rcases List.mem_append.1 h with h | h
    · exact List.mem_append_left _ h
    · exact List.mem_append_right _ (List.mem_cons_of_mem _ h)
theorem wait_mem {held : Int} {y z : En} {H Q : List En} : z ∈ waitD held y H Q ↔ z = y ∨ z ∈ Q := by
  unfold waitD
  split
  · rw [List.mem_append, List.mem_singleton]; exact Or.comm
  · rw [List.mem_append, List.mem_cons]
    constructor
    · rintro (h | h | h)
      · exact .inr (List.mem_of_mem_take h)
      · exact .inl h
      · exact .inr (List.mem_of_mem_drop h)
    · rintro (h | h)
      · exact .inr (.inl h)
      · rw [← List.take_append_drop (convD H Q) Q] at h
        rcases List.mem_append.1 h with h | h
        · exact .inl h
        · exact .inr (.inr h)
theorem wait_len (held : Int) (y : En) (H Q : List En) : (waitD held y H Q).length = Q.length + 1 := by
  unfold waitD
  split
  · simp
  · exact ins_len Q _ y (conv_le H Q)
/-- Each waits once. -/
def Once (l : List En) : Prop := l.Pairwise (fun a b => a.1 ≠ b.1)
theorem once_wait {held : Int} {y : En} {H Q : List En} (h : Once Q) (hy : ∀ x ∈ Q, x.1 ≠ y.1) : Once (waitD held y H Q) := by
  unfold waitD Once
  split
  · rw [List.pairwise_append]
    exact ⟨h, List.pairwise_singleton _ _, fun a ha c hc => by rw [List.mem_singleton.1 hc]; exact hy a ha⟩
  · rw [List.pairwise_append]
    refine ⟨h.sublist (List.take_sublist _ _), ?_, fun a ha c hc => ?_⟩
    · rw [List.pairwise_cons]
      exact ⟨fun a ha => fun e => hy a (List.mem_of_mem_drop ha) e.symm, h.sublist (List.drop_sublist _ _)⟩
    · rcases List.mem_cons.1 hc with rfl | hc
      · exact hy a (List.mem_of_mem_take ha)
      · have h2 : (Q.take (convD H Q) ++ Q.drop (convD H Q)).Pairwise (fun a b => a.1 ≠ b.1) := by rw [List.take_append_drop]; exact h
        exact (List.pairwise_append.1 h2).2.2 a ha c hc

/-- What holds of a lane at all times: modes that can be held; each waits once; the first that waits does not fit. -/
structure Ok (H Q : List En) : Prop where
  hm : ∀ x ∈ H, md x.2
  qm : ∀ x ∈ Q, md x.2
  once : Once Q
  first : ∀ x r, Q = x :: r → fitsL x H = false
theorem ok_nil : Ok [] [] := ⟨fun x h => (by cases h), fun x h => (by cases h), List.Pairwise.nil, fun x r h => (by cases h)⟩
theorem fits_knows {a b : Int} (h : fitsB a b = true) : knownB a = true ∧ knownB b = true := by
  unfold fitsB at h
  simp only [known_iff, hasB] at *
  repeat' split at h
  all_goals simp_all [known_iff]
  all_goals omega
theorem goal_md {held m : Int} (hh : held = 0 ∨ md held) (hm : knownB m = true) (h0 : (m == 0) = false) : md (goal held m) ∧ ∀ x, fitsB x (goal held m) = true → md held → fitsB x held = true := by
  have hk : knownB held = true := by
    rw [known_iff]
    rcases hh with h | h
    · omega
    · exact ⟨by have := h.1; omega, h.2⟩
  obtain ⟨i, rfl⟩ := six hk
  obtain ⟨j, rfl⟩ := six hm
  have key : ∀ i j : Fin 6, ((j.val : Int) == 0) = false → (decide (1 ≤ goal (i.val : Int) (j.val : Int)) && decide (goal (i.val : Int) (j.val : Int) ≤ 5)) = true := by decide +kernel
  have h1 := key i j h0
  simp only [Bool.and_eq_true, decide_eq_true_eq] at h1
  refine ⟨h1, fun x hx hmd => ?_⟩
  have hxk : knownB x = true := by
    cases e : knownB x
    · rw [(fits_knows hx).1] at e; cases e
    · rfl
  obtain ⟨k, rfl⟩ := six hxk
  have key2 : ∀ i j k : Fin 6, (!fitsB (k.val : Int) (goal (i.val : Int) (j.val : Int)) || fitsB (k.val : Int) (i.val : Int)) = true := by decide +kernel
  have h2 := key2 i j k
  rw [hx] at h2
  simpa using h2
theorem fits_no {x : En} {H : List En} : fitsL x H = false ↔ ∃ h ∈ H, hindD h x = true := by
  unfold fitsL
  rw [Bool.not_eq_false', List.any_eq_true]
theorem wait_first {held : Int} {y x : En} {H Q r : List En} (e : waitD held y H Q = x :: r) : (∃ r', Q = x :: r') ∨ (x = y ∧ passD held H Q = true) := by
  unfold waitD at e
  unfold passD
  cases hh : (held == 0)
  · rw [hh] at e
    simp only [Bool.false_eq_true, if_false] at e ⊢
    cases hc : convD H Q with
    | zero =>
      rw [hc] at e
      simp only [List.take_zero, List.nil_append] at e
      injection e with e1 _
      exact .inr ⟨e1.symm, rfl⟩
    | succ n =>
      cases Q with
      | nil => simp [convD] at hc
      | cons q r2 =>
        rw [hc] at e
        simp only [List.take_succ_cons, List.cons_append] at e
        injection e with e1 _
        exact .inl ⟨r2, by rw [e1]⟩
  · rw [hh] at e
    simp only [if_true] at e ⊢
    cases Q with
    | nil =>
      simp only [List.nil_append] at e
      injection e with e1 _
      exact .inr ⟨e1.symm, rfl⟩
    | cons q r2 =>
      simp only [List.cons_append] at e
      injection e with e1 _
      exact .inl ⟨r2, by rw [e1]⟩
/-- Ask keeps it; who is there was there, or asked; one more at most. -/
theorem ask_ok {H Q : List En} (who m : Int) (hs : Srt H) (h : Ok H Q) : Ok (askD who m H Q).2.1 (askD who m H Q).2.2 ∧ (askD who m H Q).2.1.length + (askD who m H Q).2.2.length ≤ H.length + Q.length + 1 ∧
    (∀ x ∈ (askD who m H Q).2.1, x.1 = who ∨ ∃ z ∈ H, z.1 = x.1) ∧ (∀ x ∈ (askD who m H Q).2.2, x.1 = who ∨ ∃ z ∈ Q, z.1 = x.1) := by
  have same : Ok H Q ∧ H.length + Q.length ≤ H.length + Q.length + 1 ∧ (∀ x ∈ H, x.1 = who ∨ ∃ z ∈ H, z.1 = x.1) ∧ (∀ x ∈ Q, x.1 = who ∨ ∃ z ∈ Q, z.1 = x.1) :=
    ⟨h, by omega, fun x hx => .inr ⟨x, hx, rfl⟩, fun x hx => .inr ⟨x, hx, rfl⟩⟩
  cases hk : okD who m Q
  · have e : askD who m H Q = (0, H, Q) := by unfold askD; rw [hk]; rfl
    rw [e]; exact same
  · obtain ⟨⟨h1, h2⟩, h3⟩ : (knownB m = true ∧ (m == 0) = false) ∧ (lookD who Q == 0) = true := by
      unfold okD at hk
      simpa using hk
    have hnq : hasD who Q = false := (look_zero h.qm).1 (by simpa using h3)
    have hheld : lookD who H = 0 ∨ md (lookD who H) := by
      cases e : hasD who H
      · exact .inl (look_no e)
      · exact .inr (h.hm _ (look_mem e))
    obtain ⟨g1, g2⟩ := goal_md hheld h1 h2
    obtain ⟨held, hd⟩ : ∃ held, held = lookD who H := ⟨_, rfl⟩
    obtain ⟨t, ht⟩ : ∃ t, t = goal held m := ⟨_, rfl⟩
    rw [← hd, ← ht] at g1 g2
    cases hs1 : (t == held)
    · cases hp : (passD held H Q && fitsL (who, t) H)
      · have e : askD who m H Q = (2, H, waitD held (who, t) H Q) := by unfold askD; simp only [hk, ← hd, ← ht, hs1, hp]; rfl
        rw [e]
        refine ⟨⟨h.hm, fun x hx => ?_, once_wait h.once (hasnt hnq), fun x r hx => ?_⟩, ?_, fun x hx => .inr ⟨x, hx, rfl⟩, fun x hx => ?_⟩
        · rcases wait_mem.1 hx with rfl | hx
          · exact g1
          · exact h.qm x hx
        · rcases wait_first hx with ⟨r', e2⟩ | ⟨e1, e2⟩
          · exact h.first x r' e2
          · rw [e1]
            rw [e2] at hp
            simpa using hp
        · simp only [wait_len]; omega
        · rcases wait_mem.1 hx with rfl | hx
          · exact .inl rfl
          · exact .inr ⟨x, hx, rfl⟩
      · have e : askD who m H Q = (1, putD (who, t) H, Q) := by unfold askD; simp only [hk, ← hd, ← ht, hs1, hp]; rfl
        rw [e]
        refine ⟨⟨fun x hx => ?_, h.qm, h.once, fun x r hx => ?_⟩, ?_, fun x hx => ?_, fun x hx => .inr ⟨x, hx, rfl⟩⟩
        · rcases put_mem hx with rfl | hx
          · exact g1
          · exact h.hm x hx
        · obtain ⟨z, hz, hz2⟩ := fits_no.1 (h.first x r hx)
          unfold hindD at hz2
          simp only [Bool.and_eq_true, bne_iff_ne, Bool.not_eq_true'] at hz2
          by_cases hw : z.1 = who
          · refine fits_no.2 ⟨(who, t), mem_put hs, ?_⟩
            unfold hindD
            simp only [Bool.and_eq_true, bne_iff_ne, Bool.not_eq_true']
            refine ⟨by rw [← hw]; exact hz2.1, ?_⟩
            have hv : held = z.2 := by rw [hd]; exact look_uniq hs (by rw [← hw]; exact hz)
            cases hf : fitsB x.2 t
            · rfl
            · have := g2 _ hf (by rw [hv]; exact h.hm z hz)
              rw [hv, hz2.2] at this; cases this
          · refine fits_no.2 ⟨z, put_old hs hz hw, ?_⟩
            unfold hindD
            simp only [Bool.and_eq_true, bne_iff_ne, Bool.not_eq_true']
            exact hz2
        · have := put_len (who, t) H
          simp only; omega
        · rcases put_mem hx with rfl | hx
          · exact .inl rfl
          · exact .inr ⟨x, hx, rfl⟩
    · have e : askD who m H Q = (1, H, Q) := by unfold askD; simp only [hk, ← hd, ← ht, hs1]; rfl
      rw [e]; exact same
theorem ask_srt {H Q : List En} (who m : Int) (hs : Srt H) : Srt (askD who m H Q).2.1 := by
  unfold askD
  split
  · simp only
    split
    · exact hs
    · split
      · exact srt_put hs
      · exact hs
  · exact hs
/-- What grant leaves. -/
theorem grant_facts : ∀ (Q H : List En), Srt H → Once Q → (∀ x ∈ H, md x.2) → (∀ x ∈ Q, md x.2) →
    (∀ x ∈ Q.take (grantD H Q).1, x ∈ (grantD H Q).2) ∧ (∀ z ∈ H, (∀ x ∈ Q, x.1 ≠ z.1) → z ∈ (grantD H Q).2) ∧ (∀ z ∈ (grantD H Q).2, z ∈ H ∨ z ∈ Q) ∧ Srt (grantD H Q).2 ∧ (∀ x r, Q.drop (grantD H Q).1 = x :: r → fitsL x (grantD H Q).2 = false)
  | [], H, hs, _, _, _ => ⟨fun x h => (by cases h), fun z h _ => h, fun z h => .inl h, hs, fun x r h => (by cases h)⟩
  | x :: r, H, hs, ho, hm, qm => by
    cases hf : fitsL x H
    · rw [grant_stop hf]
      refine ⟨fun z h => (by cases h), fun z h _ => h, fun z h => .inl h, hs, fun z r' h => ?_⟩
      simp only [List.drop_zero] at h
      injection h with h1 _
      rw [← h1]; exact hf
    · rw [grant_cons hf]
      obtain ⟨ho1, ho2⟩ := List.pairwise_cons.1 ho
      have hm' : ∀ z ∈ putD x H, md z.2 := fun z hz => by
        rcases put_mem hz with rfl | hz
        · exact qm _ List.mem_cons_self
        · exact hm z hz
      obtain ⟨i1, i2, i3, i4, i5⟩ := grant_facts r (putD x H) (srt_put hs) ho2 hm' (fun z hz => qm z (List.mem_cons_of_mem _ hz))
      refine ⟨fun z hz => ?_, fun z hz hne => ?_, fun z hz => ?_, i4, fun z r' h => i5 z r' (by simpa using h)⟩
      · simp only [List.take_succ_cons] at hz
        rcases List.mem_cons.1 hz with rfl | hz
        · exact i2 _ (mem_put hs) (fun q hq => (ho1 q hq).symm)
        · exact i1 z hz
      · exact i2 z (put_old hs hz (fun e => hne x List.mem_cons_self e.symm)) (fun q hq => hne q (List.mem_cons_of_mem _ hq))
      · rcases i3 z hz with h | h
        · rcases put_mem h with rfl | h
          · exact .inr List.mem_cons_self
          · exact .inl h
        · exact .inr (List.mem_cons_of_mem _ h)
theorem out_mem {who : Int} {l : List En} {z : En} (h : z ∈ out1 who l) : z ∈ l := List.mem_of_mem_eraseP h
theorem out_once {who : Int} {l : List En} (h : Once l) : Once (out1 who l) := h.sublist List.eraseP_sublist
theorem out_gone {who : Int} : ∀ {l : List En}, Once l → ∀ z ∈ out1 who l, z.1 ≠ who
  | [], _, z, h => by cases h
  | p :: r, ho, z, h => by
    obtain ⟨h1, h2⟩ := List.pairwise_cons.1 ho
    unfold out1 at h
    rw [List.eraseP_cons] at h
    cases e : isWho who p
    · rw [e] at h
      rcases List.mem_cons.1 h with rfl | h
      · simpa [isWho] using e
      · exact out_gone (l := r) h2 z h
    · rw [e] at h
      have ep : p.1 = who := by simpa [isWho] using e
      have := h1 z (by simpa using h)
      rw [ep] at this
      exact this.symm
theorem srt_once {l : List En} (h : Srt l) : Once l := h.imp (fun h => by omega)
/-- Leave keeps it; who is there was there, and is not who left; no more than before. -/
theorem leave_ok {H Q : List En} (who : Int) (hs : Srt H) (h : Ok H Q) : Ok (leaveD who H Q).2.1 (leaveD who H Q).2.2 ∧ (leaveD who H Q).2.1.length + (leaveD who H Q).2.2.length ≤ H.length + Q.length ∧
    (∀ x ∈ (leaveD who H Q).2.1, x.1 ≠ who ∧ ((∃ z ∈ H, z.1 = x.1) ∨ ∃ z ∈ Q, z.1 = x.1)) ∧ (∀ x ∈ (leaveD who H Q).2.2, x.1 ≠ who ∧ ∃ z ∈ Q, z.1 = x.1) := by
  have hm1 : ∀ x ∈ out1 who H, md x.2 := fun x hx => h.hm x (out_mem hx)
  have qm1 : ∀ x ∈ out1 who Q, md x.2 := fun x hx => h.qm x (out_mem hx)
  have ho1 := out_once (who := who) h.once
  obtain ⟨i1, i2, i3, i4, i5⟩ := grant_facts (out1 who Q) (out1 who H) (out_srt hs) ho1 hm1 qm1
  have hle := grant_le (out1 who Q) (out1 who H)
  have hgl := grant_len (out1 who Q) (out1 who H)
  have l1 := out_len who H
  have l2 := out_len who Q
  unfold leaveD
  refine ⟨⟨fun x hx => ?_, fun x hx => qm1 x (List.mem_of_mem_drop hx), ho1.sublist (List.drop_sublist _ _), i5⟩, ?_, fun x hx => ?_, fun x hx => ?_⟩
  · rcases i3 x hx with h | h
    · exact hm1 x h
    · exact qm1 x h
  · simp only [List.length_drop]; omega
  · rcases i3 x hx with h2 | h2
    · exact ⟨out_gone (srt_once hs) x h2, .inl ⟨x, out_mem h2, rfl⟩⟩
    · exact ⟨out_gone h.once x h2, .inr ⟨x, out_mem h2, rfl⟩⟩
  · have h2 := List.mem_of_mem_drop hx
    exact ⟨out_gone h.once x h2, x, out_mem h2, rfl⟩
end Go.Proofs.Ytmdbmkekdpbliaa
