/- Texts of this claim, put together in their order. -/
import Derived.Deep.CutRange
import Derived.Test.YtdhpahopfmcdkaaBase1
import Derived.Test.YtdhpahopfmcdkaaBase2
import Derived.Test.YtdhpahopfmcdkaaBase3
import Derived.Test.YtdhpahopfmcdkaaBase4
import Derived.Test.YtdhpahopfmcdkaaBase5
import Derived.Test.YtdhpahopfmcdkaaBase6
import Derived.Test.YtdhpahopfmcdkaaBase7
import Derived.Test.YtdhpahopfmcdkaaBase8
import Derived.Test.YtdhpahopfmcdkaaOfPathsafe9
import Derived.Test.YtdhpahopfmcdkaaOfPathsafe10
/- TableOnce, plainly: how many locks; nobody waits at two nodes. -/
namespace Go.Proofs.Ytdhpahopfmcdkaa
open Go.RowKit
variable {H Q : List En}

theorem put_length (y : En) (l : List En) : (putD y l).length = l.length + (if hasD y.1 l then 0 else 1) := by
  unfold putD
  cases hasD y.1 l
  · rw [if_neg (by decide), if_neg (by decide), ins_len l _ y (posD_le _ _)]
  · rw [if_pos rfl, if_pos rfl, List.length_set]; rfl
theorem new_same {H H' : List En} : ∀ {Q : List En}, (∀ x ∈ Q, lookD x.1 H = lookD x.1 H') → newD H Q = newD H' Q := fun {Q} h => by
  unfold newD
  exact List.filter_congr (fun x hx => by rw [h x hx])
theorem has_look (hm : ∀ x ∈ H, md x.2) (k : Int) : hasD k H = !(lookD k H == 0) := by
  cases h : hasD k H
  · have := (look_zero hm).2 h
    rw [this]; rfl
  · have : lookD k H ≠ 0 := fun e => by rw [(look_zero hm).1 e] at h; cases h
    simp [this]
theorem locks_put (hs : Srt H) (hm : ∀ x ∈ H, md x.2) {y : En} (hQ : ∀ x ∈ Q, x.1 ≠ y.1) : locksD (putD y H, Q) = locksD (H, Q) + (if lookD y.1 H = 0 then 1 else 0) := by
  unfold locksD
  have h1 : newD (putD y H) Q = newD H Q := new_same (fun x hx => look_put hs (hQ x hx))
  show (putD y H).length + (newD (putD y H) Q).length = H.length + (newD H Q).length + _
  rw [h1, put_length, has_look hm]
  by_cases h : lookD y.1 H = 0
  · simp [h]; omega
  · simp [h]
theorem locks_wait (held : Int) (y : En) : locksD (H, waitD held y H Q) = locksD (H, Q) + (if lookD y.1 H = 0 then 1 else 0) := by
  unfold locksD
  show H.length + (newD H (waitD held y H Q)).length = H.length + (newD H Q).length + _
  have key : ∀ i, (newD H (Q.take i ++ y :: Q.drop i)).length = (newD H Q).length + (if lookD y.1 H = 0 then 1 else 0) := fun i => by
    have e : (newD H Q).length = (newD H (Q.take i)).length + (newD H (Q.drop i)).length := by
      conv => lhs; rw [← List.take_append_drop i Q]
      unfold newD
      rw [List.filter_append, List.length_append]
    rw [e]
    unfold newD
    rw [List.filter_append, List.length_append, List.filter_cons]
    by_cases h : lookD y.1 H = 0
    · simp [h]; omega
    · simp [h]
  rw [wait_at, key]; omega
theorem locks_ask (who m : Int) (hs : Srt H) (h : Ok H Q) : locksD (askD who m H Q).2 ≤ locksD (H, Q) + (if hasL who (H, Q) then 0 else 1) := by
  unfold askD
  cases hk : okD who m Q
  · simp
  · rw [if_pos rfl]
    have hq : lookD who Q = 0 := by
      unfold okD at hk
      simp at hk
      exact hk.2
    have hnq : ∀ x ∈ Q, x.1 ≠ who := hasnt ((look_zero h.qm).1 hq)
    have hl : hasL who (H, Q) = !(lookD who H == 0) := by
      unfold hasL
      show ((lookD who H != 0) || (lookD who Q != 0)) = _
      rw [hq]; simp; rfl
    have hb : (if lookD who H = 0 then 1 else 0) ≤ (if hasL who (H, Q) then 0 else 1) := by
      rw [hl]
      by_cases e : lookD who H = 0
      · simp [e]
      · simp [e]
    dsimp only
    split
    · exact Nat.le_add_right _ _
    · split
      · have := locks_put (Q := Q) hs h.hm (y := (who, goal (lookD who H) m)) hnq
        rw [this]
        exact Nat.add_le_add_left hb _
      · have := locks_wait (H := H) (Q := Q) (lookD who H) (who, goal (lookD who H) m)
        rw [this]
        exact Nat.add_le_add_left hb _
theorem ask_ok_nz {who m : Int} (h : okD who m Q = true) : (askD who m H Q).1 ≠ 0 := by
  unfold askD
  rw [h, if_pos rfl]
  dsimp only
  split
  · show (1 : Int) ≠ 0
    decide
  · split
    · show (1 : Int) ≠ 0
      decide
    · show (2 : Int) ≠ 0
      decide
theorem locks_grant : ∀ (Q H : List En), Srt H → Once Q → (∀ x ∈ H, md x.2) → (∀ x ∈ Q, md x.2) → locksD ((grantD H Q).2, Q.drop (grantD H Q).1) = locksD (H, Q)
  | [], H, _, _, _, _ => rfl
  | x :: r, H, hs, ho, hm, hq => by
    obtain ⟨o1, o2⟩ := List.pairwise_cons.1 ho
    cases hf : fitsL x H
    · rw [grant_stop hf, List.drop_zero]
    · rw [grant_cons hf]
      show locksD ((grantD (putD x H) r).2, (x :: r).drop ((grantD (putD x H) r).1 + 1)) = _
      rw [List.drop_succ_cons, locks_grant r (putD x H) (srt_put hs) o2 (fun z hz => by
        rcases put_mem hz with e | e
        · rw [e]; exact hq x List.mem_cons_self
        · exact hm z e) (fun z hz => hq z (List.mem_cons_of_mem _ hz)), locks_put hs hm (fun z hz => fun e => o1 z hz e.symm)]
      unfold locksD
      show H.length + (newD H r).length + _ = H.length + (newD H (x :: r)).length
      have e : (newD H (x :: r)).length = (newD H r).length + (if lookD x.1 H = 0 then 1 else 0) := by
        unfold newD
        rw [List.filter_cons]
        by_cases h : lookD x.1 H = 0
        · simp [h]
        · simp [h]
      omega
theorem look_out {who k : Int} (h : k ≠ who) : ∀ (l : List En), lookD k (out1 who l) = lookD k l
  | [] => rfl
  | p :: r => by
    have ih := look_out h r
    unfold out1 at ih ⊢
    rw [List.eraseP_cons]
    cases e : isWho who p
    · show lookD k (p :: r.eraseP _) = _
      unfold lookD
      rw [ih]
    · show lookD k r = lookD k (p :: r)
      have hp : p.1 = who := by simpa [isWho] using e
      conv => rhs; unfold lookD
      rw [if_neg (by simp; omega)]
theorem locks_leave (who : Int) (hs : Srt H) (h : Ok H Q) : locksD (leaveD who H Q).2 ≤ locksD (H, Q) := by
  have h1 := locks_grant (out1 who Q) (out1 who H) (out_srt hs) (out_once h.once) (fun x hx => h.hm x (out_mem hx)) (fun x hx => h.qm x (out_mem hx))
  have e : locksD (leaveD who H Q).2 = locksD (out1 who H, out1 who Q) := h1
  rw [e]
  unfold locksD
  show (out1 who H).length + (newD (out1 who H) (out1 who Q)).length ≤ H.length + (newD H Q).length
  have h2 : newD (out1 who H) (out1 who Q) = newD H (out1 who Q) := new_same (fun x hx => look_out (out_gone h.once x hx) H)
  have h3 := out_len who H
  have h4 : (newD H (out1 who Q)).length ≤ (newD H Q).length := by
    unfold newD
    exact ((List.eraseP_sublist (p := isWho who) (l := Q)).filter _).length_le
  rw [h2]; omega
theorem len_upd (T : Nat → Lv) {i : Nat} (x : Lv) : ∀ n, i < n → lenD (upd T i x) n + locksD (T i) = lenD T n + locksD x
  | 0, h => by omega
  | n + 1, h => by
    unfold lenD
    by_cases e : n = i
    · subst e
      rw [upd_same]
      have : ∀ m, m ≤ n → lenD (upd T n x) m = lenD T m := by
        intro m
        induction m with
        | zero => intro _; rfl
        | succ m ih =>
          intro hm
          unfold lenD
          rw [ih (by omega), upd_other T x (by omega)]
      rw [this n (Nat.le_refl _)]; omega
    · have := len_upd T (i := i) x n (by omega)
      rw [upd_other T x e]; omega
theorem len_mono {T T' : Nat → Lv} : ∀ n, (∀ i, i < n → locksD (T' i) ≤ locksD (T i)) → lenD T' n ≤ lenD T n
  | 0, _ => Nat.le_refl _
  | n + 1, h => by
    unfold lenD
    have := len_mono n (fun i hi => h i (by omega))
    have := h n (by omega)
    omega
/-- Who waits at a node waits at no other one; no more locks than may be. -/
structure On (n : Nat) (most : Int) (k : Nat) (T : Nat → Lv) : Prop where
  gd : Gd n k T
  one : ∀ i j, i < n → j < n → ∀ x ∈ (T i).2, ∀ y ∈ (T j).2, x.1 = y.1 → i = j
  room : (lenD T n : Int) ≤ most
theorem lenD_none : ∀ n, lenD none0 n = 0
  | 0 => rfl
  | n + 1 => by
    unfold lenD
    rw [lenD_none n]; rfl
theorem on_none (n k : Nat) {most : Int} (h : 0 ≤ most) : On n most k none0 := ⟨gd_none n k, fun i j _ _ x hx => (by cases hx), by rw [lenD_none]; exact h⟩
theorem On.up {n k k' : Nat} {most : Int} {T : Nat → Lv} (h : On n most k T) (hk : k ≤ k') : On n most k' T := ⟨h.gd.up hk, h.one, h.room⟩
variable {n k : Nat} {most : Int} {T : Nat → Lv}
theorem on_ask (who node m : Int) (hs : ∀ i, i < n → Srt (T i).1) (h : On n most k T) : On n most (k + 1) (askT n most T who node m).2 ∧ ((askT n most T who node m).1.2 = 0 → (askT n most T who node m).1.1 ≠ 0) ∧ ((askT n most T who node m).1.2 ≠ 0 → (askT n most T who node m).1.1 = 0) := by
  have hg := gd_ask (most := most) (who := who) (node := node) (m := m) hs h.gd
  by_cases h0 : errD n most T who node m = 0
  · obtain ⟨p1, p2, p3, p4, p5, p6, p7⟩ := err_node h0
    rw [ask_yes h0] at hg ⊢
    obtain ⟨i, hi⟩ : ∃ i, i = node.toNat := ⟨_, rfl⟩
    rw [← hi] at hg p7 ⊢
    have hin : i < n := by omega
    have f := h.gd.fine i hin
    have hok : okD who m (T i).2 = true := by
      unfold okD
      rw [p6, p3 i hin]
      simp [p5]
    obtain ⟨_, _, _, a4⟩ := ask_ok who m (hs i hin) f.ok
    have hnw : ∀ j, j < n → ∀ x ∈ (T j).2, x.1 ≠ who := fun j hj => hasnt ((look_zero (h.gd.fine j hj).ok.qm).1 (p3 j hj))
    refine ⟨⟨hg, fun a c ha hc x hx y hy e => ?_, ?_⟩, fun _ => ask_ok_nz hok, fun e => absurd rfl e⟩
    · dsimp only at hx hy
      by_cases ea : a = i <;> by_cases ec : c = i
      · omega
      · exfalso
        subst ea
        rw [upd_same] at hx
        rw [upd_other _ _ ec] at hy
        rcases a4 x hx with h1 | ⟨z, hz, h1⟩
        · exact hnw c hc y hy (by rw [← e, h1])
        · exact ec (h.one a c ha hc z hz y hy (by rw [h1, e])).symm
      · exfalso
        subst ec
        rw [upd_same] at hy
        rw [upd_other _ _ ea] at hx
        rcases a4 y hy with h1 | ⟨z, hz, h1⟩
        · exact hnw a ha x hx (by rw [e, h1])
        · exact ea (h.one a c ha hc x hx z hz (by rw [h1, e]))
      · rw [upd_other _ _ ea] at hx
        rw [upd_other _ _ ec] at hy
        exact h.one a c ha hc x hx y hy e
    · have h1 := len_upd T (i := i) (askD who m (T i).1 (T i).2).2 n hin
      have h2 := locks_ask who m (hs i hin) f.ok
      have h3 := h.room
      show (lenD (upd T i (askD who m (T i).1 (T i).2).2) n : Int) ≤ most
      rcases p7 with p7 | p7
      · have e : hasL who ((T i).1, (T i).2) = true := p7
        rw [e, if_pos rfl] at h2
        have e2 : locksD ((T i).1, (T i).2) = locksD (T i) := rfl
        omega
      · have e2 : locksD ((T i).1, (T i).2) = locksD (T i) := rfl
        have : locksD (askD who m (T i).1 (T i).2).2 ≤ locksD (T i) + 1 := by
          split at h2 <;> omega
        omega
  · rw [ask_not h0] at hg ⊢
    exact ⟨⟨hg, h.one, h.room⟩, fun e => absurd e h0, fun _ => rfl⟩
/-- What happens at one lane when who drops. -/
def dD (who : Int) (T : Nat → Lv) (j : Nat) : List Int × Lv := if hasL who (T j) then leaveD who (T j).1 (T j).2 else ([], T j)
theorem drop_flat (who : Int) (T : Nat → Lv) : ∀ (xs : List Nat), xs.Nodup → ∀ (g : List Int) (S : Nat → Lv), (∀ j ∈ xs, S j = T j) → xs.foldl (dropS who) (g, S) = (g ++ xs.flatMap (fun j => (dD who T j).1), fun j => if j ∈ xs then (dD who T j).2 else S j)
  | [], _, g, S, _ => by simp
  | x :: r, hn, g, S, h => by
    obtain ⟨h1, h2⟩ := List.nodup_cons.1 hn
    have e : dropS who (g, S) x = (g ++ (dD who T x).1, upd S x (dD who T x).2) := by
      have hS := h x List.mem_cons_self
      have hu : upd S x (S x) = S := by
        funext j
        unfold upd
        by_cases hj : j = x
        · rw [if_pos hj, hj]
        · rw [if_neg hj]
      unfold dropS dD
      cases hh : hasL who (T x)
      · have hh2 : hasL who (S x) = false := by rw [hS]; exact hh
        simp only [hh2, Bool.false_eq_true, if_false, List.append_nil]
        rw [← hS, hu]
      · simp only [hS, hh, if_true]
    rw [List.foldl_cons, e, drop_flat who T r h2 _ _ (fun j hj => by
      have hne : j ≠ x := fun e => h1 (by rw [← e]; exact hj)
      rw [upd_other S _ hne]
      exact h j (List.mem_cons_of_mem _ hj))]
    rw [List.flatMap_cons, List.append_assoc]
    congr 1
    funext j
    by_cases hj : j ∈ r
    · rw [if_pos hj, if_pos (List.mem_cons_of_mem _ hj)]
    · rw [if_neg hj]
      by_cases hx : j = x
      · subst hx
        rw [upd_same, if_pos List.mem_cons_self]
      · rw [upd_other S _ hx, if_neg (fun e => by rcases List.mem_cons.1 e with e | e; exact hx e; exact hj e)]
theorem dn_nodup (n : Nat) : (dn n 0).Nodup := by
  unfold dn
  rw [List.Nodup, List.pairwise_map]
  refine List.Pairwise.imp_of_mem ?_ (List.pairwise_lt_range (n := n - 0))
  intro a c ha hc h
  have := List.mem_range.1 ha
  have := List.mem_range.1 hc
  omega
theorem dn_mem {n i : Nat} : i ∈ dn n 0 ↔ i < n := by
  unfold dn
  rw [List.mem_map]
  constructor
  · rintro ⟨j, hj, rfl⟩
    have := List.mem_range.1 hj
    omega
  · intro h
    exact ⟨n - 1 - i, by rw [List.mem_range]; omega, by omega⟩
theorem drop_at2 (who : Int) (T : Nat → Lv) {n i : Nat} (hi : i < n) : (dropD who T (dn n 0)).2 i = (dD who T i).2 := by
  unfold dropD
  rw [drop_flat who T (dn n 0) (dn_nodup n) [] T (fun _ _ => rfl)]
  show (if i ∈ dn n 0 then _ else _) = _
  rw [if_pos (dn_mem.2 hi)]
theorem held_nil {who : Int} {T : Nat → Lv} : ∀ n, (∀ i, i < n → lookD who (T i).1 = 0) → heldD who T n = []
  | 0, _ => rfl
  | n + 1, h => by
    unfold heldD
    rw [if_pos (h n (by omega)), held_nil n (fun i hi => h i (by omega))]
theorem on_drop (who : Int) (hs : ∀ i, i < n → Srt (T i).1) (h : On n most k T) : On n most k (dropD who T (dn n 0)).2 ∧ noneW who n (dropD who T (dn n 0)).2 ∧ heldD who (dropD who T (dn n 0)).2 n = [] := by
  have key : ∀ i, i < n → Fine (dD who T i).2.1 (dD who T i).2.2 ∧ (dD who T i).2.1.length + (dD who T i).2.2.length ≤ k ∧ (∀ x ∈ (dD who T i).2.2, ∃ z ∈ (T i).2, z.1 = x.1) ∧ locksD (dD who T i).2 ≤ locksD (T i) ∧ lookD who (dD who T i).2.1 = 0 ∧ lookD who (dD who T i).2.2 = 0 := fun i hi => by
    have f := h.gd.fine i hi
    have s := h.gd.sum i hi
    unfold dD
    cases hh : hasL who (T i)
    · rw [if_neg (by decide)]
      unfold hasL at hh
      simp at hh
      exact ⟨f, s, fun x hx => ⟨x, hx, rfl⟩, Nat.le_refl _, hh.1, hh.2⟩
    · rw [if_pos rfl]
      obtain ⟨l1, l2, l3⟩ := leave_fine who (hs i hi) f
      obtain ⟨_, l4, _, l5⟩ := leave_ok who (hs i hi) f.ok
      exact ⟨l1, by omega, fun x hx => (l5 x hx).2, locks_leave who (hs i hi) f.ok, l2, l3⟩
  refine ⟨⟨⟨fun i hi => ?_, fun i hi => ?_⟩, fun a c ha hc x hx y hy e => ?_, ?_⟩, fun i hi => ?_, held_nil n (fun i hi => ?_)⟩
  · rw [drop_at2 who T hi]; exact (key i hi).1
  · rw [drop_at2 who T hi]; exact (key i hi).2.1
  · rw [drop_at2 who T ha] at hx
    rw [drop_at2 who T hc] at hy
    obtain ⟨z, hz, e1⟩ := (key a ha).2.2.1 x hx
    obtain ⟨z2, hz2, e2⟩ := (key c hc).2.2.1 y hy
    exact h.one a c ha hc z hz z2 hz2 (by rw [e1, e2, e])
  · have := len_mono (T := T) (T' := (dropD who T (dn n 0)).2) n (fun i hi => by rw [drop_at2 who T hi]; exact (key i hi).2.2.2.1)
    have := h.room
    omega
  · rw [drop_at2 who T hi]; exact (key i hi).2.2.2.2.2
  · rw [drop_at2 who T hi]; exact (key i hi).2.2.2.2.1
end Go.Proofs.Ytdhpahopfmcdkaa

/- PathSafe, plainly: who is able, what a request brings, how many there are. -/
namespace Go.Proofs.Ytdhpahopfmcdkaa
open Go.RowKit

/-- Nothing more is needed. -/
theorem next_none {hr ho hs : Int} {esc write : Bool} {r o s : Int} (h : (nextK hr ho hs esc write r o s).2 = false) : coversB hr (inD write) = true ∧ (wholeB write ho = true ∨ (coversB ho (inD write) = true ∧ coversB hs (wantD write) = true)) := by
  unfold nextK at h
  cases h1 : coversB hr (inD write)
  · simp [h1] at h
  · cases h2 : wholeB write ho
    · cases h3 : coversB hs (wantD write) <;> cases h4 : esc <;> cases h5 : coversB ho (inD write) <;> simp [h1, h2, h3, h4, h5] at h ⊢
    · exact ⟨rfl, .inl rfl⟩
/-- How many requests are left at most. -/
def rankK (hr ho hs : Int) (esc write : Bool) : Nat :=
  if coversB hr (inD write) = false then 3 else if wholeB write ho = true then 0
  else if coversB hs (wantD write) = true then (if coversB ho (inD write) = true then 0 else 1)
  else if esc = true then 1 else if coversB ho (inD write) = true then 1 else 2
theorem rank_le (hr ho hs : Int) (esc write : Bool) : rankK hr ho hs esc write ≤ 3 := by
  unfold rankK
  repeat' split
  all_goals omega
theorem rank_pos {hr ho hs : Int} {esc write : Bool} {r o s : Int} (h : (nextK hr ho hs esc write r o s).2 = true) : 1 ≤ rankK hr ho hs esc write := by
  unfold nextK at h
  unfold rankK
  cases h1 : coversB hr (inD write) <;> cases h2 : wholeB write ho <;> cases h3 : coversB hs (wantD write) <;> cases h4 : esc <;> cases h5 : coversB ho (inD write) <;> simp [h1, h2, h3, h4, h5] at h ⊢
theorem cov_kn {a b : Int} (h : coversB a b = true) : ∃ i j : Fin 6, a = (i.val : Int) ∧ b = (j.val : Int) := by
  have h1 := covers_known h
  have h2 : knownB b = true := by unfold coversB at h; simp at h; exact h.1
  obtain ⟨i, hi⟩ := six h1
  obtain ⟨j, hj⟩ := six h2
  exact ⟨i, j, hi, hj⟩
theorem whole_of {write : Bool} {h : Int} (hc : coversB h (wantD write) = true) : wholeB write h = true := by
  obtain ⟨i, j, rfl, hj⟩ := cov_kn hc
  have key : ∀ i : Fin 6, ∀ w : Bool, coversB (i.val : Int) (wantD w) = true → wholeB w (i.val : Int) = true := by decide +kernel
  exact key i write hc
/-- A request that is granted: what is held there covers what was asked for; elsewhere all is as it was. -/
theorem rank_down {hr ho hs hr' ho' hs' : Int} {esc esc' write : Bool} {r o s node m : Int} (hro : r ≠ o) (hrs : r ≠ s) (hos : o ≠ s) (h : nextK hr ho hs esc write r o s = ((node, m), true))
    (hr1 : node = r → coversB hr' m = true) (hr2 : node ≠ r → hr' = hr) (ho1 : node = o → coversB ho' m = true) (ho2 : node ≠ o → ho' = ho) (hs1 : node = s → coversB hs' m = true) (hs2 : node ≠ s → hs' = hs) (he : node ≠ s → esc' = esc) :
    rankK hr' ho' hs' esc' write + 1 ≤ rankK hr ho hs esc write := by
  unfold nextK at h
  cases h1 : coversB hr (inD write)
  · rw [if_pos h1] at h
    have e1 : node = r := by injection h with h _; injection h with h _; exact h.symm
    have e2 : m = inD write := by injection h with h _; injection h with _ h; exact h.symm
    have c1 := hr1 e1
    rw [e2] at c1
    have hx : rankK hr ho hs esc write = 3 := by unfold rankK; rw [if_pos h1]
    rw [hx]
    unfold rankK
    rw [if_neg (by rw [c1]; decide)]
    repeat' split
    all_goals omega
  · rw [if_neg (by rw [h1]; decide)] at h
    cases h2 : wholeB write ho
    · rw [if_neg (by rw [h2]; decide)] at h
      cases h3 : coversB hs (wantD write)
      · cases h4 : esc
        · rw [h3, h4, if_neg (by decide)] at h
          cases h5 : coversB ho (inD write)
          · rw [if_pos h5] at h
            have e1 : node = o := by injection h with h _; injection h with h _; exact h.symm
            have e2 : m = inD write := by injection h with h _; injection h with _ h; exact h.symm
            have c1 := ho1 e1
            rw [e2] at c1
            have q1 := hr2 (by rw [e1]; exact fun e => hro e.symm)
            have q2 := hs2 (by rw [e1]; exact hos)
            have q3 := he (by rw [e1]; exact hos)
            unfold rankK
            rw [q1, q2, q3]
            cases hz : wholeB write ho' <;> simp [h1, h2, h3, h4, h5, c1]
          · rw [h5, if_neg (by decide), if_pos rfl] at h
            have e1 : node = s := by injection h with h _; injection h with h _; exact h.symm
            have e2 : m = wantD write := by injection h with h _; injection h with _ h; exact h.symm
            have c1 := hs1 e1
            rw [e2] at c1
            have q1 := hr2 (by rw [e1]; exact fun e => hrs e.symm)
            have q2 := ho2 (by rw [e1]; exact fun e => hos e.symm)
            unfold rankK
            rw [q1, q2]
            simp [h1, h2, h3, h5, c1]
        · rw [h3, h4, if_pos ⟨rfl, rfl⟩] at h
          have e1 : node = o := by injection h with h _; injection h with h _; exact h.symm
          have e2 : m = wantD write := by injection h with h _; injection h with _ h; exact h.symm
          have c1 := ho1 e1
          rw [e2] at c1
          have q1 := hr2 (by rw [e1]; exact fun e => hro e.symm)
          unfold rankK
          rw [q1]
          simp [h1, h2, h3, whole_of c1]
      · rw [if_neg (by rw [h3]; exact fun e => absurd e.1 (by decide))] at h
        cases h5 : coversB ho (inD write)
        · rw [if_pos h5] at h
          have e1 : node = o := by injection h with h _; injection h with h _; exact h.symm
          have e2 : m = inD write := by injection h with h _; injection h with _ h; exact h.symm
          have c1 := ho1 e1
          rw [e2] at c1
          have q1 := hr2 (by rw [e1]; exact fun e => hro e.symm)
          have q2 := hs2 (by rw [e1]; exact hos)
          unfold rankK
          rw [q1, q2]
          cases hz : wholeB write ho' <;> simp [h1, h2, h3, h5, c1]
        · rw [h5, if_neg (by decide), if_neg (by rw [h3]; decide)] at h
          injection h with _ h
          cases h
    · rw [h2, if_pos rfl] at h
      injection h with _ h
      cases h
/-- What is asked for: where, and what holds above it. -/
theorem next_what {hr ho hs : Int} {esc write : Bool} {r o s node m : Int} (h : nextK hr ho hs esc write r o s = ((node, m), true)) :
    md m ∧ ((node = r) ∨ (node = o ∧ coversB hr (intentD m) = true) ∨ (node = s ∧ coversB ho (intentD m) = true)) := by
  have i1 : intentD (inD write) = inD write := by cases write <;> decide
  have i2 : intentD (wantD write) = inD write := by cases write <;> decide
  have m1 : md (inD write) := by cases write <;> exact ⟨by decide, by decide⟩
  have m2 : md (wantD write) := by cases write <;> exact ⟨by decide, by decide⟩
  unfold nextK at h
  cases h1 : coversB hr (inD write)
  · rw [if_pos h1] at h
    injection h with h _
    injection h with h h2
    rw [← h, ← h2]
    exact ⟨m1, .inl rfl⟩
  · rw [h1, if_neg (by decide)] at h
    split at h
    · injection h with _ h; cases h
    · split at h
      · injection h with h _
        injection h with h h2
        rw [← h, ← h2, i2]
        exact ⟨m2, .inr (.inl ⟨rfl, h1⟩)⟩
      · split at h
        · injection h with h _
          injection h with h h2
          rw [← h, ← h2, i1]
          exact ⟨m1, .inr (.inl ⟨rfl, h1⟩)⟩
        · rename_i h5
          split at h
          · injection h with h _
            injection h with h h2
            rw [← h, ← h2, i2]
            refine ⟨m2, .inr (.inr ⟨rfl, ?_⟩)⟩
            cases e : coversB ho (inD write)
            · exact absurd e h5
            · rfl
          · injection h with _ h; cases h
/-- Nobody beside a writer. -/
theorem facts5 : ∀ i j k l : Fin 6, ∀ u v : Bool, (u || v) = true →
    (wholeB u (i.val : Int) || (coversB (i.val : Int) (inD u) && coversB (j.val : Int) (wantD u))) = true →
    (wholeB v (k.val : Int) || (coversB (k.val : Int) (inD v) && coversB (l.val : Int) (wantD v))) = true →
    (((i.val : Int) == 0) || ((k.val : Int) == 0) || fitsB (i.val : Int) (k.val : Int)) = true →
    (((j.val : Int) == 0) || ((l.val : Int) == 0) || fitsB (j.val : Int) (l.val : Int)) = true → False := by
  decide +kernel
theorem apart5 {ho hs ko ks : Int} {u v : Bool} (huv : u = true ∨ v = true) (m1 : mz ho) (m2 : mz hs) (m3 : mz ko) (m4 : mz ks)
    (h : wholeB u ho = true ∨ (coversB ho (inD u) = true ∧ coversB hs (wantD u) = true)) (k : wholeB v ko = true ∨ (coversB ko (inD v) = true ∧ coversB ks (wantD v) = true))
    (fo : ho = 0 ∨ ko = 0 ∨ fitsB ho ko = true) (fs : hs = 0 ∨ ks = 0 ∨ fitsB hs ks = true) : False := by
  obtain ⟨a, rfl⟩ := mz_fin m1
  obtain ⟨b, rfl⟩ := mz_fin m2
  obtain ⟨c, rfl⟩ := mz_fin m3
  obtain ⟨d, rfl⟩ := mz_fin m4
  refine facts5 a b c d u v ?_ ?_ ?_ ?_ ?_
  · rcases huv with h | h <;> simp [h]
  · rcases h with h | h <;> simp [h]
  · rcases k with h | h <;> simp [h]
  · rcases fo with h | h | h <;> simp [h]
  · rcases fs with h | h | h <;> simp [h]
variable {n k : Nat} {most : Int} {T : Nat → Lv}
theorem look_mz {H : List En} (hm : ∀ x ∈ H, md x.2) (who : Int) : mz (lookD who H) := by
  cases e : hasD who H
  · rw [look_no e]; exact ⟨by decide, by decide⟩
  · have := hm _ (look_mem e)
    exact ⟨by have := this.1; simp only at this; omega, this.2⟩
theorem holdT_mz (h : Gd n k T) (who node : Int) : mz (holdT n T who node) := by
  unfold holdT
  split
  · rename_i e
    have : 0 ≤ node ∧ node < n := by simpa using e
    exact look_mz (h.fine node.toNat (by omega)).ok.hm who
  · exact ⟨by decide, by decide⟩
theorem hold_fit (h : Gd n k T) {a b : Int} (hab : a ≠ b) (node : Int) : holdT n T a node = 0 ∨ holdT n T b node = 0 ∨ fitsB (holdT n T a node) (holdT n T b node) = true := by
  unfold holdT
  split
  · rename_i e
    have : 0 ≤ node ∧ node < n := by simpa using e
    have f := h.fine node.toNat (by omega)
    cases ea : hasD a (T node.toNat).1
    · exact .inl (look_no ea)
    · cases eb : hasD b (T node.toNat).1
      · exact .inr (.inl (look_no eb))
      · exact .inr (.inr (f.fit _ (look_mem ea) _ (look_mem eb) hab))
  · exact .inl rfl
/-- Does who need nothing more to read (write) the word a? -/
def ableB (c : Cf) (n : Nat) (T : Nat → Lv) (who a : Int) (write : Bool) : Bool := isB c a && !(nextD c n T who a write).2
theorem able_apart {c : Cf} (h : Gd n k T) {who z a : Int} {u v : Bool} (huv : u = true ∨ v = true) (hne : z ≠ who) (h1 : (nextD c n T who a u).2 = false) : ableB c n T z a v = false := by
  cases e : ableB c n T z a v
  · rfl
  · exfalso
    unfold ableB at e
    have e2 : (nextD c n T z a v).2 = false := by simp at e; exact e.2
    obtain ⟨_, p1⟩ := next_none h1
    obtain ⟨_, p2⟩ := next_none e2
    exact apart5 huv (holdT_mz h _ _) (holdT_mz h _ _) (holdT_mz h _ _) (holdT_mz h _ _) p1 p2 (hold_fit h (fun e => hne e.symm) _) (hold_fit h (fun e => hne e.symm) _)
theorem ask_one {who m : Int} {H Q : List En} (h : (askD who m H Q).1 = 1) : (askD who m H Q).2.2 = Q := by
  unfold askD at h ⊢
  split at h
  · rename_i e
    rw [if_pos e]
    dsimp only at h ⊢
    split
    · rfl
    · rename_i e1
      rw [if_neg e1] at h
      split
      · rfl
      · rename_i e2
        rw [if_neg e2] at h
        exact absurd (show (2 : Int) = 1 from h) (by decide)
  · simp at h
theorem len_ask (who node m : Int) (hs : ∀ i, i < n → Srt (T i).1) (h : Gd n k T) : lenD (askT n most T who node m).2 n ≤ lenD T n + 1 := by
  by_cases h0 : errD n most T who node m = 0
  · obtain ⟨p1, p2, _⟩ := err_node h0
    rw [ask_yes h0]
    obtain ⟨i, hi⟩ : ∃ i, i = node.toNat := ⟨_, rfl⟩
    rw [← hi]
    have hin : i < n := by omega
    have h1 := len_upd T (i := i) (askD who m (T i).1 (T i).2).2 n hin
    have h2 := locks_ask who m (hs i hin) (h.fine i hin).ok
    have e2 : locksD ((T i).1, (T i).2) = locksD (T i) := rfl
    show lenD (upd T i (askD who m (T i).1 (T i).2).2) n ≤ _
    have : locksD (askD who m (T i).1 (T i).2).2 ≤ locksD (T i) + 1 := by
      split at h2 <;> omega
    omega
  · rw [ask_not h0]
    exact Nat.le_succ _
/-- The table, so far: j requests at most. -/
structure Sf (n j : Nat) (T : Nat → Lv) : Prop where
  gd : Gd n j T
  one : ∀ i i', i < n → i' < n → ∀ x ∈ (T i).2, ∀ y ∈ (T i').2, x.1 = y.1 → i = i'
  len : lenD T n ≤ j
theorem sf_none (n j : Nat) : Sf n j none0 := ⟨gd_none n j, fun i j _ _ x hx => (by cases hx), by rw [lenD_none]; exact Nat.zero_le _⟩
theorem Sf.up {j j' : Nat} (h : Sf n j T) (hj : j ≤ j') : Sf n j' T := ⟨h.gd.up hj, h.one, Nat.le_trans h.len hj⟩
theorem Sf.ask {j : Nat} (h : Sf n j T) (hs : ∀ i, i < n → Srt (T i).1) (hj : (j : Int) ≤ most) (who node m : Int) : Sf n (j + 1) (askT n most T who node m).2 := by
  have h1 := on_ask who node m hs (show On n most j T from ⟨h.gd, h.one, by have := h.len; omega⟩)
  have h2 := len_ask (most := most) who node m hs h.gd
  exact ⟨h1.1.gd, h1.1.one, by have := h.len; omega⟩
theorem Sf.drop {j : Nat} (h : Sf n j T) (hs : ∀ i, i < n → Srt (T i).1) (who : Int) : Sf n j (dropD who T (dn n 0)).2 := by
  have h1 := on_drop who hs (show On n (j : Int) j T from ⟨h.gd, h.one, by have := h.len; omega⟩)
  exact ⟨h1.1.gd, h1.1.one, by have := h1.1.room; omega⟩
/-- No error stands ahead. -/
theorem sf_err {j : Nat} (h : Sf n j T) (hj : (j : Int) < most) {who node m : Int} (hw : 0 ≤ who) (hno : noneW who n T) (h0 : 0 ≤ node) (h1 : node < n) (hm : md m) : errD n most T who node m = 0 := by
  unfold errD
  have e1 : (decide (0 ≤ node) && decide (node < n)) = true := by simp; omega
  have e2 : ¬ atW who T n < n := fun e => atW_at who T n e (hno _ e)
  rw [e1, if_neg (by decide), if_neg e2, if_neg, if_neg (by have := h.len; omega)]
  rintro (h | h | h)
  · omega
  · have := hm.1; omega
  · rw [known_no] at h
    exact h ⟨by have := hm.1; omega, hm.2⟩
/-- What is held behind a request that is granted. -/
theorem ask_holds {j : Nat} (h : Sf n j T) (hs : ∀ i, i < n → Srt (T i).1) {who node m : Int} (he : errD n most T who node m = 0) (hno : noneW who n T) {r : (Int × Int) × (Nat → Lv)} (hr : askT n most T who node m = r) (h1 : r.1.1 = 1) :
    noneW who n r.2 ∧ coversB (holdT n r.2 who node) m = true ∧ ∀ x, x ≠ node → holdT n r.2 who x = holdT n T who x := by
  obtain ⟨p1, p2, _⟩ := err_node he
  rw [ask_yes he] at hr
  subst hr
  obtain ⟨i, rfl⟩ : ∃ i : Nat, node = (i : Int) := ⟨node.toNat, by omega⟩
  have hin : i < n := by omega
  have e2 : (i : Int).toNat = i := rfl
  rw [e2] at h1 ⊢
  have h2 : (askD who m (T i).1 (T i).2).1 = 1 := h1
  have f := (ask_fine who m (hs i hin) (h.gd.fine i hin)).2.1 h2
  have q := ask_one h2
  refine ⟨fun a ha => ?_, ?_, fun x hx => ?_⟩
  · show lookD who (upd T i _ a).2 = 0
    by_cases e : a = i
    · subst e
      rw [upd_same, q]
      exact hno a ha
    · rw [upd_other _ _ e]
      exact hno a ha
  · rw [holdT_in hin]
    show coversB (lookD who (upd T i _ i).1) m = true
    rw [upd_same]
    exact f.1
  · show holdT n (upd T i _) who x = _
    unfold holdT
    split
    · rename_i e
      have : 0 ≤ x ∧ x < n := by simpa using e
      have hne : x.toNat ≠ i := by omega
      rw [upd_other _ _ hne]
    · rfl
/-- The rank of an access. -/
def rankD (c : Cf) (n : Nat) (T : Nat → Lv) (who a : Int) (write : Bool) : Nat :=
  rankK (holdT n T who (rD c a)) (holdT n T who (c.r + oD c a)) (holdT n T who (c.r + no c + sD c a)) (escB c n T who (c.r + oD c a)) write
theorem safe_step {j : Nat} {c : Cf} (hok : okB c = true) (h : Sf n j T) (hs : ∀ i, i < n → Srt (T i).1) (hn : (n : Int) = nodesD c) (hj : (j : Int) < most) {who a : Int} {write : Bool} (ha0 : 0 ≤ a) (ha1 : a < nw c) (hw : 0 ≤ who) (hno : noneW who n T)
    {node m : Int} (hx : nextD c n T who a write = ((node, m), true)) {r : (Int × Int) × (Nat → Lv)} (hr : askT n most T who node m = r) :
    r.1.2 = 0 ∧ Sf n (j + 1) r.2 ∧ 0 ≤ node ∧ node < n ∧ (levelD c node = 0 ∨ (0 < levelD c node ∧ coversB (holdT n T who (parentD c node)) (intentD m) = true)) ∧ (r.1.1 = 1 → noneW who n r.2 ∧ rankD c n r.2 who a write + 1 ≤ rankD c n T who a write) := by
  have hp := okB_hp hok
  obtain ⟨s0, s1⟩ := s_in hp ha0 ha1
  obtain ⟨o0, o1⟩ := o_in hp ha0 ha1
  obtain ⟨r0, r1⟩ := r_in hp ha0 ha1
  have b1 := hp.r1
  have b2 := (no_in hp).1
  have hnn := nodes_ok hok
  obtain ⟨m1, w1⟩ := next_what hx
  have lvl : 0 ≤ node ∧ node < n ∧ (levelD c node = 0 ∨ (0 < levelD c node ∧ coversB (holdT n T who (parentD c node)) (intentD m) = true)) := by
    rcases w1 with e | ⟨e, e2⟩ | ⟨e, e2⟩
    · rw [e]
      exact ⟨r0, by omega, .inl (level_r hok r0 r1)⟩
    · rw [e]
      refine ⟨by omega, by omega, .inr ⟨by rw [level_o hok o0 o1]; decide, ?_⟩⟩
      rw [parent_o hok o0 o1]
      exact e2
    · rw [e]
      refine ⟨by omega, by omega, .inr ⟨by rw [level_s hok s0 s1]; decide, ?_⟩⟩
      rw [parent_s hok s0 s1]
      exact e2
  have he := sf_err (most := most) h hj hw hno lvl.1 lvl.2.1 m1
  have hsf := h.ask (most := most) hs (by omega) who node m
  have hre : r.1.2 = 0 := by rw [← hr, ask_yes he]
  rw [hr] at hsf
  refine ⟨hre, hsf, lvl.1, lvl.2.1, lvl.2.2, fun hg => ?_⟩
  obtain ⟨k1, k2, k3⟩ := ask_holds h hs he hno hr hg
  refine ⟨k1, ?_⟩
  unfold rankD
  unfold nextD at hx
  refine rank_down (by omega) (by omega) (by omega) hx (fun e => by rw [← e]; exact k2) (fun e => k3 _ (fun e2 => e e2.symm)) (fun e => by rw [← e]; exact k2) (fun e => k3 _ (fun e2 => e e2.symm)) (fun e => by rw [← e]; exact k2) (fun e => k3 _ (fun e2 => e e2.symm)) (fun e => ?_)
  have hst : strD c n r.2 who (c.r + oD c a) = strD c n T who (c.r + oD c a) := by
    unfold strD
    rw [level_o hok o0 o1, if_pos rfl, if_pos rfl]
    refine strK_congr _ (fun q hq => k3 _ (fun e2 => ?_))
    rcases w1 with e3 | ⟨e3, _⟩ | ⟨e3, _⟩
    · have f1 : fstS c (c.r + oD c a) = c.r + no c + oD c a * c.s := by unfold fstS; rw [show c.r + oD c a - c.r = oD c a by omega]
      have f2 : 0 ≤ oD c a * c.s := Int.mul_nonneg o0 (by have := hp.s1; omega)
      omega
    · have f1 : fstS c (c.r + oD c a) = c.r + no c + oD c a * c.s := by unfold fstS; rw [show c.r + oD c a - c.r = oD c a by omega]
      have f2 : 0 ≤ oD c a * c.s := Int.mul_nonneg o0 (by have := hp.s1; omega)
      omega
    · exact e e3
  unfold escB
  rw [hst]
end Go.Proofs.Ytdhpahopfmcdkaa

/- PathSafe: its walk. -/
namespace Go.Proofs.Ytdhpahopfmcdkaa
open Go.RowKit

/-- A table, and the lock that is asked for. -/
def Sx (B n : Nat) (most : Int) (T : Nat → Lv) (b p : Nat) (y z : Int) (w : World) : Prop := Tn B n most T b w ∧ w.heap[p]? = some (.cells #[.int .i64 y, .int .i64 z] 50 (0, 0))
theorem Sx.next {B n : Nat} {most : Int} {T : Nat → Lv} {b p : Nat} {y z : Int} (w w' : World) (h : Sx B n most T b p y z w) (k : Below w.heap.size w w') : Sx B n most T b p y z w' := ⟨h.1.next k, (k.block p (heap_lt h.2)).trans h.2⟩
theorem intent_b (m : Int) (w : World) : Calls Try.prog 46 #[.int .i64 m] w fun e w' => e = .returned (.int .i64 (intentD m)) ∧ Below w.heap.size w w' :=
  (intent_any m w).mono fun _ _ ⟨e, k⟩ => ⟨e, by rw [k]; exact Below.refl _ _⟩
theorem covers_t (h t : Int) (w : World) (e : coversB h t = true) : Calls Try.prog 44 #[.int .i64 h, .int .i64 t] w fun e w' => e = .returned (.bool true) ∧ Below w.heap.size w w' := by
  have := covers_any h t w
  rw [e] at this
  exact this
set_option maxRecDepth 100000 in
set_option maxHeartbeats 20000000 in
theorem safe_in (c : Cf) (a2 : Option Addr) (n2 c2 : Nat) (l : List Int) (w : World) (s2 : SegK .i64 w a2 n2 l) (hok : okB c = true) (h2 : n2 ≤ 100) (hwf : ∀ i, i < n2 → (Lit.int .i64 (l.getD i 0)).wf = true) :
    Calls Try.prog 6 #[cv c, .slice a2 n2 c2] w fun e w' => e = .returned (.bool true) ∧ Below w.heap.size w w' := by
  obtain ⟨n, hn, n1, n2'⟩ := nodes_le hok
  have hx := bx_new c w
  have hb := below_new w (.cells #[.int .i64 c.r, .int .i64 c.o, .int .i64 c.s, .int .i64 c.d, .int .i64 c.t, .int .i64 c.l, .int .i64 c.g, .int .i64 c.k, .int .i64 c.u, .int .i64 c.e, .int .i64 c.i, .int .i64 c.p] 73)
  obtain ⟨w1, hw1⟩ : ∃ w1, w1 = w.alloc (.cells #[.int .i64 c.r, .int .i64 c.o, .int .i64 c.s, .int .i64 c.d, .int .i64 c.t, .int .i64 c.l, .int .i64 c.g, .int .i64 c.k, .int .i64 c.u, .int .i64 c.e, .int .i64 c.i, .int .i64 c.p] 73) := ⟨_, rfl⟩
  obtain ⟨q, hq⟩ : ∃ q, q = w.heap.size := ⟨_, rfl⟩
  rw [← hw1, ← hq] at hx
  rw [← hw1] at hb
  replace hb := hide hb
  have HC := hide (fun w' => check_ok hok w')
  have HW := hide (fun w' => words_ok c w' hok)
  have HN := hide (fun w' => nodes_at hn w')
  have hnw := nw_in (okB_hp hok)
  have HK := hide hok
  replace hn := hide hn
  have k3 : ¬ (100 < (n2 : Int)) := by omega
  replace s2 := hide s2
  clear hok
  obtain ⟨a0, a1, a2', a3, a4, a5, a6, a7, a8, a9, a10, a11⟩ := hx.cells
  obtain ⟨V, hV⟩ : ∃ V, V = nw c := ⟨_, rfl⟩
  rw [← hV] at HW hnw
  obtain ⟨V', rfl⟩ : ∃ V' : Nat, V = (V' : Int) := ⟨V.toNat, by omega⟩
  replace hV := hide hV
  obtain ⟨hv1, hv2⟩ := hnw
  unfold cv
  go_enter Try.func6, Try.ntmps6
  go_wp2_with fail
  rw [← hw1, ← hq]
  refine (first10_any w1).mono ?_
  rintro e w2 ⟨rfl, b2⟩
  have x2 := hx.next b2
  have B2 := hide (below_then (unhide hb) b2)
  replace hw1 := hide hw1
  replace hq := hide hq
  clear a0 a1 a2' a3 a4 a5 a6 a7 a8 a9 a10 a11 b2 hx
  obtain ⟨a0, a1, a2', a3, a4, a5, a6, a7, a8, a9, a10, a11⟩ := x2.cells
  go_wp2_with fail
  refine (unhide HC w2).mono ?_
  rintro e w4 ⟨rfl, b4⟩
  have x4 := x2.next b4
  have B4 := hide (below_then (unhide B2) b4)
  clear a0 a1 a2' a3 a4 a5 a6 a7 a8 a9 a10 a11 b4 x2
  obtain ⟨a0, a1, a2', a3, a4, a5, a6, a7, a8, a9, a10, a11⟩ := x4.cells
  go_wp2_with fail
  refine (unhide HN w4).mono ?_
  rintro e w6 ⟨rfl, b6⟩
  have x6 := x4.next b6
  have B6 := hide (below_then (unhide B4) b6)
  clear a0 a1 a2' a3 a4 a5 a6 a7 a8 a9 a10 a11 b6 x4
  go_wp2_with fail
  refine (new_n n 4096 w6 n1 (by omega) (by decide) (by decide)).mono ?_
  rintro e w7 ⟨b, rfl, L7, b7⟩
  obtain ⟨B, hB⟩ : ∃ B, B = w6.heap.size := ⟨_, rfl⟩
  rw [← hB] at L7
  have X7 : Hid (Py c q B n 4096 none0 b w w7) := hide ⟨x6.next b7, L7, below_then (unhide B6) b7, by rw [hB]; exact (unhide B6).size⟩
  have hqB : Hid (q < B) := by show _ < _; rw [hB]; exact x6.lt
  replace hB := hide hB
  clear x6 b7 L7
  obtain ⟨a0, a1, a2', a3, a4, a5, a6, a7, a8, a9, a10, a11⟩ := (unhide X7).bx.cells
  go_wp2_with fail
  refine (unhide HW w7).mono ?_
  rintro e w8 ⟨rfl, b8⟩
  have X8 := hide ((unhide X7).next b8)
  clear a0 a1 a2' a3 a4 a5 a6 a7 a8 a9 a10 a11 b8 B2 B4 B6
  go_wp2_with fail
  go_loopw [8] (fun s wr => ∃ (i : Nat) (T : Nat → Lv), i ≤ n2 ∧ s = .int .i64 i ∧ Hid (Py c q B n 4096 T b w wr) ∧ Hid (Sf n (6 * i) T)) (fun s _ => n2 - (intOf s).toNat)
  case atStart => exact ⟨0, none0, Nat.zero_le _, rfl, unhide X8, sf_none n _⟩
  case round =>
    obtain ⟨i, T0, hi, rfl, X, F⟩ := hrel
    by_cases hlt : i < n2
    · obtain ⟨g, off, rfl, hcell⟩ : ∃ g off, a2 = some ⟨g, off, none⟩ ∧ wr.cell? ⟨g, off + i, none⟩ = some (.int .i64 (l.getD i 0)) := by
        rcases ((unhide s2).later (unhide X).bel).2 with h | ⟨g, off, rfl, hc⟩
        · omega
        · exact ⟨g, off, rfl, hc i hlt⟩
      have hz := hwf i hlt
      obtain ⟨z, hze⟩ : ∃ z, z = l.getD i 0 := ⟨_, rfl⟩
      rw [← hze] at hcell hz
      replace hze := hide hze
      by_cases hz0 : z < 0
      · go_wp2_with fail
        refine (first10_any wr).mono ?_
        rintro e w9 ⟨rfl, b9⟩
        have X9 := hide ((unhide X).next b9)
        clear b9
        go_wp2
        go_ret
        exact ⟨rfl, (unhide X9).bel⟩
      · obtain ⟨m, rfl⟩ : ∃ m : Nat, z = (m : Int) := ⟨z.toNat, by omega⟩
        have hm9 : (m : Int) ≤ 9223372036854775807 := by
          simp [Lit.wf, IntKind.min, IntKind.max, IntKind.bits, IntKind.signed] at hz
          omega
        clear hz0 hz
        go_upto_region 17 with fail
        obtain ⟨x, hxe⟩ : ∃ x : Nat, (m : Int) % 4 = (x : Int) := ⟨m % 4, by omega⟩
        have hx4 : x < 4 := by omega
        obtain ⟨a, hae⟩ : ∃ a : Nat, (m : Int) / 8 % (V' : Int) = (a : Int) := ⟨m / 8 % V', by rw [Int.natCast_emod, Int.natCast_ediv]; rfl⟩
        have haV : (a : Int) < V' := by
          have := Int.emod_lt_of_pos ((m : Int) / 8) (show (0 : Int) < V' by omega)
          omega
        obtain ⟨write, hwe⟩ : ∃ u, ((m : Int) / 4 % 2 == 1) = u := ⟨_, rfl⟩
        rw [hxe, hae, hwe]
        have H1 : Hid ((a : Int) < nw c) := by show _ < _; rw [← unhide hV]; exact haV
        have H0 : Hid (0 ≤ (a : Int)) := by show _ ≤ _; omega
        replace hxe := hide hxe
        replace hae := hide hae
        replace hwe := hide hwe
        have hfew := hide ((unhide F).gd.few (by omega))
        have hsrt : Hid (∀ j, j < n → Srt (T0 j).1) := fun j hj => (unhide X).tn.srt hj
        obtain ⟨sx, hsx⟩ : ∃ sx, atW (x : Int) T0 n = sx := ⟨_, rfl⟩
        by_cases hw : sx < n
        · have hv : waitV (x : Int) n T0 sx = .tuple #[.agg #[.int .i64 sx, .int .i64 (lookD (x : Int) (T0 sx).2)], .bool true] := by
            unfold waitV; rw [if_pos hw, if_pos hw, decide_eq_true hw]
          go_wp2_with fail
          refine (waits_n wr (unhide X).tn (unhide hfew) (by omega) (x : Int) hsx).mono ?_
          rw [hv]
          rintro e w9 ⟨rfl, b9⟩
          have X9 := hide ((unhide X).next (below_add b9 (.cells #[.int .i64 sx, .int .i64 (lookD (x : Int) (T0 sx).2)] 50)))
          clear b9 hv hsx
          go_wp2_with fail
          refine (drop_n _ (unhide X9).tn ((unhide F).gd.up (by omega)) (by omega) (x : Int) rfl).mono ?_
          rintro e w10 ⟨gv, rfl, _, t10, b10⟩
          have X10 : Hid (Py c q B n 4096 (dropD (x : Int) T0 (dn n 0)).2 b w w10) := ⟨(unhide X9).bx.later b10 (unhide hqB), t10, (unhide X9).bel.trans (b10.mono (unhide X9).low), (unhide X9).low⟩
          have F10 := hide (((unhide F).drop (unhide hsrt) (x : Int)).up (show 6 * i ≤ 6 * (i + 1) by omega))
          clear t10 b10
          go_wp2
          go_roundw
          case rel => exact ⟨i + 1, _, by omega, by go_num, unhide X10, unhide F10⟩
          case measure => simp [intOf]; omega
        · have hv : waitV (x : Int) n T0 sx = .tuple #[.agg #[.int .i64 0, .int .i64 0], .bool false] := by
            unfold waitV; rw [if_neg hw, if_neg hw, decide_eq_false hw]
          have NW : Hid (noneW (x : Int) n T0) := fun j hj => atW_low (x : Int) T0 n j (by omega)
          go_wp2_with fail
          refine (waits_n wr (unhide X).tn (unhide hfew) (by omega) (x : Int) hsx).mono ?_
          rw [hv]
          rintro e w9 ⟨rfl, b9⟩
          have X9 := hide ((unhide X).next (below_add b9 (.cells #[.int .i64 0, .int .i64 0] 50)))
          clear b9 hv hsx hw
          by_cases h17 : (m : Int) % 17 = 0
          · go_wp2_with fail
            refine (drop_n _ (unhide X9).tn ((unhide F).gd.up (by omega)) (by omega) (x : Int) rfl).mono ?_
            rintro e w10 ⟨gv, rfl, _, t10, b10⟩
            have X10 : Hid (Py c q B n 4096 (dropD (x : Int) T0 (dn n 0)).2 b w w10) := ⟨(unhide X9).bx.later b10 (unhide hqB), t10, (unhide X9).bel.trans (b10.mono (unhide X9).low), (unhide X9).low⟩
            have F10 := hide (((unhide F).drop (unhide hsrt) (x : Int)).up (show 6 * i ≤ 6 * (i + 1) by omega))
            clear t10 b10
            go_wp2
            go_roundw
            case rel => exact ⟨i + 1, _, by omega, by go_num, unhide X10, unhide F10⟩
            case measure => simp [intOf]; omega
          · have h17b : ((m : Int) % 17 == 0) = false := by simpa using h17
            go_wp2_with fail
            clear h17 h17b
            go_loopw [15, 16] (fun s15 s16 wq => ∃ (k : Nat) (g : Bool) (T : Nat → Lv) (wz : World), wz = wq ∧ k ≤ 3 ∧ s15 = .bool g ∧ s16 = .int .i64 k ∧ Hid (Py c q B n 4096 T b w wz) ∧ Hid (Sf n (6 * i + k) T) ∧ Hid (g = true → noneW (x : Int) n T ∧ rankD c n T (x : Int) (a : Int) write + k ≤ 3)) (fun _ s16 _ => 6 - (intOf s16).toNat)
            case atStart => exact ⟨0, true, T0, _, rfl, by omega, rfl, rfl, unhide X9, unhide F, fun _ => ⟨unhide NW, rank_le _ _ _ _ _⟩⟩
            case round =>
              obtain ⟨k, g, T, wq, hwq, hk, rfl, rfl, Xk, Fk, R⟩ := hrel
              subst hwq
              have hk6 : (k : Int) < 6 := by omega
              cases g
              · have F9 := hide ((unhide Fk).up (show 6 * i + k ≤ 6 * (i + 1) by omega))
                go_wp2
                go_roundw
                case rel => exact ⟨i + 1, T, by omega, by go_num, unhide Xk, unhide F9⟩
                case measure => simp [intOf]; omega
              · obtain ⟨R1, R2⟩ := unhide R rfl
                clear R
                have hfk := hide ((unhide Fk).gd.few (by omega))
                have hsk : Hid (∀ j, j < n → Srt (T j).1) := fun j hj => (unhide Xk).tn.srt hj
                obtain ⟨⟨⟨y, z⟩, u⟩, hN⟩ : ∃ v, nextD c n T (x : Int) (a : Int) write = v := ⟨_, rfl⟩
                obtain ⟨a0, a1, a2', a3, a4, a5, a6, a7, a8, a9, a10, a11⟩ := (unhide Xk).bx.cells
                cases u
                · have AB : Hid (∀ v : Int, v ≠ (x : Int) → (nextD c n T v (a : Int) true).2 = true ∧ (write = true → (nextD c n T v (a : Int) false).2 = true)) := fun v hv => by
                    have hi : isB c (a : Int) = true := isB_iff.2 ⟨unhide H0, by rw [words_eq (unhide HK)]; exact unhide H1⟩
                    have h1 : (nextD c n T (x : Int) (a : Int) write).2 = false := by rw [hN]
                    have e1 := able_apart (c := c) (unhide Fk).gd (v := true) (.inr rfl) hv h1
                    refine ⟨by unfold ableB at e1; rw [hi] at e1; simpa using e1, fun hw => ?_⟩
                    have e2 := able_apart (c := c) (unhide Fk).gd (v := false) (.inl hw) hv h1
                    unfold ableB at e2; rw [hi] at e2; simpa using e2
                  have HN2 : Hid ((nextD c n T (x : Int) (a : Int) write).2 = false) := by show _ = _; rw [hN]
                  have F9 := hide ((unhide Fk).up (show 6 * i + k ≤ 6 * (i + 1) by omega))
                  replace hN := hide hN
                  clear R1 R2 hsk Fk
                  go_wp2_with fail
                  refine (next_in c wq (unhide Xk).tn (unhide hfk) (x : Int) (a : Int) write (unhide HK) (unhide H0) (unhide H1) (unhide hN)).mono ?_
                  rintro e w10 ⟨rfl, b10⟩
                  have X11 := hide ((unhide Xk).next (below_add b10 (.cells #[.int .i64 y, .int .i64 z] 50)))
                  clear a0 a1 a2' a3 a4 a5 a6 a7 a8 a9 a10 a11 b10
                  unfold nxV
                  dsimp only
                  go_wp2_with fail
                  go_loopw [24] (fun s24 wz => ∃ (t : Nat) (wv : World), wv = wz ∧ t ≤ 4 ∧ s24 = .int .i64 t ∧ Hid (Py c q B n 4096 T b w wv)) (fun s24 _ => 4 - (intOf s24).toNat)
                  case atStart => exact ⟨0, _, rfl, by omega, rfl, unhide X11⟩
                  case round =>
                    obtain ⟨t, wv, hwv, ht, rfl, Xt⟩ := hrel
                    subst hwv
                    obtain ⟨a0, a1, a2', a3, a4, a5, a6, a7, a8, a9, a10, a11⟩ := (unhide Xt).bx.cells
                    by_cases ht4 : t < 4
                    · have ht5 : (t : Int) < 4 := by omega
                      by_cases htx : t = x
                      · subst htx
                        clear a0 a1 a2' a3 a4 a5 a6 a7 a8 a9 a10 a11
                        go_wp2
                        go_roundw
                        case rel => exact ⟨t + 1, _, rfl, by omega, by go_num, unhide Xt⟩
                        case measure => simp [intOf]; omega
                      · have hne : ((t : Int) != (x : Int)) = true := by simp; omega
                        obtain ⟨A1, A2⟩ := unhide AB (t : Int) (by omega)
                        replace A1 := hide A1
                        replace A2 := hide A2
                        clear htx
                        go_wp2_with fail
                        refine (able_in c wv (unhide Xt).tn (unhide hfk) (t : Int) (a : Int) true (unhide HK) (unhide H0) (unhide H1) (unhide A1)).mono ?_
                        rintro e w12 ⟨rfl, b12⟩
                        have X12 := hide ((unhide Xt).next b12)
                        clear a0 a1 a2' a3 a4 a5 a6 a7 a8 a9 a10 a11 b12
                        obtain ⟨a0, a1, a2', a3, a4, a5, a6, a7, a8, a9, a10, a11⟩ := (unhide X12).bx.cells
                        obtain ⟨u, hu⟩ : ∃ u, u = write := ⟨_, rfl⟩
                        cases u
                        · obtain rfl := hu
                          go_wp2
                          go_roundw
                          case rel => exact ⟨t + 1, _, rfl, by omega, by go_num, unhide X12⟩
                          case measure => simp [intOf]; omega
                        · have A3 := hide (unhide A2 hu.symm)
                          obtain rfl := hu
                          go_wp2_with fail
                          refine (able_in c w12 (unhide X12).tn (unhide hfk) (t : Int) (a : Int) false (unhide HK) (unhide H0) (unhide H1) (unhide A3)).mono ?_
                          rintro e w13 ⟨rfl, b13⟩
                          have X13 := hide ((unhide X12).next b13)
                          clear a0 a1 a2' a3 a4 a5 a6 a7 a8 a9 a10 a11 b13
                          go_wp2
                          go_roundw
                          case rel => exact ⟨t + 1, _, rfl, by omega, by go_num, unhide X13⟩
                          case measure => simp [intOf]; omega
                    · obtain rfl : t = 4 := by omega
                      go_wp2_with fail
                      refine (able_in c wv (unhide Xt).tn (unhide hfk) (x : Int) (a : Int) write (unhide HK) (unhide H0) (unhide H1) (unhide HN2)).mono ?_
                      rintro e w13 ⟨rfl, b13⟩
                      have X13 := hide ((unhide Xt).next b13)
                      clear a0 a1 a2' a3 a4 a5 a6 a7 a8 a9 a10 a11 b13
                      go_wp2
                      go_roundw
                      case rel => exact ⟨i + 1, T, by omega, by go_num, unhide X13, unhide F9⟩
                      case measure => simp [intOf]; omega
                · have hk2 : k ≤ 2 := by
                    have h1 : (nextD c n T (x : Int) (a : Int) write).2 = true := by rw [hN]
                    unfold nextD at h1
                    have := rank_pos h1
                    unfold rankD at R2
                    omega
                  obtain ⟨⟨⟨r1, r2⟩, T1⟩, hA⟩ : ∃ v, askT n 4096 T (x : Int) y z = v := ⟨_, rfl⟩
                  obtain ⟨q1, q2, q3, q4, q5, q6⟩ := safe_step (unhide HK) (unhide Fk) (unhide hsk) (unhide hn) (by omega) (unhide H0) (unhide H1) (by omega) R1 hN hA
                  dsimp only at q1 q2 q6
                  subst q1
                  replace q2 := hide q2
                  replace q6 := hide q6
                  replace R1 := hide R1
                  replace R2 := hide R2
                  replace hN := hide hN
                  replace hA := hide hA
                  go_wp2_with fail
                  refine (next_in c wq (unhide Xk).tn (unhide hfk) (x : Int) (a : Int) write (unhide HK) (unhide H0) (unhide H1) (unhide hN)).mono ?_
                  rintro e w10 ⟨rfl, b10⟩
                  obtain ⟨p, hp⟩ : ∃ p, p = w10.heap.size := ⟨_, rfl⟩
                  obtain ⟨w11, hw11⟩ : ∃ w11, w11 = w10.alloc (.cells #[.int .i64 y, .int .i64 z] 50) := ⟨_, rfl⟩
                  have P11 : w11.heap[p]? = some (.cells #[.int .i64 y, .int .i64 z] 50 (0, 0)) := by rw [hw11, hp]; exact heap_alloc_new w10 _
                  have X11 : Hid (Py c q B n 4096 T b w w11) := by rw [hw11]; exact (unhide Xk).next (below_add b10 _)
                  obtain ⟨y0, y1, _, _⟩ := lock_cells P11
                  clear a0 a1 a2' a3 a4 a5 a6 a7 a8 a9 a10 a11 b10
                  obtain ⟨a0, a1, a2', a3, a4, a5, a6, a7, a8, a9, a10, a11⟩ := (unhide X11).bx.cells
                  unfold nxV
                  dsimp only
                  have hk5 : ¬ (k : Int) = 5 := by omega
                  go_upto_region 25 with fail
                  rw [← hw11, ← hp]
                  replace hw11 := hide hw11
                  replace hp := hide hp
                  go_wp2_with fail
                  refine (level_any c y w11).mono ?_
                  rintro e w12 ⟨rfl, b12⟩
                  have X12 := hide ((unhide X11).next b12)
                  have P12 := (b12.block p (heap_lt P11)).trans P11
                  clear a0 a1 a2' a3 a4 a5 a6 a7 a8 a9 a10 a11 b12 y0 y1 P11
                  obtain ⟨a0, a1, a2', a3, a4, a5, a6, a7, a8, a9, a10, a11⟩ := (unhide X12).bx.cells
                  obtain ⟨y0, y1, _, _⟩ := lock_cells P12
                  obtain ⟨lv, hlv⟩ : ∃ lv, lv = levelD c y := ⟨_, rfl⟩
                  rw [← hlv] at q5 ⊢
                  replace hlv := hide hlv
                  go_wp2_with fail
                  refine (parent_any c y w12).mono ?_
                  rintro e w13 ⟨rfl, b13⟩
                  have X13 := hide ((unhide X12).next b13)
                  have P13 := (b13.block p (heap_lt P12)).trans P12
                  clear a0 a1 a2' a3 a4 a5 a6 a7 a8 a9 a10 a11 b13 y0 y1 P12
                  obtain ⟨up, hup⟩ : ∃ up, up = parentD c y := ⟨_, rfl⟩
                  rw [← hup] at q5 ⊢
                  replace hup := hide hup
                  obtain ⟨hd, hhd⟩ : ∃ hd, hd = holdT n T (x : Int) up := ⟨_, rfl⟩
                  rw [← hhd] at q5
                  have SX : Sx B n 4096 T b p y z w13 := ⟨(unhide X13).tn, P13⟩
                  have hne : Nonempty (Wc (Sx B n 4096 T b p y z) w13) := ⟨⟨_, SX, Below.refl _ _⟩⟩
                  have Q1 : ∀ v : Wc (Sx B n 4096 T b p y z) w13, v.w.cell? ⟨p, 1, none⟩ = some (.int .i64 z) := fun v => (lock_cells v.ok.2).2.1
                  have cH := hide (fun v : Wc (Sx B n 4096 T b p y z) w13 => holds_n2 v.w v.ok.1 (unhide hfk) (x : Int) up hhd.symm)
                  have cI := hide (fun v : Wc (Sx B n 4096 T b p y z) w13 => intent_b z v.w)
                  replace hhd := hide hhd
                  go_upto_region 30 with fail
                  go_cut [140] from 126 to 154 (fun t wc => t = .bool false ∧ Hid (Below w13.heap.size w13 wc))
                  case first => as_aux_lemma =>
                    clear hA hN q6 q2 R1 R2 Fk Xk X11 X12 X13 P13 hfk hsk hqB F X9 X8 X7 HC HW HN s2
                    rcases q5 with q5 | ⟨q5, q7⟩
                    · subst q5
                      refine wp_region_wc (S := Sx B n 4096 T b p y z) (w0 := w13) (Sx.next _ _ SX (Below.refl _ _).drew) (Below.refl _ _) (by kernel_rfl) (by kernel_rfl) ?_
                      try simp only [List.append]
                      repeat (go_big_quiet_step (fail))
                      refine wpQuiet_nil ?_
                      intro w14 hw'
                      have b14 : Hid (Below w13.heap.size w13 w14) := by
                        obtain ⟨v, hv⟩ := hw'
                        rw [hv]
                        exact v.bel
                      clear hw' Q1 hne SX cH cI
                      go_wp2
                      go_meet
                      case rel => exact ⟨rfl, unhide b14⟩
                    · have cC := hide (fun v : Wc (Sx B n 4096 T b p y z) w13 => covers_t hd (intentD z) v.w q7)
                      clear q7
                      refine wp_region_wc (S := Sx B n 4096 T b p y z) (w0 := w13) (Sx.next _ _ SX (Below.refl _ _).drew) (Below.refl _ _) (by kernel_rfl) (by kernel_rfl) ?_
                      try simp only [List.append]
                      repeat (go_big_quiet_step (first | (go_at_call 45; with_reducible exact Wc.call Sx.next (unhide cH _)) | (go_at_call 46; with_reducible exact Wc.call Sx.next (unhide cI _)) | (go_at_call 44; with_reducible exact Wc.call Sx.next (unhide cC _))))
                      refine wpQuiet_nil ?_
                      intro w14 hw'
                      have b14 : Hid (Below w13.heap.size w13 w14) := by
                        obtain ⟨v, hv⟩ := hw'
                        rw [hv]
                        exact v.bel
                      clear hw' Q1 hne SX cH cI cC
                      go_wp2
                      go_meet
                      case rel => exact ⟨rfl, unhide b14⟩
                  obtain ⟨rfl, b14⟩ := hcut
                  have X14 := hide ((unhide X13).next (unhide b14))
                  have P14 := ((unhide b14).block p (heap_lt P13)).trans P13
                  obtain ⟨y0, y1, _, _⟩ := lock_cells P14
                  clear Q1 hne SX cH cI P13 q5
                  go_wp2_with fail
                  refine ((unhide X14).ask (unhide hfk) (by omega) (unhide hA)).mono ?_
                  rintro e w15 ⟨rfl, X15, b15, s15⟩
                  replace X15 := hide X15
                  clear b15 s15 y0 y1 P14
                  cases hr1 : (r1 == 1)
                  · go_wp2
                    go_roundw
                    case rel => exact ⟨k + 1, false, T1, _, rfl, by omega, rfl, by go_num, unhide X15, unhide q2, fun e => by cases e⟩
                    case measure => simp [intOf]; omega
                  · have hr2 : r1 = 1 := by simpa using hr1
                    have R3 : Hid (noneW (x : Int) n T1 ∧ rankD c n T1 (x : Int) (a : Int) write + (k + 1) ≤ 3) := by
                      obtain ⟨t1, t2⟩ := unhide q6 hr2
                      exact ⟨t1, by have := unhide R2; omega⟩
                    go_wp2
                    go_roundw
                    case rel => exact ⟨k + 1, true, T1, _, rfl, by omega, rfl, by go_num, unhide X15, unhide q2, fun _ => unhide R3⟩
                    case measure => simp [intOf]; omega
    · obtain rfl : i = n2 := by omega
      go_wp2_with fail
      refine (first10_any wr).mono ?_
      rintro e w9 ⟨rfl, b9⟩
      have X9 := hide ((unhide X).next b9)
      clear b9
      go_wp2
      go_ret
      exact ⟨rfl, (unhide X9).bel⟩
end Go.Proofs.Ytdhpahopfmcdkaa

/- PathSafe: what goes out at its beginning; its walk, whole. -/
namespace Go.Proofs.Ytdhpahopfmcdkaa
open Go.RowKit

set_option maxRecDepth 100000 in
set_option maxHeartbeats 4000000 in
theorem safe_out (c : Cf) (a : Option Addr) (n2 c2 : Nat) (w : World) (h : okB c = false ∨ (okB c = true ∧ 100 < n2)) (hm : n2 ≤ 9223372036854775807) :
    Calls Try.prog 6 #[cv c, .slice a n2 c2] w fun e w' => e = .returned (.bool true) ∧ Below w.heap.size w w' := by
  have hx := bx_new c w
  have hb := below_new w (.cells #[.int .i64 c.r, .int .i64 c.o, .int .i64 c.s, .int .i64 c.d, .int .i64 c.t, .int .i64 c.l, .int .i64 c.g, .int .i64 c.k, .int .i64 c.u, .int .i64 c.e, .int .i64 c.i, .int .i64 c.p] 73)
  obtain ⟨w1, hw1⟩ : ∃ w1, w1 = w.alloc (.cells #[.int .i64 c.r, .int .i64 c.o, .int .i64 c.s, .int .i64 c.d, .int .i64 c.t, .int .i64 c.l, .int .i64 c.g, .int .i64 c.k, .int .i64 c.u, .int .i64 c.e, .int .i64 c.i, .int .i64 c.p] 73) := ⟨_, rfl⟩
  obtain ⟨q, hq⟩ : ∃ q, q = w.heap.size := ⟨_, rfl⟩
  rw [← hw1, ← hq] at hx
  rw [← hw1] at hb
  replace hb := hide hb
  have R := fun w' => rcheck_any c w'
  obtain ⟨ok, hok⟩ : ∃ ok, ok = okB c := ⟨_, rfl⟩
  rw [← hok] at h R
  clear hok
  obtain ⟨a0, a1, a2, a3, a4, a5, a6, a7, a8, a9, a10, a11⟩ := hx.cells
  rcases h with rfl | ⟨rfl, h⟩
  all_goals
    simp only [errOf_t, errOf_f] at R
    try (have k9 : (100 : Int) < (n2 : Int) := by omega)
    replace R := hide R
    unfold cv
    go_enter Try.func6, Try.ntmps6
    go_wp2_with fail
    rw [← hw1, ← hq]
    refine (first10_any w1).mono ?_
    rintro e w2 ⟨rfl, b2⟩
    have x2 := hx.next b2
    have B2 := hide (below_then (unhide hb) b2)
    replace hw1 := hide hw1
    replace hq := hide hq
    clear a0 a1 a2 a3 a4 a5 a6 a7 a8 a9 a10 a11 b2 hx
    obtain ⟨a0, a1, a2, a3, a4, a5, a6, a7, a8, a9, a10, a11⟩ := x2.cells
    go_wp2_with fail
    refine (unhide R w2).mono ?_
    rintro e w3 ⟨rfl, b3⟩
    have x3 := x2.next b3
    have B3 := hide (below_then (unhide B2) b3)
    clear a0 a1 a2 a3 a4 a5 a6 a7 a8 a9 a10 a11 b3 x2
    obtain ⟨a0, a1, a2, a3, a4, a5, a6, a7, a8, a9, a10, a11⟩ := x3.cells
    go_wp2_with fail
    refine (first10_any _).mono ?_
    rintro e w5 ⟨rfl, b5⟩
    have B5 := hide (below_then (unhide B3) b5)
    clear b5 a0 a1 a2 a3 a4 a5 a6 a7 a8 a9 a10 a11
    go_wp2
    go_ret
    exact ⟨rfl, unhide B5⟩
theorem pathSafe_walk (c : Cf) (a2 : Option Addr) (n2 c2 : Nat) (l : List Int) (w : World) (s2 : SegK .i64 w a2 n2 l) (lc : n2 ≤ c2) (cm : c2 ≤ maxLen) (wz : ∀ z ∈ l, (Lit.int .i64 z).wf = true) :
    Calls Try.prog 6 #[cv c, .slice a2 n2 c2] w fun e w' => e = .returned (.bool true) ∧ Below w.heap.size w w' := by
  unfold maxLen at cm
  cases hok : okB c
  · exact safe_out c a2 n2 c2 w (.inl hok) (by omega)
  · by_cases h : n2 ≤ 100
    · exact safe_in c a2 n2 c2 l w s2 hok h (fun i hi => by
        have hl : i < l.length := by rw [s2.1]; exact hi
        have e : l.getD i 0 = l[i] := by simp [List.getD, hl]
        rw [e]
        exact wz _ (List.getElem_mem hl))
    · exact safe_out c a2 n2 c2 w (.inr ⟨hok, by omega⟩) (by omega)
end Go.Proofs.Ytdhpahopfmcdkaa
