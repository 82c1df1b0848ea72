/- Texts of this claim, put together in their order. -/
import Derived.Deep.RegionHeld3
import Derived.Deep.CutRange
import Derived.Test.YtdhpahopfmcdkaaOfTabledrops1
import Derived.Test.YtdhpahopfmcdkaaOfTabledrops2
import Derived.Test.YtdhpahopfmcdkaaOfTabledrops3
import Derived.Test.YtdhpahopfmcdkaaOfTabledrops4
import Derived.Test.YtdhpahopfmcdkaaOfTabledrops5
import Derived.Test.YtdhpahopfmcdkaaOfTabledrops6
import Derived.Test.YtdhpahopfmcdkaaOfTabledrops7
import Derived.Test.YtdhpahopfmcdkaaOfTabledrops8
/- TableOnce, plainly: how many locks; nobody waits at two nodes. -/
namespace Go.Proofs.Ytdhpahopfmcdkaa
open Go.RowKit
variable {H Q : List En}

theorem put_length (y : En) (l : List En) : (putD y l).length = l.length + (if hasD y.1 l then 0 else 1) := by
  unfold putD
  cases hasD y.1 l
  · rw [if_neg (by decide), if_neg (by decide), ins_len l _ y (posD_le _ _)]
  · rw [if_pos rfl, if_pos rfl, List.length_set]; rfl
theorem new_same {H H' : List En} : ∀ {Q : List En}, (∀ x ∈ Q, lookD x.1 H = lookD x.1 H') → newD H Q = newD H' Q := fun {Q} h => by
  unfold newD
  exact List.filter_congr (fun x hx => by rw [h x hx])
theorem has_look (hm : ∀ x ∈ H, md x.2) (k : Int) : hasD k H = !(lookD k H == 0) := by
  cases h : hasD k H
  · have := (look_zero hm).2 h
    rw [this]; rfl
  · have : lookD k H ≠ 0 := fun e => by rw [(look_zero hm).1 e] at h; cases h
    simp [this]
theorem locks_put (hs : Srt H) (hm : ∀ x ∈ H, md x.2) {y : En} (hQ : ∀ x ∈ Q, x.1 ≠ y.1) : locksD (putD y H, Q) = locksD (H, Q) + (if lookD y.1 H = 0 then 1 else 0) := by
  unfold locksD
  have h1 : newD (putD y H) Q = newD H Q := new_same (fun x hx => look_put hs (hQ x hx))
  show (putD y H).length + (newD (putD y H) Q).length = H.length + (newD H Q).length + _
  rw [h1, put_length, has_look hm]
  by_cases h : lookD y.1 H = 0
  · simp [h]; omega
  · simp [h]
theorem locks_wait (held : Int) (y : En) : locksD (H, waitD held y H Q) = locksD (H, Q) + (if lookD y.1 H = 0 then 1 else 0) := by
  unfold locksD
  show H.length + (newD H (waitD held y H Q)).length = H.length + (newD H Q).length + _
  have key : ∀ i, (newD H (Q.take i ++ y :: Q.drop i)).length = (newD H Q).length + (if lookD y.1 H = 0 then 1 else 0) := fun i => by
    have e : (newD H Q).length = (newD H (Q.take i)).length + (newD H (Q.drop i)).length := by
      conv => lhs; rw [← List.take_append_drop i Q]
      unfold newD
      rw [List.filter_append, List.length_append]
    rw [e]
    unfold newD
    rw [List.filter_append, List.length_append, List.filter_cons]
    by_cases h : lookD y.1 H = 0
    · simp [h]; omega
    · simp [h]
  rw [wait_at, key]; omega
theorem locks_ask (who m : Int) (hs : Srt H) (h : Ok H Q) : locksD (askD who m H Q).2 ≤ locksD (H, Q) + (if hasL who (H, Q) then 0 else 1) := by
  unfold askD
  cases hk : okD who m Q
  · simp
  · rw [if_pos rfl]
    have hq : lookD who Q = 0 := by
      unfold okD at hk
      simp at hk
      exact hk.2
    have hnq : ∀ x ∈ Q, x.1 ≠ who := hasnt ((look_zero h.qm).1 hq)
    have hl : hasL who (H, Q) = !(lookD who H == 0) := by
      unfold hasL
      show ((lookD who H != 0) || (lookD who Q != 0)) = _
      rw [hq]; simp; rfl
    have hb : (if lookD who H = 0 then 1 else 0) ≤ (if hasL who (H, Q) then 0 else 1) := by
      rw [hl]
      by_cases e : lookD who H = 0
      · simp [e]
      · simp [e]
    dsimp only
    split
    · exact Nat.le_add_right _ _
    · split
      · have := locks_put (Q := Q) hs h.hm (y := (who, goal (lookD who H) m)) hnq
        rw [this]
        exact Nat.add_le_add_left hb _
      · have := locks_wait (H := H) (Q := Q) (lookD who H) (who, goal (lookD who H) m)
        rw [this]
        exact Nat.add_le_add_left hb _
theorem ask_ok_nz {who m : Int} (h : okD who m Q = true) : (askD who m H Q).1 ≠ 0 := by
  unfold askD
  rw [h, if_pos rfl]
  dsimp only
  split
  · show (1 : Int) ≠ 0
    decide
  · split
    · show (1 : Int) ≠ 0
      decide
    · show (2 : Int) ≠ 0
      decide
theorem locks_grant : ∀ (Q H : List En), Srt H → Once Q → (∀ x ∈ H, md x.2) → (∀ x ∈ Q, md x.2) → locksD ((grantD H Q).2, Q.drop (grantD H Q).1) = locksD (H, Q)
  | [], H, _, _, _, _ => rfl
  | x :: r, H, hs, ho, hm, hq => by
    obtain ⟨o1, o2⟩ := List.pairwise_cons.1 ho
    cases hf : fitsL x H
    · rw [grant_stop hf, List.drop_zero]
    · rw [grant_cons hf]
      show locksD ((grantD (putD x H) r).2, (x :: r).drop ((grantD (putD x H) r).1 + 1)) = _
      rw [List.drop_succ_cons, locks_grant r (putD x H) (srt_put hs) o2 (fun z hz => by
        rcases put_mem hz with e | e
        · rw [e]; exact hq x List.mem_cons_self
        · exact hm z e) (fun z hz => hq z (List.mem_cons_of_mem _ hz)), locks_put hs hm (fun z hz => fun e => o1 z hz e.symm)]
      unfold locksD
      show H.length + (newD H r).length + _ = H.length + (newD H (x :: r)).length
      have e : (newD H (x :: r)).length = (newD H r).length + (if lookD x.1 H = 0 then 1 else 0) := by
        unfold newD
        rw [List.filter_cons]
        by_cases h : lookD x.1 H = 0
        · simp [h]
        · simp [h]
      omega
theorem look_out {who k : Int} (h : k ≠ who) : ∀ (l : List En), lookD k (out1 who l) = lookD k l
  | [] => rfl
  | p :: r => by
    have ih := look_out h r
    unfold out1 at ih ⊢
    rw [List.eraseP_cons]
    cases e : isWho who p
    · show lookD k (p :: r.eraseP _) = _
      unfold lookD
      rw [ih]
    · show lookD k r = lookD k (p :: r)
      have hp : p.1 = who := by simpa [isWho] using e
      conv => rhs; unfold lookD
      rw [if_neg (by simp; omega)]
theorem locks_leave (who : Int) (hs : Srt H) (h : Ok H Q) : locksD (leaveD who H Q).2 ≤ locksD (H, Q) := by
  have h1 := locks_grant (out1 who Q) (out1 who H) (out_srt hs) (out_once h.once) (fun x hx => h.hm x (out_mem hx)) (fun x hx => h.qm x (out_mem hx))
  have e : locksD (leaveD who H Q).2 = locksD (out1 who H, out1 who Q) := h1
  rw [e]
  unfold locksD
  show (out1 who H).length + (newD (out1 who H) (out1 who Q)).length ≤ H.length + (newD H Q).length
  have h2 : newD (out1 who H) (out1 who Q) = newD H (out1 who Q) := new_same (fun x hx => look_out (out_gone h.once x hx) H)
  have h3 := out_len who H
  have h4 : (newD H (out1 who Q)).length ≤ (newD H Q).length := by
    unfold newD
    exact ((List.eraseP_sublist (p := isWho who) (l := Q)).filter _).length_le
  rw [h2]; omega
theorem len_upd (T : Nat → Lv) {i : Nat} (x : Lv) : ∀ n, i < n → lenD (upd T i x) n + locksD (T i) = lenD T n + locksD x
  | 0, h => by omega
  | n + 1, h => by
    unfold lenD
    by_cases e : n = i
    · subst e
      rw [upd_same]
      have : ∀ m, m ≤ n → lenD (upd T n x) m = lenD T m := by
        intro m
        induction m with
        | zero => intro _; rfl
        | succ m ih =>
          intro hm
          unfold lenD
          rw [ih (by omega), upd_other T x (by omega)]
      rw [this n (Nat.le_refl _)]; omega
    · have := len_upd T (i := i) x n (by omega)
      rw [upd_other T x e]; omega
theorem len_mono {T T' : Nat → Lv} : ∀ n, (∀ i, i < n → locksD (T' i) ≤ locksD (T i)) → lenD T' n ≤ lenD T n
  | 0, _ => Nat.le_refl _
  | n + 1, h => by
    unfold lenD
    have := len_mono n (fun i hi => h i (by omega))
    have := h n (by omega)
    omega
/-- Who waits at a node waits at no other one; no more locks than may be. -/
structure On (n : Nat) (most : Int) (k : Nat) (T : Nat → Lv) : Prop where
  gd : Gd n k T
  one : ∀ i j, i < n → j < n → ∀ x ∈ (T i).2, ∀ y ∈ (T j).2, x.1 = y.1 → i = j
  room : (lenD T n : Int) ≤ most
theorem lenD_none : ∀ n, lenD none0 n = 0
  | 0 => rfl
  | n + 1 => by
    unfold lenD
    rw [lenD_none n]; rfl
theorem on_none (n k : Nat) {most : Int} (h : 0 ≤ most) : On n most k none0 := ⟨gd_none n k, fun i j _ _ x hx => (by cases hx), by rw [lenD_none]; exact h⟩
theorem On.up {n k k' : Nat} {most : Int} {T : Nat → Lv} (h : On n most k T) (hk : k ≤ k') : On n most k' T := ⟨h.gd.up hk, h.one, h.room⟩
variable {n k : Nat} {most : Int} {T : Nat → Lv}
theorem on_ask (who node m : Int) (hs : ∀ i, i < n → Srt (T i).1) (h : On n most k T) : On n most (k + 1) (askT n most T who node m).2 ∧ ((askT n most T who node m).1.2 = 0 → (askT n most T who node m).1.1 ≠ 0) ∧ ((askT n most T who node m).1.2 ≠ 0 → (askT n most T who node m).1.1 = 0) := by
  have hg := gd_ask (most := most) (who := who) (node := node) (m := m) hs h.gd
  by_cases h0 : errD n most T who node m = 0
  · obtain ⟨p1, p2, p3, p4, p5, p6, p7⟩ := err_node h0
    rw [ask_yes h0] at hg ⊢
    obtain ⟨i, hi⟩ : ∃ i, i = node.toNat := ⟨_, rfl⟩
    rw [← hi] at hg p7 ⊢
    have hin : i < n := by omega
    have f := h.gd.fine i hin
    have hok : okD who m (T i).2 = true := by
      unfold okD
      rw [p6, p3 i hin]
      simp [p5]
    obtain ⟨_, _, _, a4⟩ := ask_ok who m (hs i hin) f.ok
    have hnw : ∀ j, j < n → ∀ x ∈ (T j).2, x.1 ≠ who := fun j hj => hasnt ((look_zero (h.gd.fine j hj).ok.qm).1 (p3 j hj))
    refine ⟨⟨hg, fun a c ha hc x hx y hy e => ?_, ?_⟩, fun _ => ask_ok_nz hok, fun e => absurd rfl e⟩
    · dsimp only at hx hy
      by_cases ea : a = i <;> by_cases ec : c = i
      · omega
      · exfalso
        subst ea
        rw [upd_same] at hx
        rw [upd_other _ _ ec] at hy
        rcases a4 x hx with h1 | ⟨z, hz, h1⟩
        · exact hnw c hc y hy (by rw [← e, h1])
        · exact ec (h.one a c ha hc z hz y hy (by rw [h1, e])).symm
      · exfalso
        subst ec
        rw [upd_same] at hy
        rw [upd_other _ _ ea] at hx
        rcases a4 y hy with h1 | ⟨z, hz, h1⟩
        · exact hnw a ha x hx (by rw [e, h1])
        · exact ea (h.one a c ha hc x hx z hz (by rw [h1, e]))
      · rw [upd_other _ _ ea] at hx
        rw [upd_other _ _ ec] at hy
        exact h.one a c ha hc x hx y hy e
    · have h1 := len_upd T (i := i) (askD who m (T i).1 (T i).2).2 n hin
      have h2 := locks_ask who m (hs i hin) f.ok
      have h3 := h.room
      show (lenD (upd T i (askD who m (T i).1 (T i).2).2) n : Int) ≤ most
      rcases p7 with p7 | p7
      · have e : hasL who ((T i).1, (T i).2) = true := p7
        rw [e, if_pos rfl] at h2
        have e2 : locksD ((T i).1, (T i).2) = locksD (T i) := rfl
        omega
      · have e2 : locksD ((T i).1, (T i).2) = locksD (T i) := rfl
        have : locksD (askD who m (T i).1 (T i).2).2 ≤ locksD (T i) + 1 := by
          split at h2 <;> omega
        omega
  · rw [ask_not h0] at hg ⊢
    exact ⟨⟨hg, h.one, h.room⟩, fun e => absurd e h0, fun _ => rfl⟩
/-- What happens at one lane when who drops. -/
def dD (who : Int) (T : Nat → Lv) (j : Nat) : List Int × Lv := if hasL who (T j) then leaveD who (T j).1 (T j).2 else ([], T j)
theorem drop_flat (who : Int) (T : Nat → Lv) : ∀ (xs : List Nat), xs.Nodup → ∀ (g : List Int) (S : Nat → Lv), (∀ j ∈ xs, S j = T j) → xs.foldl (dropS who) (g, S) = (g ++ xs.flatMap (fun j => (dD who T j).1), fun j => if j ∈ xs then (dD who T j).2 else S j)
  | [], _, g, S, _ => by simp
  | x :: r, hn, g, S, h => by
    obtain ⟨h1, h2⟩ := List.nodup_cons.1 hn
    have e : dropS who (g, S) x = (g ++ (dD who T x).1, upd S x (dD who T x).2) := by
      have hS := h x List.mem_cons_self
      have hu : upd S x (S x) = S := by
        funext j
        unfold upd
        by_cases hj : j = x
        · rw [if_pos hj, hj]
        · rw [if_neg hj]
      unfold dropS dD
      cases hh : hasL who (T x)
      · have hh2 : hasL who (S x) = false := by rw [hS]; exact hh
        simp only [hh2, Bool.false_eq_true, if_false, List.append_nil]
        rw [← hS, hu]
      · simp only [hS, hh, if_true]
    rw [List.foldl_cons, e, drop_flat who T r h2 _ _ (fun j hj => by
      have hne : j ≠ x := fun e => h1 (by rw [← e]; exact hj)
      rw [upd_other S _ hne]
      exact h j (List.mem_cons_of_mem _ hj))]
    rw [List.flatMap_cons, List.append_assoc]
    congr 1
    funext j
    by_cases hj : j ∈ r
    · rw [if_pos hj, if_pos (List.mem_cons_of_mem _ hj)]
    · rw [if_neg hj]
      by_cases hx : j = x
      · subst hx
        rw [upd_same, if_pos List.mem_cons_self]
      · rw [upd_other S _ hx, if_neg (fun e => by rcases List.mem_cons.1 e with e | e; exact hx e; exact hj e)]
theorem dn_nodup (n : Nat) : (dn n 0).Nodup := by
  unfold dn
  rw [List.Nodup, List.pairwise_map]
  refine List.Pairwise.imp_of_mem ?_ (List.pairwise_lt_range (n := n - 0))
  intro a c ha hc h
  have := List.mem_range.1 ha
  have := List.mem_range.1 hc
  omega
theorem dn_mem {n i : Nat} : i ∈ dn n 0 ↔ i < n := by
  unfold dn
  rw [List.mem_map]
  constructor
  · rintro ⟨j, hj, rfl⟩
    have := List.mem_range.1 hj
    omega
  · intro h
    exact ⟨n - 1 - i, by rw [List.mem_range]; omega, by omega⟩
theorem drop_at2 (who : Int) (T : Nat → Lv) {n i : Nat} (hi : i < n) : (dropD who T (dn n 0)).2 i = (dD who T i).2 := by
  unfold dropD
  rw [drop_flat who T (dn n 0) (dn_nodup n) [] T (fun _ _ => rfl)]
  show (if i ∈ dn n 0 then _ else _) = _
  rw [if_pos (dn_mem.2 hi)]
theorem held_nil {who : Int} {T : Nat → Lv} : ∀ n, (∀ i, i < n → lookD who (T i).1 = 0) → heldD who T n = []
  | 0, _ => rfl
  | n + 1, h => by
    unfold heldD
    rw [if_pos (h n (by omega)), held_nil n (fun i hi => h i (by omega))]
theorem on_drop (who : Int) (hs : ∀ i, i < n → Srt (T i).1) (h : On n most k T) : On n most k (dropD who T (dn n 0)).2 ∧ noneW who n (dropD who T (dn n 0)).2 ∧ heldD who (dropD who T (dn n 0)).2 n = [] := by
  have key : ∀ i, i < n → Fine (dD who T i).2.1 (dD who T i).2.2 ∧ (dD who T i).2.1.length + (dD who T i).2.2.length ≤ k ∧ (∀ x ∈ (dD who T i).2.2, ∃ z ∈ (T i).2, z.1 = x.1) ∧ locksD (dD who T i).2 ≤ locksD (T i) ∧ lookD who (dD who T i).2.1 = 0 ∧ lookD who (dD who T i).2.2 = 0 := fun i hi => by
    have f := h.gd.fine i hi
    have s := h.gd.sum i hi
    unfold dD
    cases hh : hasL who (T i)
    · rw [if_neg (by decide)]
      unfold hasL at hh
      simp at hh
      exact ⟨f, s, fun x hx => ⟨x, hx, rfl⟩, Nat.le_refl _, hh.1, hh.2⟩
    · rw [if_pos rfl]
      obtain ⟨l1, l2, l3⟩ := leave_fine who (hs i hi) f
      obtain ⟨_, l4, _, l5⟩ := leave_ok who (hs i hi) f.ok
      exact ⟨l1, by omega, fun x hx => (l5 x hx).2, locks_leave who (hs i hi) f.ok, l2, l3⟩
  refine ⟨⟨⟨fun i hi => ?_, fun i hi => ?_⟩, fun a c ha hc x hx y hy e => ?_, ?_⟩, fun i hi => ?_, held_nil n (fun i hi => ?_)⟩
  · rw [drop_at2 who T hi]; exact (key i hi).1
  · rw [drop_at2 who T hi]; exact (key i hi).2.1
  · rw [drop_at2 who T ha] at hx
    rw [drop_at2 who T hc] at hy
    obtain ⟨z, hz, e1⟩ := (key a ha).2.2.1 x hx
    obtain ⟨z2, hz2, e2⟩ := (key c hc).2.2.1 y hy
    exact h.one a c ha hc z hz z2 hz2 (by rw [e1, e2, e])
  · have := len_mono (T := T) (T' := (dropD who T (dn n 0)).2) n (fun i hi => by rw [drop_at2 who T hi]; exact (key i hi).2.2.2.1)
    have := h.room
    omega
  · rw [drop_at2 who T hi]; exact (key i hi).2.2.2.2.2
  · rw [drop_at2 who T hi]; exact (key i hi).2.2.2.2.1
end Go.Proofs.Ytdhpahopfmcdkaa

/- PathSafe, plainly: who is able, what a request brings, how many there are. -/
namespace Go.Proofs.Ytdhpahopfmcdkaa
open Go.RowKit

/-- Nothing more is needed. -/
theorem next_none {hr ho hs : Int} {esc write : Bool} {r o s : Int} (h : (nextK hr ho hs esc write r o s).2 = false) : coversB hr (inD write) = true ∧ (wholeB write ho = true ∨ (coversB ho (inD write) = true ∧ coversB hs (wantD write) = true)) := by
  unfold nextK at h
  cases h1 : coversB hr (inD write)
  · simp [h1] at h
  · cases h2 : wholeB write ho
    · cases h3 : coversB hs (wantD write) <;> cases h4 : esc <;> cases h5 : coversB ho (inD write) <;> simp [h1, h2, h3, h4, h5] at h ⊢
    · exact ⟨rfl, .inl rfl⟩
/-- How many requests are left at most. -/
def rankK (hr ho hs : Int) (esc write : Bool) : Nat :=
  if coversB hr (inD write) = false then 3 else if wholeB write ho = true then 0
  else if coversB hs (wantD write) = true then (if coversB ho (inD write) = true then 0 else 1)
  else if esc = true then 1 else if coversB ho (inD write) = true then 1 else 2
theorem rank_le (hr ho hs : Int) (esc write : Bool) : rankK hr ho hs esc write ≤ 3 := by
  unfold rankK
  repeat' split
  all_goals omega
theorem rank_pos {hr ho hs : Int} {esc write : Bool} {r o s : Int} (h : (nextK hr ho hs esc write r o s).2 = true) : 1 ≤ rankK hr ho hs esc write := by
  unfold nextK at h
  unfold rankK
  cases h1 : coversB hr (inD write) <;> cases h2 : wholeB write ho <;> cases h3 : coversB hs (wantD write) <;> cases h4 : esc <;> cases h5 : coversB ho (inD write) <;> simp [h1, h2, h3, h4, h5] at h ⊢
theorem cov_kn {a b : Int} (h : coversB a b = true) : ∃ i j : Fin 6, a = (i.val : Int) ∧ b = (j.val : Int) := by
  have h1 := covers_known h
  have h2 : knownB b = true := by unfold coversB at h; simp at h; exact h.1
  obtain ⟨i, hi⟩ := six h1
  obtain ⟨j, hj⟩ := six h2
  exact ⟨i, j, hi, hj⟩
theorem whole_of {write : Bool} {h : Int} (hc : coversB h (wantD write) = true) : wholeB write h = true := by
  obtain ⟨i, j, rfl, hj⟩ := cov_kn hc
  have key : ∀ i : Fin 6, ∀ w : Bool, coversB (i.val : Int) (wantD w) = true → wholeB w (i.val : Int) = true := by decide +kernel
  exact key i write hc
/-- A request that is granted: what is held there covers what was asked for; elsewhere all is as it was. -/
theorem rank_down {hr ho hs hr' ho' hs' : Int} {esc esc' write : Bool} {r o s node m : Int} (hro : r ≠ o) (hrs : r ≠ s) (hos : o ≠ s) (h : nextK hr ho hs esc write r o s = ((node, m), true))
    (hr1 : node = r → coversB hr' m = true) (hr2 : node ≠ r → hr' = hr) (ho1 : node = o → coversB ho' m = true) (ho2 : node ≠ o → ho' = ho) (hs1 : node = s → coversB hs' m = true) (hs2 : node ≠ s → hs' = hs) (he : node ≠ s → esc' = esc) :
    rankK hr' ho' hs' esc' write + 1 ≤ rankK hr ho hs esc write := by
  unfold nextK at h
  cases h1 : coversB hr (inD write)
  · rw [if_pos h1] at h
    have e1 : node = r := by injection h with h _; injection h with h _; exact h.symm
    have e2 : m = inD write := by injection h with h _; injection h with _ h; exact h.symm
    have c1 := hr1 e1
    rw [e2] at c1
    have hx : rankK hr ho hs esc write = 3 := by unfold rankK; rw [if_pos h1]
    rw [hx]
    unfold rankK
    rw [if_neg (by rw [c1]; decide)]
    repeat' split
    all_goals omega
  · rw [if_neg (by rw [h1]; decide)] at h
    cases h2 : wholeB write ho
    · rw [if_neg (by rw [h2]; decide)] at h
      cases h3 : coversB hs (wantD write)
      · cases h4 : esc
        · rw [h3, h4, if_neg (by decide)] at h
          cases h5 : coversB ho (inD write)
          · rw [if_pos h5] at h
            have e1 : node = o := by injection h with h _; injection h with h _; exact h.symm
            have e2 : m = inD write := by injection h with h _; injection h with _ h; exact h.symm
            have c1 := ho1 e1
            rw [e2] at c1
            have q1 := hr2 (by rw [e1]; exact fun e => hro e.symm)
            have q2 := hs2 (by rw [e1]; exact hos)
            have q3 := he (by rw [e1]; exact hos)
            unfold rankK
            rw [q1, q2, q3]
            cases hz : wholeB write ho' <;> simp [h1, h2, h3, h4, h5, c1]
          · rw [h5, if_neg (by decide), if_pos rfl] at h
            have e1 : node = s := by injection h with h _; injection h with h _; exact h.symm
            have e2 : m = wantD write := by injection h with h _; injection h with _ h; exact h.symm
            have c1 := hs1 e1
            rw [e2] at c1
            have q1 := hr2 (by rw [e1]; exact fun e => hrs e.symm)
            have q2 := ho2 (by rw [e1]; exact fun e => hos e.symm)
            unfold rankK
            rw [q1, q2]
            simp [h1, h2, h3, h5, c1]
        · rw [h3, h4, if_pos ⟨rfl, rfl⟩] at h
          have e1 : node = o := by injection h with h _; injection h with h _; exact h.symm
          have e2 : m = wantD write := by injection h with h _; injection h with _ h; exact h.symm
          have c1 := ho1 e1
          rw [e2] at c1
          have q1 := hr2 (by rw [e1]; exact fun e => hro e.symm)
          unfold rankK
          rw [q1]
          simp [h1, h2, h3, whole_of c1]
      · rw [if_neg (by rw [h3]; exact fun e => absurd e.1 (by decide))] at h
        cases h5 : coversB ho (inD write)
        · rw [if_pos h5] at h
          have e1 : node = o := by injection h with h _; injection h with h _; exact h.symm
          have e2 : m = inD write := by injection h with h _; injection h with _ h; exact h.symm
          have c1 := ho1 e1
          rw [e2] at c1
          have q1 := hr2 (by rw [e1]; exact fun e => hro e.symm)
          have q2 := hs2 (by rw [e1]; exact hos)
          unfold rankK
          rw [q1, q2]
          cases hz : wholeB write ho' <;> simp [h1, h2, h3, h5, c1]
        · rw [h5, if_neg (by decide), if_neg (by rw [h3]; decide)] at h
          injection h with _ h
          cases h
    · rw [h2, if_pos rfl] at h
      injection h with _ h
      cases h
/-- What is asked for: where, and what holds above it. -/
theorem next_what {hr ho hs : Int} {esc write : Bool} {r o s node m : Int} (h : nextK hr ho hs esc write r o s = ((node, m), true)) :
    md m ∧ ((node = r) ∨ (node = o ∧ coversB hr (intentD m) = true) ∨ (node = s ∧ coversB ho (intentD m) = true)) := by
  have i1 : intentD (inD write) = inD write := by cases write <;> decide
  have i2 : intentD (wantD write) = inD write := by cases write <;> decide
  have m1 : md (inD write) := by cases write <;> exact ⟨by decide, by decide⟩
  have m2 : md (wantD write) := by cases write <;> exact ⟨by decide, by decide⟩
  unfold nextK at h
  cases h1 : coversB hr (inD write)
  · rw [if_pos h1] at h
    injection h with h _
    injection h with h h2
    rw [← h, ← h2]
    exact ⟨m1, .inl rfl⟩
  · rw [h1, if_neg (by decide)] at h
    split at h
    · injection h with _ h; cases h
    · split at h
      · injection h with h _
        injection h with h h2
        rw [← h, ← h2, i2]
        exact ⟨m2, .inr (.inl ⟨rfl, h1⟩)⟩
      · split at h
        · injection h with h _
          injection h with h h2
          rw [← h, ← h2, i1]
          exact ⟨m1, .inr (.inl ⟨rfl, h1⟩)⟩
        · rename_i h5
          split at h
          · injection h with h _
            injection h with h h2
            rw [← h, ← h2, i2]
            refine ⟨m2, .inr (.inr ⟨rfl, ?_⟩)⟩
            cases e : coversB ho (inD write)
            · exact absurd e h5
            · rfl
          · injection h with _ h; cases h
/-- Nobody beside a writer. -/
theorem facts5 : ∀ i j k l : Fin 6, ∀ u v : Bool, (u || v) = true →
    (wholeB u (i.val : Int) || (coversB (i.val : Int) (inD u) && coversB (j.val : Int) (wantD u))) = true →
    (wholeB v (k.val : Int) || (coversB (k.val : Int) (inD v) && coversB (l.val : Int) (wantD v))) = true →
    (((i.val : Int) == 0) || ((k.val : Int) == 0) || fitsB (i.val : Int) (k.val : Int)) = true →
    (((j.val : Int) == 0) || ((l.val : Int) == 0) || fitsB (j.val : Int) (l.val : Int)) = true → False := by
  decide +kernel
theorem apart5 {ho hs ko ks : Int} {u v : Bool} (huv : u = true ∨ v = true) (m1 : mz ho) (m2 : mz hs) (m3 : mz ko) (m4 : mz ks)
    (h : wholeB u ho = true ∨ (coversB ho (inD u) = true ∧ coversB hs (wantD u) = true)) (k : wholeB v ko = true ∨ (coversB ko (inD v) = true ∧ coversB ks (wantD v) = true))
    (fo : ho = 0 ∨ ko = 0 ∨ fitsB ho ko = true) (fs : hs = 0 ∨ ks = 0 ∨ fitsB hs ks = true) : False := by
  obtain ⟨a, rfl⟩ := mz_fin m1
  obtain ⟨b, rfl⟩ := mz_fin m2
  obtain ⟨c, rfl⟩ := mz_fin m3
  obtain ⟨d, rfl⟩ := mz_fin m4
  refine facts5 a b c d u v ?_ ?_ ?_ ?_ ?_
  · rcases huv with h | h <;> simp [h]
  · rcases h with h | h <;> simp [h]
  · rcases k with h | h <;> simp [h]
  · rcases fo with h | h | h <;> simp [h]
  · rcases fs with h | h | h <;> simp [h]
variable {n k : Nat} {most : Int} {T : Nat → Lv}
theorem look_mz {H : List En} (hm : ∀ x ∈ H, md x.2) (who : Int) : mz (lookD who H) := by
  cases e : hasD who H
  · rw [look_no e]; exact ⟨by decide, by decide⟩
  · have := hm _ (look_mem e)
    exact ⟨by have := this.1; simp only at this; omega, this.2⟩
theorem holdT_mz (h : Gd n k T) (who node : Int) : mz (holdT n T who node) := by
  unfold holdT
  split
  · rename_i e
    have : 0 ≤ node ∧ node < n := by simpa using e
    exact look_mz (h.fine node.toNat (by omega)).ok.hm who
  · exact ⟨by decide, by decide⟩
theorem hold_fit (h : Gd n k T) {a b : Int} (hab : a ≠ b) (node : Int) : holdT n T a node = 0 ∨ holdT n T b node = 0 ∨ fitsB (holdT n T a node) (holdT n T b node) = true := by
  unfold holdT
  split
  · rename_i e
    have : 0 ≤ node ∧ node < n := by simpa using e
    have f := h.fine node.toNat (by omega)
    cases ea : hasD a (T node.toNat).1
    · exact .inl (look_no ea)
    · cases eb : hasD b (T node.toNat).1
      · exact .inr (.inl (look_no eb))
      · exact .inr (.inr (f.fit _ (look_mem ea) _ (look_mem eb) hab))
  · exact .inl rfl
/-- Does who need nothing more to read (write) the word a? -/
def ableB (c : Cf) (n : Nat) (T : Nat → Lv) (who a : Int) (write : Bool) : Bool := isB c a && !(nextD c n T who a write).2
theorem able_apart {c : Cf} (h : Gd n k T) {who z a : Int} {u v : Bool} (huv : u = true ∨ v = true) (hne : z ≠ who) (h1 : (nextD c n T who a u).2 = false) : ableB c n T z a v = false := by
  cases e : ableB c n T z a v
  · rfl
  · exfalso
    unfold ableB at e
    have e2 : (nextD c n T z a v).2 = false := by simp at e; exact e.2
    obtain ⟨_, p1⟩ := next_none h1
    obtain ⟨_, p2⟩ := next_none e2
    exact apart5 huv (holdT_mz h _ _) (holdT_mz h _ _) (holdT_mz h _ _) (holdT_mz h _ _) p1 p2 (hold_fit h (fun e => hne e.symm) _) (hold_fit h (fun e => hne e.symm) _)
theorem ask_one {who m : Int} {H Q : List En} (h : (askD who m H Q).1 = 1) : (askD who m H Q).2.2 = Q := by
  unfold askD at h ⊢
  split at h
  · rename_i e
    rw [if_pos e]
    dsimp only at h ⊢
    split
    · rfl
    · rename_i e1
      rw [if_neg e1] at h
      split
      · rfl
      · rename_i e2
        rw [if_neg e2] at h
        exact absurd (show (2 : Int) = 1 from h) (by decide)
  · simp at h
theorem len_ask (who node m : Int) (hs : ∀ i, i < n → Srt (T i).1) (h : Gd n k T) : lenD (askT n most T who node m).2 n ≤ lenD T n + 1 := by
  by_cases h0 : errD n most T who node m = 0
  · obtain ⟨p1, p2, _⟩ := err_node h0
    rw [ask_yes h0]
    obtain ⟨i, hi⟩ : ∃ i, i = node.toNat := ⟨_, rfl⟩
    rw [← hi]
    have hin : i < n := by omega
    have h1 := len_upd T (i := i) (askD who m (T i).1 (T i).2).2 n hin
    have h2 := locks_ask who m (hs i hin) (h.fine i hin).ok
    have e2 : locksD ((T i).1, (T i).2) = locksD (T i) := rfl
    show lenD (upd T i (askD who m (T i).1 (T i).2).2) n ≤ _
    have : locksD (askD who m (T i).1 (T i).2).2 ≤ locksD (T i) + 1 := by
      split at h2 <;> omega
    omega
  · rw [ask_not h0]
    exact Nat.le_succ _
/-- The table, so far: j requests at most. -/
structure Sf (n j : Nat) (T : Nat → Lv) : Prop where
  gd : Gd n j T
  one : ∀ i i', i < n → i' < n → ∀ x ∈ (T i).2, ∀ y ∈ (T i').2, x.1 = y.1 → i = i'
  len : lenD T n ≤ j
theorem sf_none (n j : Nat) : Sf n j none0 := ⟨gd_none n j, fun i j _ _ x hx => (by cases hx), by rw [lenD_none]; exact Nat.zero_le _⟩
theorem Sf.up {j j' : Nat} (h : Sf n j T) (hj : j ≤ j') : Sf n j' T := ⟨h.gd.up hj, h.one, Nat.le_trans h.len hj⟩
theorem Sf.ask {j : Nat} (h : Sf n j T) (hs : ∀ i, i < n → Srt (T i).1) (hj : (j : Int) ≤ most) (who node m : Int) : Sf n (j + 1) (askT n most T who node m).2 := by
  have h1 := on_ask who node m hs (show On n most j T from ⟨h.gd, h.one, by have := h.len; omega⟩)
  have h2 := len_ask (most := most) who node m hs h.gd
  exact ⟨h1.1.gd, h1.1.one, by have := h.len; omega⟩
theorem Sf.drop {j : Nat} (h : Sf n j T) (hs : ∀ i, i < n → Srt (T i).1) (who : Int) : Sf n j (dropD who T (dn n 0)).2 := by
  have h1 := on_drop who hs (show On n (j : Int) j T from ⟨h.gd, h.one, by have := h.len; omega⟩)
  exact ⟨h1.1.gd, h1.1.one, by have := h1.1.room; omega⟩
/-- No error stands ahead. -/
theorem sf_err {j : Nat} (h : Sf n j T) (hj : (j : Int) < most) {who node m : Int} (hw : 0 ≤ who) (hno : noneW who n T) (h0 : 0 ≤ node) (h1 : node < n) (hm : md m) : errD n most T who node m = 0 := by
  unfold errD
  have e1 : (decide (0 ≤ node) && decide (node < n)) = true := by simp; omega
  have e2 : ¬ atW who T n < n := fun e => atW_at who T n e (hno _ e)
  rw [e1, if_neg (by decide), if_neg e2, if_neg, if_neg (by have := h.len; omega)]
  rintro (h | h | h)
  · omega
  · have := hm.1; omega
  · rw [known_no] at h
    exact h ⟨by have := hm.1; omega, hm.2⟩
/-- What is held behind a request that is granted. -/
theorem ask_holds {j : Nat} (h : Sf n j T) (hs : ∀ i, i < n → Srt (T i).1) {who node m : Int} (he : errD n most T who node m = 0) (hno : noneW who n T) {r : (Int × Int) × (Nat → Lv)} (hr : askT n most T who node m = r) (h1 : r.1.1 = 1) :
    noneW who n r.2 ∧ coversB (holdT n r.2 who node) m = true ∧ ∀ x, x ≠ node → holdT n r.2 who x = holdT n T who x := by
  obtain ⟨p1, p2, _⟩ := err_node he
  rw [ask_yes he] at hr
  subst hr
  obtain ⟨i, rfl⟩ : ∃ i : Nat, node = (i : Int) := ⟨node.toNat, by omega⟩
  have hin : i < n := by omega
  have e2 : (i : Int).toNat = i := rfl
  rw [e2] at h1 ⊢
  have h2 : (askD who m (T i).1 (T i).2).1 = 1 := h1
  have f := (ask_fine who m (hs i hin) (h.gd.fine i hin)).2.1 h2
  have q := ask_one h2
  refine ⟨fun a ha => ?_, ?_, fun x hx => ?_⟩
  · show lookD who (upd T i _ a).2 = 0
    by_cases e : a = i
    · subst e
      rw [upd_same, q]
      exact hno a ha
    · rw [upd_other _ _ e]
      exact hno a ha
  · rw [holdT_in hin]
    show coversB (lookD who (upd T i _ i).1) m = true
    rw [upd_same]
    exact f.1
  · show holdT n (upd T i _) who x = _
    unfold holdT
    split
    · rename_i e
      have : 0 ≤ x ∧ x < n := by simpa using e
      have hne : x.toNat ≠ i := by omega
      rw [upd_other _ _ hne]
    · rfl
/-- The rank of an access. -/
def rankD (c : Cf) (n : Nat) (T : Nat → Lv) (who a : Int) (write : Bool) : Nat :=
  rankK (holdT n T who (rD c a)) (holdT n T who (c.r + oD c a)) (holdT n T who (c.r + no c + sD c a)) (escB c n T who (c.r + oD c a)) write
theorem safe_step {j : Nat} {c : Cf} (hok : okB c = true) (h : Sf n j T) (hs : ∀ i, i < n → Srt (T i).1) (hn : (n : Int) = nodesD c) (hj : (j : Int) < most) {who a : Int} {write : Bool} (ha0 : 0 ≤ a) (ha1 : a < nw c) (hw : 0 ≤ who) (hno : noneW who n T)
    {node m : Int} (hx : nextD c n T who a write = ((node, m), true)) {r : (Int × Int) × (Nat → Lv)} (hr : askT n most T who node m = r) :
    r.1.2 = 0 ∧ Sf n (j + 1) r.2 ∧ 0 ≤ node ∧ node < n ∧ (levelD c node = 0 ∨ (0 < levelD c node ∧ coversB (holdT n T who (parentD c node)) (intentD m) = true)) ∧ (r.1.1 = 1 → noneW who n r.2 ∧ rankD c n r.2 who a write + 1 ≤ rankD c n T who a write) := by
  have hp := okB_hp hok
  obtain ⟨s0, s1⟩ := s_in hp ha0 ha1
  obtain ⟨o0, o1⟩ := o_in hp ha0 ha1
  obtain ⟨r0, r1⟩ := r_in hp ha0 ha1
  have b1 := hp.r1
  have b2 := (no_in hp).1
  have hnn := nodes_ok hok
  obtain ⟨m1, w1⟩ := next_what hx
  have lvl : 0 ≤ node ∧ node < n ∧ (levelD c node = 0 ∨ (0 < levelD c node ∧ coversB (holdT n T who (parentD c node)) (intentD m) = true)) := by
    rcases w1 with e | ⟨e, e2⟩ | ⟨e, e2⟩
    · rw [e]
      exact ⟨r0, by omega, .inl (level_r hok r0 r1)⟩
    · rw [e]
      refine ⟨by omega, by omega, .inr ⟨by rw [level_o hok o0 o1]; decide, ?_⟩⟩
      rw [parent_o hok o0 o1]
      exact e2
    · rw [e]
      refine ⟨by omega, by omega, .inr ⟨by rw [level_s hok s0 s1]; decide, ?_⟩⟩
      rw [parent_s hok s0 s1]
      exact e2
  have he := sf_err (most := most) h hj hw hno lvl.1 lvl.2.1 m1
  have hsf := h.ask (most := most) hs (by omega) who node m
  have hre : r.1.2 = 0 := by rw [← hr, ask_yes he]
  rw [hr] at hsf
  refine ⟨hre, hsf, lvl.1, lvl.2.1, lvl.2.2, fun hg => ?_⟩
  obtain ⟨k1, k2, k3⟩ := ask_holds h hs he hno hr hg
  refine ⟨k1, ?_⟩
  unfold rankD
  unfold nextD at hx
  refine rank_down (by omega) (by omega) (by omega) hx (fun e => by rw [← e]; exact k2) (fun e => k3 _ (fun e2 => e e2.symm)) (fun e => by rw [← e]; exact k2) (fun e => k3 _ (fun e2 => e e2.symm)) (fun e => by rw [← e]; exact k2) (fun e => k3 _ (fun e2 => e e2.symm)) (fun e => ?_)
  have hst : strD c n r.2 who (c.r + oD c a) = strD c n T who (c.r + oD c a) := by
    unfold strD
    rw [level_o hok o0 o1, if_pos rfl, if_pos rfl]
    refine strK_congr _ (fun q hq => k3 _ (fun e2 => ?_))
    rcases w1 with e3 | ⟨e3, _⟩ | ⟨e3, _⟩
    · have f1 : fstS c (c.r + oD c a) = c.r + no c + oD c a * c.s := by unfold fstS; rw [show c.r + oD c a - c.r = oD c a by omega]
      have f2 : 0 ≤ oD c a * c.s := Int.mul_nonneg o0 (by have := hp.s1; omega)
      omega
    · have f1 : fstS c (c.r + oD c a) = c.r + no c + oD c a * c.s := by unfold fstS; rw [show c.r + oD c a - c.r = oD c a by omega]
      have f2 : 0 ≤ oD c a * c.s := Int.mul_nonneg o0 (by have := hp.s1; omega)
      omega
    · exact e e3
  unfold escB
  rw [hst]
end Go.Proofs.Ytdhpahopfmcdkaa

/- TableDrops, plainly: whose names there are, who is granted when one drops. -/
namespace Go.Proofs.Ytdhpahopfmcdkaa
open Go.RowKit
variable {n k : Nat} {most : Int} {T : Nat → Lv}

/-- Everyone that holds or waits is one of S. -/
def Nam (n : Nat) (T : Nat → Lv) (S : List Int) : Prop := ∀ i, i < n → (∀ x ∈ (T i).1, x.1 ∈ S) ∧ (∀ x ∈ (T i).2, x.1 ∈ S)
theorem nam_none (n : Nat) (S : List Int) : Nam n none0 S := fun i _ => ⟨fun x h => (by cases h), fun x h => (by cases h)⟩
theorem nam_ask {S : List Int} (who node m : Int) (hs : ∀ i, i < n → Srt (T i).1) (h : Gd n k T) (hS : Nam n T S) : Nam n (askT n most T who node m).2 (S ++ [who]) := by
  have up : ∀ z, z ∈ S → z ∈ S ++ [who] := fun z hz => List.mem_append_left _ hz
  by_cases h0 : errD n most T who node m = 0
  · obtain ⟨p1, p2, _⟩ := err_node h0
    rw [ask_yes h0]
    obtain ⟨j, hj⟩ : ∃ j, j = node.toNat := ⟨_, rfl⟩
    rw [← hj]
    have hjn : j < n := by omega
    obtain ⟨_, _, a3, a4⟩ := ask_ok who m (hs j hjn) (h.fine j hjn).ok
    intro i hi
    show (∀ x ∈ (upd T j _ i).1, _) ∧ (∀ x ∈ (upd T j _ i).2, _)
    by_cases e : i = j
    · subst e
      rw [upd_same]
      refine ⟨fun x hx => ?_, fun x hx => ?_⟩
      · rcases a3 x hx with e | ⟨z, hz, e⟩
        · rw [e]; simp
        · rw [← e]; exact up _ ((hS i hi).1 z hz)
      · rcases a4 x hx with e | ⟨z, hz, e⟩
        · rw [e]; simp
        · rw [← e]; exact up _ ((hS i hi).2 z hz)
    · rw [upd_other _ _ e]
      exact ⟨fun x hx => up _ ((hS i hi).1 x hx), fun x hx => up _ ((hS i hi).2 x hx)⟩
  · rw [ask_not h0]
    exact fun i hi => ⟨fun x hx => up _ ((hS i hi).1 x hx), fun x hx => up _ ((hS i hi).2 x hx)⟩
/-- A lane that one has left. -/
theorem dD_names (who : Int) {i : Nat} (hs : Srt (T i).1) (h : Fine (T i).1 (T i).2) : (∀ x ∈ (dD who T i).2.1, x.1 ≠ who ∧ ((∃ z ∈ (T i).1, z.1 = x.1) ∨ ∃ z ∈ (T i).2, z.1 = x.1)) ∧ (∀ x ∈ (dD who T i).2.2, x.1 ≠ who ∧ ∃ z ∈ (T i).2, z.1 = x.1) := by
  unfold dD
  cases hh : hasL who (T i)
  · rw [if_neg (by decide)]
    unfold hasL at hh
    have hh2 : lookD who (T i).1 = 0 ∧ lookD who (T i).2 = 0 := by simpa using hh
    refine ⟨fun x hx => ⟨hasnt ((look_zero h.ok.hm).1 hh2.1) x hx, .inl ⟨x, hx, rfl⟩⟩, fun x hx => ⟨hasnt ((look_zero h.ok.qm).1 hh2.2) x hx, x, hx, rfl⟩⟩
  · rw [if_pos rfl]
    obtain ⟨_, _, l3, l4⟩ := leave_ok who hs h.ok
    exact ⟨l3, l4⟩
theorem nam_drop {S : List Int} (who : Int) (hs : ∀ i, i < n → Srt (T i).1) (h : Gd n k T) (hS : Nam n T S) : Nam n (dropD who T (dn n 0)).2 (S.filter (fun z => z != who)) := by
  intro i hi
  rw [drop_at2 who T hi]
  obtain ⟨d1, d2⟩ := dD_names who (hs i hi) (h.fine i hi)
  refine ⟨fun x hx => ?_, fun x hx => ?_⟩
  · obtain ⟨e1, e2⟩ := d1 x hx
    rw [List.mem_filter]
    refine ⟨?_, by simpa using e1⟩
    rcases e2 with ⟨z, hz, e⟩ | ⟨z, hz, e⟩
    · rw [← e]; exact (hS i hi).1 z hz
    · rw [← e]; exact (hS i hi).2 z hz
  · obtain ⟨e1, z, hz, e⟩ := d2 x hx
    rw [List.mem_filter]
    exact ⟨by rw [← e]; exact (hS i hi).2 z hz, by simpa using e1⟩
/-- Where nobody is left, there is nothing. -/
theorem nam_nil (h : Nam n T []) : ∀ i, i < n → T i = ([], []) := fun i hi => by
  obtain ⟨h1, h2⟩ := h i hi
  have e1 : (T i).1 = [] := by
    cases e : (T i).1 with
    | nil => rfl
    | cons x r => rw [e] at h1; exact absurd (h1 x List.mem_cons_self) (by simp)
  have e2 : (T i).2 = [] := by
    cases e : (T i).2 with
    | nil => rfl
    | cons x r => rw [e] at h2; exact absurd (h2 x List.mem_cons_self) (by simp)
  exact Prod.ext e1 e2
theorem len_nil : ∀ m, (∀ i, i < m → T i = ([], [])) → lenD T m = 0
  | 0, _ => rfl
  | m + 1, h => by
    unfold lenD
    rw [len_nil m (fun i hi => h i (by omega)), h m (by omega)]; rfl
theorem raw_nil : ∀ m, (∀ i, i < m → T i = ([], [])) → rawE T m = []
  | 0, _ => rfl
  | m + 1, h => by
    unfold rawE
    rw [raw_nil m (fun i hi => h i (by omega)), h m (by omega)]; rfl
theorem edges_nil {m : Nat} (h : ∀ i, i < m → T i = ([], [])) : edgesD T m = [] := by
  unfold edgesD
  rw [raw_nil m h]
  unfold srtE
  exact List.mergeSort_nil
/-- Who is granted waited, is another one, and waits no longer. -/
theorem drop_granted {who g : Int} (hs : ∀ i, i < n → Srt (T i).1) (h : Gd n k T) (hone : ∀ i i', i < n → i' < n → ∀ x ∈ (T i).2, ∀ y ∈ (T i').2, x.1 = y.1 → i = i') (hg : g ∈ (dropD who T (dn n 0)).1) :
    g ≠ who ∧ atW g T n < n ∧ noneW g n (dropD who T (dn n 0)).2 ∧ ∃ j, j < n ∧ ∃ x ∈ (T j).2, x.1 = g := by
  unfold dropD at hg
  rw [drop_flat who T (dn n 0) (dn_nodup n) [] T (fun _ _ => rfl)] at hg
  have hg2 : g ∈ (dn n 0).flatMap (fun j => (dD who T j).1) := by simpa using hg
  obtain ⟨j, hj, hgj⟩ := List.mem_flatMap.1 hg2
  have hjn := dn_mem.1 hj
  have f := h.fine j hjn
  have hh : hasL who (T j) = true := by
    cases e : hasL who (T j)
    · unfold dD at hgj; rw [e] at hgj; cases hgj
    · rfl
  have e1 : dD who T j = leaveD who (T j).1 (T j).2 := by unfold dD; rw [if_pos hh]
  rw [e1] at hgj
  obtain ⟨x, hx, rfl⟩ := List.mem_map.1 (show g ∈ ((out1 who (T j).2).take _).map (·.1) from hgj)
  have hxo := List.mem_of_mem_take hx
  have hxq := out_mem hxo
  have hne := out_gone f.ok.once x hxo
  have hw : lookD x.1 (T j).2 ≠ 0 := fun e => by
    have := (look_zero f.ok.qm).1 e
    rw [has_iff.2 ⟨x, hxq, rfl⟩] at this
    cases this
  refine ⟨hne, ?_, fun i hi => ?_, j, hjn, x, hxq, rfl⟩
  · have h1 := atW_le x.1 T n
    rcases Nat.lt_or_ge (atW x.1 T n) n with h2 | h2
    · exact h2
    · exact absurd (atW_low x.1 T n j (by omega)) hw
  · rw [drop_at2 who T hi]
    apply look_no
    cases e : hasD x.1 (dD who T i).2.2
    · rfl
    · exfalso
      obtain ⟨y, hy, ey⟩ := has_iff.1 e
      obtain ⟨_, z, hz, ez⟩ := (dD_names who (hs i hi) (h.fine i hi)).2 y hy
      have hij := hone i j hi hjn z hz x hxq (by rw [ez, ey])
      subst hij
      rw [e1] at hy
      have hy2 : y ∈ (out1 who (T i).2).drop (grantD (out1 who (T i).1) (out1 who (T i).2)).1 := hy
      have ho : Once ((out1 who (T i).2).take (grantD (out1 who (T i).1) (out1 who (T i).2)).1 ++ (out1 who (T i).2).drop (grantD (out1 who (T i).1) (out1 who (T i).2)).1) := by
        rw [List.take_append_drop]; exact out_once f.ok.once
      exact (List.pairwise_append.1 ho).2.2 x hx y hy2 ey.symm
end Go.Proofs.Ytdhpahopfmcdkaa

/- append of what was handed in: a slice that is read, nil or not. -/
namespace Go.Proofs.Ytdhpahopfmcdkaa
open Go.RowKit

theorem addr_add (b off i : Nat) : (⟨b, off, none⟩ : Addr).add i = ⟨b, off + i, none⟩ := by
  by_cases h : i = 0 <;> simp [Addr.add, h]
/-- The cells that hold the numbers of a list. -/
theorem seg_news {w : World} {b off len : Nat} {l : List Int} (hs : SegK .i64 w (some ⟨b, off, none⟩) len l) :
    ∀ j u, (vals l)[j]? = some u → w.cell? ((⟨b, off, none⟩ : Addr).add j) = some u := by
  intro j u hj
  unfold vals at hj
  rw [List.getElem?_map] at hj
  have hjl : j < l.length := by
    rcases Nat.lt_or_ge j l.length with h | h
    · exact h
    · rw [List.getElem?_eq_none (by omega)] at hj; simp at hj
  rw [List.getElem?_eq_getElem hjl] at hj
  obtain rfl : Value.int .i64 l[j] = u := by simpa using hj
  rcases hs.2 with h | ⟨b', off', he, hc⟩
  · have := hs.1; omega
  · obtain ⟨rfl, rfl⟩ : b = b' ∧ off = off' := by simpa using he
    rw [addr_add, hc j (by rw [← hs.1]; exact hjl), List.getD_eq_getElem?_getD, List.getElem?_eq_getElem hjl]
    rfl
theorem vals_len (l : List Int) (n : Nat) (h : l.length = n) : (vals l).length = n * 1 := by simp [vals, h]
/-- What append asks of its second argument: a slice that is read, nil or not. -/
theorem run_append_seg (w : World) (ty : TypeId) (base : Nat) (i0 : TypeInfo) (hi : Try.prog.info? 3 = some i0) (hz0 : i0.zero = some (.int .i64 0)) (hz1 : i0.size = 1) (hz2 : i0.bytes = 8)
    (v : Value) (n : Nat) (k : List Int) (hown : w.ownsRow base 3 1 v n (vals k)) (va : Option Addr) (m c : Nat) (l : List Int) (hs : SegK .i64 w va m l) (hnil : va = none → c = 0)
    (hm : n + m ≤ 2000) (hbase : base ≤ w.heap.size) :
    ∃ v' w', (Builtin.append_ #[34, 34] ty #[v, .slice va m c]).run Try.prog w = .ok v' w' ∧ w'.ownsRow base 3 1 v' (n + m) (vals (k ++ l)) ∧ w.grownBy w' v.ownBlock := by
  cases va with
  | none =>
    obtain rfl := hnil rfl
    have hm0 : m = 0 := by
      rcases hs.2 with h | ⟨_, _, h, _⟩
      · exact h
      · cases h
    subst hm0
    obtain rfl : l = [] := List.eq_nil_of_length_eq_zero hs.1
    have hr := run_append_owned_none (P := Try.prog) (w := w) base 34 ty 3 i0 1 Try.underlying34 hi v n _ hown
    exact ⟨v, w, hr, by simpa using hown, ⟨rfl, rfl, rfl, Nat.le_refl _, fun _ _ _ => rfl⟩⟩
  | some ad =>
    have hnews : ∀ j u, (vals l)[j]? = some u → w.cell? (ad.add j) = some u := by
      rcases hs.2 with h | ⟨b, off, h, _⟩
      · subst h
        obtain rfl : l = [] := List.eq_nil_of_length_eq_zero hs.1
        intro j u hj
        simp [vals] at hj
      · obtain rfl : ad = ⟨b, off, none⟩ := by simpa using h
        exact seg_news hs
    obtain ⟨v', w', hr, h2, h3, _⟩ := run_append_own (P := Try.prog) w base 34 ty 3 i0 (.int .i64 0) 1 8 Try.underlying34 hi hz0 hz1 hz2 rfl (by decide) v n _ hown ad m c _ (vals_len l m hs.1) hnews (ints_oneCell _ _) (by unfold maxLen; omega) (by omega) hbase
    exact ⟨v', w', hr, by unfold vals at *; rw [List.map_append]; exact h2, h3⟩
theorem wp_append_seg (w : World) {o : Oper} {a : Act} {K : Act → World → Prop} {Q : Exit → Act → World → Prop} (s x : Operand)
    (ho : o.op = .call { callee := .builtin .append, args := #[s, x], argTypes := #[34, 34] })
    (base : Nat) (v : Value) (n : Nat) (k : List Int) (hv : a.eval s = v) (hown : w.ownsRow base 3 1 v n (vals k)) (va : Option Addr) (m c : Nat) (l : List Int) (hx : a.eval x = .slice va m c) (hs : SegK .i64 w va m l) (hnil : va = none → c = 0)
    (hm : n + m ≤ 2000) (hbase : base ≤ w.heap.size)
    (h : ∀ v' w', w'.ownsRow base 3 1 v' (n + m) (vals (k ++ l)) → w.grownBy w' v.ownBlock → K (a.put o.dst v') w') : o.wp Try.prog a w K Q := by
  obtain ⟨i0, hi, hz0, hz1, hz2⟩ := info_parts inf3
  obtain ⟨v', w', hr, h2, h3⟩ := run_append_seg w o.type base i0 hi hz0 hz1 hz2 v n k hown va m c l hs hnil hm hbase
  unfold Oper.wp execOp
  simp only [ho, resolve, invoke, builtin, Sem.run_bind, Sem.run_pure, Result.andThen_ok, List.map_toArray, List.map_cons, List.map_nil, hv, hx, hr]
  exact h v' w' h2 h3
theorem wpList_append_seg (w : World) {ops : Array Oper} {rest : List Oper} {o : Oper} {a : Act} {Q : Exit → Act → World → Prop} (hw : Region.wanted o (yielded ops a.tmps) = true) (s x : Operand)
    (ho : o.op = .call { callee := .builtin .append, args := #[s, x], argTypes := #[34, 34] })
    (base : Nat) (v : Value) (n : Nat) (k : List Int) (hv : a.eval s = v) (hown : w.ownsRow base 3 1 v n (vals k)) (va : Option Addr) (m c : Nat) (l : List Int) (hx : a.eval x = .slice va m c) (hs : SegK .i64 w va m l) (hnil : va = none → c = 0)
    (hm : n + m ≤ 2000) (hbase : base ≤ w.heap.size)
    (h : ∀ v' w', w'.ownsRow base 3 1 v' (n + m) (vals (k ++ l)) → w.grownBy w' v.ownBlock → wpList Try.prog ops Q rest (a.put o.dst v') w') : wpList Try.prog ops Q (o :: rest) a w :=
  wpList_step fun K hK => by
    rw [if_pos hw]
    exact wp_append_seg w s x ho base v n k hv hown va m c l hx hs hnil hm hbase fun v' w' h2 h3 => hK _ _ (h v' w' h2 h3)
theorem isRow_nil {k : IntKind} {w : World} {a : Option Addr} {len cap : Nat} {zs : List Int} (h : IsRow k w a len cap zs) : a = none → cap = 0 := by
  rcases h with ⟨_, _, h, _⟩ | ⟨x, h, _⟩
  · exact fun _ => h
  · rintro rfl; cases h
theorem SegK.at {k : IntKind} {w : World} {a : Option Addr} {len : Nat} {l : List Int} (h : SegK k w a len l) {i : Nat} (hi : i < len) :
    ∃ b off, a = some ⟨b, off, none⟩ ∧ w.cell? ⟨b, off + i, none⟩ = some (.int k (l.getD i 0)) := by
  rcases h.2 with h0 | ⟨b, off, rfl, hc⟩
  · omega
  · exact ⟨b, off, rfl, hc i hi⟩
end Go.Proofs.Ytdhpahopfmcdkaa

/- What TableDrops' walk wants: Drop keeps rows, the row of bools. -/
namespace Go.Proofs.Ytdhpahopfmcdkaa
open Go.RowKit
variable {B n : Nat} {most : Int} {T : Nat → Lv} {b rb : Nat} {lb : Nat → Nat} {hv qv : Nat → Value}

/-- A number that may be a name here. -/
def ok1000 (z : Int) : Prop := 0 ≤ z ∧ z ≤ 1000
theorem Tn.cy {w w' : World} (h : Tn B n most T b w) (k : Cy w w') : Tn B n most T b w' := by
  obtain ⟨rb, lb, hv, qv, t⟩ := h
  exact ⟨rb, lb, hv, qv, t.cy k⟩
theorem is_seg {B n c : Nat} {a : Option Addr} {l : List Int} {w : World} (h : Is B (.slice a n c) l w) (hl : l.length = n) : SegK .i64 w a n l := by
  refine ⟨hl, ?_⟩
  by_cases h0 : n = 0
  · exact .inl h0
  · obtain ⟨g, o, e, _, _⟩ := h.elem' (i := 0) (by omega)
    refine .inr ⟨g, o, e, fun i hi => ?_⟩
    obtain ⟨g2, o2, e2, hc, _⟩ := h.elem' (i := i) (by omega)
    rw [e] at e2
    obtain ⟨rfl, rfl⟩ : g = g2 ∧ o = o2 := by simpa using e2
    exact hc
theorem fn_cells {X : Nat → Prop} {w : World} (h : Tb B n most T b rb lb hv qv w) (hX : ∀ j, X j → ∃ cur t, w.heap[j]? = some (.cells cur t (0, 0)) ∧ t ≠ 63 ∧ t ≠ 90) : Fn X n w.heap.size lb hv qv := fun j hj => by
  obtain ⟨cur, t, hc, h1, h2⟩ := hX j hj
  refine ⟨heap_lt hc, fun i hi => ⟨fun e => ?_, es_ne (h.ls.la i hi).hr hc h1, es_ne (h.ls.la i hi).qr hc h1⟩⟩
  have := (h.ls.la i hi).blk
  rw [← e, hc] at this
  injection this with this
  injection this with _ e2
  exact h2 e2
theorem Is.kr {X : Nat → Prop} {B : Nat} {v : Value} {l : List Int} {w w' : World} (h : Is B v l w) (k : Kr X w w') (hX : ∀ g, v.ownBlock = some g → X g) : Is B v l w' := h.keep fun g hg => by
  obtain ⟨cur, hc⟩ := h.ty g hg
  rw [k g cur 3 hc (.inr (.inr (.inr (hX g hg)))), hc]
theorem drop_w {X : Nat → Prop} (w : World) (h : Tb B n most T b rb lb hv qv w) (hg : Gd n 1000 T) (hn : n ≤ 10000) (who : Int) (hX : Fn X n w.heap.size lb hv qv) {r : List Int × (Nat → Lv)} (hr : dropD who T (dn n 0) = r) :
    Calls Try.prog 30 #[.pointer (some ⟨b, 0, none⟩), .int .i64 who] w fun e w' => ∃ v, e = .returned v ∧ Is w.heap.size v r.1 w' ∧ (∃ hv' qv', Tb B n most r.2 b rb lb hv' qv' w') ∧ Below B w w' ∧ Kr X w w' := by
  subst hr
  refine (drop_t w h hg hn who hX).mono ?_
  rintro e w' ⟨gv, hv', qv', M, h1, h2, h3, h4, h5, h6, h7⟩
  exact ⟨gv, h1, h3.down h2, ⟨_, _, h4⟩, h5, h6⟩
/-- The row of bools in block D: who of the first k of S waits. -/
structure Was (D n : Nat) (T : Nat → Lv) (S : List Int) (k : Nat) (w : World) : Prop where
  row : ∃ cur, w.heap[D]? = some (.cells cur 4 (0, 0)) ∧ cur.size = 1001 ∧ (∀ z, z < 1001 → ∃ v, cur[z]? = some (.bool v)) ∧ ∀ m, m < k → cur[(S.getD m 0).toNat]? = some (.bool (decide (atW (S.getD m 0) T n < n)))
namespace Was
variable {D k : Nat} {S : List Int} {w w' : World}
theorem lt (h : Was D n T S k w) : D < w.heap.size := heap_lt h.row.choose_spec.1
theorem next (h : Was D n T S k w) (b : Below w.heap.size w w') : Was D n T S k w' := ⟨⟨_, (b.block D h.lt).trans h.row.choose_spec.1, h.row.choose_spec.2⟩⟩
theorem kr {X : Nat → Prop} (h : Was D n T S k w) (r : Kr X w w') (hX : X D) : Was D n T S k w' := ⟨⟨_, r D _ 4 h.row.choose_spec.1 (.inr (.inr (.inr hX))), h.row.choose_spec.2⟩⟩
theorem cell (h : Was D n T S k w) {z : Nat} (hz : z < 1001) : (∃ x, w.cell? ⟨D, z, none⟩ = some x) ∧ w.frozen? ⟨D, z, none⟩ = false := by
  obtain ⟨cur, h1, h2, h3, _⟩ := h.row
  obtain ⟨v, hv⟩ := h3 z hz
  exact ⟨⟨.bool v, by simp [World.cell?, h1, hv]⟩, by simp [World.frozen?, h1]⟩
theorem put (h : Was D n T S k w) {z : Nat} (hz : z < 1001) (hs : S.getD k 0 = (z : Int)) (hok : ∀ m, m < k → 0 ≤ S.getD m 0) : Was D n T S (k + 1) (w.setCell ⟨D, z, none⟩ (.bool (decide (atW (z : Int) T n < n)))) := by
  obtain ⟨cur, h1, h2, h3, h4⟩ := h.row
  have hset : (w.setCell ⟨D, z, none⟩ (.bool (decide (atW (z : Int) T n < n)))).heap[D]? = some (.cells (cur.set! z (.bool (decide (atW (z : Int) T n < n)))) 4 (0, 0)) := by
    show (w.heap.modify D _)[D]? = _
    rw [Array.getElem?_modify, if_pos rfl, h1]; rfl
  refine ⟨⟨_, hset, by simp [h2], fun y hy => ?_, fun m hm => ?_⟩⟩
  · by_cases e : y = z
    · subst e
      exact ⟨_, by simp [h2, hy]; rfl⟩
    · obtain ⟨v, hv⟩ := h3 y hy
      exact ⟨v, by rw [← hv]; simp [Ne.symm e]⟩
  · rcases (show m < k ∨ m = k by omega) with h5 | rfl
    · by_cases e : (S.getD m 0).toNat = z
      · have e2 : S.getD m 0 = (z : Int) := by have := hok m h5; omega
        rw [e2]
        simp [h2, hz]
      · rw [← h4 m h5]
        generalize (S.getD m 0).toNat = y at e ⊢
        simp [Ne.symm e]
    · rw [hs]
      simp [h2, hz]
end Was
theorem zero4 : (Try.prog.info? 4).map (fun i => (i.zero, i.size, i.bytes)) = some (some (.bool false), 1, 1) := by kernel_rfl
theorem make1001 (w : World) : (Instr.makeSlice 70 (.int .i64 1001) (.int .i64 1001)).run Try.prog w = .ok (.slice (some ⟨w.heap.size, 0, none⟩) 1001 1001) (w.alloc (.cells (madeCells #[.bool false] 1001) 4)) := by
  obtain ⟨i, hi, hz, hs, hb⟩ := info_parts zero4
  have := run_makeSlice (P := Try.prog) w 70 4 i _ Try.underlying70 hi hz .i64 .i64 1001 1001 (by omega) (Int.le_refl _) (by rw [hs]; decide) (by rw [hb]; decide) (by decide)
  simp only [hs] at this
  exact this
theorem was_new (w : World) (T : Nat → Lv) (S : List Int) : Was w.heap.size n T S 0 (w.alloc (.cells (madeCells #[.bool false] 1001) 4)) :=
  ⟨⟨_, heap_alloc_new w _, size_madeCells _ _, fun z hz => ⟨false, by
    rw [← Array.getElem?_toList, toList_madeCells_one, List.getElem?_replicate, if_pos hz]⟩, fun m hm => by omega⟩⟩
theorem set4_ne {w : World} {D : Nat} {cur : Array Value} (hD : w.heap[D]? = some (.cells cur 4 (0, 0))) (z : Nat) (v : Value) {k : Nat} {c : Array Value} {t : TypeId} (hk : w.heap[k]? = some (.cells c t (0, 0))) (ht : t ≠ 4) : (w.setCell ⟨D, z, none⟩ v).heap[k]? = w.heap[k]? :=
  set_other _ _ _ _ _ (fun e => by
    rw [e, hD] at hk
    injection hk with hk
    injection hk with _ h2
    exact ht h2.symm)
theorem tb_set {w : World} (h : Tb B n most T b rb lb hv qv w) {D : Nat} {cur : Array Value} (hD : w.heap[D]? = some (.cells cur 4 (0, 0))) (z : Nat) (v : Value) : Tb B n most T b rb lb hv qv (w.setCell ⟨D, z, none⟩ v) :=
  ⟨(set4_ne hD z v h.blk (by decide)).trans h.blk, ⟨_, (set4_ne hD z v h.row.choose_spec.1 (by decide)).trans h.row.choose_spec.1, h.row.choose_spec.2⟩,
   ⟨fun i hi => ⟨(set4_ne hD z v (h.ls.la i hi).blk (by decide)).trans (h.ls.la i hi).blk, (h.ls.la i hi).hr.keep fun g hg => (by obtain ⟨c, hc⟩ := (h.ls.la i hi).hr.ty g hg; exact set4_ne hD z v hc (by decide)), (h.ls.la i hi).qr.keep fun g hg => (by obtain ⟨c, hc⟩ := (h.ls.la i hi).qr.ty g hg; exact set4_ne hD z v hc (by decide)), (h.ls.la i hi).dq, (h.ls.la i hi).bB, (h.ls.la i hi).srt⟩, h.ls.inj, h.ls.apart⟩, h.bB, h.rB⟩
theorem is_set {w : World} {B : Nat} {v : Value} {l : List Int} (h : Is B v l w) {D : Nat} {cur : Array Value} (hD : w.heap[D]? = some (.cells cur 4 (0, 0))) (z : Nat) (u : Value) : Is B v l (w.setCell ⟨D, z, none⟩ u) := h.keep fun g hg => by
  obtain ⟨c, hc⟩ := h.ty g hg
  exact set4_ne hD z u hc (by decide)
theorem set4_cell {w : World} {D z : Nat} {u : Value} {p o : Nat} (h : p ≠ D) : (w.setCell ⟨D, z, none⟩ u).cell? ⟨p, o, none⟩ = w.cell? ⟨p, o, none⟩ := by
  have a := set_other w D z p u h
  simp only [World.cell?, a]
theorem set50_cell {w : World} {P p o : Nat} (h : p ≠ P) (u v : Value) : ((w.setCell ⟨P, 0, none⟩ u).setCell ⟨P, 1, none⟩ v).cell? ⟨p, o, none⟩ = w.cell? ⟨p, o, none⟩ := by
  have a := set_other (w.setCell ⟨P, 0, none⟩ u) P 1 p v h
  have c := set_other w P 0 p u h
  simp only [World.cell?, a, c]
theorem Tb.dal {w : World} (h : Tb B n most T b rb lb hv qv w) (o : Obj) : Tb B n most T b rb lb hv qv (w.drew.alloc o) := h.drew.next (below_new _ _)
theorem wait_none (g : Int) (h : noneW g n T) : waitV g n T (atW g T n) = .tuple #[.agg #[.int .i64 0, .int .i64 0], .bool false] := by
  have e : atW g T n = n := by
    have h1 := atW_le g T n
    rcases Nat.lt_or_ge (atW g T n) n with h2 | h2
    · exact absurd (h _ h2) (atW_at g T n h2)
    · omega
  unfold waitV
  rw [e, if_neg (Nat.lt_irrefl n), if_neg (Nat.lt_irrefl n), decide_eq_false (Nat.lt_irrefl n)]
theorem flat_le (f : Nat → List Int) (k : Nat) : ∀ xs : List Nat, (∀ j ∈ xs, (f j).length ≤ k) → (xs.flatMap f).length ≤ xs.length * k
  | [], _ => Nat.zero_le _
  | x :: r, h => by
    have h1 := flat_le f k r fun j hj => h j (List.mem_cons_of_mem _ hj)
    have h2 := h x (List.mem_cons_self ..)
    rw [List.flatMap_cons, List.length_append, List.length_cons, Nat.succ_mul]
    omega
theorem drop_few {k : Nat} {T : Nat → Lv} (who : Int) (hg : Gd n k T) : (dropD who T (dn n 0)).1.length ≤ n * k := by
  have e := drop_flat who T (dn n 0) (dn_nodup n) [] T (fun _ _ => rfl)
  have e2 : (dropD who T (dn n 0)).1 = (dn n 0).flatMap (fun j => (dD who T j).1) := by
    show ((dn n 0).foldl (dropS who) ([], T)).1 = _
    rw [e, List.nil_append]
  rw [e2]
  have h1 := flat_le (fun j => (dD who T j).1) k (dn n 0) (fun j hj => by
    have hjn := dn_mem.1 hj
    show (dD who T j).1.length ≤ k
    unfold dD
    split
    · have h2 := leave_few (who := who) (H := (T j).1) (Q := (T j).2)
      have h3 := hg.sum j hjn
      omega
    · exact Nat.zero_le _)
  rw [dn_len, Nat.sub_zero] at h1
  exact h1
end Go.Proofs.Ytdhpahopfmcdkaa
