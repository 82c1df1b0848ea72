/- Texts of this claim, put together in their order. -/
import Derived.WalkKit
import Derived.WalkSpells
import Derived.WalkLawsBesides
import Derived.Deep.QuietTactic
import Derived.BigQuiet
import Derived.BigRegion
import Derived.Deep.RegionHeld3
import Derived.Below
import Derived.Outline
import Derived.Test.YtdhpahopfmcdkaaBase1
import Derived.Test.YtdhpahopfmcdkaaBase2
import Derived.Test.YtdhpahopfmcdkaaBase3
import Derived.Test.YtdhpahopfmcdkaaBase4
import Derived.Test.YtdhpahopfmcdkaaBase5
import Derived.Test.YtdhpahopfmcdkaaBase6
import Derived.Test.YtdhpahopfmcdkaaBase7
/- TableOnce, plainly: how many locks; nobody waits at two nodes. -/
namespace Go.Proofs.Ytdhpahopfmcdkaa
open Go.RowKit
variable {H Q : List En}

theorem put_length (y : En) (l : List En) : (putD y l).length = l.length + (if hasD y.1 l then 0 else 1) := by
  unfold putD
  cases hasD y.1 l
  · rw [if_neg (by decide), if_neg (by decide), ins_len l _ y (posD_le _ _)]
  · rw [if_pos rfl, if_pos rfl, List.length_set]; rfl
theorem new_same {H H' : List En} : ∀ {Q : List En}, (∀ x ∈ Q, lookD x.1 H = lookD x.1 H') → newD H Q = newD H' Q := fun {Q} h => by
  unfold newD
  exact List.filter_congr (fun x hx => by rw [h x hx])
theorem has_look (hm : ∀ x ∈ H, md x.2) (k : Int) : hasD k H = !(lookD k H == 0) := by
  cases h : hasD k H
  · have := (look_zero hm).2 h
    rw [this]; rfl
  · have : lookD k H ≠ 0 := fun e => by rw [(look_zero hm).1 e] at h; cases h
    simp [this]
theorem locks_put (hs : Srt H) (hm : ∀ x ∈ H, md x.2) {y : En} (hQ : ∀ x ∈ Q, x.1 ≠ y.1) : locksD (putD y H, Q) = locksD (H, Q) + (if lookD y.1 H = 0 then 1 else 0) := by
  unfold locksD
  have h1 : newD (putD y H) Q = newD H Q := new_same (fun x hx => look_put hs (hQ x hx))
  show (putD y H).length + (newD (putD y H) Q).length = H.length + (newD H Q).length + _
  rw [h1, put_length, has_look hm]
  by_cases h : lookD y.1 H = 0
  · simp [h]; omega
  · simp [h]
theorem locks_wait (held : Int) (y : En) : locksD (H, waitD held y H Q) = locksD (H, Q) + (if lookD y.1 H = 0 then 1 else 0) := by
  unfold locksD
  show H.length + (newD H (waitD held y H Q)).length = H.length + (newD H Q).length + _
  have key : ∀ i, (newD H (Q.take i ++ y :: Q.drop i)).length = (newD H Q).length + (if lookD y.1 H = 0 then 1 else 0) := fun i => by
    have e : (newD H Q).length = (newD H (Q.take i)).length + (newD H (Q.drop i)).length := by
      conv => lhs; rw [← List.take_append_drop i Q]
      unfold newD
      rw [List.filter_append, List.length_append]
    rw [e]
    unfold newD
    rw [List.filter_append, List.length_append, List.filter_cons]
    by_cases h : lookD y.1 H = 0
    · simp [h]; omega
    · simp [h]
  rw [wait_at, key]; omega
theorem locks_ask (who m : Int) (hs : Srt H) (h : Ok H Q) : locksD (askD who m H Q).2 ≤ locksD (H, Q) + (if hasL who (H, Q) then 0 else 1) := by
  unfold askD
  cases hk : okD who m Q
  · simp
  · rw [if_pos rfl]
    have hq : lookD who Q = 0 := by
      unfold okD at hk
      simp at hk
      exact hk.2
    have hnq : ∀ x ∈ Q, x.1 ≠ who := hasnt ((look_zero h.qm).1 hq)
    have hl : hasL who (H, Q) = !(lookD who H == 0) := by
      unfold hasL
      show ((lookD who H != 0) || (lookD who Q != 0)) = _
      rw [hq]; simp; rfl
    have hb : (if lookD who H = 0 then 1 else 0) ≤ (if hasL who (H, Q) then 0 else 1) := by
      rw [hl]
      by_cases e : lookD who H = 0
      · simp [e]
      · simp [e]
    dsimp only
    split
    · exact Nat.le_add_right _ _
    · split
      · have := locks_put (Q := Q) hs h.hm (y := (who, goal (lookD who H) m)) hnq
        rw [this]
        exact Nat.add_le_add_left hb _
      · have := locks_wait (H := H) (Q := Q) (lookD who H) (who, goal (lookD who H) m)
        rw [this]
        exact Nat.add_le_add_left hb _
theorem ask_ok_nz {who m : Int} (h : okD who m Q = true) : (askD who m H Q).1 ≠ 0 := by
  unfold askD
  rw [h, if_pos rfl]
  dsimp only
  split
  · show (1 : Int) ≠ 0
    decide
  · split
    · show (1 : Int) ≠ 0
      decide
    · show (2 : Int) ≠ 0
      decide
theorem locks_grant : ∀ (Q H : List En), Srt H → Once Q → (∀ x ∈ H, md x.2) → (∀ x ∈ Q, md x.2) → locksD ((grantD H Q).2, Q.drop (grantD H Q).1) = locksD (H, Q)
  | [], H, _, _, _, _ => rfl
  | x :: r, H, hs, ho, hm, hq => by
    obtain ⟨o1, o2⟩ := List.pairwise_cons.1 ho
    cases hf : fitsL x H
    · rw [grant_stop hf, List.drop_zero]
    · rw [grant_cons hf]
      show locksD ((grantD (putD x H) r).2, (x :: r).drop ((grantD (putD x H) r).1 + 1)) = _
      rw [List.drop_succ_cons, locks_grant r (putD x H) (srt_put hs) o2 (fun z hz => by
        rcases put_mem hz with e | e
        · rw [e]; exact hq x List.mem_cons_self
        · exact hm z e) (fun z hz => hq z (List.mem_cons_of_mem _ hz)), locks_put hs hm (fun z hz => fun e => o1 z hz e.symm)]
      unfold locksD
      show H.length + (newD H r).length + _ = H.length + (newD H (x :: r)).length
      have e : (newD H (x :: r)).length = (newD H r).length + (if lookD x.1 H = 0 then 1 else 0) := by
        unfold newD
        rw [List.filter_cons]
        by_cases h : lookD x.1 H = 0
        · simp [h]
        · simp [h]
      omega
theorem look_out {who k : Int} (h : k ≠ who) : ∀ (l : List En), lookD k (out1 who l) = lookD k l
  | [] => rfl
  | p :: r => by
    have ih := look_out h r
    unfold out1 at ih ⊢
    rw [List.eraseP_cons]
    cases e : isWho who p
    · show lookD k (p :: r.eraseP _) = _
      unfold lookD
      rw [ih]
    · show lookD k r = lookD k (p :: r)
      have hp : p.1 = who := by simpa [isWho] using e
      conv => rhs; unfold lookD
      rw [if_neg (by simp; omega)]
theorem locks_leave (who : Int) (hs : Srt H) (h : Ok H Q) : locksD (leaveD who H Q).2 ≤ locksD (H, Q) := by
  have h1 := locks_grant (out1 who Q) (out1 who H) (out_srt hs) (out_once h.once) (fun x hx => h.hm x (out_mem hx)) (fun x hx => h.qm x (out_mem hx))
  have e : locksD (leaveD who H Q).2 = locksD (out1 who H, out1 who Q) := h1
  rw [e]
  unfold locksD
  show (out1 who H).length + (newD (out1 who H) (out1 who Q)).length ≤ H.length + (newD H Q).length
  have h2 : newD (out1 who H) (out1 who Q) = newD H (out1 who Q) := new_same (fun x hx => look_out (out_gone h.once x hx) H)
  have h3 := out_len who H
  have h4 : (newD H (out1 who Q)).length ≤ (newD H Q).length := by
    unfold newD
    exact ((List.eraseP_sublist (p := isWho who) (l := Q)).filter _).length_le
  rw [h2]; omega
theorem len_upd (T : Nat → Lv) {i : Nat} (x : Lv) : ∀ n, i < n → lenD (upd T i x) n + locksD (T i) = lenD T n + locksD x
  | 0, h => by omega
  | n + 1, h => by
    unfold lenD
    by_cases e : n = i
    · subst e
      rw [upd_same]
      have : ∀ m, m ≤ n → lenD (upd T n x) m = lenD T m := by
        intro m
        induction m with
        | zero => intro _; rfl
        | succ m ih =>
          intro hm
          unfold lenD
          rw [ih (by omega), upd_other T x (by omega)]
      rw [this n (Nat.le_refl _)]; omega
    · have := len_upd T (i := i) x n (by omega)
      rw [upd_other T x e]; omega
theorem len_mono {T T' : Nat → Lv} : ∀ n, (∀ i, i < n → locksD (T' i) ≤ locksD (T i)) → lenD T' n ≤ lenD T n
  | 0, _ => Nat.le_refl _
  | n + 1, h => by
    unfold lenD
    have := len_mono n (fun i hi => h i (by omega))
    have := h n (by omega)
    omega
/-- Who waits at a node waits at no other one; no more locks than may be. -/
structure On (n : Nat) (most : Int) (k : Nat) (T : Nat → Lv) : Prop where
  gd : Gd n k T
  one : ∀ i j, i < n → j < n → ∀ x ∈ (T i).2, ∀ y ∈ (T j).2, x.1 = y.1 → i = j
  room : (lenD T n : Int) ≤ most
theorem lenD_none : ∀ n, lenD none0 n = 0
  | 0 => rfl
  | n + 1 => by
    unfold lenD
    rw [lenD_none n]; rfl
theorem on_none (n k : Nat) {most : Int} (h : 0 ≤ most) : On n most k none0 := ⟨gd_none n k, fun i j _ _ x hx => (by cases hx), by rw [lenD_none]; exact h⟩
theorem On.up {n k k' : Nat} {most : Int} {T : Nat → Lv} (h : On n most k T) (hk : k ≤ k') : On n most k' T := ⟨h.gd.up hk, h.one, h.room⟩
variable {n k : Nat} {most : Int} {T : Nat → Lv}
theorem on_ask (who node m : Int) (hs : ∀ i, i < n → Srt (T i).1) (h : On n most k T) : On n most (k + 1) (askT n most T who node m).2 ∧ ((askT n most T who node m).1.2 = 0 → (askT n most T who node m).1.1 ≠ 0) ∧ ((askT n most T who node m).1.2 ≠ 0 → (askT n most T who node m).1.1 = 0) := by
  have hg := gd_ask (most := most) (who := who) (node := node) (m := m) hs h.gd
  by_cases h0 : errD n most T who node m = 0
  · obtain ⟨p1, p2, p3, p4, p5, p6, p7⟩ := err_node h0
    rw [ask_yes h0] at hg ⊢
    obtain ⟨i, hi⟩ : ∃ i, i = node.toNat := ⟨_, rfl⟩
    rw [← hi] at hg p7 ⊢
    have hin : i < n := by omega
    have f := h.gd.fine i hin
    have hok : okD who m (T i).2 = true := by
      unfold okD
      rw [p6, p3 i hin]
      simp [p5]
    obtain ⟨_, _, _, a4⟩ := ask_ok who m (hs i hin) f.ok
    have hnw : ∀ j, j < n → ∀ x ∈ (T j).2, x.1 ≠ who := fun j hj => hasnt ((look_zero (h.gd.fine j hj).ok.qm).1 (p3 j hj))
    refine ⟨⟨hg, fun a c ha hc x hx y hy e => ?_, ?_⟩, fun _ => ask_ok_nz hok, fun e => absurd rfl e⟩
    · dsimp only at hx hy
      by_cases ea : a = i <;> by_cases ec : c = i
      · omega
      · exfalso
        subst ea
        rw [upd_same] at hx
        rw [upd_other _ _ ec] at hy
        rcases a4 x hx with h1 | ⟨z, hz, h1⟩
        · exact hnw c hc y hy (by rw [← e, h1])
        · exact ec (h.one a c ha hc z hz y hy (by rw [h1, e])).symm
      · exfalso
        subst ec
        rw [upd_same] at hy
        rw [upd_other _ _ ea] at hx
        rcases a4 y hy with h1 | ⟨z, hz, h1⟩
        · exact hnw a ha x hx (by rw [e, h1])
        · exact ea (h.one a c ha hc x hx z hz (by rw [h1, e]))
      · rw [upd_other _ _ ea] at hx
        rw [upd_other _ _ ec] at hy
        exact h.one a c ha hc x hx y hy e
    · have h1 := len_upd T (i := i) (askD who m (T i).1 (T i).2).2 n hin
      have h2 := locks_ask who m (hs i hin) f.ok
      have h3 := h.room
      show (lenD (upd T i (askD who m (T i).1 (T i).2).2) n : Int) ≤ most
      rcases p7 with p7 | p7
      · have e : hasL who ((T i).1, (T i).2) = true := p7
        rw [e, if_pos rfl] at h2
        have e2 : locksD ((T i).1, (T i).2) = locksD (T i) := rfl
        omega
      · have e2 : locksD ((T i).1, (T i).2) = locksD (T i) := rfl
        have : locksD (askD who m (T i).1 (T i).2).2 ≤ locksD (T i) + 1 := by
          split at h2 <;> omega
        omega
  · rw [ask_not h0] at hg ⊢
    exact ⟨⟨hg, h.one, h.room⟩, fun e => absurd e h0, fun _ => rfl⟩
/-- What happens at one lane when who drops. -/
def dD (who : Int) (T : Nat → Lv) (j : Nat) : List Int × Lv := if hasL who (T j) then leaveD who (T j).1 (T j).2 else ([], T j)
theorem drop_flat (who : Int) (T : Nat → Lv) : ∀ (xs : List Nat), xs.Nodup → ∀ (g : List Int) (S : Nat → Lv), (∀ j ∈ xs, S j = T j) → xs.foldl (dropS who) (g, S) = (g ++ xs.flatMap (fun j => (dD who T j).1), fun j => if j ∈ xs then (dD who T j).2 else S j)
  | [], _, g, S, _ => by simp
  | x :: r, hn, g, S, h => by
    obtain ⟨h1, h2⟩ := List.nodup_cons.1 hn
    have e : dropS who (g, S) x = (g ++ (dD who T x).1, upd S x (dD who T x).2) := by
      have hS := h x List.mem_cons_self
      have hu : upd S x (S x) = S := by
        funext j
        unfold upd
        by_cases hj : j = x
        · rw [if_pos hj, hj]
        · rw [if_neg hj]
      unfold dropS dD
      cases hh : hasL who (T x)
      · have hh2 : hasL who (S x) = false := by rw [hS]; exact hh
        simp only [hh2, Bool.false_eq_true, if_false, List.append_nil]
        rw [← hS, hu]
      · simp only [hS, hh, if_true]
    rw [List.foldl_cons, e, drop_flat who T r h2 _ _ (fun j hj => by
      have hne : j ≠ x := fun e => h1 (by rw [← e]; exact hj)
      rw [upd_other S _ hne]
      exact h j (List.mem_cons_of_mem _ hj))]
    rw [List.flatMap_cons, List.append_assoc]
    congr 1
    funext j
    by_cases hj : j ∈ r
    · rw [if_pos hj, if_pos (List.mem_cons_of_mem _ hj)]
    · rw [if_neg hj]
      by_cases hx : j = x
      · subst hx
        rw [upd_same, if_pos List.mem_cons_self]
      · rw [upd_other S _ hx, if_neg (fun e => by rcases List.mem_cons.1 e with e | e; exact hx e; exact hj e)]
theorem dn_nodup (n : Nat) : (dn n 0).Nodup := by
  unfold dn
  rw [List.Nodup, List.pairwise_map]
  refine List.Pairwise.imp_of_mem ?_ (List.pairwise_lt_range (n := n - 0))
  intro a c ha hc h
  have := List.mem_range.1 ha
  have := List.mem_range.1 hc
  omega
theorem dn_mem {n i : Nat} : i ∈ dn n 0 ↔ i < n := by
  unfold dn
  rw [List.mem_map]
  constructor
  · rintro ⟨j, hj, rfl⟩
    have := List.mem_range.1 hj
    omega
  · intro h
    exact ⟨n - 1 - i, by rw [List.mem_range]; omega, by omega⟩
theorem drop_at2 (who : Int) (T : Nat → Lv) {n i : Nat} (hi : i < n) : (dropD who T (dn n 0)).2 i = (dD who T i).2 := by
  unfold dropD
  rw [drop_flat who T (dn n 0) (dn_nodup n) [] T (fun _ _ => rfl)]
  show (if i ∈ dn n 0 then _ else _) = _
  rw [if_pos (dn_mem.2 hi)]
theorem held_nil {who : Int} {T : Nat → Lv} : ∀ n, (∀ i, i < n → lookD who (T i).1 = 0) → heldD who T n = []
  | 0, _ => rfl
  | n + 1, h => by
    unfold heldD
    rw [if_pos (h n (by omega)), held_nil n (fun i hi => h i (by omega))]
theorem on_drop (who : Int) (hs : ∀ i, i < n → Srt (T i).1) (h : On n most k T) : On n most k (dropD who T (dn n 0)).2 ∧ noneW who n (dropD who T (dn n 0)).2 ∧ heldD who (dropD who T (dn n 0)).2 n = [] := by
  have key : ∀ i, i < n → Fine (dD who T i).2.1 (dD who T i).2.2 ∧ (dD who T i).2.1.length + (dD who T i).2.2.length ≤ k ∧ (∀ x ∈ (dD who T i).2.2, ∃ z ∈ (T i).2, z.1 = x.1) ∧ locksD (dD who T i).2 ≤ locksD (T i) ∧ lookD who (dD who T i).2.1 = 0 ∧ lookD who (dD who T i).2.2 = 0 := fun i hi => by
    have f := h.gd.fine i hi
    have s := h.gd.sum i hi
    unfold dD
    cases hh : hasL who (T i)
    · rw [if_neg (by decide)]
      unfold hasL at hh
      simp at hh
      exact ⟨f, s, fun x hx => ⟨x, hx, rfl⟩, Nat.le_refl _, hh.1, hh.2⟩
    · rw [if_pos rfl]
      obtain ⟨l1, l2, l3⟩ := leave_fine who (hs i hi) f
      obtain ⟨_, l4, _, l5⟩ := leave_ok who (hs i hi) f.ok
      exact ⟨l1, by omega, fun x hx => (l5 x hx).2, locks_leave who (hs i hi) f.ok, l2, l3⟩
  refine ⟨⟨⟨fun i hi => ?_, fun i hi => ?_⟩, fun a c ha hc x hx y hy e => ?_, ?_⟩, fun i hi => ?_, held_nil n (fun i hi => ?_)⟩
  · rw [drop_at2 who T hi]; exact (key i hi).1
  · rw [drop_at2 who T hi]; exact (key i hi).2.1
  · rw [drop_at2 who T ha] at hx
    rw [drop_at2 who T hc] at hy
    obtain ⟨z, hz, e1⟩ := (key a ha).2.2.1 x hx
    obtain ⟨z2, hz2, e2⟩ := (key c hc).2.2.1 y hy
    exact h.one a c ha hc z hz z2 hz2 (by rw [e1, e2, e])
  · have := len_mono (T := T) (T' := (dropD who T (dn n 0)).2) n (fun i hi => by rw [drop_at2 who T hi]; exact (key i hi).2.2.2.1)
    have := h.room
    omega
  · rw [drop_at2 who T hi]; exact (key i hi).2.2.2.2.2
  · rw [drop_at2 who T hi]; exact (key i hi).2.2.2.2.1
end Go.Proofs.Ytdhpahopfmcdkaa

/- Tables where 0 and 1 alone hold something and nobody waits, plainly. -/
namespace Go.Proofs.Ytdhpahopfmcdkaa
open Go.RowKit

/-- Those that hold: 0 holds a, 1 holds b (0: nothing). -/
def duoL (a b : Int) : List En := (if a = 0 then [] else [(0, a)]) ++ (if b = 0 then [] else [(1, b)])
/-- .. at each node. -/
def duo (f g : Nat → Int) : Nat → Lv := fun i => (duoL (f i) (g i), [])
def zer : Nat → Int := fun _ => 0
theorem duo_none : duo zer zer = none0 := rfl
theorem duoL_0 (a b : Int) : lookD 0 (duoL a b) = a := by
  unfold duoL
  by_cases h : a = 0 <;> by_cases h2 : b = 0 <;> simp [h, h2, lookD]
theorem duoL_1 (a b : Int) : lookD 1 (duoL a b) = b := by
  unfold duoL
  by_cases h : a = 0 <;> by_cases h2 : b = 0 <;> simp [h, h2, lookD]
theorem duoL_len (a b : Int) : (duoL a b).length ≤ 2 := by
  unfold duoL
  by_cases h : a = 0 <;> by_cases h2 : b = 0 <;> simp [h, h2]
theorem duo_few (f g : Nat → Int) (n : Nat) : Few n 1000 (duo f g) := fun i _ => ⟨Nat.le_trans (duoL_len _ _) (by decide), Nat.zero_le _⟩
theorem duo_sum (f g : Nat → Int) (n : Nat) : ∀ i, i < n → (duo f g i).1.length + (duo f g i).2.length ≤ 400 := fun i _ => by
  have := duoL_len (f i) (g i)
  show (duoL _ _).length + 0 ≤ 400
  omega
theorem duo_wait (f g : Nat → Int) (who : Int) (n : Nat) : atW who (duo f g) n = n := by
  have h1 := atW_le who (duo f g) n
  rcases Nat.lt_or_ge (atW who (duo f g) n) n with h | h
  · exact absurd rfl (atW_at who (duo f g) n h)
  · omega
/-- How many are not 0, below n. -/
def cntN (f : Nat → Int) : Nat → Nat
  | 0 => 0
  | n + 1 => cntN f n + (if f n = 0 then 0 else 1)
theorem cntN_zer : ∀ n, cntN zer n = 0
  | 0 => rfl
  | n + 1 => by unfold cntN; rw [cntN_zer n]; rfl
theorem duo_len (f g : Nat → Int) : ∀ n, lenD (duo f g) n = cntN f n + cntN g n
  | 0 => rfl
  | n + 1 => by
    unfold lenD cntN
    rw [duo_len f g n]
    have e : locksD (duo f g n) = (if f n = 0 then 0 else 1) + (if g n = 0 then 0 else 1) := by
      unfold locksD duo duoL
      by_cases h : f n = 0 <;> by_cases h2 : g n = 0 <;> simp [h, h2, newD]
    rw [e]; omega
theorem cntN_set (f : Nat → Int) (k : Nat) (x : Int) : ∀ n, cntN (set1 f k x) n ≤ cntN f n + (if k < n then 1 else 0)
  | 0 => by simp [cntN]
  | n + 1 => by
    have := cntN_set f k x n
    unfold cntN
    by_cases e : n = k
    · subst e
      rw [set1_same]
      have e1 : (if n < n then 1 else 0 : Nat) = 0 := if_neg (Nat.lt_irrefl n)
      have e2 : (if n < n + 1 then 1 else 0 : Nat) = 1 := if_pos (Nat.lt_succ_self n)
      rw [e1] at this
      rw [e2]
      split <;> split <;> omega
    · rw [set1_other f x e]
      have e2 : (if k < n + 1 then 1 else 0 : Nat) = (if k < n then 1 else 0) := by
        by_cases h : k < n
        · rw [if_pos h, if_pos (show k < n + 1 by omega)]
        · rw [if_neg h, if_neg (show ¬ k < n + 1 by omega)]
      rw [e2]
      generalize (if f n = 0 then 0 else 1 : Nat) = z
      generalize (if k < n then 1 else 0 : Nat) = y at this ⊢
      omega
theorem cntN_set1 (f : Nat → Int) (k : Nat) (x : Int) (n : Nat) : cntN (set1 f k x) n ≤ cntN f n + 1 := by
  have := cntN_set f k x n
  split at this <;> omega
/-- What one may hold: nothing, or a mode. -/
def mz (m : Int) : Prop := 0 ≤ m ∧ m ≤ 5
theorem mz_fin {m : Int} (h : mz m) : ∃ i : Fin 6, m = (i.val : Int) := ⟨⟨m.toNat, by have := h.1; have := h.2; omega⟩, by have := h.1; simp; omega⟩
theorem lane0 : ∀ i j k : Fin 6, let a : Int := i.val; let b : Int := j.val; let m : Int := k.val;
    m ≠ 0 → (b = 0 ∨ fitsB (goal a m) b = true) → askD 0 m (duoL a b) [] = (1, duoL (goal a m) b, []) := by
  decide +kernel
theorem lane1 : ∀ i j k : Fin 6, let a : Int := i.val; let b : Int := j.val; let m : Int := k.val;
    m ≠ 0 → (a = 0 ∨ fitsB (goal b m) a = true) → askD 1 m (duoL a b) [] = (1, duoL a (goal b m), []) := by
  decide +kernel
theorem lane0z (a b m : Int) (ha : mz a) (hb : mz b) (hm : mz m) (h0 : m ≠ 0) (hf : b = 0 ∨ fitsB (goal a m) b = true) : askD 0 m (duoL a b) [] = (1, duoL (goal a m) b, []) := by
  obtain ⟨i, rfl⟩ := mz_fin ha
  obtain ⟨j, rfl⟩ := mz_fin hb
  obtain ⟨k, rfl⟩ := mz_fin hm
  exact lane0 i j k h0 hf
theorem lane1z (a b m : Int) (ha : mz a) (hb : mz b) (hm : mz m) (h0 : m ≠ 0) (hf : a = 0 ∨ fitsB (goal b m) a = true) : askD 1 m (duoL a b) [] = (1, duoL a (goal b m), []) := by
  obtain ⟨i, rfl⟩ := mz_fin ha
  obtain ⟨j, rfl⟩ := mz_fin hb
  obtain ⟨k, rfl⟩ := mz_fin hm
  exact lane1 i j k h0 hf
theorem goal_mz : ∀ i k : Fin 6, 0 ≤ goal (i.val : Int) (k.val : Int) ∧ goal (i.val : Int) (k.val : Int) ≤ 5 := by
  decide +kernel
theorem mz_goal {a m : Int} (ha : mz a) (hm : mz m) : mz (goal a m) := by
  obtain ⟨i, rfl⟩ := mz_fin ha
  obtain ⟨k, rfl⟩ := mz_fin hm
  exact goal_mz i k
theorem duo_err {f g : Nat → Int} {n : Nat} {most : Int} {who m : Int} {k : Nat} (hk : k < n) (hw : 0 ≤ who) (hm : md m) (hr : (lenD (duo f g) n : Int) < most) : errD n most (duo f g) who (k : Int) m = 0 := by
  unfold errD
  have h1 : (decide (0 ≤ (k : Int)) && decide ((k : Int) < n)) = true := by simp; omega
  rw [h1, if_neg (by decide), duo_wait, if_neg (Nat.lt_irrefl n), if_neg, if_neg (by omega)]
  rintro (h | h | h)
  · omega
  · have := hm.1; omega
  · rw [known_no] at h
    exact h ⟨by have := hm.1; omega, hm.2⟩
theorem upd_duo0 (f g : Nat → Int) (k : Nat) (x : Int) : upd (duo f g) k (duoL x (g k), []) = duo (set1 f k x) g := by
  funext i
  unfold upd duo set1
  by_cases h : i = k
  · subst h; simp
  · simp [h]
theorem upd_duo1 (f g : Nat → Int) (k : Nat) (x : Int) : upd (duo f g) k (duoL (f k) x, []) = duo f (set1 g k x) := by
  funext i
  unfold upd duo set1
  by_cases h : i = k
  · subst h; simp
  · simp [h]
theorem duo_ask0 {f g : Nat → Int} {n : Nat} {most m : Int} {k : Nat} (hk : k < n) (hm : md m) (hf : mz (f k)) (hg : mz (g k)) (hfit : g k = 0 ∨ fitsB (goal (f k) m) (g k) = true) (hr : (lenD (duo f g) n : Int) < most) :
    askT n most (duo f g) 0 (k : Int) m = ((1, 0), duo (set1 f k (goal (f k) m)) g) := by
  rw [ask_yes (duo_err hk (by decide) hm hr)]
  have e2 : (k : Int).toNat = k := rfl
  rw [e2]
  have h := lane0z (f k) (g k) m hf hg ⟨by have := hm.1; omega, hm.2⟩ (by have := hm.1; omega) hfit
  show ((( askD 0 m (duoL (f k) (g k)) []).1, 0), upd (duo f g) k (askD 0 m (duoL (f k) (g k)) []).2) = _
  rw [h, upd_duo0]
theorem duo_ask1 {f g : Nat → Int} {n : Nat} {most m : Int} {k : Nat} (hk : k < n) (hm : md m) (hf : mz (f k)) (hg : mz (g k)) (hfit : f k = 0 ∨ fitsB (goal (g k) m) (f k) = true) (hr : (lenD (duo f g) n : Int) < most) :
    askT n most (duo f g) 1 (k : Int) m = ((1, 0), duo f (set1 g k (goal (g k) m))) := by
  rw [ask_yes (duo_err hk (by decide) hm hr)]
  have e2 : (k : Int).toNat = k := rfl
  rw [e2]
  have h := lane1z (f k) (g k) m hf hg ⟨by have := hm.1; omega, hm.2⟩ (by have := hm.1; omega) hfit
  show ((( askD 1 m (duoL (f k) (g k)) []).1, 0), upd (duo f g) k (askD 1 m (duoL (f k) (g k)) []).2) = _
  rw [h, upd_duo1]
theorem duo_raw (f g : Nat → Int) : ∀ n, rawE (duo f g) n = []
  | 0 => rfl
  | n + 1 => by
    unfold rawE
    rw [duo_raw f g n]
    rfl
theorem duo_edges (f g : Nat → Int) (n : Nat) : edgesD (duo f g) n = [] := by
  unfold edgesD
  rw [duo_raw]
  unfold srtE
  exact List.mergeSort_nil
end Go.Proofs.Ytdhpahopfmcdkaa

/- A configuration (twelve whole numbers), how a copy of it lies in memory, and what the leaves of package shape answer. -/
namespace Go.Proofs.Ytdhpahopfmcdkaa
open Go.RowKit


/-- A configuration. -/
structure Cf where
  r : Int
  o : Int
  s : Int
  d : Int
  t : Int
  l : Int
  g : Int
  k : Int
  u : Int
  e : Int
  i : Int
  p : Int
/-- .. as a value. -/
def cv (c : Cf) : Value := .agg #[.int .i64 c.r, .int .i64 c.o, .int .i64 c.s, .int .i64 c.d, .int .i64 c.t, .int .i64 c.l, .int .i64 c.g, .int .i64 c.k, .int .i64 c.u, .int .i64 c.e, .int .i64 c.i, .int .i64 c.p]
/-- .. as it lies in block b. -/
def Bx (c : Cf) (b : Nat) (w : World) : Prop := w.heap[b]? = some (.cells #[.int .i64 c.r, .int .i64 c.o, .int .i64 c.s, .int .i64 c.d, .int .i64 c.t, .int .i64 c.l, .int .i64 c.g, .int .i64 c.k, .int .i64 c.u, .int .i64 c.e, .int .i64 c.i, .int .i64 c.p] 73 (0, 0))
theorem Bx.later {c : Cf} {b B : Nat} {w w' : World} (h : Bx c b w) (hb : Below B w w') (hB : b < B) : Bx c b w' := (hb.block b hB).trans h
theorem Bx.lt {c : Cf} {b : Nat} {w : World} (h : Bx c b w) : b < w.heap.size := by
  unfold Bx at h
  by_cases hb : b < w.heap.size
  · exact hb
  · rw [Array.getElem?_eq_none (by omega)] at h; cases h
theorem Bx.next {c : Cf} {b : Nat} {w w' : World} (h : Bx c b w) (hb : Below w.heap.size w w') : Bx c b w' := h.later hb h.lt
theorem Bx.drew {c : Cf} {b : Nat} {w : World} (h : Bx c b w) : Bx c b w.drew := h
theorem Bx.cells {c : Cf} {b : Nat} {w : World} (h : Bx c b w) :
    w.cell? ⟨b, 0, none⟩ = some (.int .i64 c.r) ∧ w.cell? ⟨b, 1, none⟩ = some (.int .i64 c.o) ∧ w.cell? ⟨b, 2, none⟩ = some (.int .i64 c.s) ∧ w.cell? ⟨b, 3, none⟩ = some (.int .i64 c.d) ∧
    w.cell? ⟨b, 4, none⟩ = some (.int .i64 c.t) ∧ w.cell? ⟨b, 5, none⟩ = some (.int .i64 c.l) ∧ w.cell? ⟨b, 6, none⟩ = some (.int .i64 c.g) ∧ w.cell? ⟨b, 7, none⟩ = some (.int .i64 c.k) ∧
    w.cell? ⟨b, 8, none⟩ = some (.int .i64 c.u) ∧ w.cell? ⟨b, 9, none⟩ = some (.int .i64 c.e) ∧ w.cell? ⟨b, 10, none⟩ = some (.int .i64 c.i) ∧ w.cell? ⟨b, 11, none⟩ = some (.int .i64 c.p) := by
  unfold Bx at h
  simp [World.cell?, h]

/-- Is n from l to m? -/
def inB (n l m : Int) : Bool := decide (l ≤ n) && decide (n ≤ m)
theorem inB_iff {n l m : Int} : inB n l m = true ↔ l ≤ n ∧ n ≤ m := by simp [inB]
theorem inB_no {n l m : Int} : inB n l m = false ↔ ¬ (l ≤ n ∧ n ≤ m) := by rw [← inB_iff]; simp

set_option maxRecDepth 100000 in
theorem within_any (n l m : Int) (w : World) : Calls Try.prog 138 #[.int .i64 n, .int .i64 l, .int .i64 m] w fun e w' => e = .returned (.bool (inB n l m)) ∧ w' = w := by
  unfold inB
  by_cases h1 : l ≤ n <;> by_cases h2 : n ≤ m
  all_goals
    go_enter Try.func138, Try.ntmps138
    go_wp2
    go_ret
    exact ⟨by simp [h1, h2], rfl⟩

/-- The parts of the heap are within their bounds. -/
structure Hp (c : Cf) : Prop where
  r1 : 1 ≤ c.r
  r8 : c.r ≤ 8
  o1 : 1 ≤ c.o
  o8 : c.o ≤ 8
  s1 : 1 ≤ c.s
  s8 : c.s ≤ 8
  d1 : 1 ≤ c.d
  d8 : c.d ≤ 8
/-- How many objects, stripes, words. -/
def no (c : Cf) : Int := c.r * c.o
def ns (c : Cf) : Int := no c * c.s
def nw (c : Cf) : Int := ns c * c.d
theorem mul_in {a b A B : Int} (h1 : 1 ≤ a) (h2 : a ≤ A) (h3 : 1 ≤ b) (h4 : b ≤ B) : 1 ≤ a * b ∧ a * b ≤ A * B := by
  constructor
  · have := Int.mul_le_mul h1 h3 (by omega) (by omega); omega
  · exact Int.mul_le_mul h2 h4 (by omega) (by omega)
theorem no_in {c : Cf} (h : Hp c) : 1 ≤ no c ∧ no c ≤ 64 := by have := mul_in h.r1 h.r8 h.o1 h.o8; unfold no; omega
theorem ns_in {c : Cf} (h : Hp c) : 1 ≤ ns c ∧ ns c ≤ 512 := by have := mul_in (no_in h).1 (no_in h).2 h.s1 h.s8; unfold ns; omega
theorem nw_in {c : Cf} (h : Hp c) : 1 ≤ nw c ∧ nw c ≤ 4096 := by have := mul_in (ns_in h).1 (ns_in h).2 h.d1 h.d8; unfold nw; omega
theorem kin {a : Int} (h1 : 0 ≤ a) (h2 : a ≤ 100000) : IntKind.i64.wrap a = a := by rw [IntKind.wrap_i64]; omega
theorem wrap_in {a : Int} (h1 : 0 ≤ a) (h2 : a ≤ 100000) : wrap64 a = a := by unfold wrap64; omega

theorem bx_new (c : Cf) (w : World) : Bx c w.heap.size (w.alloc (.cells #[.int .i64 c.r, .int .i64 c.o, .int .i64 c.s, .int .i64 c.d, .int .i64 c.t, .int .i64 c.l, .int .i64 c.g, .int .i64 c.k, .int .i64 c.u, .int .i64 c.e, .int .i64 c.i, .int .i64 c.p] 73)) := by
  show (w.heap.push _)[w.heap.size]? = _
  simp
/-- Of a call that was made behind the box. -/
theorem below_call {w w' : World} {o : Obj} (h : Below (w.alloc o).heap.size (w.alloc o) w') : Below w.heap.size w w' := bthen (below_new w o) h (Nat.le_refl _)
theorem below_drew {w w' : World} {o : Obj} (h : Below (w.alloc o).drew.heap.size (w.alloc o).drew w') : Below w.heap.size w w' := bthen (below_new w o).drew h (Nat.le_refl _)

set_option maxRecDepth 100000 in
theorem firstObject_any (c : Cf) (w : World) : Calls Try.prog 91 #[cv c] w fun e w' => e = .returned (.int .i64 c.r) ∧ Below w.heap.size w w' := by
  unfold cv
  go_enter Try.func91, Try.ntmps91
  go_wp2
  go_ret
  exact ⟨rfl, (Below.refl _ _).alloc (Nat.le_refl _) _⟩

set_option maxRecDepth 100000 in
theorem objects_any (c : Cf) (w : World) (h : Hp c) : Calls Try.prog 113 #[cv c] w fun e w' => e = .returned (.int .i64 (no c)) ∧ Below w.heap.size w w' := by
  have e1 : wrap64 (c.r * c.o) = no c := wrap_in (by have := no_in h; unfold no at this; omega) (by have := no_in h; unfold no at this; omega)
  unfold cv
  go_enter Try.func113, Try.ntmps113
  go_wp2
  go_ret
  exact ⟨ret_int e1, (Below.refl _ _).alloc (Nat.le_refl _) _⟩
set_option maxRecDepth 100000 in
theorem robjects_any (c : Cf) (w : World) (h : Hp c) : Calls Try.prog 115 #[cv c] w fun e w' => e = .returned (.int .i64 (no c)) ∧ Below w.heap.size w w' := by
  have e1 : wrap64 (c.r * c.o) = no c := wrap_in (by have := no_in h; unfold no at this; omega) (by have := no_in h; unfold no at this; omega)
  unfold cv
  go_enter Try.func115, Try.ntmps115
  go_wp2
  go_ret
  exact ⟨ret_int e1, (Below.refl _ _).alloc (Nat.le_refl _) _⟩

set_option maxRecDepth 100000 in
theorem stripes_any (c : Cf) (w : World) (h : Hp c) : Calls Try.prog 86 #[cv c] w fun e w' => e = .returned (.int .i64 (ns c)) ∧ Below w.heap.size w w' := by
  have e1 : IntKind.i64.wrap (no c * c.s) = ns c := kin (by have := ns_in h; unfold ns at this; omega) (by have := ns_in h; unfold ns at this; omega)
  unfold cv
  go_enter Try.func86, Try.ntmps86
  go_wp2_with fail
  have hx := bx_new c w
  go_region_held3 (fun wz => wz.cell? ⟨w.heap.size, 0, none⟩ = some (.int .i64 c.r) ∧ wz.cell? ⟨w.heap.size, 1, none⟩ = some (.int .i64 c.o) ∧ wz.cell? ⟨w.heap.size, 2, none⟩ = some (.int .i64 c.s) ∧ wz.cell? ⟨w.heap.size, 3, none⟩ = some (.int .i64 c.d) ∧ wz.cell? ⟨w.heap.size, 4, none⟩ = some (.int .i64 c.t) ∧ wz.cell? ⟨w.heap.size, 5, none⟩ = some (.int .i64 c.l) ∧ wz.cell? ⟨w.heap.size, 6, none⟩ = some (.int .i64 c.g) ∧ wz.cell? ⟨w.heap.size, 7, none⟩ = some (.int .i64 c.k) ∧ wz.cell? ⟨w.heap.size, 8, none⟩ = some (.int .i64 c.u) ∧ wz.cell? ⟨w.heap.size, 9, none⟩ = some (.int .i64 c.e) ∧ wz.cell? ⟨w.heap.size, 10, none⟩ = some (.int .i64 c.i) ∧ wz.cell? ⟨w.heap.size, 11, none⟩ = some (.int .i64 c.p)) (first | exact hx.drew.cells | exact hx1.cells)
    (first
      | (go_at_call 113; refine (objects_any c _ h).mono ?_; rintro e w1 ⟨rfl, hb⟩; have hx1 := hx.drew.next hb))
  go_wp2
  go_ret
  exact ⟨rfl, below_drew hb⟩
end Go.Proofs.Ytdhpahopfmcdkaa

/- What Check of package shape answers. -/
namespace Go.Proofs.Ytdhpahopfmcdkaa
open Go.RowKit

def heapB (c : Cf) : Bool := inB c.r 1 8 && (inB c.o 1 8 && (inB c.s 1 8 && (inB c.d 1 8)))
set_option maxRecDepth 100000 in
theorem heapFits_any (c : Cf) (w : World) : Calls Try.prog 110 #[cv c] w fun e w' => e = .returned (.bool (heapB c)) ∧ Below w.heap.size w w' := by
  cases h0 : inB c.r 1 8
  · have eb : heapB c = false := by simp only [heapB, h0]; rfl
    rw [eb]
    clear eb
    have H0' := hide h0
    clear h0
    unfold cv
    go_enter Try.func110, Try.ntmps110
    go_wp2_with fail
    refine (within_any _ _ _ _).mono ?_
    rw [unhide H0']
    rintro e w1 ⟨rfl, rfl⟩
    go_wp2
    go_ret
    exact ⟨rfl, below_new _ _⟩
  ·
    cases h1 : inB c.o 1 8
    · have eb : heapB c = false := by simp only [heapB, h0, h1]; rfl
      rw [eb]
      clear eb
      have H0' := hide h0
      have H1' := hide h1
      clear h0 h1
      unfold cv
      go_enter Try.func110, Try.ntmps110
      go_wp2_with fail
      refine (within_any _ _ _ _).mono ?_
      rw [unhide H0']
      rintro e w1 ⟨rfl, rfl⟩
      go_wp2_with fail
      refine (within_any _ _ _ _).mono ?_
      rw [unhide H1']
      rintro e w1 ⟨rfl, rfl⟩
      go_wp2
      go_ret
      exact ⟨rfl, below_new _ _⟩
    ·
      cases h2 : inB c.s 1 8
      · have eb : heapB c = false := by simp only [heapB, h0, h1, h2]; rfl
        rw [eb]
        clear eb
        have H0' := hide h0
        have H1' := hide h1
        have H2' := hide h2
        clear h0 h1 h2
        unfold cv
        go_enter Try.func110, Try.ntmps110
        go_wp2_with fail
        refine (within_any _ _ _ _).mono ?_
        rw [unhide H0']
        rintro e w1 ⟨rfl, rfl⟩
        go_wp2_with fail
        refine (within_any _ _ _ _).mono ?_
        rw [unhide H1']
        rintro e w1 ⟨rfl, rfl⟩
        go_wp2_with fail
        refine (within_any _ _ _ _).mono ?_
        rw [unhide H2']
        rintro e w1 ⟨rfl, rfl⟩
        go_wp2
        go_ret
        exact ⟨rfl, below_new _ _⟩
      ·
        cases h3 : inB c.d 1 8
        · have eb : heapB c = false := by simp only [heapB, h0, h1, h2, h3]; rfl
          rw [eb]
          clear eb
          have H0' := hide h0
          have H1' := hide h1
          have H2' := hide h2
          have H3' := hide h3
          clear h0 h1 h2 h3
          unfold cv
          go_enter Try.func110, Try.ntmps110
          go_wp2_with fail
          refine (within_any _ _ _ _).mono ?_
          rw [unhide H0']
          rintro e w1 ⟨rfl, rfl⟩
          go_wp2_with fail
          refine (within_any _ _ _ _).mono ?_
          rw [unhide H1']
          rintro e w1 ⟨rfl, rfl⟩
          go_wp2_with fail
          refine (within_any _ _ _ _).mono ?_
          rw [unhide H2']
          rintro e w1 ⟨rfl, rfl⟩
          go_wp2_with fail
          refine (within_any _ _ _ _).mono ?_
          rw [unhide H3']
          rintro e w1 ⟨rfl, rfl⟩
          go_wp2
          go_ret
          exact ⟨rfl, below_new _ _⟩
        ·
          have eb : heapB c = true := by simp only [heapB, h0, h1, h2, h3]; rfl
          rw [eb]
          clear eb
          have H0' := hide h0
          have H1' := hide h1
          have H2' := hide h2
          have H3' := hide h3
          clear h0 h1 h2 h3
          unfold cv
          go_enter Try.func110, Try.ntmps110
          go_wp2_with fail
          refine (within_any _ _ _ _).mono ?_
          rw [unhide H0']
          rintro e w1 ⟨rfl, rfl⟩
          go_wp2_with fail
          refine (within_any _ _ _ _).mono ?_
          rw [unhide H1']
          rintro e w1 ⟨rfl, rfl⟩
          go_wp2_with fail
          refine (within_any _ _ _ _).mono ?_
          rw [unhide H2']
          rintro e w1 ⟨rfl, rfl⟩
          go_wp2_with fail
          refine (within_any _ _ _ _).mono ?_
          rw [unhide H3']
          rintro e w1 ⟨rfl, rfl⟩
          go_wp2
          go_ret
          exact ⟨rfl, below_new _ _⟩

def roomB (c : Cf) : Bool := inB c.t 1 64 && (inB c.l 0 48 && (inB c.g 1 8 && (inB c.k 1 4096 && (inB c.u 1 1000 && (inB c.e 0 64 && (inB c.i 1 10000))))))
set_option maxRecDepth 100000 in
theorem roomFits_any (c : Cf) (w : World) : Calls Try.prog 111 #[cv c] w fun e w' => e = .returned (.bool (roomB c)) ∧ Below w.heap.size w w' := by
  cases h0 : inB c.t 1 64
  · have eb : roomB c = false := by simp only [roomB, h0]; rfl
    rw [eb]
    clear eb
    have H0' := hide h0
    clear h0
    unfold cv
    go_enter Try.func111, Try.ntmps111
    go_wp2_with fail
    refine (within_any _ _ _ _).mono ?_
    rw [unhide H0']
    rintro e w1 ⟨rfl, rfl⟩
    go_wp2
    go_ret
    exact ⟨rfl, below_new _ _⟩
  ·
    cases h1 : inB c.l 0 48
    · have eb : roomB c = false := by simp only [roomB, h0, h1]; rfl
      rw [eb]
      clear eb
      have H0' := hide h0
      have H1' := hide h1
      clear h0 h1
      unfold cv
      go_enter Try.func111, Try.ntmps111
      go_wp2_with fail
      refine (within_any _ _ _ _).mono ?_
      rw [unhide H0']
      rintro e w1 ⟨rfl, rfl⟩
      go_wp2_with fail
      refine (within_any _ _ _ _).mono ?_
      rw [unhide H1']
      rintro e w1 ⟨rfl, rfl⟩
      go_wp2
      go_ret
      exact ⟨rfl, below_new _ _⟩
    ·
      cases h2 : inB c.g 1 8
      · have eb : roomB c = false := by simp only [roomB, h0, h1, h2]; rfl
        rw [eb]
        clear eb
        have H0' := hide h0
        have H1' := hide h1
        have H2' := hide h2
        clear h0 h1 h2
        unfold cv
        go_enter Try.func111, Try.ntmps111
        go_wp2_with fail
        refine (within_any _ _ _ _).mono ?_
        rw [unhide H0']
        rintro e w1 ⟨rfl, rfl⟩
        go_wp2_with fail
        refine (within_any _ _ _ _).mono ?_
        rw [unhide H1']
        rintro e w1 ⟨rfl, rfl⟩
        go_wp2_with fail
        refine (within_any _ _ _ _).mono ?_
        rw [unhide H2']
        rintro e w1 ⟨rfl, rfl⟩
        go_wp2
        go_ret
        exact ⟨rfl, below_new _ _⟩
      ·
        cases h3 : inB c.k 1 4096
        · have eb : roomB c = false := by simp only [roomB, h0, h1, h2, h3]; rfl
          rw [eb]
          clear eb
          have H0' := hide h0
          have H1' := hide h1
          have H2' := hide h2
          have H3' := hide h3
          clear h0 h1 h2 h3
          unfold cv
          go_enter Try.func111, Try.ntmps111
          go_wp2_with fail
          refine (within_any _ _ _ _).mono ?_
          rw [unhide H0']
          rintro e w1 ⟨rfl, rfl⟩
          go_wp2_with fail
          refine (within_any _ _ _ _).mono ?_
          rw [unhide H1']
          rintro e w1 ⟨rfl, rfl⟩
          go_wp2_with fail
          refine (within_any _ _ _ _).mono ?_
          rw [unhide H2']
          rintro e w1 ⟨rfl, rfl⟩
          go_wp2_with fail
          refine (within_any _ _ _ _).mono ?_
          rw [unhide H3']
          rintro e w1 ⟨rfl, rfl⟩
          go_wp2
          go_ret
          exact ⟨rfl, below_new _ _⟩
        ·
          cases h4 : inB c.u 1 1000
          · have eb : roomB c = false := by simp only [roomB, h0, h1, h2, h3, h4]; rfl
            rw [eb]
            clear eb
            have H0' := hide h0
            have H1' := hide h1
            have H2' := hide h2
            have H3' := hide h3
            have H4' := hide h4
            clear h0 h1 h2 h3 h4
            unfold cv
            go_enter Try.func111, Try.ntmps111
            go_wp2_with fail
            refine (within_any _ _ _ _).mono ?_
            rw [unhide H0']
            rintro e w1 ⟨rfl, rfl⟩
            go_wp2_with fail
            refine (within_any _ _ _ _).mono ?_
            rw [unhide H1']
            rintro e w1 ⟨rfl, rfl⟩
            go_wp2_with fail
            refine (within_any _ _ _ _).mono ?_
            rw [unhide H2']
            rintro e w1 ⟨rfl, rfl⟩
            go_wp2_with fail
            refine (within_any _ _ _ _).mono ?_
            rw [unhide H3']
            rintro e w1 ⟨rfl, rfl⟩
            go_wp2_with fail
            refine (within_any _ _ _ _).mono ?_
            rw [unhide H4']
            rintro e w1 ⟨rfl, rfl⟩
            go_wp2
            go_ret
            exact ⟨rfl, below_new _ _⟩
          ·
            cases h5 : inB c.e 0 64
            · have eb : roomB c = false := by simp only [roomB, h0, h1, h2, h3, h4, h5]; rfl
              rw [eb]
              clear eb
              have H0' := hide h0
              have H1' := hide h1
              have H2' := hide h2
              have H3' := hide h3
              have H4' := hide h4
              have H5' := hide h5
              clear h0 h1 h2 h3 h4 h5
              unfold cv
              go_enter Try.func111, Try.ntmps111
              go_wp2_with fail
              refine (within_any _ _ _ _).mono ?_
              rw [unhide H0']
              rintro e w1 ⟨rfl, rfl⟩
              go_wp2_with fail
              refine (within_any _ _ _ _).mono ?_
              rw [unhide H1']
              rintro e w1 ⟨rfl, rfl⟩
              go_wp2_with fail
              refine (within_any _ _ _ _).mono ?_
              rw [unhide H2']
              rintro e w1 ⟨rfl, rfl⟩
              go_wp2_with fail
              refine (within_any _ _ _ _).mono ?_
              rw [unhide H3']
              rintro e w1 ⟨rfl, rfl⟩
              go_wp2_with fail
              refine (within_any _ _ _ _).mono ?_
              rw [unhide H4']
              rintro e w1 ⟨rfl, rfl⟩
              go_wp2_with fail
              refine (within_any _ _ _ _).mono ?_
              rw [unhide H5']
              rintro e w1 ⟨rfl, rfl⟩
              go_wp2
              go_ret
              exact ⟨rfl, below_new _ _⟩
            ·
              cases h6 : inB c.i 1 10000
              · have eb : roomB c = false := by simp only [roomB, h0, h1, h2, h3, h4, h5, h6]; rfl
                rw [eb]
                clear eb
                have H0' := hide h0
                have H1' := hide h1
                have H2' := hide h2
                have H3' := hide h3
                have H4' := hide h4
                have H5' := hide h5
                have H6' := hide h6
                clear h0 h1 h2 h3 h4 h5 h6
                unfold cv
                go_enter Try.func111, Try.ntmps111
                go_wp2_with fail
                refine (within_any _ _ _ _).mono ?_
                rw [unhide H0']
                rintro e w1 ⟨rfl, rfl⟩
                go_wp2_with fail
                refine (within_any _ _ _ _).mono ?_
                rw [unhide H1']
                rintro e w1 ⟨rfl, rfl⟩
                go_wp2_with fail
                refine (within_any _ _ _ _).mono ?_
                rw [unhide H2']
                rintro e w1 ⟨rfl, rfl⟩
                go_wp2_with fail
                refine (within_any _ _ _ _).mono ?_
                rw [unhide H3']
                rintro e w1 ⟨rfl, rfl⟩
                go_wp2_with fail
                refine (within_any _ _ _ _).mono ?_
                rw [unhide H4']
                rintro e w1 ⟨rfl, rfl⟩
                go_wp2_with fail
                refine (within_any _ _ _ _).mono ?_
                rw [unhide H5']
                rintro e w1 ⟨rfl, rfl⟩
                go_wp2_with fail
                refine (within_any _ _ _ _).mono ?_
                rw [unhide H6']
                rintro e w1 ⟨rfl, rfl⟩
                go_wp2
                go_ret
                exact ⟨rfl, below_new _ _⟩
              ·
                have eb : roomB c = true := by simp only [roomB, h0, h1, h2, h3, h4, h5, h6]; rfl
                rw [eb]
                clear eb
                have H0' := hide h0
                have H1' := hide h1
                have H2' := hide h2
                have H3' := hide h3
                have H4' := hide h4
                have H5' := hide h5
                have H6' := hide h6
                clear h0 h1 h2 h3 h4 h5 h6
                unfold cv
                go_enter Try.func111, Try.ntmps111
                go_wp2_with fail
                refine (within_any _ _ _ _).mono ?_
                rw [unhide H0']
                rintro e w1 ⟨rfl, rfl⟩
                go_wp2_with fail
                refine (within_any _ _ _ _).mono ?_
                rw [unhide H1']
                rintro e w1 ⟨rfl, rfl⟩
                go_wp2_with fail
                refine (within_any _ _ _ _).mono ?_
                rw [unhide H2']
                rintro e w1 ⟨rfl, rfl⟩
                go_wp2_with fail
                refine (within_any _ _ _ _).mono ?_
                rw [unhide H3']
                rintro e w1 ⟨rfl, rfl⟩
                go_wp2_with fail
                refine (within_any _ _ _ _).mono ?_
                rw [unhide H4']
                rintro e w1 ⟨rfl, rfl⟩
                go_wp2_with fail
                refine (within_any _ _ _ _).mono ?_
                rw [unhide H5']
                rintro e w1 ⟨rfl, rfl⟩
                go_wp2_with fail
                refine (within_any _ _ _ _).mono ?_
                rw [unhide H6']
                rintro e w1 ⟨rfl, rfl⟩
                go_wp2
                go_ret
                exact ⟨rfl, below_new _ _⟩

set_option maxRecDepth 100000 in
theorem isPolicy_any (n : Int) (w : World) : Calls Try.prog 112 #[.int .i64 n] w fun e w' => e = .returned (.bool (inB n 0 2)) ∧ w' = w := by
  unfold inB
  by_cases h0 : n = 0
  · subst h0
    go_enter Try.func112, Try.ntmps112
    go_wp2
    go_ret
    exact ⟨rfl, rfl⟩
  · by_cases h1 : n = 1
    · subst h1
      go_enter Try.func112, Try.ntmps112
      go_wp2
      go_ret
      exact ⟨rfl, rfl⟩
    · by_cases h2 : n = 2
      · subst h2
        go_enter Try.func112, Try.ntmps112
        go_wp2
        go_ret
        exact ⟨rfl, rfl⟩
      · have e0 : (n == 0) = false := by simpa using h0
        have e1 : (n == 1) = false := by simpa using h1
        have e2 : (n == 2) = false := by simpa using h2
        have e3 : (decide (0 ≤ n) && decide (n ≤ 2)) = false := by simp; omega
        rw [e3]
        clear e3
        go_enter Try.func112, Try.ntmps112
        go_wp2
        go_ret
        exact ⟨rfl, rfl⟩

/-- May it be? -/
def okB (c : Cf) : Bool := heapB c && (roomB c && inB c.p 0 2)
/-- 0 where it went well, 1 else. -/
def errOf (b : Bool) : Int := if b then 0 else 1
theorem okB_hp {c : Cf} (h : okB c = true) : Hp c := by
  simp only [okB, heapB, Bool.and_eq_true, inB_iff] at h
  obtain ⟨⟨⟨a1, a2⟩, ⟨a3, a4⟩, ⟨a5, a6⟩, ⟨a7, a8⟩⟩, _⟩ := h
  exact ⟨a1, a2, a3, a4, a5, a6, a7, a8⟩

set_option maxRecDepth 100000 in
theorem check_any (c : Cf) (w : World) : Calls Try.prog 84 #[cv c] w fun e w' => e = .returned (.int .i64 (errOf (okB c))) ∧ Below w.heap.size w w' := by
  cases h1 : heapB c
  · have eb : okB c = false := by simp only [okB, h1]; rfl
    rw [eb]
    have H1 := hide h1
    clear eb h1
    unfold cv
    go_enter Try.func84, Try.ntmps84
    go_wp2_with fail
    refine (heapFits_any c _).mono ?_
    rw [unhide H1]
    rintro e w1 ⟨rfl, hb⟩
    go_wp2
    go_ret
    exact ⟨rfl, below_call hb⟩
  · cases h2 : roomB c
    · have eb : okB c = false := by simp only [okB, h1, h2]; rfl
      rw [eb]
      have H1 := hide h1
      have H2 := hide h2
      clear eb h1 h2
      unfold cv
      go_enter Try.func84, Try.ntmps84
      go_wp2_with fail
      refine (heapFits_any c _).mono ?_
      rw [unhide H1]
      rintro e w1 ⟨rfl, hb⟩
      have hx := (bx_new c w).next hb
      obtain ⟨a0, a1, a2, a3, a4, a5, a6, a7, a8, a9, a10, a11⟩ := hx.cells
      go_wp2_with fail
      refine (roomFits_any c _).mono ?_
      rw [unhide H2]
      rintro e w2 ⟨rfl, hb2⟩
      go_wp2
      go_ret
      exact ⟨rfl, below_then (below_call hb) hb2⟩
    · have eb : okB c = inB c.p 0 2 := by simp only [okB, h1, h2]; rfl
      rw [eb]
      have H1 := hide h1
      have H2 := hide h2
      clear eb h1 h2
      cases h3 : inB c.p 0 2
      all_goals
        have H3 := hide h3
        clear h3
        unfold cv
        go_enter Try.func84, Try.ntmps84
        go_wp2_with fail
        refine (heapFits_any c _).mono ?_
        rw [unhide H1]
        rintro e w1 ⟨rfl, hb⟩
        have hx := (bx_new c w).next hb
        obtain ⟨a0, a1, a2, a3, a4, a5, a6, a7, a8, a9, a10, a11⟩ := hx.cells
        go_wp2_with fail
        refine (roomFits_any c _).mono ?_
        rw [unhide H2]
        rintro e w2 ⟨rfl, hb2⟩
        obtain ⟨b0, b1, b2, b3, b4, b5, b6, b7, b8, b9, b10, b11⟩ := (hx.next hb2).cells
        go_wp2_with fail
        refine (isPolicy_any c.p _).mono ?_
        rw [unhide H3]
        rintro e w3 ⟨rfl, hw⟩
        subst hw
        go_wp2
        go_ret
        exact ⟨rfl, below_then (below_call hb) hb2⟩
end Go.Proofs.Ytdhpahopfmcdkaa

/- What firstStripe, Words, Nodes, Cells of package shape answer. -/
namespace Go.Proofs.Ytdhpahopfmcdkaa
open Go.RowKit

theorem errOf_f : errOf false = 1 := rfl
theorem errOf_t : errOf true = 0 := rfl
def wordsD (c : Cf) : Int := if okB c then nw c else 0
def nodesD (c : Cf) : Int := if okB c then c.r + no c + ns c else 0
def cellsD (c : Cf) : Int := if okB c then nw c + ns c * 8 else 0

set_option maxRecDepth 100000 in
theorem firstStripe_any (c : Cf) (w : World) (h : Hp c) : Calls Try.prog 85 #[cv c] w fun e w' => e = .returned (.int .i64 (c.r + no c)) ∧ Below w.heap.size w w' := by
  have h1 := h.r1
  have h2 := h.r8
  obtain ⟨h3, h4⟩ := no_in h
  unfold cv
  go_enter Try.func85, Try.ntmps85
  go_wp2_with fail
  have hx := bx_new c w
  have hl := below_new w (.cells #[.int .i64 c.r, .int .i64 c.o, .int .i64 c.s, .int .i64 c.d, .int .i64 c.t, .int .i64 c.l, .int .i64 c.g, .int .i64 c.k, .int .i64 c.u, .int .i64 c.e, .int .i64 c.i, .int .i64 c.p] 73)
  go_region_held3 (fun wz => wz.cell? ⟨w.heap.size, 0, none⟩ = some (.int .i64 c.r) ∧ wz.cell? ⟨w.heap.size, 1, none⟩ = some (.int .i64 c.o) ∧ wz.cell? ⟨w.heap.size, 2, none⟩ = some (.int .i64 c.s) ∧ wz.cell? ⟨w.heap.size, 3, none⟩ = some (.int .i64 c.d) ∧ wz.cell? ⟨w.heap.size, 4, none⟩ = some (.int .i64 c.t) ∧ wz.cell? ⟨w.heap.size, 5, none⟩ = some (.int .i64 c.l) ∧ wz.cell? ⟨w.heap.size, 6, none⟩ = some (.int .i64 c.g) ∧ wz.cell? ⟨w.heap.size, 7, none⟩ = some (.int .i64 c.k) ∧ wz.cell? ⟨w.heap.size, 8, none⟩ = some (.int .i64 c.u) ∧ wz.cell? ⟨w.heap.size, 9, none⟩ = some (.int .i64 c.e) ∧ wz.cell? ⟨w.heap.size, 10, none⟩ = some (.int .i64 c.i) ∧ wz.cell? ⟨w.heap.size, 11, none⟩ = some (.int .i64 c.p)) (first | exact hx3.cells | exact hx2.cells | exact hx1.cells | exact hx.drew.cells)
    (first
      | (go_at_call 91; refine (firstObject_any c _).mono ?_; rintro e wz ⟨rfl, hbz⟩; first | (have hx3 := hx2.next hbz; have hl3 := below_then hl2 hbz) | (have hx2 := hx1.next hbz; have hl2 := below_then hl1 hbz) | (have hx1 := hx.drew.next hbz; have hl1 := below_then hl.drew hbz))
        | (go_at_call 113; refine (objects_any c _ h).mono ?_; rintro e wz ⟨rfl, hbz⟩; first | (have hx3 := hx2.next hbz; have hl3 := below_then hl2 hbz) | (have hx2 := hx1.next hbz; have hl2 := below_then hl1 hbz) | (have hx1 := hx.drew.next hbz; have hl1 := below_then hl.drew hbz)))
  all_goals
    go_wp2
    go_ret
    exact ⟨ret_int (by simp only [IntKind.wrap_i64]; omega), hl2⟩

set_option maxRecDepth 100000 in
theorem words_any (c : Cf) (w : World) : Calls Try.prog 40 #[cv c] w fun e w' => e = .returned (.int .i64 (wordsD c)) ∧ Below w.heap.size w w' := by
  cases h : okB c
  · have eb : wordsD c = 0 := by simp [wordsD, h]
    rw [eb]
    have H := hide h
    clear eb h
    unfold cv
    go_enter Try.func40, Try.ntmps40
    go_wp2_with fail
    refine (check_any c _).mono ?_
    rw [unhide H, errOf_f]
    rintro e w1 ⟨rfl, hb⟩
    go_wp2
    go_ret
    exact ⟨rfl, below_call hb⟩
  · have eb : wordsD c = nw c := by simp [wordsD, h]
    rw [eb]
    have hp := okB_hp h
    have H := hide h
    clear eb h
    have e1 : IntKind.i64.wrap (ns c * c.d) = nw c := kin (by have := nw_in hp; unfold nw at this; omega) (by have := nw_in hp; unfold nw at this; omega)
    unfold cv
    go_enter Try.func40, Try.ntmps40
    go_wp2_with fail
    refine (check_any c _).mono ?_
    rw [unhide H, errOf_t]
    rintro e w1 ⟨rfl, hb⟩
    have hx := (bx_new c w).next hb
    have hl := below_call hb
    obtain ⟨a0, a1, a2, a3, a4, a5, a6, a7, a8, a9, a10, a11⟩ := hx.cells
    go_wp2_with fail
    go_region_held3 (fun wz => wz.cell? ⟨w.heap.size, 0, none⟩ = some (.int .i64 c.r) ∧ wz.cell? ⟨w.heap.size, 1, none⟩ = some (.int .i64 c.o) ∧ wz.cell? ⟨w.heap.size, 2, none⟩ = some (.int .i64 c.s) ∧ wz.cell? ⟨w.heap.size, 3, none⟩ = some (.int .i64 c.d) ∧ wz.cell? ⟨w.heap.size, 4, none⟩ = some (.int .i64 c.t) ∧ wz.cell? ⟨w.heap.size, 5, none⟩ = some (.int .i64 c.l) ∧ wz.cell? ⟨w.heap.size, 6, none⟩ = some (.int .i64 c.g) ∧ wz.cell? ⟨w.heap.size, 7, none⟩ = some (.int .i64 c.k) ∧ wz.cell? ⟨w.heap.size, 8, none⟩ = some (.int .i64 c.u) ∧ wz.cell? ⟨w.heap.size, 9, none⟩ = some (.int .i64 c.e) ∧ wz.cell? ⟨w.heap.size, 10, none⟩ = some (.int .i64 c.i) ∧ wz.cell? ⟨w.heap.size, 11, none⟩ = some (.int .i64 c.p)) (first | exact hx3.cells | exact hx2.cells | exact hx1.cells | exact hx.drew.cells)
      (first
        | (go_at_call 86; refine (stripes_any c _ hp).mono ?_; rintro e wz ⟨rfl, hbz⟩; first | (have hx3 := hx2.next hbz; have hl3 := below_then hl2 hbz) | (have hx2 := hx1.next hbz; have hl2 := below_then hl1 hbz) | (have hx1 := hx.drew.next hbz; have hl1 := below_then hl.drew hbz)))
    all_goals
      go_wp2
      go_ret
      exact ⟨by first | rfl | exact ret_int (by simp only [IntKind.wrap_i64]; omega), hl1⟩

set_option maxRecDepth 100000 in
theorem nodes_any (c : Cf) (w : World) : Calls Try.prog 39 #[cv c] w fun e w' => e = .returned (.int .i64 (nodesD c)) ∧ Below w.heap.size w w' := by
  cases h : okB c
  · have eb : nodesD c = 0 := by simp [nodesD, h]
    rw [eb]
    have H := hide h
    clear eb h
    unfold cv
    go_enter Try.func39, Try.ntmps39
    go_wp2_with fail
    refine (check_any c _).mono ?_
    rw [unhide H, errOf_f]
    rintro e w1 ⟨rfl, hb⟩
    go_wp2
    go_ret
    exact ⟨rfl, below_call hb⟩
  · have eb : nodesD c = c.r + no c + ns c := by simp [nodesD, h]
    rw [eb]
    have hp := okB_hp h
    have H := hide h
    clear eb h
    have h1 := hp.r1
    have h2 := hp.r8
    obtain ⟨h3, h4⟩ := no_in hp
    obtain ⟨h5, h6⟩ := ns_in hp
    obtain ⟨h7, h8⟩ := nw_in hp
    unfold cv
    go_enter Try.func39, Try.ntmps39
    go_wp2_with fail
    refine (check_any c _).mono ?_
    rw [unhide H, errOf_t]
    rintro e w1 ⟨rfl, hb⟩
    have hx := (bx_new c w).next hb
    have hl := below_call hb
    obtain ⟨a0, a1, a2, a3, a4, a5, a6, a7, a8, a9, a10, a11⟩ := hx.cells
    go_wp2_with fail
    go_region_held3 (fun wz => wz.cell? ⟨w.heap.size, 0, none⟩ = some (.int .i64 c.r) ∧ wz.cell? ⟨w.heap.size, 1, none⟩ = some (.int .i64 c.o) ∧ wz.cell? ⟨w.heap.size, 2, none⟩ = some (.int .i64 c.s) ∧ wz.cell? ⟨w.heap.size, 3, none⟩ = some (.int .i64 c.d) ∧ wz.cell? ⟨w.heap.size, 4, none⟩ = some (.int .i64 c.t) ∧ wz.cell? ⟨w.heap.size, 5, none⟩ = some (.int .i64 c.l) ∧ wz.cell? ⟨w.heap.size, 6, none⟩ = some (.int .i64 c.g) ∧ wz.cell? ⟨w.heap.size, 7, none⟩ = some (.int .i64 c.k) ∧ wz.cell? ⟨w.heap.size, 8, none⟩ = some (.int .i64 c.u) ∧ wz.cell? ⟨w.heap.size, 9, none⟩ = some (.int .i64 c.e) ∧ wz.cell? ⟨w.heap.size, 10, none⟩ = some (.int .i64 c.i) ∧ wz.cell? ⟨w.heap.size, 11, none⟩ = some (.int .i64 c.p)) (first | exact hx3.cells | exact hx2.cells | exact hx1.cells | exact hx.drew.cells)
      (first
        | (go_at_call 85; refine (firstStripe_any c _ hp).mono ?_; rintro e wz ⟨rfl, hbz⟩; first | (have hx3 := hx2.next hbz; have hl3 := below_then hl2 hbz) | (have hx2 := hx1.next hbz; have hl2 := below_then hl1 hbz) | (have hx1 := hx.drew.next hbz; have hl1 := below_then hl.drew hbz))
          | (go_at_call 86; refine (stripes_any c _ hp).mono ?_; rintro e wz ⟨rfl, hbz⟩; first | (have hx3 := hx2.next hbz; have hl3 := below_then hl2 hbz) | (have hx2 := hx1.next hbz; have hl2 := below_then hl1 hbz) | (have hx1 := hx.drew.next hbz; have hl1 := below_then hl.drew hbz)))
    all_goals
      go_wp2
      go_ret
      exact ⟨by first | rfl | exact ret_int (by simp only [IntKind.wrap_i64]; omega), hl2⟩

theorem words_ok (c : Cf) (w : World) (h : okB c = true) : Calls Try.prog 40 #[cv c] w fun e w' => e = .returned (.int .i64 (nw c)) ∧ Below w.heap.size w w' := by
  have := words_any c w
  simp only [wordsD, h, if_true] at this
  exact this

end Go.Proofs.Ytdhpahopfmcdkaa

/- What Level, Parent, Latch, Path of package shape answer. -/
namespace Go.Proofs.Ytdhpahopfmcdkaa
open Go.RowKit

def levelD (c : Cf) (n : Int) : Int := if n < 0 ∨ nodesD c ≤ n then -1 else if n < c.r then 0 else if n < c.r + no c then 1 else 2
def parentD (c : Cf) (n : Int) : Int := if levelD c n = 1 then (n - c.r) / c.o else if levelD c n = 2 then c.r + (n - (c.r + no c)) / c.s else -1
def latchD (c : Cf) (n : Int) : Int := if levelD c n = 2 then nw c + (n - (c.r + no c)) * 8 else -1
theorem nodes_pos {c : Cf} {n : Int} (h0 : 0 ≤ n) (h : n < nodesD c) : okB c = true := by
  cases e : okB c
  · simp [nodesD, e] at h; omega
  · rfl
theorem nodes_ok {c : Cf} (h : okB c = true) : nodesD c = c.r + no c + ns c := by simp [nodesD, h]
theorem words_eq {c : Cf} (h : okB c = true) : wordsD c = nw c := by simp [wordsD, h]
theorem words_pos {c : Cf} {a : Int} (h0 : 0 ≤ a) (h : a < wordsD c) : okB c = true := by
  cases e : okB c
  · simp [wordsD, e] at h; omega
  · rfl
theorem level_m {c : Cf} {n : Int} (h : n < 0 ∨ nodesD c ≤ n) : levelD c n = -1 := by unfold levelD; rw [if_pos h]
theorem level_0 {c : Cf} {n : Int} (h0 : 0 ≤ n) (h1 : n < nodesD c) (h : n < c.r) : levelD c n = 0 := by unfold levelD; rw [if_neg (by omega), if_pos h]
theorem level_1 {c : Cf} {n : Int} (h0 : 0 ≤ n) (h1 : n < nodesD c) (h : c.r ≤ n) (h2 : n < c.r + no c) : levelD c n = 1 := by unfold levelD; rw [if_neg (by omega), if_neg (by omega), if_pos h2]
theorem level_2 {c : Cf} {n : Int} (h0 : 0 ≤ n) (h1 : n < nodesD c) (h : c.r ≤ n) (h2 : c.r + no c ≤ n) : levelD c n = 2 := by unfold levelD; rw [if_neg (by omega), if_neg (by omega), if_neg (by omega)]
/-- The four ways. -/
theorem level_ways (c : Cf) (n : Int) : (levelD c n = -1 ∧ (n < 0 ∨ nodesD c ≤ n)) ∨ (0 ≤ n ∧ n < nodesD c ∧ okB c = true ∧ ((levelD c n = 0 ∧ n < c.r) ∨ (levelD c n = 1 ∧ c.r ≤ n ∧ n < c.r + no c) ∨ (levelD c n = 2 ∧ c.r ≤ n ∧ c.r + no c ≤ n))) := by
  by_cases h : n < 0 ∨ nodesD c ≤ n
  · exact .inl ⟨level_m h, h⟩
  · have h0 : 0 ≤ n := by omega
    have h1 : n < nodesD c := by omega
    refine .inr ⟨h0, h1, nodes_pos h0 h1, ?_⟩
    by_cases h2 : n < c.r
    · exact .inl ⟨level_0 h0 h1 h2, h2⟩
    · by_cases h3 : n < c.r + no c
      · exact .inr (.inl ⟨level_1 h0 h1 (by omega) h3, by omega, h3⟩)
      · exact .inr (.inr ⟨level_2 h0 h1 (by omega) (by omega), by omega, by omega⟩)

set_option maxRecDepth 100000 in
theorem level_any (c : Cf) (n : Int) (w : World) : Calls Try.prog 42 #[cv c, .int .i64 n] w fun e w' => e = .returned (.int .i64 (levelD c n)) ∧ Below w.heap.size w w' := by
  rcases level_ways c n with ⟨e0, h⟩ | ⟨h0, hn, hk, h⟩
  · rw [e0]
    clear e0
    by_cases h0 : n < 0
    · unfold cv
      go_enter Try.func42, Try.ntmps42
      go_wp2
      go_ret
      exact ⟨rfl, below_new _ _⟩
    · have h1 : nodesD c ≤ n := by omega
      clear h
      unfold cv
      go_enter Try.func42, Try.ntmps42
      go_wp2_with fail
      refine (nodes_any c _).mono ?_
      rintro e w1 ⟨rfl, hb⟩
      have hl := below_call hb
      have hx := (bx_new c w).next hb
      go_wp2
      go_ret
      exact ⟨rfl, hl⟩
  · have hp := okB_hp hk
    have H := hide hk
    clear hk
    rcases h with ⟨e0, h⟩ | ⟨e0, h, h'⟩ | ⟨e0, h, h'⟩
    · rw [e0]
      clear e0
      unfold cv
      go_enter Try.func42, Try.ntmps42
      go_wp2_with fail
      refine (nodes_any c _).mono ?_
      rintro e w1 ⟨rfl, hb⟩
      have hl := below_call hb
      have hx := (bx_new c w).next hb
      obtain ⟨a0, a1, a2, a3, a4, a5, a6, a7, a8, a9, a10, a11⟩ := hx.cells
      go_wp2_with fail
      refine (firstObject_any c _).mono ?_
      rintro e w2 ⟨rfl, hb2⟩
      have hl := below_then hl hb2
      have hx := hx.next hb2
      go_wp2
      go_ret
      exact ⟨rfl, hl⟩
    · rw [e0]
      clear e0
      unfold cv
      go_enter Try.func42, Try.ntmps42
      go_wp2_with fail
      refine (nodes_any c _).mono ?_
      rintro e w1 ⟨rfl, hb⟩
      have hl := below_call hb
      have hx := (bx_new c w).next hb
      obtain ⟨a0, a1, a2, a3, a4, a5, a6, a7, a8, a9, a10, a11⟩ := hx.cells
      go_wp2_with fail
      refine (firstObject_any c _).mono ?_
      rintro e w2 ⟨rfl, hb2⟩
      have hl := below_then hl hb2
      have hx := hx.next hb2
      obtain ⟨b0, b1, b2, b3, b4, b5, b6, b7, b8, b9, b10, b11⟩ := hx.cells
      go_wp2_with fail
      refine (firstStripe_any c _ hp).mono ?_
      rintro e w3 ⟨rfl, hb3⟩
      have hl := below_then hl hb3
      have hx := hx.next hb3
      go_wp2
      go_ret
      exact ⟨rfl, hl⟩
    · rw [e0]
      clear e0
      unfold cv
      go_enter Try.func42, Try.ntmps42
      go_wp2_with fail
      refine (nodes_any c _).mono ?_
      rintro e w1 ⟨rfl, hb⟩
      have hl := below_call hb
      have hx := (bx_new c w).next hb
      obtain ⟨a0, a1, a2, a3, a4, a5, a6, a7, a8, a9, a10, a11⟩ := hx.cells
      go_wp2_with fail
      refine (firstObject_any c _).mono ?_
      rintro e w2 ⟨rfl, hb2⟩
      have hl := below_then hl hb2
      have hx := hx.next hb2
      obtain ⟨b0, b1, b2, b3, b4, b5, b6, b7, b8, b9, b10, b11⟩ := hx.cells
      go_wp2_with fail
      refine (firstStripe_any c _ hp).mono ?_
      rintro e w3 ⟨rfl, hb3⟩
      have hl := below_then hl hb3
      have hx := hx.next hb3
      go_wp2
      go_ret
      exact ⟨rfl, hl⟩

set_option maxRecDepth 100000 in
theorem parent_any (c : Cf) (n : Int) (w : World) : Calls Try.prog 43 #[cv c, .int .i64 n] w fun e w' => e = .returned (.int .i64 (parentD c n)) ∧ Below w.heap.size w w' := by
  rcases level_ways c n with ⟨e0, h⟩ | ⟨h0, hn, hk, h⟩
  · have e1 : parentD c n = -1 := by simp [parentD, e0]
    rw [e1]
    have E0 := hide e0
    clear e0 e1
    unfold cv
    go_enter Try.func43, Try.ntmps43
    go_wp2_with fail
    refine (level_any c n _).mono ?_
    rw [unhide E0]
    rintro e w1 ⟨rfl, hb⟩
    have hl := below_call hb
    go_wp2
    go_ret
    exact ⟨rfl, hl⟩
  · have hp := okB_hp hk
    have h1 := hp.r1
    have h2 := hp.r8
    have g1 := hp.o1
    have g2 := hp.o8
    have g3 := hp.s1
    have g4 := hp.s8
    obtain ⟨h3, h4⟩ := no_in hp
    obtain ⟨h5, h6⟩ := ns_in hp
    obtain ⟨h7, h8⟩ := nw_in hp
    rw [nodes_ok hk] at hn
    have H := hide hk
    clear hk
    rcases h with ⟨e0, h⟩ | ⟨e0, h, h'⟩ | ⟨e0, h, h'⟩
    · have e1 : parentD c n = -1 := by simp [parentD, e0]
      rw [e1]
      have E0 := hide e0
      clear e0 e1
      unfold cv
      go_enter Try.func43, Try.ntmps43
      go_wp2_with fail
      refine (level_any c n _).mono ?_
      rw [unhide E0]
      rintro e w1 ⟨rfl, hb⟩
      have hl := below_call hb
      go_wp2
      go_ret
      exact ⟨rfl, hl⟩
    · have e1 : parentD c n = (n - c.r) / c.o := by simp [parentD, e0]
      rw [e1]
      have E0 := hide e0
      clear e0 e1
      have q1 : IntKind.i64.wrap (n - c.r) = n - c.r := kin (by omega) (by omega)
      have q2 : IntKind.i64.wrap ((n - c.r).tdiv c.o) = (n - c.r) / c.o := IntWalk.i64_quo _ _ ⟨by omega, by omega, by omega⟩
      have q3 : c.o ≠ 0 := by omega
      unfold cv
      go_enter Try.func43, Try.ntmps43
      go_wp2_with fail
      refine (level_any c n _).mono ?_
      rw [unhide E0]
      rintro e w1 ⟨rfl, hb⟩
      have hl := below_call hb
      have hx := (bx_new c w).next hb
      obtain ⟨a0, a1, a2, a3, a4, a5, a6, a7, a8, a9, a10, a11⟩ := hx.cells
      go_wp2_with fail
      go_region_held3 (fun wz => wz.cell? ⟨w.heap.size, 0, none⟩ = some (.int .i64 c.r) ∧ wz.cell? ⟨w.heap.size, 1, none⟩ = some (.int .i64 c.o) ∧ wz.cell? ⟨w.heap.size, 2, none⟩ = some (.int .i64 c.s) ∧ wz.cell? ⟨w.heap.size, 3, none⟩ = some (.int .i64 c.d) ∧ wz.cell? ⟨w.heap.size, 4, none⟩ = some (.int .i64 c.t) ∧ wz.cell? ⟨w.heap.size, 5, none⟩ = some (.int .i64 c.l) ∧ wz.cell? ⟨w.heap.size, 6, none⟩ = some (.int .i64 c.g) ∧ wz.cell? ⟨w.heap.size, 7, none⟩ = some (.int .i64 c.k) ∧ wz.cell? ⟨w.heap.size, 8, none⟩ = some (.int .i64 c.u) ∧ wz.cell? ⟨w.heap.size, 9, none⟩ = some (.int .i64 c.e) ∧ wz.cell? ⟨w.heap.size, 10, none⟩ = some (.int .i64 c.i) ∧ wz.cell? ⟨w.heap.size, 11, none⟩ = some (.int .i64 c.p)) (first | exact hx3.cells | exact hx2.cells | exact hx1.cells | exact hx.drew.cells)
        (first
          | (go_at_call 91; refine (firstObject_any c _).mono ?_; rintro e wz ⟨rfl, hbz⟩; first | (have hx3 := hx2.next hbz; have hl3 := below_then hl2 hbz) | (have hx2 := hx1.next hbz; have hl2 := below_then hl1 hbz) | (have hx1 := hx.drew.next hbz; have hl1 := below_then hl.drew hbz)))
      all_goals
        go_wp2
        go_ret
        exact ⟨by first | rfl | exact ret_int (by simp only [q1, q2]), hl1⟩
    · have e1 : parentD c n = c.r + (n - (c.r + no c)) / c.s := by simp [parentD, e0]
      rw [e1]
      have E0 := hide e0
      clear e0 e1
      have q1 : IntKind.i64.wrap (n - (c.r + no c)) = n - (c.r + no c) := kin (by omega) (by omega)
      have q2 : IntKind.i64.wrap ((n - (c.r + no c)).tdiv c.s) = (n - (c.r + no c)) / c.s := IntWalk.i64_quo _ _ ⟨by omega, by omega, by omega⟩
      have q3 : c.s ≠ 0 := by omega
      have q4 : 0 ≤ (n - (c.r + no c)) / c.s := Int.ediv_nonneg (by omega) (by omega)
      have q5 : (n - (c.r + no c)) / c.s ≤ n - (c.r + no c) := Int.ediv_le_self _ (by omega)
      have q6 : IntKind.i64.wrap (c.r + (n - (c.r + no c)) / c.s) = c.r + (n - (c.r + no c)) / c.s := kin (by omega) (by omega)
      unfold cv
      go_enter Try.func43, Try.ntmps43
      go_wp2_with fail
      refine (level_any c n _).mono ?_
      rw [unhide E0]
      rintro e w1 ⟨rfl, hb⟩
      have hl := below_call hb
      have hx := (bx_new c w).next hb
      obtain ⟨a0, a1, a2, a3, a4, a5, a6, a7, a8, a9, a10, a11⟩ := hx.cells
      go_wp2_with fail
      go_region_held3 (fun wz => wz.cell? ⟨w.heap.size, 0, none⟩ = some (.int .i64 c.r) ∧ wz.cell? ⟨w.heap.size, 1, none⟩ = some (.int .i64 c.o) ∧ wz.cell? ⟨w.heap.size, 2, none⟩ = some (.int .i64 c.s) ∧ wz.cell? ⟨w.heap.size, 3, none⟩ = some (.int .i64 c.d) ∧ wz.cell? ⟨w.heap.size, 4, none⟩ = some (.int .i64 c.t) ∧ wz.cell? ⟨w.heap.size, 5, none⟩ = some (.int .i64 c.l) ∧ wz.cell? ⟨w.heap.size, 6, none⟩ = some (.int .i64 c.g) ∧ wz.cell? ⟨w.heap.size, 7, none⟩ = some (.int .i64 c.k) ∧ wz.cell? ⟨w.heap.size, 8, none⟩ = some (.int .i64 c.u) ∧ wz.cell? ⟨w.heap.size, 9, none⟩ = some (.int .i64 c.e) ∧ wz.cell? ⟨w.heap.size, 10, none⟩ = some (.int .i64 c.i) ∧ wz.cell? ⟨w.heap.size, 11, none⟩ = some (.int .i64 c.p)) (first | exact hx3.cells | exact hx2.cells | exact hx1.cells | exact hx.drew.cells)
        (first
          | (go_at_call 91; refine (firstObject_any c _).mono ?_; rintro e wz ⟨rfl, hbz⟩; first | (have hx3 := hx2.next hbz; have hl3 := below_then hl2 hbz) | (have hx2 := hx1.next hbz; have hl2 := below_then hl1 hbz) | (have hx1 := hx.drew.next hbz; have hl1 := below_then hl.drew hbz))
            | (go_at_call 85; refine (firstStripe_any c _ hp).mono ?_; rintro e wz ⟨rfl, hbz⟩; first | (have hx3 := hx2.next hbz; have hl3 := below_then hl2 hbz) | (have hx2 := hx1.next hbz; have hl2 := below_then hl1 hbz) | (have hx1 := hx.drew.next hbz; have hl1 := below_then hl.drew hbz)))
      all_goals
        go_wp2
        go_ret
        exact ⟨by first | rfl | exact ret_int (by simp only [q1, q2, q6]), hl2⟩

end Go.Proofs.Ytdhpahopfmcdkaa
