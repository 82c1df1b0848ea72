/- Texts of this claim, put together in their order. -/
import Derived.Deep.Slices
import Derived.ProofKit
import Derived.Test.YtdhpahopfmcdkaaOfTableonce1
import Derived.Test.YtdhpahopfmcdkaaOfTableonce2
import Derived.Test.YtdhpahopfmcdkaaOfTableonce3
import Derived.Test.YtdhpahopfmcdkaaOfTableonce4
import Derived.Test.YtdhpahopfmcdkaaOfTableonce5
import Derived.Test.YtdhpahopfmcdkaaOfTableonce6
import Derived.Test.YtdhpahopfmcdkaaOfTableonce7
/- TableOnce, plainly: how many locks; nobody waits at two nodes. -/
namespace Go.Proofs.Ytdhpahopfmcdkaa
open Go.RowKit
variable {H Q : List En}

theorem put_length (y : En) (l : List En) : (putD y l).length = l.length + (if hasD y.1 l then 0 else 1) := by
  unfold putD
  cases hasD y.1 l
  · rw [if_neg (by decide), if_neg (by decide), ins_len l _ y (posD_le _ _)]
  · rw [if_pos rfl, if_pos rfl, List.length_set]; rfl
theorem new_same {H H' : List En} : ∀ {Q : List En}, (∀ x ∈ Q, lookD x.1 H = lookD x.1 H') → newD H Q = newD H' Q := fun {Q} h => by
  unfold newD
  exact List.filter_congr (fun x hx => by rw [h x hx])
theorem has_look (hm : ∀ x ∈ H, md x.2) (k : Int) : hasD k H = !(lookD k H == 0) := by
  cases h : hasD k H
  · have := (look_zero hm).2 h
    rw [this]; rfl
  · have : lookD k H ≠ 0 := fun e => by rw [(look_zero hm).1 e] at h; cases h
    simp [this]
theorem locks_put (hs : Srt H) (hm : ∀ x ∈ H, md x.2) {y : En} (hQ : ∀ x ∈ Q, x.1 ≠ y.1) : locksD (putD y H, Q) = locksD (H, Q) + (if lookD y.1 H = 0 then 1 else 0) := by
  unfold locksD
  have h1 : newD (putD y H) Q = newD H Q := new_same (fun x hx => look_put hs (hQ x hx))
  show (putD y H).length + (newD (putD y H) Q).length = H.length + (newD H Q).length + _
  rw [h1, put_length, has_look hm]
  by_cases h : lookD y.1 H = 0
  · simp [h]; omega
  · simp [h]
theorem locks_wait (held : Int) (y : En) : locksD (H, waitD held y H Q) = locksD (H, Q) + (if lookD y.1 H = 0 then 1 else 0) := by
  unfold locksD
  show H.length + (newD H (waitD held y H Q)).length = H.length + (newD H Q).length + _
  have key : ∀ i, (newD H (Q.take i ++ y :: Q.drop i)).length = (newD H Q).length + (if lookD y.1 H = 0 then 1 else 0) := fun i => by
    have e : (newD H Q).length = (newD H (Q.take i)).length + (newD H (Q.drop i)).length := by
      conv => lhs; rw [← List.take_append_drop i Q]
      unfold newD
      rw [List.filter_append, List.length_append]
    rw [e]
    unfold newD
    rw [List.filter_append, List.length_append, List.filter_cons]
    by_cases h : lookD y.1 H = 0
    · simp [h]; omega
    · simp [h]
  rw [wait_at, key]; omega
theorem locks_ask (who m : Int) (hs : Srt H) (h : Ok H Q) : locksD (askD who m H Q).2 ≤ locksD (H, Q) + (if hasL who (H, Q) then 0 else 1) := by
  unfold askD
  cases hk : okD who m Q
  · simp
  · rw [if_pos rfl]
    have hq : lookD who Q = 0 := by
      unfold okD at hk
      simp at hk
      exact hk.2
    have hnq : ∀ x ∈ Q, x.1 ≠ who := hasnt ((look_zero h.qm).1 hq)
    have hl : hasL who (H, Q) = !(lookD who H == 0) := by
      unfold hasL
      show ((lookD who H != 0) || (lookD who Q != 0)) = _
      rw [hq]; simp; rfl
    have hb : (if lookD who H = 0 then 1 else 0) ≤ (if hasL who (H, Q) then 0 else 1) := by
      rw [hl]
      by_cases e : lookD who H = 0
      · simp [e]
      · simp [e]
    dsimp only
    split
    · exact Nat.le_add_right _ _
    · split
      · have := locks_put (Q := Q) hs h.hm (y := (who, goal (lookD who H) m)) hnq
        rw [this]
        exact Nat.add_le_add_left hb _
      · have := locks_wait (H := H) (Q := Q) (lookD who H) (who, goal (lookD who H) m)
        rw [this]
        exact Nat.add_le_add_left hb _
theorem ask_ok_nz {who m : Int} (h : okD who m Q = true) : (askD who m H Q).1 ≠ 0 := by
  unfold askD
  rw [h, if_pos rfl]
  dsimp only
  split
  · show (1 : Int) ≠ 0
    decide
  · split
    · show (1 : Int) ≠ 0
      decide
    · show (2 : Int) ≠ 0
      decide
theorem locks_grant : ∀ (Q H : List En), Srt H → Once Q → (∀ x ∈ H, md x.2) → (∀ x ∈ Q, md x.2) → locksD ((grantD H Q).2, Q.drop (grantD H Q).1) = locksD (H, Q)
  | [], H, _, _, _, _ => rfl
  | x :: r, H, hs, ho, hm, hq => by
    obtain ⟨o1, o2⟩ := List.pairwise_cons.1 ho
    cases hf : fitsL x H
    · rw [grant_stop hf, List.drop_zero]
    · rw [grant_cons hf]
      show locksD ((grantD (putD x H) r).2, (x :: r).drop ((grantD (putD x H) r).1 + 1)) = _
      rw [List.drop_succ_cons, locks_grant r (putD x H) (srt_put hs) o2 (fun z hz => by
        rcases put_mem hz with e | e
        · rw [e]; exact hq x List.mem_cons_self
        · exact hm z e) (fun z hz => hq z (List.mem_cons_of_mem _ hz)), locks_put hs hm (fun z hz => fun e => o1 z hz e.symm)]
      unfold locksD
      show H.length + (newD H r).length + _ = H.length + (newD H (x :: r)).length
      have e : (newD H (x :: r)).length = (newD H r).length + (if lookD x.1 H = 0 then 1 else 0) := by
        unfold newD
        rw [List.filter_cons]
        by_cases h : lookD x.1 H = 0
        · simp [h]
        · simp [h]
      omega
theorem look_out {who k : Int} (h : k ≠ who) : ∀ (l : List En), lookD k (out1 who l) = lookD k l
  | [] => rfl
  | p :: r => by
    have ih := look_out h r
    unfold out1 at ih ⊢
    rw [List.eraseP_cons]
    cases e : isWho who p
    · show lookD k (p :: r.eraseP _) = _
      unfold lookD
      rw [ih]
    · show lookD k r = lookD k (p :: r)
      have hp : p.1 = who := by simpa [isWho] using e
      conv => rhs; unfold lookD
      rw [if_neg (by simp; omega)]
theorem locks_leave (who : Int) (hs : Srt H) (h : Ok H Q) : locksD (leaveD who H Q).2 ≤ locksD (H, Q) := by
  have h1 := locks_grant (out1 who Q) (out1 who H) (out_srt hs) (out_once h.once) (fun x hx => h.hm x (out_mem hx)) (fun x hx => h.qm x (out_mem hx))
  have e : locksD (leaveD who H Q).2 = locksD (out1 who H, out1 who Q) := h1
  rw [e]
  unfold locksD
  show (out1 who H).length + (newD (out1 who H) (out1 who Q)).length ≤ H.length + (newD H Q).length
  have h2 : newD (out1 who H) (out1 who Q) = newD H (out1 who Q) := new_same (fun x hx => look_out (out_gone h.once x hx) H)
  have h3 := out_len who H
  have h4 : (newD H (out1 who Q)).length ≤ (newD H Q).length := by
    unfold newD
    exact ((List.eraseP_sublist (p := isWho who) (l := Q)).filter _).length_le
  rw [h2]; omega
theorem len_upd (T : Nat → Lv) {i : Nat} (x : Lv) : ∀ n, i < n → lenD (upd T i x) n + locksD (T i) = lenD T n + locksD x
  | 0, h => by omega
  | n + 1, h => by
    unfold lenD
    by_cases e : n = i
    · subst e
      rw [upd_same]
      have : ∀ m, m ≤ n → lenD (upd T n x) m = lenD T m := by
        intro m
        induction m with
        | zero => intro _; rfl
        | succ m ih =>
          intro hm
          unfold lenD
          rw [ih (by omega), upd_other T x (by omega)]
      rw [this n (Nat.le_refl _)]; omega
    · have := len_upd T (i := i) x n (by omega)
      rw [upd_other T x e]; omega
theorem len_mono {T T' : Nat → Lv} : ∀ n, (∀ i, i < n → locksD (T' i) ≤ locksD (T i)) → lenD T' n ≤ lenD T n
  | 0, _ => Nat.le_refl _
  | n + 1, h => by
    unfold lenD
    have := len_mono n (fun i hi => h i (by omega))
    have := h n (by omega)
    omega
/-- Who waits at a node waits at no other one; no more locks than may be. -/
structure On (n : Nat) (most : Int) (k : Nat) (T : Nat → Lv) : Prop where
  gd : Gd n k T
  one : ∀ i j, i < n → j < n → ∀ x ∈ (T i).2, ∀ y ∈ (T j).2, x.1 = y.1 → i = j
  room : (lenD T n : Int) ≤ most
theorem lenD_none : ∀ n, lenD none0 n = 0
  | 0 => rfl
  | n + 1 => by
    unfold lenD
    rw [lenD_none n]; rfl
theorem on_none (n k : Nat) {most : Int} (h : 0 ≤ most) : On n most k none0 := ⟨gd_none n k, fun i j _ _ x hx => (by cases hx), by rw [lenD_none]; exact h⟩
theorem On.up {n k k' : Nat} {most : Int} {T : Nat → Lv} (h : On n most k T) (hk : k ≤ k') : On n most k' T := ⟨h.gd.up hk, h.one, h.room⟩
variable {n k : Nat} {most : Int} {T : Nat → Lv}
theorem on_ask (who node m : Int) (hs : ∀ i, i < n → Srt (T i).1) (h : On n most k T) : On n most (k + 1) (askT n most T who node m).2 ∧ ((askT n most T who node m).1.2 = 0 → (askT n most T who node m).1.1 ≠ 0) ∧ ((askT n most T who node m).1.2 ≠ 0 → (askT n most T who node m).1.1 = 0) := by
  have hg := gd_ask (most := most) (who := who) (node := node) (m := m) hs h.gd
  by_cases h0 : errD n most T who node m = 0
  · obtain ⟨p1, p2, p3, p4, p5, p6, p7⟩ := err_node h0
    rw [ask_yes h0] at hg ⊢
    obtain ⟨i, hi⟩ : ∃ i, i = node.toNat := ⟨_, rfl⟩
    rw [← hi] at hg p7 ⊢
    have hin : i < n := by omega
    have f := h.gd.fine i hin
    have hok : okD who m (T i).2 = true := by
      unfold okD
      rw [p6, p3 i hin]
      simp [p5]
    obtain ⟨_, _, _, a4⟩ := ask_ok who m (hs i hin) f.ok
    have hnw : ∀ j, j < n → ∀ x ∈ (T j).2, x.1 ≠ who := fun j hj => hasnt ((look_zero (h.gd.fine j hj).ok.qm).1 (p3 j hj))
    refine ⟨⟨hg, fun a c ha hc x hx y hy e => ?_, ?_⟩, fun _ => ask_ok_nz hok, fun e => absurd rfl e⟩
    · dsimp only at hx hy
      by_cases ea : a = i <;> by_cases ec : c = i
      · omega
      · exfalso
        subst ea
        rw [upd_same] at hx
        rw [upd_other _ _ ec] at hy
        rcases a4 x hx with h1 | ⟨z, hz, h1⟩
        · exact hnw c hc y hy (by rw [← e, h1])
        · exact ec (h.one a c ha hc z hz y hy (by rw [h1, e])).symm
      · exfalso
        subst ec
        rw [upd_same] at hy
        rw [upd_other _ _ ea] at hx
        rcases a4 y hy with h1 | ⟨z, hz, h1⟩
        · exact hnw a ha x hx (by rw [e, h1])
        · exact ea (h.one a c ha hc x hx z hz (by rw [h1, e]))
      · rw [upd_other _ _ ea] at hx
        rw [upd_other _ _ ec] at hy
        exact h.one a c ha hc x hx y hy e
    · have h1 := len_upd T (i := i) (askD who m (T i).1 (T i).2).2 n hin
      have h2 := locks_ask who m (hs i hin) f.ok
      have h3 := h.room
      show (lenD (upd T i (askD who m (T i).1 (T i).2).2) n : Int) ≤ most
      rcases p7 with p7 | p7
      · have e : hasL who ((T i).1, (T i).2) = true := p7
        rw [e, if_pos rfl] at h2
        have e2 : locksD ((T i).1, (T i).2) = locksD (T i) := rfl
        omega
      · have e2 : locksD ((T i).1, (T i).2) = locksD (T i) := rfl
        have : locksD (askD who m (T i).1 (T i).2).2 ≤ locksD (T i) + 1 := by
          split at h2 <;> omega
        omega
  · rw [ask_not h0] at hg ⊢
    exact ⟨⟨hg, h.one, h.room⟩, fun e => absurd e h0, fun _ => rfl⟩
/-- What happens at one lane when who drops. -/
def dD (who : Int) (T : Nat → Lv) (j : Nat) : List Int × Lv := if hasL who (T j) then leaveD who (T j).1 (T j).2 else ([], T j)
theorem drop_flat (who : Int) (T : Nat → Lv) : ∀ (xs : List Nat), xs.Nodup → ∀ (g : List Int) (S : Nat → Lv), (∀ j ∈ xs, S j = T j) → xs.foldl (dropS who) (g, S) = (g ++ xs.flatMap (fun j => (dD who T j).1), fun j => if j ∈ xs then (dD who T j).2 else S j)
  | [], _, g, S, _ => by simp
  | x :: r, hn, g, S, h => by
    obtain ⟨h1, h2⟩ := List.nodup_cons.1 hn
    have e : dropS who (g, S) x = (g ++ (dD who T x).1, upd S x (dD who T x).2) := by
      have hS := h x List.mem_cons_self
      have hu : upd S x (S x) = S := by
        funext j
        unfold upd
        by_cases hj : j = x
        · rw [if_pos hj, hj]
        · rw [if_neg hj]
      unfold dropS dD
      cases hh : hasL who (T x)
      · have hh2 : hasL who (S x) = false := by rw [hS]; exact hh
        simp only [hh2, Bool.false_eq_true, if_false, List.append_nil]
        rw [← hS, hu]
      · simp only [hS, hh, if_true]
    rw [List.foldl_cons, e, drop_flat who T r h2 _ _ (fun j hj => by
      have hne : j ≠ x := fun e => h1 (by rw [← e]; exact hj)
      rw [upd_other S _ hne]
      exact h j (List.mem_cons_of_mem _ hj))]
    rw [List.flatMap_cons, List.append_assoc]
    congr 1
    funext j
    by_cases hj : j ∈ r
    · rw [if_pos hj, if_pos (List.mem_cons_of_mem _ hj)]
    · rw [if_neg hj]
      by_cases hx : j = x
      · subst hx
        rw [upd_same, if_pos List.mem_cons_self]
      · rw [upd_other S _ hx, if_neg (fun e => by rcases List.mem_cons.1 e with e | e; exact hx e; exact hj e)]
theorem dn_nodup (n : Nat) : (dn n 0).Nodup := by
  unfold dn
  rw [List.Nodup, List.pairwise_map]
  refine List.Pairwise.imp_of_mem ?_ (List.pairwise_lt_range (n := n - 0))
  intro a c ha hc h
  have := List.mem_range.1 ha
  have := List.mem_range.1 hc
  omega
theorem dn_mem {n i : Nat} : i ∈ dn n 0 ↔ i < n := by
  unfold dn
  rw [List.mem_map]
  constructor
  · rintro ⟨j, hj, rfl⟩
    have := List.mem_range.1 hj
    omega
  · intro h
    exact ⟨n - 1 - i, by rw [List.mem_range]; omega, by omega⟩
theorem drop_at2 (who : Int) (T : Nat → Lv) {n i : Nat} (hi : i < n) : (dropD who T (dn n 0)).2 i = (dD who T i).2 := by
  unfold dropD
  rw [drop_flat who T (dn n 0) (dn_nodup n) [] T (fun _ _ => rfl)]
  show (if i ∈ dn n 0 then _ else _) = _
  rw [if_pos (dn_mem.2 hi)]
theorem held_nil {who : Int} {T : Nat → Lv} : ∀ n, (∀ i, i < n → lookD who (T i).1 = 0) → heldD who T n = []
  | 0, _ => rfl
  | n + 1, h => by
    unfold heldD
    rw [if_pos (h n (by omega)), held_nil n (fun i hi => h i (by omega))]
theorem on_drop (who : Int) (hs : ∀ i, i < n → Srt (T i).1) (h : On n most k T) : On n most k (dropD who T (dn n 0)).2 ∧ noneW who n (dropD who T (dn n 0)).2 ∧ heldD who (dropD who T (dn n 0)).2 n = [] := by
  have key : ∀ i, i < n → Fine (dD who T i).2.1 (dD who T i).2.2 ∧ (dD who T i).2.1.length + (dD who T i).2.2.length ≤ k ∧ (∀ x ∈ (dD who T i).2.2, ∃ z ∈ (T i).2, z.1 = x.1) ∧ locksD (dD who T i).2 ≤ locksD (T i) ∧ lookD who (dD who T i).2.1 = 0 ∧ lookD who (dD who T i).2.2 = 0 := fun i hi => by
    have f := h.gd.fine i hi
    have s := h.gd.sum i hi
    unfold dD
    cases hh : hasL who (T i)
    · rw [if_neg (by decide)]
      unfold hasL at hh
      simp at hh
      exact ⟨f, s, fun x hx => ⟨x, hx, rfl⟩, Nat.le_refl _, hh.1, hh.2⟩
    · rw [if_pos rfl]
      obtain ⟨l1, l2, l3⟩ := leave_fine who (hs i hi) f
      obtain ⟨_, l4, _, l5⟩ := leave_ok who (hs i hi) f.ok
      exact ⟨l1, by omega, fun x hx => (l5 x hx).2, locks_leave who (hs i hi) f.ok, l2, l3⟩
  refine ⟨⟨⟨fun i hi => ?_, fun i hi => ?_⟩, fun a c ha hc x hx y hy e => ?_, ?_⟩, fun i hi => ?_, held_nil n (fun i hi => ?_)⟩
  · rw [drop_at2 who T hi]; exact (key i hi).1
  · rw [drop_at2 who T hi]; exact (key i hi).2.1
  · rw [drop_at2 who T ha] at hx
    rw [drop_at2 who T hc] at hy
    obtain ⟨z, hz, e1⟩ := (key a ha).2.2.1 x hx
    obtain ⟨z2, hz2, e2⟩ := (key c hc).2.2.1 y hy
    exact h.one a c ha hc z hz z2 hz2 (by rw [e1, e2, e])
  · have := len_mono (T := T) (T' := (dropD who T (dn n 0)).2) n (fun i hi => by rw [drop_at2 who T hi]; exact (key i hi).2.2.2.1)
    have := h.room
    omega
  · rw [drop_at2 who T hi]; exact (key i hi).2.2.2.2.2
  · rw [drop_at2 who T hi]; exact (key i hi).2.2.2.2.1
end Go.Proofs.Ytdhpahopfmcdkaa

/- TableFull, plainly: tables where each lane has one holder at most and nobody waits. -/
namespace Go.Proofs.Ytdhpahopfmcdkaa
open Go.RowKit

/-- Lane i has the one holder f i, where p i. -/
def gT (p : Nat → Bool) (f : Nat → En) : Nat → Lv := fun i => if p i then ([f i], []) else ([], [])
/-- How many are so, below n. -/
def cnt (p : Nat → Bool) : Nat → Nat
  | 0 => 0
  | n + 1 => cnt p n + (if p n then 1 else 0)
theorem cnt_congr {p q : Nat → Bool} : ∀ n, (∀ i, i < n → p i = q i) → cnt p n = cnt q n
  | 0, _ => rfl
  | n + 1, h => by
    unfold cnt
    rw [cnt_congr n (fun i hi => h i (by omega)), h n (by omega)]
theorem cnt_lt (c : Nat) : ∀ n, cnt (fun i => decide (i < c)) n = min c n
  | 0 => by simp [cnt]
  | n + 1 => by
    unfold cnt
    rw [cnt_lt c n]
    by_cases h : n < c
    · simp [h]; omega
    · simp [h]; omega
theorem cnt_part (p q : Nat → Bool) : ∀ n, cnt (fun i => p i && q i) n + cnt (fun i => p i && !q i) n = cnt p n
  | 0 => rfl
  | n + 1 => by
    have := cnt_part p q n
    unfold cnt
    cases p n <;> cases q n <;> simp <;> omega
theorem cnt_one {p : Nat → Bool} (h0 : p 0 = false) : ∀ n, 0 < n → cnt (fun i => i == 0 || p i) n = cnt p n + 1
  | 0, h => by omega
  | 1, _ => by simp [cnt, h0]
  | n + 2, _ => by
    have := cnt_one h0 (n + 1) (by omega)
    unfold cnt
    rw [this]
    simp; omega
theorem gT_len (p : Nat → Bool) (f : Nat → En) : ∀ n, lenD (gT p f) n = cnt p n
  | 0 => rfl
  | n + 1 => by
    unfold lenD cnt
    rw [gT_len p f n]
    unfold gT locksD
    cases p n <;> simp [newD]
theorem gT_q (p : Nat → Bool) (f : Nat → En) (i : Nat) : (gT p f i).2 = [] := by
  unfold gT; cases p i <;> rfl
theorem gT_wait (p : Nat → Bool) (f : Nat → En) (who : Int) (n : Nat) : atW who (gT p f) n = n := by
  have h1 := atW_le who (gT p f) n
  rcases Nat.lt_or_ge (atW who (gT p f) n) n with h | h
  · have h2 := atW_at who (gT p f) n h
    exfalso
    apply h2
    rw [gT_q]; rfl
  · omega
theorem gT_raw (p : Nat → Bool) (f : Nat → En) : ∀ n, rawE (gT p f) n = []
  | 0 => rfl
  | n + 1 => by
    unfold rawE
    rw [gT_raw p f n]
    unfold gT
    cases p n <;> rfl
theorem gT_edges (p : Nat → Bool) (f : Nat → En) (n : Nat) : edgesD (gT p f) n = [] := by
  unfold edgesD
  rw [gT_raw]
  unfold srtE
  exact List.mergeSort_nil
theorem gT_good (p : Nat → Bool) (f : Nat → En) (n : Nat) (hf : ∀ i, i < n → md (f i).2) : Gd n 1 (gT p f) := by
  refine ⟨fun i hi => ?_, fun i hi => ?_⟩
  · unfold gT
    cases h : p i
    · exact fine_nil
    · simp only [if_true]
      refine ⟨⟨fun x hx => ?_, fun x hx => (by cases hx), List.Pairwise.nil, fun x r e => (by cases e)⟩, fun x hx y hy hne => ?_, List.Pairwise.nil, fun x hx => (by cases hx)⟩
      · rw [List.mem_singleton.1 hx]; exact hf i hi
      · rw [List.mem_singleton.1 hx, List.mem_singleton.1 hy] at hne
        exact absurd rfl hne
  · unfold gT
    cases p i <;> simp
theorem gT_err {p : Nat → Bool} {f : Nat → En} {n : Nat} {most : Int} {who m : Int} {k : Nat} (hk : k < n) (hw : 0 ≤ who) (hm : md m) : errD n most (gT p f) who (k : Int) m = if hasL who (gT p f k) = false ∧ most ≤ (cnt p n : Int) then 3 else 0 := by
  unfold errD
  have h1 : (decide (0 ≤ (k : Int)) && decide ((k : Int) < n)) = true := by simp; omega
  rw [h1, if_neg (by decide), gT_wait, if_neg (Nat.lt_irrefl n), gT_len, if_neg]
  · rfl
  · rintro (h | h | h)
    · omega
    · have := hm.1; omega
    · rw [known_no] at h
      exact h ⟨by have := hm.1; omega, hm.2⟩
theorem gT_upd (p : Nat → Bool) (f : Nat → En) (k : Nat) (x : En) : upd (gT p f) k ([x], []) = gT (fun i => i == k || p i) (fun i => if i = k then x else f i) := by
  funext i
  unfold upd gT
  by_cases h : i = k
  · subst h; simp
  · simp [h]
theorem gT_held (p : Nat → Bool) (f : Nat → En) (who : Int) (hf : ∀ i, (f i).2 ≠ 0) : ∀ n, (heldD who (gT p f) n).length = cnt (fun i => p i && (f i).1 == who) n
  | 0 => rfl
  | n + 1 => by
    have ih := gT_held p f who hf n
    unfold heldD cnt
    have e : lookD who (gT p f n).1 = if p n && (f n).1 == who then (f n).2 else 0 := by
      unfold gT
      cases p n
      · rfl
      · show (if (f n).1 == who then (f n).2 else 0) = _
        simp
    rw [e]
    cases h : (p n && (f n).1 == who)
    · simp [ih]
    · simp [ih, hf n]
theorem leave_one (who m : Int) : leaveD who [(who, m)] [] = ([], [], []) := by
  unfold leaveD out1 isWho
  simp [grantD]
theorem gT_dropS (p : Nat → Bool) (f : Nat → En) (who : Int) (hf : ∀ i, (f i).2 ≠ 0) (x : Nat) : dropS who ([], gT p f) x = ([], gT (fun i => p i && !(i == x && (f i).1 == who)) f) := by
  unfold dropS
  have e : hasL who (gT p f x) = (p x && (f x).1 == who) := by
    unfold gT hasL
    cases p x
    · rfl
    · show ((if (f x).1 == who then (f x).2 else 0) != 0 || false) = _
      cases h : ((f x).1 == who)
      · simp
      · simp [hf x]
  dsimp only
  rw [e]
  cases h : (p x && (f x).1 == who)
  · rw [if_neg (by decide)]
    congr 1
    funext i
    unfold gT
    by_cases h2 : i = x
    · subst h2
      cases h3 : p i
      · simp [h3]
      · rw [h3] at h
        simp at h
        simp [h, h3]
    · simp [h2]
  · rw [if_pos rfl]
    have h1 : p x = true ∧ (f x).1 = who := by simpa using h
    have e2 : gT p f x = ([f x], []) := by unfold gT; rw [h1.1]; rfl
    have e3 : f x = (who, (f x).2) := by rw [← h1.2]
    have e4 : leaveD who (gT p f x).1 (gT p f x).2 = ([], [], []) := by
      rw [e2]
      show leaveD who [f x] [] = _
      rw [e3]; exact leave_one _ _
    rw [e4]
    congr 1
    funext i
    unfold upd gT
    by_cases h2 : i = x
    · subst h2
      simp [h1]
    · simp [h2]
theorem gT_drop (f : Nat → En) (who : Int) (hf : ∀ i, (f i).2 ≠ 0) : ∀ (xs : List Nat) (p : Nat → Bool), xs.foldl (dropS who) ([], gT p f) = ([], gT (fun i => p i && !(decide (i ∈ xs) && (f i).1 == who)) f)
  | [], p => by simp
  | x :: r, p => by
    rw [List.foldl_cons, gT_dropS p f who hf x, gT_drop f who hf r]
    congr 1
    congr 1
    funext i
    by_cases h1 : i = x <;> by_cases h2 : i ∈ r <;> cases p i <;> cases h3 : ((f i).1 == who) <;> simp [h1, h2]
theorem dn_all {n i : Nat} : i ∈ dn n 0 ↔ i < n := by
  unfold dn
  rw [List.mem_map]
  constructor
  · rintro ⟨j, hj, rfl⟩
    have := List.mem_range.1 hj
    omega
  · intro h
    exact ⟨n - 1 - i, by rw [List.mem_range]; omega, by omega⟩
/-- Who asks at node i, first. -/
def u0 (i : Nat) : En := (((i % 3 : Nat) : Int), 1)
def fT (c : Nat) : Nat → Lv := gT (fun i => decide (i < c)) u0
theorem fT_none : fT 0 = none0 := by
  funext i; unfold fT gT none0; simp
theorem ask_new (who : Int) : askD who 1 [] [] = (1, [(who, 1)], []) := by
  have h1 : okD who 1 [] = true := by unfold okD; show (true && true && (0 == (0 : Int))) = true; rfl
  have h2 : goal 0 1 = 1 := by decide +kernel
  unfold askD
  rw [h1, if_pos rfl]
  show (if goal 0 1 == 0 then _ else _) = _
  rw [h2]
  rfl
theorem full_ask {n i c : Nat} {m : Nat} (hi : i < n) (hc : c = min i m) : askT n (m : Int) (fT c) ((i : Int) % 3) (i : Int) 1 = (if i < m then ((1, 0), fT (min (i + 1) m)) else ((0, 3), fT (min (i + 1) m))) := by
  have hw : (i : Int) % 3 = ((i % 3 : Nat) : Int) := by omega
  have e0 : fT c i = ([], []) := by unfold fT gT; rw [if_neg (by simp; omega)]
  have he : errD n (m : Int) (fT c) ((i : Int) % 3) (i : Int) 1 = if (m : Int) ≤ (cnt (fun i => decide (i < c)) n : Int) then 3 else 0 := by
    unfold fT
    rw [gT_err hi (by omega) ⟨by decide, by decide⟩]
    have : hasL ((i : Int) % 3) (fT c i) = false := by rw [e0]; rfl
    unfold fT at this
    rw [this]
    simp
  rw [cnt_lt] at he
  by_cases h : i < m
  · rw [if_pos h]
    rw [if_neg (by omega)] at he
    rw [ask_yes he]
    have e2 : (i : Int).toNat = i := rfl
    rw [e2, e0, hw]
    rw [ask_new]
    congr 1
    show upd (fT c) i ([u0 i], []) = _
    unfold fT
    rw [gT_upd]
    funext j
    unfold gT
    by_cases hj : j = i
    · subst hj
      have h1 : decide (j < min (j + 1) m) = true := by rw [decide_eq_true_eq]; omega
      simp only [h1, if_true, beq_self_eq_true, Bool.true_or]
    · show (if (j == i || decide (j < c)) = true then (([if j = i then u0 i else u0 j], []) : Lv) else ([], [])) = if decide (j < min (i + 1) m) = true then ([u0 j], []) else ([], [])
      rw [if_neg hj]
      have : (j == i || decide (j < c)) = decide (j < min (i + 1) m) := by
        have hb : (j == i) = false := by simpa using hj
        rw [hb, Bool.false_or]
        exact decide_eq_decide.2 (by omega)
      rw [this]
  · rw [if_neg h]
    rw [if_pos (by omega)] at he
    rw [ask_not (by rw [he]; decide), he]
    congr 1
    congr 1
    omega
theorem cnt_pos {p : Nat → Bool} (h0 : p 0 = true) : ∀ n, 0 < n → 1 ≤ cnt p n
  | 0, h => by omega
  | 1, _ => by simp [cnt, h0]
  | n + 2, _ => by
    have := cnt_pos h0 (n + 1) (by omega)
    unfold cnt
    omega
def u1 (i : Nat) : En := if i = 0 then (0, 5) else u0 i
def p1 (c i : Nat) : Bool := i == 0 || decide (i < c)
def p2 (n c i : Nat) : Bool := p1 c i && !(decide (i ∈ dn n 0) && (u1 i).1 == 0)
def u2 (i : Nat) : En := if i = 0 then (7, 3) else u1 i
def p3 (n c i : Nat) : Bool := i == 0 || p2 n c i
theorem u1_md (i : Nat) : md (u1 i).2 := by
  unfold u1 u0 md
  split <;> simp
theorem u1_ne (i : Nat) : (u1 i).2 ≠ 0 := by have := (u1_md i).1; omega
theorem u2_md (i : Nat) : md (u2 i).2 := by
  unfold u2
  split
  · simp [md]
  · exact u1_md i
theorem full_two {n m c : Nat} (hn : 0 < n) (hc : 0 < c) : askT n (m : Int) (fT c) 0 0 5 = ((1, 0), gT (p1 c) u1) := by
  have e0 : fT c 0 = ([(0, 1)], []) := by unfold fT gT; rw [if_pos (by simp; omega)]; rfl
  have he : errD n (m : Int) (fT c) 0 0 5 = 0 := by
    have := gT_err (p := fun i => decide (i < c)) (f := u0) (n := n) (most := (m : Int)) (who := 0) (m := 5) (k := 0) hn (by decide) ⟨by decide, by decide⟩
    refine this.trans ?_
    have h : hasL 0 (gT (fun i => decide (i < c)) u0 0) = true := by
      have e1 : gT (fun i => decide (i < c)) u0 0 = ([(0, 1)], []) := e0
      rw [e1]; rfl
    rw [h]; simp
  rw [ask_yes he]
  have e2 : (0 : Int).toNat = 0 := rfl
  have e3 : askD 0 5 [(0, 1)] [] = (1, [(0, 5)], []) := by decide +kernel
  rw [e2, e0, e3]
  congr 1
  exact gT_upd (fun i => decide (i < c)) u0 0 (0, 5)
theorem full_drop (n c : Nat) : dropD 0 (gT (p1 c) u1) (dn n 0) = ([], gT (p2 n c) u1) := gT_drop u1 0 u1_ne (dn n 0) (p1 c)
theorem p2_zero {n c : Nat} (hn : 0 < n) : p2 n c 0 = false := by
  unfold p2
  have h : (0 : Nat) ∈ dn n 0 := dn_all.2 hn
  simp [h, u1]
theorem full_cnt {n c : Nat} (hn : 0 < n) (hc : 0 < c) (hcn : c ≤ n) : cnt (p2 n c) n + (heldD 0 (gT (p1 c) u1) n).length = c ∧ 1 ≤ (heldD 0 (gT (p1 c) u1) n).length := by
  rw [gT_held (p1 c) u1 0 u1_ne]
  have h1 : cnt (p2 n c) n = cnt (fun i => p1 c i && !((u1 i).1 == 0)) n := cnt_congr n (fun i hi => by
    unfold p2
    simp [dn_all.2 hi])
  have h2 := cnt_part (p1 c) (fun i => (u1 i).1 == 0) n
  have h3 : cnt (p1 c) n = c := by
    have : cnt (p1 c) n = cnt (fun i => decide (i < c)) n := cnt_congr n (fun i hi => by
      unfold p1
      cases i with
      | zero => simp [hc]
      | succ i => simp)
    rw [this, cnt_lt]; omega
  refine ⟨by omega, cnt_pos (by simp [p1, u1]) n hn⟩
theorem full_three {n m c : Nat} (hn : 0 < n) (hc : 0 < c) (hcn : c ≤ n) (hcm : c ≤ m) : askT n (m : Int) (gT (p2 n c) u1) 7 0 3 = ((1, 0), gT (p3 n c) u2) := by
  have e0 : gT (p2 n c) u1 0 = ([], []) := by unfold gT; rw [p2_zero hn]; rfl
  obtain ⟨h1, h2⟩ := full_cnt hn hc hcn
  have he : errD n (m : Int) (gT (p2 n c) u1) 7 0 3 = 0 := by
    have := gT_err (p := p2 n c) (f := u1) (n := n) (most := (m : Int)) (who := 7) (m := 3) (k := 0) hn (by decide) ⟨by decide, by decide⟩
    refine this.trans ?_
    rw [if_neg]
    rintro ⟨_, h⟩
    omega
  rw [ask_yes he]
  have e2 : (0 : Int).toNat = 0 := rfl
  have e3 : askD 7 3 [] [] = (1, [(7, 3)], []) := by decide +kernel
  rw [e2, e0, e3]
  congr 1
  exact gT_upd (p2 n c) u1 0 (7, 3)
theorem full_len {n c : Nat} (hn : 0 < n) : lenD (gT (p3 n c) u2) n = cnt (p2 n c) n + 1 := by
  rw [gT_len]
  exact cnt_one (p2_zero hn) n hn
theorem full_zero (n c : Nat) : lookD 0 (gT (p3 n c) u2 0).1 = 0 := by
  have : gT (p3 n c) u2 0 = ([(7, 3)], []) := by unfold gT p3; rw [if_pos (by simp)]; rfl
  rw [this]; rfl
end Go.Proofs.Ytdhpahopfmcdkaa

/- TableCircle, plainly. -/
namespace Go.Proofs.Ytdhpahopfmcdkaa
open Go.RowKit

/-- The one behind, and the one ahead, in a circle of n. -/
def prv (n j : Nat) : Nat := if j = 0 then n - 1 else j - 1
def nxt (n i : Nat) : Nat := if i + 1 = n then 0 else i + 1
theorem prv_lt {n j : Nat} (h : j < n) : prv n j < n := by unfold prv; split <;> omega
theorem nxt_lt {n i : Nat} (h : i < n) : nxt n i < n := by unfold nxt; split <;> omega
theorem md5 : md 5 := ⟨by decide, by decide⟩
theorem prv_ne {n j : Nat} (hn : 2 ≤ n) (_ : j < n) : prv n j ≠ j := by unfold prv; split <;> omega
theorem nxt_ne {n i : Nat} (hn : 2 ≤ n) (_ : i < n) : nxt n i ≠ i := by unfold nxt; split <;> omega
theorem prv_nxt {n i : Nat} (_ : i < n) : prv n (nxt n i) = i := by unfold prv nxt; split <;> split <;> omega
theorem nxt_prv {n j : Nat} (h : j < n) : nxt n (prv n j) = j := by unfold prv nxt; split <;> split <;> omega
theorem nxt_mod {n i : Nat} (h : i < n) : ((i : Int) + 1) % (n : Int) = (nxt n i : Nat) := by
  unfold nxt
  split
  · rename_i e
    have : (i : Int) + 1 = (n : Int) := by omega
    rw [this, Int.emod_self]; rfl
  · rw [Int.emod_eq_of_lt (by omega) (by omega)]; omega
theorem prv_mod {n j : Nat} (h : j < n) : ((j : Int) + (n : Int) - 1) % (n : Int) = (prv n j : Nat) := by
  unfold prv
  split
  · rename_i e
    subst e
    rw [Int.emod_eq_of_lt (by omega) (by omega)]; omega
  · have : (j : Int) + (n : Int) - 1 = ((j : Int) - 1) + (n : Int) := by omega
    rw [this, Int.add_emod_right, Int.emod_eq_of_lt (by omega) (by omega)]; omega
/-- Each holds its node; those below k wait for the one ahead. -/
def cT (n k : Nat) : Nat → Lv := fun j => if j < n then ([((j : Int), 5)], if prv n j < k then [((prv n j : Int), 5)] else []) else ([], [])
theorem cT_at {n k j : Nat} (h : j < n) : cT n k j = ([((j : Int), 5)], if prv n j < k then [((prv n j : Int), 5)] else []) := by unfold cT; rw [if_pos h]
theorem fine_pair {j p : Nat} (h : p ≠ j) : Fine [((j : Int), 5)] [((p : Int), 5)] := by
  have hne : ((j : Int) == (p : Int)) = false := by simp; omega
  have hne2 : ((p : Int) == (j : Int)) = false := by simp; omega
  refine ⟨⟨fun x hx => ?_, fun x hx => ?_, List.pairwise_singleton _ _, fun x r e => ?_⟩, fun x hx y hy hne => ?_, List.pairwise_singleton _ _, fun x hx => ?_⟩
  · rw [List.mem_singleton.1 hx]; exact md5
  · rw [List.mem_singleton.1 hx]; exact md5
  · injection e with e1 e2
    subst e1
    unfold fitsL hindD
    have : fitsB 5 5 = false := by decide +kernel
    simp [this]
    omega
  · rw [List.mem_singleton.1 hx, List.mem_singleton.1 hy] at hne
    exact absurd rfl hne
  · rw [List.mem_singleton.1 hx]
    show coversB 5 (if ((j : Int) == (p : Int)) = true then 5 else 0) = true
    rw [hne]
    decide +kernel
theorem fine_own (j : Nat) : Fine [((j : Int), 5)] [] := by
  refine ⟨⟨fun x hx => ?_, fun x hx => (by cases hx), List.Pairwise.nil, fun x r e => (by cases e)⟩, fun x hx y hy hne => ?_, List.Pairwise.nil, fun x hx => (by cases hx)⟩
  · rw [List.mem_singleton.1 hx]; exact md5
  · rw [List.mem_singleton.1 hx, List.mem_singleton.1 hy] at hne
    exact absurd rfl hne
theorem cT_good {n k : Nat} (hn : 2 ≤ n) : Gd n 2 (cT n k) := by
  refine ⟨fun j hj => ?_, fun j hj => ?_⟩
  · rw [cT_at hj]
    by_cases h : prv n j < k
    · rw [if_pos h]; exact fine_pair (prv_ne hn hj)
    · rw [if_neg h]; exact fine_own j
  · rw [cT_at hj]
    by_cases h : prv n j < k
    · rw [if_pos h]; exact Nat.le_refl _
    · rw [if_neg h]; show 1 + 0 ≤ 2; decide
/-- All hold their nodes. -/
theorem own_all {n : Nat} : gT (fun i => decide (i < n)) (fun i => ((i : Int), 5)) = cT n 0 := by
  funext j
  unfold gT cT
  by_cases h : j < n
  · simp [h]
  · simp [h]
theorem own_ask {n i : Nat} (hi : i < n) (hn : n ≤ 30) : askT n 100 (gT (fun j => decide (j < i)) (fun j => ((j : Int), 5))) (i : Int) (i : Int) 5 = ((1, 0), gT (fun j => decide (j < i + 1)) (fun j => ((j : Int), 5))) := by
  have e0 : gT (fun j => decide (j < i)) (fun j => ((j : Int), (5 : Int))) i = ([], []) := by unfold gT; rw [if_neg (by simp)]
  have he : errD n 100 (gT (fun j => decide (j < i)) (fun j => ((j : Int), 5))) (i : Int) (i : Int) 5 = 0 := by
    rw [gT_err hi (by omega) ⟨by decide, by decide⟩, if_neg]
    rintro ⟨_, h⟩
    rw [cnt_lt] at h
    omega
  rw [ask_yes he]
  have e2 : (i : Int).toNat = i := rfl
  have e3 : askD (i : Int) 5 [] [] = (1, [((i : Int), 5)], []) := by
    have h1 : okD (i : Int) 5 [] = true := by unfold okD; show (true && true && (0 == (0 : Int))) = true; rfl
    have h2 : goal 0 5 = 5 := by decide +kernel
    unfold askD
    rw [h1, if_pos rfl]
    show (if goal 0 5 == 0 then _ else _) = _
    rw [h2]; rfl
  rw [e2, e0, e3]
  congr 1
  show upd _ i ([((i : Int), 5)], []) = _
  rw [gT_upd]
  funext j
  unfold gT
  by_cases hj : j = i
  · subst hj
    simp
  · have hb : (j == i) = false := by simpa using hj
    have : decide (j < i) = decide (j < i + 1) := decide_eq_decide.2 (by omega)
    simp only [hb, Bool.false_or, this, if_neg hj]
theorem ask_wait {a c : Int} (h : a ≠ c) : askD a 5 [(c, 5)] [] = (2, [(c, 5)], [(a, 5)]) := by
  have hb : (c == a) = false := by simpa using fun e : c = a => h e.symm
  have h1 : okD a 5 [] = true := by unfold okD; show (true && true && (0 == (0 : Int))) = true; rfl
  have h2 : goal 0 5 = 5 := by decide +kernel
  have h3 : fitsB 5 5 = false := by decide +kernel
  have h4 : lookD a [(c, 5)] = 0 := by show (if (c == a) = true then (5 : Int) else 0) = 0; rw [hb]; rfl
  have h5 : fitsL (a, 5) [(c, 5)] = false := by
    unfold fitsL hindD
    simp [h3]
    exact fun e => h e.symm
  unfold askD
  rw [h1, if_pos rfl, h4]
  show (if (goal 0 5 == (0 : Int)) = true then _ else if (passD 0 [(c, 5)] [] && fitsL (a, goal 0 5) [(c, 5)]) = true then _ else ((2 : Int), [((c, 5) : En)], waitD 0 (a, goal 0 5) [(c, 5)] [])) = _
  rw [h2, h5, Bool.and_false]
  rfl
theorem cT_looks {n k j : Nat} (who : Nat) (hj : j < n) : lookD (who : Int) (cT n k j).2 = if prv n j < k ∧ prv n j = who then 5 else 0 := by
  rw [cT_at hj]
  by_cases h : prv n j < k
  · rw [if_pos h]
    show (if ((prv n j : Int) == (who : Int)) = true then (5 : Int) else 0) = _
    by_cases e : prv n j = who
    · rw [if_pos (by simp [e]), if_pos ⟨h, e⟩]
    · rw [if_neg (by simp; omega), if_neg (fun x => e x.2)]
  · rw [if_neg h, if_neg (fun x => h x.1)]; rfl
theorem at_none {who : Int} {T : Nat → Lv} {n : Nat} (h : noneW who n T) : atW who T n = n := by
  have h1 := atW_le who T n
  rcases Nat.lt_or_ge (atW who T n) n with h2 | h2
  · exact absurd (h _ h2) (atW_at who T n h2)
  · omega
theorem at_some {who : Int} {T : Nat → Lv} {n j : Nat} (hj : j < n) (h : lookD who (T j).2 ≠ 0) : atW who T n < n := by
  have h1 := atW_le who T n
  rcases Nat.lt_or_ge (atW who T n) n with h2 | h2
  · exact h2
  · exact absurd (atW_low who T n j (by omega)) h
theorem cir_ask {n i : Nat} (hi : i < n) (hn : 2 ≤ n) (hn2 : n ≤ 30) : askT n 100 (cT n i) (i : Int) (nxt n i : Nat) 5 = ((2, 0), cT n (i + 1)) := by
  have hx := nxt_lt hi
  have hp := prv_nxt hi
  have e0 : cT n i (nxt n i) = ([(((nxt n i : Nat) : Int), 5)], []) := by rw [cT_at hx, hp, if_neg (by omega)]
  have hw : noneW (i : Int) n (cT n i) := fun j hj => by
    rw [cT_looks i hj, if_neg]
    rintro ⟨h1, h2⟩
    omega
  have hle := len_le ((cT_good (k := i) hn).few (by decide) : Few n 1000 (cT n i))
  have hl : lenD (cT n i) n ≤ 60 := by
    have hf : Few n 1 (cT n i) := fun j hj => by
      rw [cT_at hj]
      by_cases h : prv n j < i
      · rw [if_pos h]; exact ⟨Nat.le_refl _, Nat.le_refl _⟩
      · rw [if_neg h]; exact ⟨Nat.le_refl _, Nat.zero_le _⟩
    have := len_le hf n (Nat.le_refl _)
    omega
  have he : errD n 100 (cT n i) (i : Int) (nxt n i : Nat) 5 = 0 := by
    unfold errD
    have h1 : (decide (0 ≤ ((nxt n i : Nat) : Int)) && decide (((nxt n i : Nat) : Int) < n)) = true := by simp; omega
    rw [h1, if_neg (by decide), at_none hw, if_neg (Nat.lt_irrefl n), if_neg, if_neg]
    · rintro ⟨_, h⟩
      omega
    · rintro (h | h | h)
      · omega
      · omega
      · exact absurd h (by decide +kernel)
  rw [ask_yes he]
  have e2 : (((nxt n i : Nat) : Int)).toNat = nxt n i := rfl
  rw [e2, e0]
  have h5 : askD (i : Int) 5 [(((nxt n i : Nat) : Int), 5)] [] = (2, [(((nxt n i : Nat) : Int), 5)], [((i : Int), 5)]) := ask_wait (by have := nxt_ne hn hi; omega)
  rw [h5]
  congr 1
  funext j
  unfold upd
  by_cases hj : j = nxt n i
  · subst hj
    rw [if_pos rfl, cT_at hx, hp, if_pos (by omega)]
  · rw [if_neg hj]
    by_cases hjn : j < n
    · rw [cT_at hjn, cT_at hjn]
      have hne : prv n j ≠ i := fun e => hj (by rw [← e, nxt_prv hjn])
      by_cases h : prv n j < i
      · rw [if_pos h, if_pos (by omega)]
      · rw [if_neg h, if_neg (by omega)]
    · unfold cT
      rw [if_neg hjn, if_neg hjn]
theorem cir_err {n i : Nat} (hi : i < n) : askT n 100 (cT n (i + 1)) (i : Int) (i : Int) 5 = ((0, 5), cT n (i + 1)) := by
  have hs : atW (i : Int) (cT n (i + 1)) n < n := at_some (j := nxt n i) (nxt_lt hi) (by
    rw [cT_looks i (nxt_lt hi), prv_nxt hi, if_pos ⟨by omega, rfl⟩]; decide)
  have he : errD n 100 (cT n (i + 1)) (i : Int) (i : Int) 5 = 5 := by
    unfold errD
    have h1 : (decide (0 ≤ (i : Int)) && decide ((i : Int) < n)) = true := by simp; omega
    rw [h1, if_neg (by decide), if_pos hs]
  rw [ask_not (by rw [he]; decide), he]
end Go.Proofs.Ytdhpahopfmcdkaa

/- TableOnce: what the walk asks of the lanes; the calls as it wants them. -/
namespace Go.Proofs.Ytdhpahopfmcdkaa
open Go.RowKit
variable {n k : Nat} {most : Int} {T : Nat → Lv}

/-- Each number of l waits at an earlier node, or earlier at this one. -/
def Seen (T : Nat → Lv) (t k : Nat) (l : List Int) : Prop := ∀ z ∈ l, (∃ j, j < t ∧ ∃ x ∈ (T j).2, x.1 = z) ∨ ∃ i, i < k ∧ ((T t).2.getD i (0, 0)).1 = z
theorem seen_nil (T : Nat → Lv) : Seen T 0 0 [] := fun z h => (by cases h)
theorem seen_one {t k : Nat} {l : List Int} (h : Seen T t k l) : Seen T t (k + 1) (l ++ [((T t).2.getD k (0, 0)).1]) := fun z hz => by
  rcases List.mem_append.1 hz with hz | hz
  · rcases h z hz with h | ⟨i, hi, e⟩
    · exact .inl h
    · exact .inr ⟨i, by omega, e⟩
  · rw [List.mem_singleton.1 hz]
    exact .inr ⟨k, by omega, rfl⟩
theorem seen_end {t : Nat} {l : List Int} (h : Seen T t (T t).2.length l) : Seen T (t + 1) 0 l := fun z hz => by
  rcases h z hz with ⟨j, hj, x⟩ | ⟨i, hi, e⟩
  · exact .inl ⟨j, by omega, x⟩
  · exact .inl ⟨t, by omega, _, getD_mem hi, e⟩
theorem seen_no (h : On n most k T) {t q : Nat} (ht : t < n) (hq : q < (T t).2.length) {l : List Int} (hl : Seen T t q l) : l.any (fun y => y == ((T t).2.getD q (0, 0)).1) = false := by
  rw [List.any_eq_false]
  intro z hz
  simp only [beq_iff_eq]
  intro e
  rcases hl z hz with ⟨j, hj, x, hx, e1⟩ | ⟨i, hi, e1⟩
  · have := h.one j t (by omega) ht x hx _ (getD_mem hq) (by rw [e1, e])
    omega
  · exact once_ne (h.gd.fine t ht).ok.once hi hq (by rw [e1, e])
theorem edge_fact (h : On n most k T) {e : En} (he : e ∈ edgesD T n) : ∃ i, i < n ∧ atW e.1 T n = i ∧ (lookD e.2 (T i).1 ≠ 0 ∨ lookD e.2 (T i).2 ≠ 0) ∧ e.1 ≠ e.2 := by
  have h1 := (srtE_perm (rawE T n)).mem_iff.1 he
  obtain ⟨i, hi, h2⟩ := (rawE_mem n).1 h1
  unfold edgeL at h2
  rw [List.mem_flatMap] at h2
  obtain ⟨x, hx, h3⟩ := h2
  unfold edge1 at h3
  rw [List.mem_map] at h3
  obtain ⟨t, ht, rfl⟩ := h3
  dsimp only
  obtain ⟨p, hp, rfl⟩ := List.getElem_of_mem hx
  have hx' : (T i).2.getD p (0, 0) = (T i).2[p] := by simp [List.getD, hp]
  have f := h.gd.fine i hi
  have hb := blocks_at (H := (T i).1) (Q := (T i).2) f.ok.once hp
  rw [hx'] at hb
  rw [hb] at ht
  have h4 := ((canon_facts _).1 t).1 ht
  unfold metD at h4
  rw [List.mem_append] at h4
  have hlk : lookD (T i).2[p].1 (T i).2 ≠ 0 := fun e => hasnt ((look_zero f.ok.qm).1 e) _ hx rfl
  refine ⟨i, hi, ?_, ?_, ?_⟩
  · have h5 := at_some hi hlk
    have h6 := atW_at _ T n h5
    have h7 : hasD (T i).2[p].1 (T (atW (T i).2[p].1 T n)).2 = true := by
      cases e : hasD (T i).2[p].1 (T (atW (T i).2[p].1 T n)).2
      · exact absurd (look_no e) h6
      · rfl
    exact h.one _ i h5 hi _ (look_mem h7) _ hx rfl
  · rcases h4 with h4 | h4
    · obtain ⟨z, hz, rfl⟩ := List.mem_map.1 h4
      exact .inr (fun e => hasnt ((look_zero f.ok.qm).1 e) z (List.mem_of_mem_take hz) rfl)
    · obtain ⟨z, hz, rfl⟩ := List.mem_map.1 h4
      exact .inl (fun e => hasnt ((look_zero f.ok.hm).1 e) z (List.mem_filter.1 hz).1 rfl)
  · rcases h4 with h4 | h4
    · obtain ⟨z, hz, rfl⟩ := List.mem_map.1 h4
      obtain ⟨q, hq, rfl⟩ := List.getElem_of_mem hz
      rw [List.length_take] at hq
      rw [List.getElem_take]
      exact fun e => List.pairwise_iff_getElem.1 f.ok.once q p (by omega) hp (by omega) e.symm
    · obtain ⟨z, hz, rfl⟩ := List.mem_map.1 h4
      have h5 := (List.mem_filter.1 hz).2
      unfold hindD at h5
      simp only [Bool.and_eq_true, bne_iff_ne] at h5
      exact fun e => h5.1 e.symm
variable {B b : Nat}
theorem waits_yes (w : World) (h : Tn B n most T b w) (hf : Few n 1000 T) (hn : n ≤ 10000) (who : Int) {i : Nat} (hi : i < n) (hs : atW who T n = i) :
    Calls Try.prog 31 #[.pointer (some ⟨b, 0, none⟩), .int .i64 who] w fun e w' => e = .returned (.tuple #[.agg #[.int .i64 (i : Int), .int .i64 (lookD who (T i).2)], .bool true]) ∧ Below w.heap.size w w' := by
  have e : waitV who n T i = .tuple #[.agg #[.int .i64 (i : Int), .int .i64 (lookD who (T i).2)], .bool true] := by
    unfold waitV; rw [if_pos hi, if_pos hi, decide_eq_true hi]
  have := waits_n w h hf hn who hs
  rw [e] at this
  exact this
theorem waits_none (w : World) (h : Tn B n most T b w) (hf : Few n 1000 T) (hn : n ≤ 10000) (who : Int) (hs : noneW who n T) :
    Calls Try.prog 31 #[.pointer (some ⟨b, 0, none⟩), .int .i64 who] w fun e w' => e = .returned (.tuple #[.agg #[.int .i64 0, .int .i64 0], .bool false]) ∧ Below w.heap.size w w' := by
  have e : waitV who n T n = .tuple #[.agg #[.int .i64 0, .int .i64 0], .bool false] := by
    unfold waitV; rw [if_neg (Nat.lt_irrefl n), if_neg (Nat.lt_irrefl n), decide_eq_false (Nat.lt_irrefl n)]
  have := waits_n w h hf hn who (at_none hs)
  rw [e] at this
  exact this
theorem lane_n (w : World) (h : Tn B n most T b w) {i : Nat} (hi : i < n) :
    Calls Try.prog 33 #[.pointer (some ⟨b, 0, none⟩), .int .i64 (i : Int)] w fun e w' => ∃ l, e = .returned (.pointer (some ⟨l, 0, none⟩)) ∧ Ln B (T i).1 (T i).2 l w ∧ w' = w := by
  obtain ⟨rb, lb, hv, qv, t⟩ := h
  refine (lane_t w t (i : Int) (by omega) (by omega)).mono ?_
  rintro e w' ⟨rfl, rfl⟩
  exact ⟨lb i, rfl, ⟨_, _, t.ls.la i hi⟩, rfl⟩
theorem opw_cells {w : World} {p : Nat} {a c d e : Int} (h : w.heap[p]? = some (.cells #[.int .i64 a, .int .i64 c, .int .i64 d, .int .i64 e] 46 (0, 0))) : w.cell? ⟨p, 0, none⟩ = some (.int .i64 a) ∧ w.cell? ⟨p, 1, none⟩ = some (.int .i64 c) ∧ w.cell? ⟨p, 2, none⟩ = some (.int .i64 d) ∧ w.cell? ⟨p, 3, none⟩ = some (.int .i64 e) := by
  simp [World.cell?, h]
set_option maxRecDepth 100000 in
theorem hasl_any (v : Value) (l : List Int) (x : Int) (w : World) (hu : Rd w v l) (hl9 : l.length < 100000000) :
    Calls Try.prog 34 #[v, .int .i64 x] w fun e w' => e = .returned (.bool (l.any (fun y => y == x))) ∧ w' = w := by
  obtain ⟨a, ca, rfl, h3⟩ := hu
  replace h3 := hide h3
  go_enter Try.func34, Try.ntmps34
  go_wp2_with fail
  go_loop [5] (fun i => ∃ k : Nat, k ≤ l.length ∧ i = .int .i64 k ∧ Hid (∀ j, j < k → (l.getD j 0 == x) = false)) (fun i => l.length - (intOf i).toNat)
  case atStart => exact ⟨0, Nat.zero_le _, rfl, fun j hj => absurd hj (Nat.not_lt_zero _)⟩
  case round =>
    obtain ⟨k, hk, rfl, hall⟩ := hrel
    by_cases hlt : k < l.length
    · obtain ⟨b1, o1, rfl, c1⟩ := seg_at (unhide h3) (i := k) hlt
      obtain ⟨y, hy⟩ : ∃ y, l.getD k 0 = y := ⟨_, rfl⟩
      rw [hy] at c1
      have Hy := hide hy
      clear hy
      cases e : (y == x)
      · have E := hide e
        go_wp2
        go_round
        case rel => exact ⟨k + 1, by omega, by go_num, fun j hj => by
          by_cases h : j < k
          · exact unhide hall j h
          · obtain rfl : j = k := by omega
            rw [unhide Hy]; exact unhide E⟩
        case measure => simp [intOf]; omega
      · have r : Hid (l.any (fun y => y == x) = true) := by
          show _ = _
          rw [List.any_eq_true]
          refine ⟨l[k], List.getElem_mem hlt, ?_⟩
          have e2 : l[k] = y := by rw [← unhide Hy]; simp [List.getD, hlt]
          rw [e2]; exact e
        go_wp2
        go_ret
        exact ⟨by rw [unhide r]; rfl, rfl⟩
    · have r : Hid (l.any (fun y => y == x) = false) := by
        show _ = _
        rw [List.any_eq_false]
        intro z hz
        obtain ⟨j, hj, rfl⟩ := List.getElem_of_mem hz
        have := unhide hall j (by omega)
        simpa [List.getD, hj] using this
      go_wp2
      go_ret
      exact ⟨by rw [unhide r]; rfl, rfl⟩
end Go.Proofs.Ytdhpahopfmcdkaa

/- A slice of integers that comes in, as the walks read it. -/
namespace Go.Proofs.Ytdhpahopfmcdkaa
open Go.RowKit

/-- A slice of integers that came in: nil, or 'cap' cells that hold the numbers 'zs', of which the first 'len' are its elements. -/
def IsRow (k : IntKind) (w : World) (a : Option Addr) (len cap : Nat) (zs : List Int) : Prop :=
  (a = none ∧ len = 0 ∧ cap = 0 ∧ zs = []) ∨
  ∃ x, a = some x ∧ len ≤ cap ∧ cap ≤ maxLen ∧ zs.length = cap ∧ (∀ i, i < zs.length → w.cell? (x.add i) = some (.int k (zs.getD i 0))) ∧ ∀ n ∈ zs, (Lit.int k n).wf = true

theorem isRow_seg {k : IntKind} {w : World} {a : Option Addr} {len cap : Nat} {zs : List Int} (h : IsRow k w a len cap zs) :
    SegK k w a len (zs.take len) ∧ len ≤ cap ∧ cap ≤ maxLen ∧ ∀ n ∈ zs.take len, (Lit.int k n).wf = true := by
  rcases h with ⟨rfl, rfl, rfl, rfl⟩ | ⟨x, rfl, hl, hm, hz, hcell, hwz⟩
  · exact ⟨⟨rfl, .inl rfl⟩, Nat.le_refl _, Nat.zero_le _, by simp⟩
  · refine ⟨⟨by simp; omega, ?_⟩, hl, hm, fun n hn => hwz n (List.mem_of_mem_take hn)⟩
    by_cases h0 : len = 0
    · exact .inl h0
    · obtain ⟨b, off, spot⟩ := x
      have hc := hcell 0 (by omega)
      have hspot : spot = none := by simpa [Addr.add] using World.cell?_spot hc
      subst hspot
      refine .inr ⟨b, off, rfl, fun i hi => ?_⟩
      have := hcell i (by omega)
      simp [Addr.add] at this
      have e : (if i = 0 then (⟨b, off, none⟩ : Addr) else ⟨b, off + i, none⟩) = ⟨b, off + i, none⟩ := by
        by_cases h : i = 0 <;> simp [h]
      rw [e] at this
      rw [this]
      simp [hi]
end Go.Proofs.Ytdhpahopfmcdkaa

/- Slices of structs whose fields are all whole numbers: how one that came in lies in memory. -/
namespace Go.Proofs.Ytdhpahopfmcdkaa
open Go.RowKit Go.Deep

/-- The type e is a struct of N fields, each one cell, each a whole number of 64 bits. -/
def plainInts (P : Program) (e : TypeId) (N : Nat) : Bool :=
  match P.underlying e with
  | some (.struct fs) => (fs.size == N) && ((P.cellsOf e == N) && (List.range N).all fun i =>
      match fs[i]? with
      | some f => (f.offset == i) && ((P.cellsOf f.type == 1) && match P.underlying f.type with
          | some (.int .i64) => true
          | _ => false)
      | none => false)
  | _ => false
theorem plainInts_out {P : Program} {e : TypeId} {N : Nat} (h : plainInts P e N = true) : ∃ fs : Array Field, P.underlying e = some (.struct fs) ∧ fs.size = N ∧ P.cellsOf e = N ∧
    ∀ (i : Nat) (f : Field), fs[i]? = some f → f.offset = i ∧ P.cellsOf f.type = 1 ∧ P.underlying f.type = some (.int .i64) := by
  unfold plainInts at h
  split at h
  · rename_i fs hfs
    simp only [Bool.and_eq_true, beq_iff_eq, List.all_eq_true, List.mem_range] at h
    obtain ⟨h1, h2, h3⟩ := h
    refine ⟨fs, hfs, h1, h2, fun i f hf => ?_⟩
    have hi : i < N := by
      rw [← h1]
      obtain ⟨hlt, _⟩ := Array.getElem?_eq_some_iff.1 hf
      exact hlt
    have h4 := h3 i hi
    rw [hf] at h4
    simp only [Bool.and_eq_true, beq_iff_eq] at h4
    obtain ⟨h5, h6, h7⟩ := h4
    refine ⟨h5, h6, ?_⟩
    split at h7
    · assumption
    · cases h7
  · cases h

section
variable {H : Type} {enc : TypeId × Value → H} {P : Program} {w : World} {base : Nat} {spare : Nat → Bool} {held : Bool}
theorem open_structs {t e : TypeId} {N fuel : Nat} {cs : List Value} {x : DataW H × List MemPlace} (ht : P.underlying t = some (.slice e)) (hp : plainInts P e N = true)
    (h : DataW.trod enc P w base spare held fuel t cs = some x) :
    cs = [.slice none 0 0] ∨
    ∃ (a : Addr) (len cap : Nat) (Z : Nat → Nat → Int), cs = [.slice (some a) len cap] ∧ len ≤ cap ∧ cap ≤ maxLen ∧
      ∀ i, i < len → ∀ j, j < N → w.cell? (a.add (i * N + j)) = some (.int .i64 (Z i j)) ∧ (Lit.int .i64 (Z i j)).wf = true := by
  obtain ⟨fs, he, hN, ce, hall⟩ := plainInts_out hp
  rcases open_slice ht h with h0 | ⟨a, len, cap, m, n, D, Pl, rfl, hb, hl, hm, hmm, rfl, hx⟩
  · exact Or.inl h0.1
  right
  have hlm : len ≤ m := by rw [hmm]; split <;> omega
  have each : ∀ i, i < len → ∃ q : Nat → Int, ∀ j, j < N → w.cell? (a.add (i * N + j)) = some (.int .i64 (q j)) ∧ (Lit.int .i64 (q j)).wf = true := by
    intro i hi
    obtain ⟨cs', h1, h2⟩ := hx i (by omega)
    rw [ce] at h1
    obtain ⟨_, hlen, hcell⟩ := World.cells?_some h1
    obtain ⟨xs, k, hk, hxy, _, hxl, hf⟩ := DataW.trod_struct he h2
    refine choose_lt (p := fun j z => w.cell? (a.add (i * N + j)) = some (.int .i64 z) ∧ (Lit.int .i64 z).wf = true) ?_
    intro j hj
    have hj' : j < fs.size := by omega
    obtain ⟨o1, o2, o3⟩ := hall j fs[j] (Array.getElem?_eq_getElem hj')
    have g := hf j fs[j] (Array.getElem?_eq_getElem hj')
    rw [o1, o2] at g
    have e1 := hcell j (by omega)
    rw [add_add] at e1
    have hjc : j < cs'.length := by omega
    rw [List.drop_eq_getElem_cons hjc, List.take_succ_cons, List.take_zero, List.getElem?_eq_getElem (by omega)] at g
    obtain ⟨z, hz, _, hw⟩ := DataW.trod_int o3 g
    refine ⟨z, ?_, hw⟩
    rw [e1, List.getElem?_eq_getElem hjc]
    simpa using hz
  obtain ⟨q, hq⟩ := choose_lt each
  exact ⟨a, len, cap, q, rfl, hl, hm, hq⟩
end

/-- A slice of structs of N numbers that came in: element i's field j is Z i j. -/
def IsRecs (N : Nat) (w : World) (a : Option Addr) (len cap : Nat) (Z : Nat → Nat → Int) : Prop :=
  (a = none ∧ len = 0 ∧ cap = 0) ∨
  ∃ x, a = some x ∧ len ≤ cap ∧ cap ≤ maxLen ∧ ∀ i, i < len → ∀ j, j < N → w.cell? (x.add (i * N + j)) = some (.int .i64 (Z i j)) ∧ (Lit.int .i64 (Z i j)).wf = true
/-- .. as it lies below B. -/
def RecsB (N B : Nat) (w : World) (a : Option Addr) (len : Nat) (Z : Nat → Nat → Int) : Prop :=
  len = 0 ∨ ∃ b off, a = some ⟨b, off, none⟩ ∧ b < B ∧ ∀ i, i < len → ∀ j, j < N → w.cell? ⟨b, off + i * N + j, none⟩ = some (.int .i64 (Z i j))
theorem isRecs_low {N : Nat} {w : World} {a : Option Addr} {len cap : Nat} {Z : Nat → Nat → Int} (hN : 0 < N) (h : IsRecs N w a len cap Z) :
    RecsB N w.heap.size w a len Z ∧ len ≤ cap ∧ cap ≤ maxLen ∧ ∀ i, i < len → ∀ j, j < N → (Lit.int .i64 (Z i j)).wf = true := by
  rcases h with ⟨rfl, rfl, rfl⟩ | ⟨x, rfl, hl, hm, hc⟩
  · exact ⟨.inl rfl, Nat.le_refl _, Nat.zero_le _, fun i hi => absurd hi (Nat.not_lt_zero _)⟩
  · refine ⟨?_, hl, hm, fun i hi j hj => (hc i hi j hj).2⟩
    by_cases h0 : len = 0
    · exact .inl h0
    · obtain ⟨b, off, spot⟩ := x
      have h1 := (hc 0 (by omega) 0 hN).1
      have hspot : spot = none := by simpa [Addr.add] using World.cell?_spot h1
      subst hspot
      have hbl : b < w.heap.size := by
        simp [Addr.add, World.cell?] at h1
        by_cases hb : b < w.heap.size
        · exact hb
        · simp [Array.getElem?_eq_none (show w.heap.size ≤ b by omega)] at h1
      refine .inr ⟨b, off, rfl, hbl, fun i hi j hj => ?_⟩
      have h2 := (hc i hi j hj).1
      have e : Addr.add ⟨b, off, none⟩ (i * N + j) = ⟨b, off + i * N + j, none⟩ := by
        rw [Nat.add_assoc]
        generalize i * N + j = q
        by_cases h : q = 0 <;> simp [Addr.add, h]
      rwa [e] at h2
theorem RecsB.later {N B : Nat} {w w' : World} {a : Option Addr} {len : Nat} {Z : Nat → Nat → Int} (h : RecsB N B w a len Z) (hb : Below B w w') : RecsB N B w' a len Z := by
  rcases h with h0 | ⟨b, off, rfl, hlt, hc⟩
  · exact .inl h0
  · exact .inr ⟨b, off, rfl, hlt, fun i hi j hj => (hb.cell hlt).trans (hc i hi j hj)⟩
theorem RecsB.at {N B : Nat} {w : World} {a : Option Addr} {len : Nat} {Z : Nat → Nat → Int} (h : RecsB N B w a len Z) {i : Nat} (hi : i < len) :
    ∃ b off, a = some ⟨b, off, none⟩ ∧ b < B ∧ ∀ j, j < N → w.cell? ⟨b, off + i * N + j, none⟩ = some (.int .i64 (Z i j)) := by
  rcases h with h0 | ⟨b, off, rfl, hlt, hc⟩
  · omega
  · exact ⟨b, off, rfl, hlt, hc i hi⟩
end Go.Proofs.Ytdhpahopfmcdkaa
