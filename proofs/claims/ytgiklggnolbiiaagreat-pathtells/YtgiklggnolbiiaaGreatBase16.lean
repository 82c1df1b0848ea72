/- Texts of this claim, put together in their order. -/
import Derived.Deep.RegionHeld3
import Derived.Test.YtgiklggnolbiiaaGreatBase1
import Derived.Test.YtgiklggnolbiiaaGreatBase2
import Derived.Test.YtgiklggnolbiiaaGreatBase3
import Derived.Test.YtgiklggnolbiiaaGreatBase4
import Derived.Test.YtgiklggnolbiiaaGreatBase5
import Derived.Test.YtgiklggnolbiiaaGreatBase6
import Derived.Test.YtgiklggnolbiiaaGreatBase7
import Derived.Test.YtgiklggnolbiiaaGreatBase8
import Derived.Test.YtgiklggnolbiiaaGreatBase9
import Derived.Test.YtgiklggnolbiiaaGreatBase10
import Derived.Test.YtgiklggnolbiiaaGreatBase11
import Derived.Test.YtgiklggnolbiiaaGreatBase12
import Derived.Test.YtgiklggnolbiiaaGreatBase13
import Derived.Test.YtgiklggnolbiiaaGreatBase14
import Derived.Test.YtgiklggnolbiiaaGreatBase15
/- TableOnce, plainly: how many locks; nobody waits at two nodes. -/
namespace Go.Proofs.YtgiklggnolbiiaaGreat
open Go.RowKit
variable {H Q : List En}

theorem put_length (y : En) (l : List En) : (putD y l).length = l.length + (if hasD y.1 l then 0 else 1) := by
  unfold putD
  cases hasD y.1 l
  · rw [if_neg (by decide), if_neg (by decide), ins_len l _ y (posD_le _ _)]
  · rw [if_pos rfl, if_pos rfl, List.length_set]; rfl
theorem new_same {H H' : List En} : ∀ {Q : List En}, (∀ x ∈ Q, lookD x.1 H = lookD x.1 H') → newD H Q = newD H' Q := fun {Q} h => by
  unfold newD
  exact List.filter_congr (fun x hx => by rw [h x hx])
theorem has_look (hm : ∀ x ∈ H, md x.2) (k : Int) : hasD k H = !(lookD k H == 0) := by
  cases h : hasD k H
  · have := (look_zero hm).2 h
    rw [this]; rfl
  · have : lookD k H ≠ 0 := fun e => by rw [(look_zero hm).1 e] at h; cases h
    simp [this]
theorem locks_put (hs : Srt H) (hm : ∀ x ∈ H, md x.2) {y : En} (hQ : ∀ x ∈ Q, x.1 ≠ y.1) : locksD (putD y H, Q) = locksD (H, Q) + (if lookD y.1 H = 0 then 1 else 0) := by
  unfold locksD
  have h1 : newD (putD y H) Q = newD H Q := new_same (fun x hx => look_put hs (hQ x hx))
  show (putD y H).length + (newD (putD y H) Q).length = H.length + (newD H Q).length + _
  rw [h1, put_length, has_look hm]
  by_cases h : lookD y.1 H = 0
  · simp [h]; omega
  · simp [h]
theorem locks_wait (held : Int) (y : En) : locksD (H, waitD held y H Q) = locksD (H, Q) + (if lookD y.1 H = 0 then 1 else 0) := by
  unfold locksD
  show H.length + (newD H (waitD held y H Q)).length = H.length + (newD H Q).length + _
  have key : ∀ i, (newD H (Q.take i ++ y :: Q.drop i)).length = (newD H Q).length + (if lookD y.1 H = 0 then 1 else 0) := fun i => by
    have e : (newD H Q).length = (newD H (Q.take i)).length + (newD H (Q.drop i)).length := by
      conv => lhs; rw [← List.take_append_drop i Q]
      unfold newD
      rw [List.filter_append, List.length_append]
    rw [e]
    unfold newD
    rw [List.filter_append, List.length_append, List.filter_cons]
    by_cases h : lookD y.1 H = 0
    · simp [h]; omega
    · simp [h]
  rw [wait_at, key]; omega
theorem locks_ask (who m : Int) (hs : Srt H) (h : Ok H Q) : locksD (askD who m H Q).2 ≤ locksD (H, Q) + (if hasL who (H, Q) then 0 else 1) := by
  unfold askD
  cases hk : okD who m Q
  · simp
  · rw [if_pos rfl]
    have hq : lookD who Q = 0 := by
      unfold okD at hk
      simp at hk
      exact hk.2
    have hnq : ∀ x ∈ Q, x.1 ≠ who := hasnt ((look_zero h.qm).1 hq)
    have hl : hasL who (H, Q) = !(lookD who H == 0) := by
      unfold hasL
      show ((lookD who H != 0) || (lookD who Q != 0)) = _
      rw [hq]; simp; rfl
    have hb : (if lookD who H = 0 then 1 else 0) ≤ (if hasL who (H, Q) then 0 else 1) := by
      rw [hl]
      by_cases e : lookD who H = 0
      · simp [e]
      · simp [e]
    dsimp only
    split
    · exact Nat.le_add_right _ _
    · split
      · have := locks_put (Q := Q) hs h.hm (y := (who, goal (lookD who H) m)) hnq
        rw [this]
        exact Nat.add_le_add_left hb _
      · have := locks_wait (H := H) (Q := Q) (lookD who H) (who, goal (lookD who H) m)
        rw [this]
        exact Nat.add_le_add_left hb _
theorem ask_ok_nz {who m : Int} (h : okD who m Q = true) : (askD who m H Q).1 ≠ 0 := by
  unfold askD
  rw [h, if_pos rfl]
  dsimp only
  split
  · show (1 : Int) ≠ 0
    decide
  · split
    · show (1 : Int) ≠ 0
      decide
    · show (2 : Int) ≠ 0
      decide
theorem locks_grant : ∀ (Q H : List En), Srt H → Once Q → (∀ x ∈ H, md x.2) → (∀ x ∈ Q, md x.2) → locksD ((grantD H Q).2, Q.drop (grantD H Q).1) = locksD (H, Q)
  | [], H, _, _, _, _ => rfl
  | x :: r, H, hs, ho, hm, hq => by
    obtain ⟨o1, o2⟩ := List.pairwise_cons.1 ho
    cases hf : fitsL x H
    · rw [grant_stop hf, List.drop_zero]
    · rw [grant_cons hf]
      show locksD ((grantD (putD x H) r).2, (x :: r).drop ((grantD (putD x H) r).1 + 1)) = _
      rw [List.drop_succ_cons, locks_grant r (putD x H) (srt_put hs) o2 (fun z hz => by
        rcases put_mem hz with e | e
        · rw [e]; exact hq x List.mem_cons_self
        · exact hm z e) (fun z hz => hq z (List.mem_cons_of_mem _ hz)), locks_put hs hm (fun z hz => fun e => o1 z hz e.symm)]
      unfold locksD
      show H.length + (newD H r).length + _ = H.length + (newD H (x :: r)).length
      have e : (newD H (x :: r)).length = (newD H r).length + (if lookD x.1 H = 0 then 1 else 0) := by
        unfold newD
        rw [List.filter_cons]
        by_cases h : lookD x.1 H = 0
        · simp [h]
        · simp [h]
      omega
theorem look_out {who k : Int} (h : k ≠ who) : ∀ (l : List En), lookD k (out1 who l) = lookD k l
  | [] => rfl
  | p :: r => by
    have ih := look_out h r
    unfold out1 at ih ⊢
    rw [List.eraseP_cons]
    cases e : isWho who p
    · show lookD k (p :: r.eraseP _) = _
      unfold lookD
      rw [ih]
    · show lookD k r = lookD k (p :: r)
      have hp : p.1 = who := by simpa [isWho] using e
      conv => rhs; unfold lookD
      rw [if_neg (by simp; omega)]
theorem locks_leave (who : Int) (hs : Srt H) (h : Ok H Q) : locksD (leaveD who H Q).2 ≤ locksD (H, Q) := by
  have h1 := locks_grant (out1 who Q) (out1 who H) (out_srt hs) (out_once h.once) (fun x hx => h.hm x (out_mem hx)) (fun x hx => h.qm x (out_mem hx))
  have e : locksD (leaveD who H Q).2 = locksD (out1 who H, out1 who Q) := h1
  rw [e]
  unfold locksD
  show (out1 who H).length + (newD (out1 who H) (out1 who Q)).length ≤ H.length + (newD H Q).length
  have h2 : newD (out1 who H) (out1 who Q) = newD H (out1 who Q) := new_same (fun x hx => look_out (out_gone h.once x hx) H)
  have h3 := out_len who H
  have h4 : (newD H (out1 who Q)).length ≤ (newD H Q).length := by
    unfold newD
    exact ((List.eraseP_sublist (p := isWho who) (l := Q)).filter _).length_le
  rw [h2]; omega
theorem len_upd (T : Nat → Lv) {i : Nat} (x : Lv) : ∀ n, i < n → lenD (upd T i x) n + locksD (T i) = lenD T n + locksD x
  | 0, h => by omega
  | n + 1, h => by
    unfold lenD
    by_cases e : n = i
    · subst e
      rw [upd_same]
      have : ∀ m, m ≤ n → lenD (upd T n x) m = lenD T m := by
        intro m
        induction m with
        | zero => intro _; rfl
        | succ m ih =>
          intro hm
          unfold lenD
          rw [ih (by omega), upd_other T x (by omega)]
      rw [this n (Nat.le_refl _)]; omega
    · have := len_upd T (i := i) x n (by omega)
      rw [upd_other T x e]; omega
theorem len_mono {T T' : Nat → Lv} : ∀ n, (∀ i, i < n → locksD (T' i) ≤ locksD (T i)) → lenD T' n ≤ lenD T n
  | 0, _ => Nat.le_refl _
  | n + 1, h => by
    unfold lenD
    have := len_mono n (fun i hi => h i (by omega))
    have := h n (by omega)
    omega
/-- Who waits at a node waits at no other one; no more locks than may be. -/
structure On (n : Nat) (most : Int) (k : Nat) (T : Nat → Lv) : Prop where
  gd : Gd n k T
  one : ∀ i j, i < n → j < n → ∀ x ∈ (T i).2, ∀ y ∈ (T j).2, x.1 = y.1 → i = j
  room : (lenD T n : Int) ≤ most
theorem lenD_none : ∀ n, lenD none0 n = 0
  | 0 => rfl
  | n + 1 => by
    unfold lenD
    rw [lenD_none n]; rfl
theorem on_none (n k : Nat) {most : Int} (h : 0 ≤ most) : On n most k none0 := ⟨gd_none n k, fun i j _ _ x hx => (by cases hx), by rw [lenD_none]; exact h⟩
theorem On.up {n k k' : Nat} {most : Int} {T : Nat → Lv} (h : On n most k T) (hk : k ≤ k') : On n most k' T := ⟨h.gd.up hk, h.one, h.room⟩
variable {n k : Nat} {most : Int} {T : Nat → Lv}
theorem on_ask (who node m : Int) (hs : ∀ i, i < n → Srt (T i).1) (h : On n most k T) : On n most (k + 1) (askT n most T who node m).2 ∧ ((askT n most T who node m).1.2 = 0 → (askT n most T who node m).1.1 ≠ 0) ∧ ((askT n most T who node m).1.2 ≠ 0 → (askT n most T who node m).1.1 = 0) := by
  have hg := gd_ask (most := most) (who := who) (node := node) (m := m) hs h.gd
  by_cases h0 : errD n most T who node m = 0
  · obtain ⟨p1, p2, p3, p4, p5, p6, p7⟩ := err_node h0
    rw [ask_yes h0] at hg ⊢
    obtain ⟨i, hi⟩ : ∃ i, i = node.toNat := ⟨_, rfl⟩
    rw [← hi] at hg p7 ⊢
    have hin : i < n := by omega
    have f := h.gd.fine i hin
    have hok : okD who m (T i).2 = true := by
      unfold okD
      rw [p6, p3 i hin]
      simp [p5]
    obtain ⟨_, _, _, a4⟩ := ask_ok who m (hs i hin) f.ok
    have hnw : ∀ j, j < n → ∀ x ∈ (T j).2, x.1 ≠ who := fun j hj => hasnt ((look_zero (h.gd.fine j hj).ok.qm).1 (p3 j hj))
    refine ⟨⟨hg, fun a c ha hc x hx y hy e => ?_, ?_⟩, fun _ => ask_ok_nz hok, fun e => absurd rfl e⟩
    · dsimp only at hx hy
      by_cases ea : a = i <;> by_cases ec : c = i
      · omega
      · exfalso
        subst ea
        rw [upd_same] at hx
        rw [upd_other _ _ ec] at hy
        rcases a4 x hx with h1 | ⟨z, hz, h1⟩
        · exact hnw c hc y hy (by rw [← e, h1])
        · exact ec (h.one a c ha hc z hz y hy (by rw [h1, e])).symm
      · exfalso
        subst ec
        rw [upd_same] at hy
        rw [upd_other _ _ ea] at hx
        rcases a4 y hy with h1 | ⟨z, hz, h1⟩
        · exact hnw a ha x hx (by rw [e, h1])
        · exact ea (h.one a c ha hc x hx z hz (by rw [h1, e]))
      · rw [upd_other _ _ ea] at hx
        rw [upd_other _ _ ec] at hy
        exact h.one a c ha hc x hx y hy e
    · have h1 := len_upd T (i := i) (askD who m (T i).1 (T i).2).2 n hin
      have h2 := locks_ask who m (hs i hin) f.ok
      have h3 := h.room
      show (lenD (upd T i (askD who m (T i).1 (T i).2).2) n : Int) ≤ most
      rcases p7 with p7 | p7
      · have e : hasL who ((T i).1, (T i).2) = true := p7
        rw [e, if_pos rfl] at h2
        have e2 : locksD ((T i).1, (T i).2) = locksD (T i) := rfl
        omega
      · have e2 : locksD ((T i).1, (T i).2) = locksD (T i) := rfl
        have : locksD (askD who m (T i).1 (T i).2).2 ≤ locksD (T i) + 1 := by
          split at h2 <;> omega
        omega
  · rw [ask_not h0] at hg ⊢
    exact ⟨⟨hg, h.one, h.room⟩, fun e => absurd e h0, fun _ => rfl⟩
/-- What happens at one lane when who drops. -/
def dD (who : Int) (T : Nat → Lv) (j : Nat) : List Int × Lv := if hasL who (T j) then leaveD who (T j).1 (T j).2 else ([], T j)
theorem drop_flat (who : Int) (T : Nat → Lv) : ∀ (xs : List Nat), xs.Nodup → ∀ (g : List Int) (S : Nat → Lv), (∀ j ∈ xs, S j = T j) → xs.foldl (dropS who) (g, S) = (g ++ xs.flatMap (fun j => (dD who T j).1), fun j => if j ∈ xs then (dD who T j).2 else S j)
  | [], _, g, S, _ => by simp
  | x :: r, hn, g, S, h => by
    obtain ⟨h1, h2⟩ := List.nodup_cons.1 hn
    have e : dropS who (g, S) x = (g ++ (dD who T x).1, upd S x (dD who T x).2) := by
      have hS := h x List.mem_cons_self
      have hu : upd S x (S x) = S := by
        funext j
        unfold upd
        by_cases hj : j = x
        · rw [if_pos hj, hj]
        · rw [if_neg hj]
      unfold dropS dD
      cases hh : hasL who (T x)
      · have hh2 : hasL who (S x) = false := by rw [hS]; exact hh
        simp only [hh2, Bool.false_eq_true, if_false, List.append_nil]
        rw [← hS, hu]
      · simp only [hS, hh, if_true]
    rw [List.foldl_cons, e, drop_flat who T r h2 _ _ (fun j hj => by
      have hne : j ≠ x := fun e => h1 (by rw [← e]; exact hj)
      rw [upd_other S _ hne]
      exact h j (List.mem_cons_of_mem _ hj))]
    rw [List.flatMap_cons, List.append_assoc]
    congr 1
    funext j
    by_cases hj : j ∈ r
    · rw [if_pos hj, if_pos (List.mem_cons_of_mem _ hj)]
    · rw [if_neg hj]
      by_cases hx : j = x
      · subst hx
        rw [upd_same, if_pos List.mem_cons_self]
      · rw [upd_other S _ hx, if_neg (fun e => by rcases List.mem_cons.1 e with e | e; exact hx e; exact hj e)]
theorem dn_nodup (n : Nat) : (dn n 0).Nodup := by
  unfold dn
  rw [List.Nodup, List.pairwise_map]
  refine List.Pairwise.imp_of_mem ?_ (List.pairwise_lt_range (n := n - 0))
  intro a c ha hc h
  have := List.mem_range.1 ha
  have := List.mem_range.1 hc
  omega
theorem dn_mem {n i : Nat} : i ∈ dn n 0 ↔ i < n := by
  unfold dn
  rw [List.mem_map]
  constructor
  · rintro ⟨j, hj, rfl⟩
    have := List.mem_range.1 hj
    omega
  · intro h
    exact ⟨n - 1 - i, by rw [List.mem_range]; omega, by omega⟩
theorem drop_at2 (who : Int) (T : Nat → Lv) {n i : Nat} (hi : i < n) : (dropD who T (dn n 0)).2 i = (dD who T i).2 := by
  unfold dropD
  rw [drop_flat who T (dn n 0) (dn_nodup n) [] T (fun _ _ => rfl)]
  show (if i ∈ dn n 0 then _ else _) = _
  rw [if_pos (dn_mem.2 hi)]
theorem held_nil {who : Int} {T : Nat → Lv} : ∀ n, (∀ i, i < n → lookD who (T i).1 = 0) → heldD who T n = []
  | 0, _ => rfl
  | n + 1, h => by
    unfold heldD
    rw [if_pos (h n (by omega)), held_nil n (fun i hi => h i (by omega))]
theorem on_drop (who : Int) (hs : ∀ i, i < n → Srt (T i).1) (h : On n most k T) : On n most k (dropD who T (dn n 0)).2 ∧ noneW who n (dropD who T (dn n 0)).2 ∧ heldD who (dropD who T (dn n 0)).2 n = [] := by
  have key : ∀ i, i < n → Fine (dD who T i).2.1 (dD who T i).2.2 ∧ (dD who T i).2.1.length + (dD who T i).2.2.length ≤ k ∧ (∀ x ∈ (dD who T i).2.2, ∃ z ∈ (T i).2, z.1 = x.1) ∧ locksD (dD who T i).2 ≤ locksD (T i) ∧ lookD who (dD who T i).2.1 = 0 ∧ lookD who (dD who T i).2.2 = 0 := fun i hi => by
    have f := h.gd.fine i hi
    have s := h.gd.sum i hi
    unfold dD
    cases hh : hasL who (T i)
    · rw [if_neg (by decide)]
      unfold hasL at hh
      simp at hh
      exact ⟨f, s, fun x hx => ⟨x, hx, rfl⟩, Nat.le_refl _, hh.1, hh.2⟩
    · rw [if_pos rfl]
      obtain ⟨l1, l2, l3⟩ := leave_fine who (hs i hi) f
      obtain ⟨_, l4, _, l5⟩ := leave_ok who (hs i hi) f.ok
      exact ⟨l1, by omega, fun x hx => (l5 x hx).2, locks_leave who (hs i hi) f.ok, l2, l3⟩
  refine ⟨⟨⟨fun i hi => ?_, fun i hi => ?_⟩, fun a c ha hc x hx y hy e => ?_, ?_⟩, fun i hi => ?_, held_nil n (fun i hi => ?_)⟩
  · rw [drop_at2 who T hi]; exact (key i hi).1
  · rw [drop_at2 who T hi]; exact (key i hi).2.1
  · rw [drop_at2 who T ha] at hx
    rw [drop_at2 who T hc] at hy
    obtain ⟨z, hz, e1⟩ := (key a ha).2.2.1 x hx
    obtain ⟨z2, hz2, e2⟩ := (key c hc).2.2.1 y hy
    exact h.one a c ha hc z hz z2 hz2 (by rw [e1, e2, e])
  · have := len_mono (T := T) (T' := (dropD who T (dn n 0)).2) n (fun i hi => by rw [drop_at2 who T hi]; exact (key i hi).2.2.2.1)
    have := h.room
    omega
  · rw [drop_at2 who T hi]; exact (key i hi).2.2.2.2.2
  · rw [drop_at2 who T hi]; exact (key i hi).2.2.2.2.1
end Go.Proofs.YtgiklggnolbiiaaGreat

/- The reference's edges, name by name, are the program's; how many entries there are in all. -/
namespace Go.Proofs.YtgiklggnolbiiaaGreat
open Go.RowKit
variable {n : Nat} {T : Nat → Lv}

/-- Those that wait at the first n nodes. -/
def nmT (T : Nat → Lv) : Nat → List En
  | 0 => []
  | m + 1 => nmT T m ++ (T m).2
def whoT (T : Nat → Lv) (n : Nat) : List Int := (nmT T n).map (·.1)
/-- The edges of one name. -/
def edgeW (T : Nat → Lv) (n : Nat) (who : Int) : List En := (blocksD who (T (atW who T n)).1 (T (atW who T n)).2).map (fun t => (who, t))
def refE (T : Nat → Lv) (n : Nat) : List En := (canon (whoT T n)).flatMap (edgeW T n)
theorem nmT_mem {x : En} : ∀ m, x ∈ nmT T m ↔ ∃ i, i < m ∧ x ∈ (T i).2
  | 0 => by simp [nmT]
  | m + 1 => by
    unfold nmT
    rw [List.mem_append, nmT_mem m]
    constructor
    · rintro (⟨i, h1, h2⟩ | h)
      · exact ⟨i, by omega, h2⟩
      · exact ⟨m, by omega, h⟩
    · rintro ⟨i, h1, h2⟩
      rcases (show i < m ∨ i = m by omega) with h | rfl
      · exact .inl ⟨i, h, h2⟩
      · exact .inr h2
theorem at_is {k : Nat} (hg : Gd n k T) (one : ∀ i j, i < n → j < n → ∀ x ∈ (T i).2, ∀ y ∈ (T j).2, x.1 = y.1 → i = j) {i : Nat} (hi : i < n) {x : En} (hx : x ∈ (T i).2) : atW x.1 T n = i := by
  have h1 := atW_le x.1 T n
  have nz : lookD x.1 (T i).2 ≠ 0 := fun e => by
    have := (look_zero (hg.fine i hi).ok.qm).1 e
    rw [has_iff.2 ⟨x, hx, rfl⟩] at this
    cases this
  rcases (show atW x.1 T n < n ∨ atW x.1 T n = n by omega) with h | h
  · have h2 := atW_at x.1 T n h
    have h3 : hasD x.1 (T (atW x.1 T n)).2 = true := by
      cases e : hasD x.1 (T (atW x.1 T n)).2
      · exact absurd ((look_zero (hg.fine _ h).ok.qm).2 e) h2
      · rfl
    obtain ⟨y, hy, e⟩ := has_iff.1 h3
    exact one _ _ h hi y hy x hx e
  · exact absurd (atW_low x.1 T n i (by omega)) nz
theorem flat_congr {f g : En → List En} : ∀ (l : List En), (∀ x ∈ l, f x = g x) → l.flatMap f = l.flatMap g
  | [], _ => rfl
  | x :: r, h => by
    rw [List.flatMap_cons, List.flatMap_cons, h x (List.mem_cons_self ..), flat_congr r fun y hy => h y (List.mem_cons_of_mem _ hy)]
theorem raw_flat {k : Nat} (hg : Gd n k T) (one : ∀ i j, i < n → j < n → ∀ x ∈ (T i).2, ∀ y ∈ (T j).2, x.1 = y.1 → i = j) : ∀ m, m ≤ n → rawE T m = (nmT T m).flatMap (fun x => edgeW T n x.1)
  | 0, _ => rfl
  | m + 1, hm => by
    unfold rawE nmT
    rw [List.flatMap_append, raw_flat hg one m (by omega)]
    congr 1
    unfold edgeL
    refine flat_congr _ fun x hx => ?_
    unfold edge1 edgeW
    rw [at_is hg one (show m < n by omega) hx]
theorem nmT_once {k : Nat} (hg : Gd n k T) (one : ∀ i j, i < n → j < n → ∀ x ∈ (T i).2, ∀ y ∈ (T j).2, x.1 = y.1 → i = j) : ∀ m, m ≤ n → (nmT T m).Pairwise (fun a b => a.1 ≠ b.1)
  | 0, _ => List.Pairwise.nil
  | m + 1, hm => by
    unfold nmT
    refine List.pairwise_append.2 ⟨nmT_once hg one m (by omega), (hg.fine m (by omega)).ok.once, fun x hx y hy e => ?_⟩
    obtain ⟨i, hi, hx2⟩ := (nmT_mem m).1 hx
    have := one i m (by omega) (by omega) x hx2 y hy e
    omega
theorem blocks_rise (who : Int) (H Q : List En) : (blocksD who H Q).Pairwise (· < ·) := by
  unfold blocksD
  split
  · exact (canon_facts _).2
  · exact List.Pairwise.nil
theorem ref_edges {k : Nat} (hg : Gd n k T) (one : ∀ i j, i < n → j < n → ∀ x ∈ (T i).2, ∀ y ∈ (T j).2, x.1 = y.1 → i = j) : refE T n = edgesD T n := by
  have nd : (whoT T n).Nodup := by
    unfold whoT
    exact List.pairwise_map.2 (nmT_once hg one n (Nat.le_refl _))
  have nd2 : (canon (whoT T n)).Nodup := (canon_facts _).2.imp fun h e => by omega
  have p1 : (canon (whoT T n)).Perm (whoT T n) := (List.perm_ext_iff_of_nodup nd2 nd).2 (canon_facts _).1
  have p2 : (refE T n).Perm (rawE T n) := by
    unfold refE
    refine (p1.flatMap_right _).trans ?_
    rw [raw_flat hg one n (Nat.le_refl _)]
    unfold whoT
    rw [List.flatMap_map]
  have le_iff : ∀ x y : En, (!(Go.Proofs.ltOf cfE) y x) = true ↔ (x.1 < y.1 ∨ (x.1 = y.1 ∧ x.2 ≤ y.2)) := fun x y => by
    cases h : Go.Proofs.ltOf cfE y x
    · have := (lt_no y x).1 h
      simp
      omega
    · have := (lt_iff y x).1 h
      simp
      omega
  have s1 : (refE T n).Pairwise (fun x y => (!(Go.Proofs.ltOf cfE) y x) = true) := by
    unfold refE
    rw [List.pairwise_flatMap]
    refine ⟨fun w _ => ?_, (canon_facts (whoT T n)).2.imp fun {a b} h x hx y hy => ?_⟩
    · unfold edgeW
      refine List.pairwise_map.2 ((blocks_rise _ _ _).imp fun {a b} h => ?_)
      rw [le_iff]
      exact .inr ⟨rfl, by show a ≤ b; omega⟩
    · unfold edgeW at hx hy
      obtain ⟨_, _, rfl⟩ := List.mem_map.1 hx
      obtain ⟨_, _, rfl⟩ := List.mem_map.1 hy
      rw [le_iff]
      exact .inl h
  have s2 : (edgesD T n).Pairwise (fun x y => (!(Go.Proofs.ltOf cfE) y x) = true) := by
    unfold edgesD srtE
    refine List.pairwise_mergeSort (fun a b c h1 h2 => ?_) (fun a b => ?_) _
    · rw [le_iff] at *
      omega
    · rw [Bool.or_eq_true, le_iff, le_iff]
      omega
  refine List.Perm.eq_of_pairwise (fun a b _ _ h1 h2 => ?_) s1 s2 (p2.trans (srtE_perm _).symm)
  rw [le_iff] at h1 h2
  exact Prod.ext (by omega) (by omega)
/-- How many entries there are at the first n nodes. -/
def totT (T : Nat → Lv) : Nat → Nat
  | 0 => 0
  | m + 1 => totT T m + ((T m).1.length + (T m).2.length)
theorem tot_none : ∀ n, totT none0 n = 0
  | 0 => rfl
  | m + 1 => by unfold totT; rw [tot_none m]; rfl
theorem tot_who : ∀ m, (whoT T m).length ≤ totT T m
  | 0 => Nat.le_refl _
  | m + 1 => by
    have := tot_who m
    unfold whoT at *
    unfold nmT totT
    rw [List.length_map] at *
    rw [List.length_append]
    omega
theorem tot_mono {T' : Nat → Lv} : ∀ m, (∀ i, i < m → (T' i).1.length + (T' i).2.length ≤ (T i).1.length + (T i).2.length) → totT T' m ≤ totT T m
  | 0, _ => Nat.le_refl _
  | m + 1, h => by
    have h1 := tot_mono m (fun i hi => h i (by omega))
    have h2 := h m (by omega)
    unfold totT
    omega
theorem tot_upd {i : Nat} {x : Lv} (hx : x.1.length + x.2.length ≤ (T i).1.length + (T i).2.length + 1) : ∀ m, totT (upd T i x) m ≤ totT T m + 1
  | 0 => Nat.zero_le _
  | m + 1 => by
    unfold totT
    by_cases e : m = i
    · subst e
      have h1 : totT (upd T m x) m ≤ totT T m := tot_mono m (fun j hj => by rw [upd_other T x (by omega)]; exact Nat.le_refl _)
      rw [upd_same]
      omega
    · have h1 := tot_upd hx m
      rw [upd_other T x e]
      omega
theorem tot_ask {k : Nat} {most : Int} (who node m : Int) (hs : ∀ i, i < n → Srt (T i).1) (hg : Gd n k T) : totT (askT n most T who node m).2 n ≤ totT T n + 1 := by
  by_cases h0 : errD n most T who node m = 0
  · obtain ⟨p1, p2, _⟩ := err_node h0
    rw [ask_yes h0]
    exact tot_upd (ask_ok who m (hs _ (by omega)) (hg.fine _ (by omega)).ok).2.1 n
  · rw [ask_not h0]
    exact Nat.le_succ _
theorem tot_drop {k : Nat} (who : Int) (hs : ∀ i, i < n → Srt (T i).1) (hg : Gd n k T) : totT (dropD who T (dn n 0)).2 n ≤ totT T n := by
  refine tot_mono n (fun i hi => ?_)
  rw [drop_at2 who T hi]
  unfold dD
  split
  · exact (leave_ok who (hs i hi) (hg.fine i hi).ok).2.1
  · exact Nat.le_refl _
end Go.Proofs.YtgiklggnolbiiaaGreat

/- The reference's table: Edges. -/
namespace Go.Proofs.YtgiklggnolbiiaaGreat
open Go.RowKit
variable {B n : Nat} {most : Int} {T : Nat → Lv} {b rb c : Nat} {lb : Nat → Nat} {hv qv : Nat → Value}

/-- Edges more, behind the others, out of a block that is known whole. -/
theorem step_newE {w : World} {ops : Array Oper} {o : Oper} {a : Act} {K : Act → World → Prop} {Q : Exit → Act → World → Prop} {E : Prop} (hgd : o.guard = none) (s x : Operand)
    (ho : o.op = .call { callee := .builtin .append, args := #[s, x], argTypes := #[52, 52] }) (base : Nat) (v : Value) (l m : List En) (q r : Nat) (hs : a.eval s = v) (hown : Pr 87 base v l w) (N : Nat)
    (hx : a.eval x = .slice (some ⟨N, 0, none⟩) q q) (hN : w.heap[N]? = some (.cells (pairs m).toArray 87 (0, 0))) (hq : m.length = q) (hr : l.length + q = r) (hm : 0 < q) (hb : base ≤ w.heap.size) (hn : r < 100000000)
    (h : ∀ g cap w', Pr 87 base (.slice (some ⟨g, 0, none⟩) r cap) (l ++ m) w' → w.grownBy w' v.ownBlock → K (a.put o.dst (.slice (some ⟨g, 0, none⟩) r cap)) w') :
    if Region.wanted o (yielded ops a.tmps) = true then Oper.wp Tryz.prog o a w K Q else E := by
  subst hq hr
  obtain ⟨i3, hi3, hz0, hz1, hz2⟩ := info_parts inf69
  refine step_append_lies w hgd s x 52 ho base 87 i3 _ 2 16 Tryz.underlying52 hi3 hz0 hz1 hz2 rfl (by decide) v l.length _ hs hown ⟨N, 0, none⟩ _ _ (pairs m) hx (pairs_len m) (World.news_of_block hN) (pairs_one m) hm (by unfold maxLen; omega) (by omega) hb _ rfl ?_
  intro g cap w' a1 a2 _ _
  refine h g cap w' ?_ a2
  unfold Pr
  rw [List.length_append, pairs_app]
  exact a1
theorem who_succ (T : Nat → Lv) (m : Nat) : whoT T (m + 1) = whoT T m ++ (T m).2.map (·.1) := by unfold whoT; show (nmT T m ++ (T m).2).map _ = _; rw [List.map_append]
theorem names_succ (l : List En) (k : Nat) (h : k < l.length) : (l.take (k + 1)).map (·.1) = (l.take k).map (·.1) ++ [(l.getD k (0, 0)).1] := by
  rw [List.take_succ_eq_append_getElem h, List.map_append]
  simp [List.getD, h]
theorem flat_takeI (f : Int → List En) (l : List Int) (t : Nat) (h : t < l.length) : (l.take (t + 1)).flatMap f = (l.take t).flatMap f ++ f (l.getD t 0) := by
  rw [List.take_succ_eq_append_getElem h, List.flatMap_append]
  simp [List.getD, h]
theorem canon_len (l : List Int) : (canon l).length ≤ l.length := by
  unfold canon
  exact Nat.le_trans (Lib.compact_length_le _) (Nat.le_of_eq (sortI_len l))
set_option maxRecDepth 100000 in
set_option maxHeartbeats 8000000 in
theorem redges_t (w : World) (h : Rt B n most T b rb c lb hv qv w) (hg : Gd n 399 T) (htot : totT T n ≤ 800) (one : ∀ i j, i < n → j < n → ∀ x ∈ (T i).2, ∀ y ∈ (T j).2, x.1 = y.1 → i = j) (hn : n ≤ 10000) :
    Calls Tryz.prog 22 #[.pointer (some ⟨b, 0, none⟩)] w fun e w' => ∃ v, e = .returned v ∧ Pr 87 w.heap.size v (refE T n) w' ∧ Below w.heap.size w w' := by
  have hf : Few n 1000 T := hg.few (by decide)
  have HT := hide h
  have hwl := tot_who (T := T) n
  have hcl := canon_len (whoT T n)
  have Dp : Hid (∀ i, i < n → ∀ x ∈ (T i).2, atW x.1 T n = i) := fun i hi x hx => at_is hg one hi hx
  replace one := hide one
  clear h
  go_enter Tryz.func22, Tryz.ntmps22
  go_wp2_with fail
  go_loopw [3, 4] (fun s3 s4 wr => ∃ (t : Nat) (ag : Option Addr) (nn cg : Nat), t ≤ n ∧ s3 = .slice ag nn cg ∧ s4 = .int .i64 t ∧ Hid ((whoT T t).length = nn) ∧ Hid (Is w.heap.size (.slice ag nn cg) (whoT T t) wr) ∧ Hid (Below w.heap.size w wr)) (fun _ s4 _ => n - (intOf s4).toNat)
  case atStart => exact ⟨0, none, 0, 0, Nat.zero_le _, rfl, rfl, rfl, is_nil _ _, Below.refl _ _⟩
  case round =>
    obtain ⟨t, ag, nn, cg, ht, rfl, rfl, hl, I3, b3⟩ := hrel
    have T3 := (unhide HT).next (unhide b3)
    have c1 := T3.c1
    by_cases hlt : t < n
    · obtain ⟨wo, hwo⟩ : ∃ wo, wo = wr := ⟨_, rfl⟩
      have hws := hide (who_succ T t)
      have hll : Hid ((whoT T t).length ≤ 800) := by
        have h1 : totT T t ≤ totT T n := by
          clear T3 c1 hlt
          have : ∀ m, totT T t ≤ totT T (t + m) := fun m => by
            induction m with
            | zero => exact Nat.le_refl _
            | succ m ih =>
              show _ ≤ totT T (t + m) + _
              omega
          have h2 := this (n - t)
          rw [show t + (n - t) = n by omega] at h2
          exact h2
        have h2 := tot_who (T := T) t
        show _ ≤ _
        omega
      have hq4 : Hid ((T t).2.length ≤ 399) := by have := hg.sum t hlt; show _ ≤ _; omega
      obtain ⟨aq, cq, eq⟩ := slice_form (T3.lr t hlt).qr
      have hqr := hide (fun (w' : World) (k : Below w.heap.size w w') => ((unhide HT).next k).lr t hlt)
      obtain ⟨Q, hQ⟩ : ∃ Q, Q = (T t).2 := ⟨_, rfl⟩
      obtain ⟨W0, hW0⟩ : ∃ W0, W0 = whoT T t := ⟨_, rfl⟩
      rw [← hQ] at hws hq4 hqr eq
      rw [← hW0] at hws hll hl I3
      replace hQ := hide hQ
      replace hW0 := hide hW0
      replace eq := hide eq
      clear T3 hwo
      go_wp2_with fail
      go_loopw [3, 5] (fun s3 s5 wx => ∃ (k : Nat) (a2 : Option Addr) (c2 : Nat), k ≤ Q.length ∧ s3 = .slice a2 (nn + k) c2 ∧ s5 = .int .i64 k ∧ Hid (Is w.heap.size (.slice a2 (nn + k) c2) (W0 ++ (Q.take k).map (·.1)) wx) ∧ Hid (Below w.heap.size w wx)) (fun _ s5 _ => Q.length - (intOf s5).toNat)
      case atStart => exact ⟨0, ag, cg, Nat.zero_le _, rfl, rfl, by rw [List.take_zero, List.map_nil, List.append_nil]; exact unhide I3, unhide b3⟩
      case round =>
        obtain ⟨k, a2, c2, hk, rfl, rfl, I4, b4⟩ := hrel
        have T4 := (unhide HT).next (unhide b4)
        have e1 := T4.c1
        have e2 := T4.at_ hlt
        have e3 := (unhide hqr _ (unhide b4)).c1
        rw [unhide eq] at e3
        have q9 := unhide hq4
        by_cases hkq : k < Q.length
        · have Eq := (unhide hqr _ (unhide b4)).qr
          rw [unhide eq] at Eq
          obtain ⟨gq, rfl, m1, m2⟩ := es_elem Eq hkq
          have hst := hide (names_succ Q k hkq)
          generalize (Q.getD k (0, 0)).1 = x at m1 hst
          have hnn : nn + k < 10000000 := by have := unhide hll; have := unhide hl; omega
          have hl4 : Hid ((W0 ++ (Q.take k).map (·.1)).length = nn + k) := by
            show _ = _
            rw [List.length_append, List.length_map, List.length_take, unhide hl]; omega
          clear T4 Eq m2
          go_wp2_with (at_builtin; refine wpList_push _ rfl (.tmp 36) (.tmp 51) rfl w.heap.size a2 (nn + k) c2 (W0 ++ (Q.take k).map (·.1)) x _ rfl rfl rfl (unhide hl4) (unhide I4) (unhide b4).size hnn ?_; intro g7 cap7 w7 a1 a2'; replace a1 := hide a1; have B7 := hide ((unhide b4).trans (grown_below a2' (unhide b4).size (fun j hj => ((unhide I4).lt j hj).1))); clear a2')
          go_roundw
          case rel => exact ⟨k + 1, some ⟨g7, 0, none⟩, cap7, by omega, rfl, by go_num, by rw [unhide hst, ← List.append_assoc]; exact unhide a1, unhide B7⟩
          case measure => simp [intOf]; omega
        · obtain rfl : k = Q.length := by omega
          have hW1 : Hid (whoT T (t + 1) = W0 ++ (Q.take Q.length).map (·.1)) := by show _ = _; rw [List.take_length]; exact unhide hws
          clear T4
          go_wp2
          go_roundw
          case rel => exact ⟨t + 1, a2, nn + Q.length, c2, by omega, rfl, by go_num, by show _ = _; rw [unhide hW1, List.take_length, List.length_append, List.length_map, unhide hl], by rw [unhide hW1]; exact unhide I4, unhide b4⟩
          case measure => simp [intOf]; omega
    · obtain rfl : t = n := by omega
      have C := hide (rsorted_any wr (unhide I3).rd (by omega))
      clear T3
      go_wp2_with fail
      refine (unhide C).mono ?_
      rintro e w5 ⟨v5, rfl, I5, b5⟩
      clear C
      obtain ⟨L, hL⟩ : ∃ L, L = canon (whoT T t) := ⟨_, rfl⟩
      rw [← hL] at I5 hcl
      have hLm : Hid (∀ x ∈ L, ∃ i, i < t ∧ x ∈ (T i).2.map (·.1)) := fun x hx => by
        rw [hL] at hx
        have h1 := ((canon_facts _).1 x).1 hx
        unfold whoT at h1
        obtain ⟨y, hy, e⟩ := List.mem_map.1 h1
        obtain ⟨i, hi, hyi⟩ := (nmT_mem t).1 hy
        exact ⟨i, hi, List.mem_map.2 ⟨y, hyi, e⟩⟩
      have hLe : Hid (refE T t = L.flatMap (edgeW T t)) := by show _ = _; rw [hL]; rfl
      replace hL := hide hL
      obtain ⟨a5, c5, e5⟩ := I5.form
      subst e5
      have I6 := hide (I5.down (unhide b3).size)
      have hL8 : L.length ≤ 800 := by omega
      have b6 := hide (below_then (unhide b3) b5)
      clear I5 b5 I3 hl b3 c1
      go_wp2_with fail
      go_loopw [6, 7] (fun s6 s7 wr => ∃ (i no : Nat) (ao : Option Addr) (co : Nat), i ≤ L.length ∧ s6 = .slice ao no co ∧ s7 = .int .i64 i ∧ no ≤ i * 400 ∧ Hid (((L.take i).flatMap (edgeW T t)).length = no) ∧ Hid (Pr 87 w.heap.size (.slice ao no co) ((L.take i).flatMap (edgeW T t)) wr) ∧ Hid (Cw w5 wr) ∧ Hid (Below w.heap.size w wr)) (fun _ s7 _ => L.length - (intOf s7).toNat)
      case atStart => exact ⟨0, 0, none, 0, Nat.zero_le _, rfl, rfl, Nat.zero_le _, rfl, Pr.nil _ _ _, Cw.refl _, unhide b6⟩
      case round =>
        obtain ⟨i, no, ao, co, hi, rfl, rfl, hno, hl, P3, k3, b3⟩ := hrel
        by_cases hlt2 : i < L.length
        · obtain ⟨g, o, rfl, d1, hgw⟩ := ((unhide k3).is (unhide I6)).elem' hlt2
          have hst := hide (flat_takeI (edgeW T t) L i hlt2)
          obtain ⟨x, hx⟩ : ∃ x, x = L.getD i 0 := ⟨_, rfl⟩
          rw [← hx] at d1 hst
          have hxL : x ∈ L := by rw [hx]; simp [List.getD, hlt2]
          obtain ⟨s, hs, hxs⟩ := unhide hLm x hxL
          obtain ⟨y, hy, hyx⟩ := List.mem_map.1 hxs
          have hat : atW x T t = s := by rw [← hyx]; exact unhide Dp s hs y hy
          have C := hide (rwaits_tb wr ((unhide HT).next (unhide b3)) hf hn x)
          rw [hat] at C
          have hv : waitV x t T s = .tuple #[.agg #[.int .i64 s, .int .i64 (lookD x (T s).2)], .bool true] := by
            unfold waitV; rw [if_pos hs, if_pos hs, decide_eq_true hs]
          rw [hv] at C
          have hew : Hid (edgeW T t x = (blocksD x (T s).1 (T s).2).map (fun z => (x, z))) := by show _ = _; unfold edgeW; rw [hat]
          have hmd := hide ((hg.fine s hs).ok.qm)
          have hsum := hide (hg.sum s hs)
          have hLr := hide (fun (w' : World) (k : Below w.heap.size w w') => ((unhide HT).next k).lr s hs)
          have hat2 := hide (fun (w' : World) (k : Below w.heap.size w w') => ((unhide HT).next k).at_ hs)
          have hc1 := hide (fun (w' : World) (k : Below w.heap.size w w') => ((unhide HT).next k).c1)
          have hbl := blocks_len (H := (T s).1) (Q := (T s).2) x
          obtain ⟨BL, hBL⟩ : ∃ BL, BL = blocksD x (T s).1 (T s).2 := ⟨_, rfl⟩
          have hbl4 : BL.length ≤ 399 := by have := unhide hsum; rw [hBL]; omega
          have CB := hide (fun (w' : World) (k : Below w.heap.size w w') => rblocks_any w' (unhide hLr w' k) (unhide hmd) (by have := unhide hsum; omega) x)
          rw [← hBL] at hew CB
          replace hBL := hide hBL
          replace hx := hide hx
          have hs9 : (s : Int) < (t : Int) := by omega
          generalize lookD x (T s).2 = m at C hv
          clear hv hxL hxs hy hyx hat hbl
          go_wp2_with fail
          refine (unhide C).mono ?_
          rintro e w6 ⟨rfl, b4⟩
          clear C
          obtain ⟨W7, hW7⟩ : ∃ W7, W7 = w6.alloc (.cells #[.int .i64 s, .int .i64 m] 39) := ⟨_, rfl⟩
          obtain ⟨p, hp⟩ : ∃ p, p = w6.heap.size := ⟨_, rfl⟩
          have P7 : W7.heap[p]? = some (.cells #[.int .i64 s, .int .i64 m] 39 (0, 0)) := by rw [hW7, hp]; exact heap_alloc_new w6 _
          have bw7 : Below wr.heap.size wr W7 := by rw [hW7]; exact below_add b4 _
          have B7 := hide (bt (unhide b3) bw7 (unhide b3).size)
          have K7 := hide ((unhide k3).trans (Cw.of bw7))
          have P37 := hide ((unhide P3).next bw7)
          have q0 := unhide hc1 W7 (unhide B7)
          have q1 : W7.cell? ⟨p, 0, none⟩ = some (.int .i64 s) := by simp [World.cell?, P7]
          have q2 := unhide hat2 W7 (unhide B7)
          have q3 := (bw7.cell (p := ⟨g, o + i, none⟩) hgw).trans d1
          have z0 : Hid (b < W7.heap.size) := ((unhide HT).next (unhide B7)).lt
          have z1 : Hid (p < W7.heap.size) := heap_lt P7
          have z2 : Hid (rb < W7.heap.size) := ((unhide HT).next (unhide B7)).rlt
          have z3 : Hid (g < W7.heap.size) := Nat.lt_of_lt_of_le hgw bw7.size
          replace hp := hide hp
          replace hW7 := hide hW7
          clear P7 bw7 b4 d1
          go_wp2_with fail
          rw [← unhide hp, ← unhide hW7]
          have B7d := hide ((unhide B7).drew)
          go_region_held3 (fun wz => wz.cell? ⟨b, 1, none⟩ = some (.slice (some ⟨rb, 0, none⟩) t c) ∧ wz.cell? ⟨p, 0, none⟩ = some (.int .i64 s) ∧ wz.cell? ⟨rb, s, none⟩ = some (.pointer (some ⟨lb s, 0, none⟩)) ∧ wz.cell? ⟨g, o + i, none⟩ = some (.int .i64 x))
            (first | exact ⟨q0, q1, q2, q3⟩ | exact ⟨n0, n1, n2, n3⟩)
            (first | (go_at_call 54; refine Calls.mono (unhide CB _ (unhide B7d)) ?_; rintro e w8 ⟨v8, rfl, I8, b8⟩; have n0 := (b8.cell (p := ⟨b, 1, none⟩) (unhide z0)).trans q0; have n1 := (b8.cell (p := ⟨p, 0, none⟩) (unhide z1)).trans q1; have n2 := (b8.cell (p := ⟨rb, s, none⟩) (unhide z2)).trans q2; have n3 := (b8.cell (p := ⟨g, o + i, none⟩) (unhide z3)).trans q3; replace I8 := hide I8; replace b8 := hide b8))
          have b8w : Below W7.heap.size W7 w8 := ⟨(unhide b8).os, (unhide b8).tape, (unhide b8).output, (unhide b8).size, (unhide b8).block⟩
          have K8 := hide ((unhide K7).trans (Cw.of b8w))
          have P38 := hide ((unhide P37).next b8w)
          have B8 := hide (bt (unhide B7) b8w (unhide B7).size)
          have hws : Hid (w.heap.size ≤ W7.heap.size) := (unhide B7).size
          obtain ⟨a8, c8, e8⟩ := (unhide I8).form
          subst e8
          have I9 := hide ((unhide I8).down (show w.heap.size ≤ W7.drew.heap.size from unhide hws))
          have hl9 : Hid (((L.take i).flatMap (edgeW T t)).length = no) := hl
          obtain ⟨F, hF⟩ : ∃ F, F = (L.take i).flatMap (edgeW T t) := ⟨_, rfl⟩
          rw [← hF] at hst P38 hl9
          replace hF := hide hF
          have hno9 : no ≤ 320000 := by omega
          clear q0 q1 q2 q3 n0 n1 n2 n3 b8w I8 b8 P37 K7 B7 P3 k3 b3 B7d hl
          go_wp2_with fail
          go_loopw [6, 11] (fun s6 s11 wx => ∃ (k : Nat) (a2 : Option Addr) (c2 : Nat) (wz : World), k ≤ BL.length ∧ s6 = .slice a2 (no + k) c2 ∧ s11 = .int .i64 k ∧ wz = wx ∧ Hid (Pr 87 w.heap.size (.slice a2 (no + k) c2) (F ++ (BL.take k).map (fun z => ((x, z) : En))) wz) ∧ Hid (Cw w8 wz) ∧ Hid (Below w.heap.size w wz)) (fun _ s11 _ => BL.length - (intOf s11).toNat)
          case atStart => exact ⟨0, ao, co, _, Nat.zero_le _, rfl, rfl, rfl, by rw [List.take_zero, List.map_nil, List.append_nil]; exact unhide P38, Cw.refl _, unhide B8⟩
          case round =>
            obtain ⟨k, a2, c2, wx, hk, rfl, rfl, hwz, P4, k4, b4⟩ := hrel
            subst hwz
            by_cases hkb : k < BL.length
            · obtain ⟨g8, o8, rfl, m1, _⟩ := ((unhide k4).is (unhide I9)).elem' hkb
              obtain ⟨g0, o0, e0, m0, _⟩ := (((unhide K8).trans (unhide k4)).is (unhide I6)).elem' hlt2
              obtain ⟨rfl, rfl⟩ : g = g0 ∧ o = o0 := by simpa using e0
              rw [← unhide hx] at m0
              have hmt := hide (map_take x BL k hkb)
              generalize BL.getD k 0 = y2 at m1 hmt
              have I2 := hide ((unhide P4).next (below_dnew wx (.cells #[.int .i64 x, .int .i64 y2] 87)))
              have hb5 : Hid (w.heap.size ≤ (wx.drew.alloc (.cells #[.int .i64 x, .int .i64 y2] 87)).heap.size) := Nat.le_trans (unhide b4).size (below_dnew wx _).size
              have hlen2 : Hid ((F ++ (BL.take k).map (fun z => ((x, z) : En))).length + 1 = no + k + 1) := by show _ = _; rw [List.length_append, List.length_map, List.length_take, unhide hl9]; omega
              have hk9 : Hid (no + k + 1 < 100000000) := by show _ < _; omega
              have kn : Hid (∀ W', (wx.drew.alloc (.cells #[.int .i64 x, .int .i64 y2] 87)).grownBy W' (Value.slice a2 (no + k) c2).ownBlock → Cw w8 W' ∧ Below w.heap.size w W') := fun W' hg' => ⟨(unhide k4).trans ((Cw.of (below_dnew wx _)).trans (Cw.row (unhide I2) hg')), (unhide b4).trans (grown_below (grown_trans (grown_of_below (below_dnew wx _) _) hg') (unhide b4).size (fun j hj => ((unhide P4).lt j hj).1))⟩
              clear e0
              go_wp2_with fail
              go_region_law (refine step_newE rfl (.tmp 89) (.tmp 99) rfl w.heap.size (.slice a2 (no + k) c2) (F ++ (BL.take k).map (fun z => ((x, z) : En))) [(x, y2)] 1 (no + k + 1) rfl (unhide I2) wx.heap.size rfl (heap_dnew wx _ _) rfl (unhide hlen2) (by decide) (unhide hb5) (unhide hk9) ?_; intro g5 cap5 w5' a1' a2'; have kn5 := unhide kn _ a2'; replace kn5 := hide kn5; replace a1' := hide a1'; clear a2')
              all_goals
                go_wp2
                go_roundw
                case rel => exact ⟨k + 1, some ⟨g5, 0, none⟩, cap5, _, by omega, rfl, by go_num, rfl, by rw [unhide hmt, ← List.append_assoc]; exact unhide a1', (unhide kn5).1, (unhide kn5).2⟩
                case measure => simp [intOf] <;> omega
            · obtain rfl : k = BL.length := by omega
              have hF2 : Hid ((L.take (i + 1)).flatMap (edgeW T t) = F ++ (BL.take BL.length).map (fun z => ((x, z) : En))) := by show _ = _; rw [List.take_length, unhide hst, unhide hew]
              go_wp2
              go_roundw
              case rel => exact ⟨i + 1, no + BL.length, a2, c2, by omega, rfl, by go_num, by omega, by show _ = _; rw [unhide hF2, List.length_append, List.length_map, List.take_length, unhide hl9], by rw [unhide hF2]; exact unhide P4, (unhide K8).trans (unhide k4), unhide b4⟩
              case measure => simp [intOf]; omega
        · obtain rfl : i = L.length := by omega
          rw [List.take_length] at P3
          go_wp2
          go_ret
          exact ⟨_, rfl, by rw [unhide hLe]; exact unhide P3, unhide b3⟩
end Go.Proofs.YtgiklggnolbiiaaGreat

/- The reference: SameLocks, SameEdges of two equal rows. -/
namespace Go.Proofs.YtgiklggnolbiiaaGreat
open Go.RowKit

set_option maxRecDepth 100000 in
set_option maxHeartbeats 1000000 in
/-- SameLocks of two equal rows. -/
theorem rlocks_yes (u v : Value) (l : List En) {B B' : Nat} (w : World) (hu : Pr 39 B u l w) (hv : Pr 39 B' v l w) (hn : l.length < 10000000) :
    Calls Tryz.prog 17 #[u, v] w fun e w' => e = .returned (.bool true) ∧ Below w.heap.size w w' := by
  obtain ⟨a1, c1, rfl⟩ := hu.form
  obtain ⟨a2, c2, rfl⟩ := hv.form
  replace hu := hide hu
  replace hv := hide hv
  go_enter Tryz.func17, Tryz.ntmps17
  go_wp2_with fail
  go_loopw [5] (fun s wr => ∃ i : Nat, i ≤ l.length ∧ s = .int .i64 i ∧ Hid (Below w.heap.size w wr)) (fun s _ => l.length - (intOf s).toNat)
  case atStart => exact ⟨0, Nat.zero_le _, rfl, Below.refl _ _⟩
  case round =>
    obtain ⟨i, hi, rfl, b3⟩ := hrel
    by_cases hlt : i < l.length
    · obtain ⟨g1, rfl, d1, d2, _⟩ := ((unhide hu).next (unhide b3)).elem hlt
      obtain ⟨g2, rfl, d3, d4, _⟩ := ((unhide hv).next (unhide b3)).elem hlt
      obtain ⟨x, hx⟩ : ∃ x, x = l.getD i (0, 0) := ⟨_, rfl⟩
      rw [← hx] at d1 d2 d3 d4
      replace hx := hide hx
      obtain ⟨x1, x2⟩ := x
      dsimp only at d1 d2 d3 d4
      go_wp2_with fail
      go_region
      all_goals
        go_wp2
        go_roundw
        case rel => exact ⟨i + 1, by omega, by go_num, (unhide b3).drew⟩
        case measure => simp [intOf]; omega
    · obtain rfl : i = l.length := by omega
      go_wp2
      go_ret
      exact ⟨rfl, unhide b3⟩
set_option maxRecDepth 100000 in
set_option maxHeartbeats 1000000 in
/-- SameEdges of two equal rows. -/
theorem redges_yes (u v : Value) (l : List En) {B B' : Nat} (w : World) (hu : Pr 87 B u l w) (hv : Pr 87 B' v l w) (hn : l.length < 10000000) :
    Calls Tryz.prog 20 #[u, v] w fun e w' => e = .returned (.bool true) ∧ Below w.heap.size w w' := by
  obtain ⟨a1, c1, rfl⟩ := hu.form
  obtain ⟨a2, c2, rfl⟩ := hv.form
  replace hu := hide hu
  replace hv := hide hv
  go_enter Tryz.func20, Tryz.ntmps20
  go_wp2_with fail
  go_loopw [5] (fun s wr => ∃ i : Nat, i ≤ l.length ∧ s = .int .i64 i ∧ Hid (Below w.heap.size w wr)) (fun s _ => l.length - (intOf s).toNat)
  case atStart => exact ⟨0, Nat.zero_le _, rfl, Below.refl _ _⟩
  case round =>
    obtain ⟨i, hi, rfl, b3⟩ := hrel
    by_cases hlt : i < l.length
    · obtain ⟨g1, rfl, d1, d2, _⟩ := ((unhide hu).next (unhide b3)).elem hlt
      obtain ⟨g2, rfl, d3, d4, _⟩ := ((unhide hv).next (unhide b3)).elem hlt
      obtain ⟨x, hx⟩ : ∃ x, x = l.getD i (0, 0) := ⟨_, rfl⟩
      rw [← hx] at d1 d2 d3 d4
      replace hx := hide hx
      obtain ⟨x1, x2⟩ := x
      dsimp only at d1 d2 d3 d4
      go_wp2_with fail
      go_region
      all_goals
        go_wp2
        go_roundw
        case rel => exact ⟨i + 1, by omega, by go_num, (unhide b3).drew⟩
        case measure => simp [intOf]; omega
    · obtain rfl : i = l.length := by omega
      go_wp2
      go_ret
      exact ⟨rfl, unhide b3⟩
end Go.Proofs.YtgiklggnolbiiaaGreat

/- The reference's table: a new one. -/
namespace Go.Proofs.YtgiklggnolbiiaaGreat
open Go.RowKit

/-- The pointers to the first t lanes. -/
def ptrs (lb : Nat → Nat) (t : Nat) : List Value := (List.range t).map fun i => .pointer (some ⟨lb i, 0, none⟩)
theorem ptrs_len (lb : Nat → Nat) (t : Nat) : (ptrs lb t).length = t := by simp [ptrs]
theorem ptrs_at (lb : Nat → Nat) {t i : Nat} (h : i < t) : (ptrs lb t)[i]? = some (.pointer (some ⟨lb i, 0, none⟩)) := by simp [ptrs, h]
theorem ptrs_succ (lb : Nat → Nat) (t : Nat) : ptrs lb (t + 1) = ptrs lb t ++ [.pointer (some ⟨lb t, 0, none⟩)] := by simp [ptrs, List.range_succ]
theorem ptrs_same {lb lb' : Nat → Nat} {t : Nat} (h : ∀ i, i < t → lb i = lb' i) : ptrs lb t = ptrs lb' t := by
  unfold ptrs
  refine List.map_congr_left fun i hi => ?_
  rw [h i (List.mem_range.1 hi)]
theorem own_ty {base : Nat} {e : TypeId} {size : Nat} {v : Value} {n : Nat} {xs : List Value} {w : World} (h : w.ownsRow base e size v n xs) : ∀ g, v.ownBlock = some g → ∃ cur, w.heap[g]? = some (.cells cur e (0, 0)) := by
  rcases h.2 with ⟨rfl, _⟩ | ⟨g, cap, cur, rfl, _, hg, _⟩
  · intro k hk; cases hk
  · intro k hk
    obtain rfl : g = k := by simpa [Value.ownBlock] using hk
    exact ⟨_, hg⟩
theorem own_keep {base : Nat} {e : TypeId} {size : Nat} {v : Value} {n : Nat} {xs : List Value} {w w' : World} (h : w.ownsRow base e size v n xs) (k : ∀ g, v.ownBlock = some g → w'.heap[g]? = w.heap[g]?) : w'.ownsRow base e size v n xs := by
  refine ⟨h.1, ?_⟩
  rcases h.2 with h0 | ⟨g, cap, cur, rfl, hB, hg, r⟩
  · exact .inl h0
  · exact .inr ⟨g, cap, cur, rfl, hB, (k g rfl).trans hg, r⟩
theorem inf62 : (Tryz.prog.info? 62).map (fun i => (i.zero, i.size, i.bytes)) = some (some (.pointer none), 1, 8) := by kernel_rfl
/-- One pointer more, behind the others. -/
theorem wpList_ptr (w : World) {ops : Array Oper} {rest : List Oper} {o : Oper} {a : Act} {Q : Exit → Act → World → Prop} (hgd : o.guard = none) (s x : Operand)
    (ho : o.op = .call { callee := .builtin .append, args := #[s, x], argTypes := #[63, 63] }) (base : Nat) (ag : Option Addr) (n cg : Nat) (l : List Value) (p : Nat)
    (N : Nat) (hs : a.eval s = .slice ag n cg) (hx : a.eval x = .slice (some ⟨N, 0, none⟩) 1 1) (hN : w.heap.size = N) (hown : w.ownsRow base 62 1 (.slice ag n cg) n l) (hb : base ≤ w.heap.size) (hm : n < 10000000)
    (h : ∀ g cap w', w'.ownsRow base 62 1 (.slice (some ⟨g, 0, none⟩) (n + 1) cap) (n + 1) (l ++ [.pointer (some ⟨p, 0, none⟩)]) → w.grownBy w' (Value.slice ag n cg).ownBlock → wpList Tryz.prog ops Q rest (a.put o.dst (.slice (some ⟨g, 0, none⟩) (n + 1) cap)) w') :
    wpList Tryz.prog ops Q (o :: rest) a (w.alloc (.cells #[.pointer (some ⟨p, 0, none⟩)] 62)) := by
  subst hN
  obtain ⟨i3, hi3, hz0, hz1, hz2⟩ := info_parts inf62
  have B5 := below_new w (.cells #[.pointer (some ⟨p, 0, none⟩)] 62)
  have own5 : (w.alloc (.cells #[.pointer (some ⟨p, 0, none⟩)] 62)).ownsRow base 62 1 (.slice ag n cg) n l := hown.alloc _
  refine wpList_append_lies _ hgd s x 63 ho base 62 i3 _ 1 8 Tryz.underlying63 hi3 hz0 hz1 hz2 rfl (by decide) _ n _ hs own5 ⟨w.heap.size, 0, none⟩ 1 1 [.pointer (some ⟨p, 0, none⟩)] hx rfl (World.news_of_block (heap_alloc_new w _)) (fun u hu => by rw [List.mem_singleton.1 hu]; rfl) (by decide) (by unfold maxLen; omega) (by omega) (Nat.le_trans hb B5.size) _ rfl ?_
  intro g cap w' a1 a2 _ _
  exact h g cap w' a1 (grown_trans (grown_of_below B5 _) a2)
/-- The lanes so far. -/
structure Nr (P : Nat) (most : Int) (t b cg : Nat) (ag : Option Addr) (lb : Nat → Nat) (w : World) : Prop where
  blk : w.heap[b]? = some (.cells #[.int .i64 most, .slice ag t cg] 65 (0, 0))
  row : w.ownsRow P 62 1 (.slice ag t cg) t (ptrs lb t)
  lr : ∀ i, i < t → Lr P [] [] (lb i) (.slice none 0 0) (.slice none 0 0) w
  inj : ∀ i j, i < t → j < t → lb i = lb j → i = j
  bB : P ≤ b
theorem Nr.next {P : Nat} {most : Int} {t b cg : Nat} {ag : Option Addr} {lb : Nat → Nat} {w w' : World} (h : Nr P most t b cg ag lb w) (k : Below w.heap.size w w') : Nr P most t b cg ag lb w' :=
  ⟨(k.block b (heap_lt h.blk)).trans h.blk, own_keep h.row fun g hg => k.block g (h.row.lt g hg).2, fun i hi => (h.lr i hi).next k, h.inj, h.bB⟩
theorem nr_step {P : Nat} {most : Int} {t b cg : Nat} {ag : Option Addr} {lb : Nat → Nat} {wr w1 w' : World} (h : Nr P most t b cg ag lb wr) (hw1 : w1 = wr.alloc (.cells #[.slice none 0 0, .slice none 0 0] 61)) (hP : P ≤ wr.heap.size) {g cap : Nat}
    (a1 : w'.ownsRow P 62 1 (.slice (some ⟨g, 0, none⟩) (t + 1) cap) (t + 1) (ptrs lb t ++ [.pointer (some ⟨wr.heap.size, 0, none⟩)])) (a2 : w1.grownBy w' (Value.slice ag t cg).ownBlock) :
    Nr P most (t + 1) b cap (some ⟨g, 0, none⟩) (set1 lb t wr.heap.size) (w'.setCell ⟨b, 1, none⟩ (.slice (some ⟨g, 0, none⟩) (t + 1) cap)) ∧ (∃ x, w'.cell? ⟨b, 1, none⟩ = some x) ∧ w'.frozen? ⟨b, 1, none⟩ = false := by
  have bw : Below wr.heap.size wr w1 := by rw [hw1]; exact below_new _ _
  have h1 := h.next bw
  have L1 : Lr P [] [] wr.heap.size (.slice none 0 0) (.slice none 0 0) w1 := ⟨by rw [hw1]; exact heap_alloc_new _ _, .inl ⟨rfl, rfl⟩, .inl ⟨rfl, rfl⟩, hP⟩
  have keep : ∀ (k : Nat) (cur : Array Value) (ty : TypeId), w1.heap[k]? = some (Obj.cells cur ty (0, 0)) → ty ≠ 62 → w'.heap[k]? = some (Obj.cells cur ty (0, 0)) := fun k cur ty hk ht =>
    (a2.block k (heap_lt hk) (fun e => by
      obtain ⟨c, hc⟩ := own_ty h1.row k e.symm
      rw [hk] at hc
      cases hc
      exact ht rfl)).trans hk
  have b7 := keep b _ _ h1.blk (by decide)
  have hset : ∀ k, k ≠ b → (w'.setCell ⟨b, 1, none⟩ (.slice (some ⟨g, 0, none⟩) (t + 1) cap)).heap[k]? = w'.heap[k]? := fun k hk => set_other _ _ _ _ _ hk
  have lane : ∀ {p : Nat} {u v : Value}, Lr P [] [] p u v w1 → u = .slice none 0 0 → v = .slice none 0 0 → Lr P [] [] p u v (w'.setCell ⟨b, 1, none⟩ (.slice (some ⟨g, 0, none⟩) (t + 1) cap)) := fun {p u v} l e1 e2 => by
    have hpb : p ≠ b := fun e => by have := l.blk; rw [e, h1.blk] at this; cases this
    exact ⟨(hset p hpb).trans (keep p _ _ l.blk (by decide)), .inl ⟨e1, rfl⟩, .inl ⟨e2, rfl⟩, l.bB⟩
  refine ⟨⟨?_, ?_, fun i hi => ?_, fun i j hi hj e => ?_, h.bB⟩, ⟨.slice ag t cg, by simp [World.cell?, b7]⟩, by simp [World.frozen?, b7]⟩
  · show (w'.heap.modify b _)[b]? = _
    rw [Array.getElem?_modify, if_pos rfl, b7]; rfl
  · have e : ptrs (set1 lb t wr.heap.size) (t + 1) = ptrs lb t ++ [.pointer (some ⟨wr.heap.size, 0, none⟩)] := by
      rw [ptrs_succ, set1_same, ptrs_same (lb := set1 lb t wr.heap.size) (lb' := lb) (fun i hi => set1_other lb _ (by omega))]
    rw [e]
    refine own_keep a1 fun k hk => hset k (fun e => ?_)
    obtain ⟨c, hc⟩ := own_ty a1 k hk
    rw [e, b7] at hc
    cases hc
  · by_cases e : i = t
    · subst e
      rw [set1_same]
      exact lane L1 rfl rfl
    · rw [set1_other lb _ e]
      exact lane (h1.lr i (by omega)) rfl rfl
  · by_cases e1 : i = t
    · by_cases e2 : j = t
      · omega
      · subst e1
        rw [set1_same, set1_other lb _ e2] at e
        have := (h.lr j (by omega)).lt
        omega
    · by_cases e2 : j = t
      · subst e2
        rw [set1_same, set1_other lb _ e1] at e
        have := (h.lr i (by omega)).lt
        omega
      · rw [set1_other lb _ e1, set1_other lb _ e2] at e
        exact h.inj i j (by omega) (by omega) e
theorem nr_end {P : Nat} {most : Int} {n b cg : Nat} {ag : Option Addr} {lb : Nat → Nat} {w : World} (h : Nr P most n b cg ag lb w) (hn : 0 < n) : ∃ rb, ag = some ⟨rb, 0, none⟩ ∧ Rt P n most none0 b rb cg lb (fun _ => .slice none 0 0) (fun _ => .slice none 0 0) w := by
  have key := h.row
  rcases h.row.2 with ⟨e, e2⟩ | ⟨g, cap, cur, e, hB, hg, h3, h4, h5, h6⟩
  · injection e with e1 e3 e4
    omega
  · injection e with e1 e3 e4
    subst e4
    refine ⟨g, e1, ⟨by rw [← e1]; exact h.blk, ⟨cur, hg, fun i hi => ?_⟩, fun i hi => h.lr i hi, fun i _ k hk => (by cases hk), fun i _ => List.Pairwise.nil, h.inj, fun i j _ _ _ k hk => (by rcases hk with hk | hk <;> cases hk), h.bB, hB⟩⟩
    rw [e1] at key
    have := key.cellAt i (by omega)
    rw [ptrs_at lb hi] at this
    simpa [World.cell?, hg] using this
set_option maxRecDepth 100000 in
set_option maxHeartbeats 4000000 in
theorem rnew_t (n : Nat) (most : Int) (w : World) (h1 : 1 ≤ n) (h2 : n ≤ 10000) (h3 : 1 ≤ most) (h4 : most ≤ 4096) :
    Calls Tryz.prog 7 #[.int .i64 (n : Int), .int .i64 most] w fun e w' => ∃ b rb c lb, e = .returned (.tuple #[.pointer (some ⟨b, 0, none⟩), .int .i64 0]) ∧ Rt w.heap.size n most none0 b rb c lb (fun _ => .slice none 0 0) (fun _ => .slice none 0 0) w' ∧ Below w.heap.size w w' := by
  obtain ⟨P, hP⟩ : ∃ P, P = w.heap.size := ⟨_, rfl⟩
  have hh1 : (n : Int) ≥ 1 := by omega
  have hh2 : (n : Int) ≤ 10000 := by omega
  have N0 : Hid (Nr P most 0 w.heap.size 0 none (fun _ => 0) (w.alloc (.cells #[.int .i64 most, .slice none 0 0] 65))) := ⟨heap_alloc_new _ _, World.ownsRow_nil _ _ _ _, fun i hi => by omega, fun i j hi => by omega, by rw [hP]; exact Nat.le_refl _⟩
  have B0 : Hid (Below P w (w.alloc (.cells #[.int .i64 most, .slice none 0 0] 65))) := by rw [hP]; exact below_new _ _
  go_enter Tryz.func7, Tryz.ntmps7
  go_wp2_with fail
  go_loopw [7] (fun s7 wr => ∃ (t cg : Nat) (ag : Option Addr) (lb : Nat → Nat), t ≤ n ∧ s7 = .int .i64 t ∧ Hid (Nr P most t w.heap.size cg ag lb wr) ∧ Hid (Below P w wr)) (fun s7 _ => n - (intOf s7).toNat)
  case atStart => exact ⟨0, 0, none, _, Nat.zero_le _, rfl, unhide N0, unhide B0⟩
  case round =>
    obtain ⟨t, cg, ag, lb, ht, rfl, N3, b3⟩ := hrel
    by_cases hlt : t < n
    · have c1 : wr.cell? ⟨w.heap.size, 1, none⟩ = some (.slice ag t cg) := by have := (unhide N3).blk; simp [World.cell?, this]
      have hPw : Hid (P ≤ wr.heap.size) := by have := (unhide b3).size; rw [hP]; exact this
      obtain ⟨w1, hw1⟩ : ∃ w1, w1 = wr.alloc (.cells #[.slice none 0 0, .slice none 0 0] 61) := ⟨_, rfl⟩
      have bw : Below wr.heap.size wr w1 := by rw [hw1]; exact below_new _ _
      have N1 := hide ((unhide N3).next bw)
      have B1 := hide ((unhide b3).trans (bw.mono (unhide hPw)))
      have hP1 : Hid (P ≤ w1.heap.size) := Nat.le_trans (unhide hPw) bw.size
      have c2 : (wr.alloc (.cells #[.slice none 0 0, .slice none 0 0] 61)).cell? ⟨w.heap.size, 1, none⟩ = some (.slice ag t cg) := by rw [← hw1]; have := (unhide N1).blk; simp [World.cell?, this]
      clear bw
      replace hP := hide hP
      have ht9 : t < 10000000 := by omega
      have st := hide (fun (g cap : Nat) (w' : World) => nr_step (g := g) (cap := cap) (w' := w') (unhide N3) hw1 (unhide hPw))
      rw [hw1] at N1 B1 hP1 st
      clear hw1
      go_wp2_with (at_builtin; refine wpList_ptr (wr.alloc (.cells #[.slice none 0 0, .slice none 0 0] 61)) rfl (.tmp 34) (.tmp 37) rfl P ag t cg (ptrs lb t) wr.heap.size _ rfl rfl (by simp) (unhide N1).row (unhide hP1) ht9 ?_; intro g7 cap7 w7 a1 a2; obtain ⟨N7, ⟨x7, k1⟩, k2⟩ := unhide st g7 cap7 w7 a1 a2; replace N7 := hide N7; have B7 := hide (((unhide B1).trans (grown_below a2 (unhide hP1) (fun j hj => ((unhide N1).row.lt j hj).1))).setCell (p := ⟨w.heap.size, 1, none⟩) (Nat.le_of_eq (unhide hP)) (.slice (some ⟨g7, 0, none⟩) (t + 1) cap7)); clear a1 a2 c2)
      go_roundw
      case rel => exact ⟨t + 1, cap7, some ⟨g7, 0, none⟩, _, by omega, by go_num, unhide N7, unhide B7⟩
      case measure => simp [intOf]; omega
    · obtain rfl : t = n := by omega
      obtain ⟨rb, rfl, R⟩ := nr_end (unhide N3) h1
      replace R := hide R
      replace hP := hide hP
      go_wp2
      go_ret2
      have R2 := unhide R
      have B2 := unhide b3
      rw [unhide hP] at R2 B2
      exact ⟨_, rfl, ⟨rb, cg, lb, R2⟩, B2⟩
set_option maxRecDepth 100000 in
theorem rnew_bad (n most : Int) (w : World) (h : n < 1 ∨ (n ≤ 10000 ∧ 1 ≤ n ∧ most < 1) ∨ 10000 < n ∨ (1 ≤ n ∧ n ≤ 10000 ∧ 4096 < most)) :
    Calls Tryz.prog 7 #[.int .i64 n, .int .i64 most] w fun e w' => e = .returned (.tuple #[.pointer none, .int .i64 1]) ∧ w' = w := by
  rcases h with h | ⟨h, h2, h3⟩ | h | ⟨h, h2, h3⟩
  all_goals
    go_enter Tryz.func7, Tryz.ntmps7
    go_wp2
    go_ret2
    exact ⟨rfl, rfl⟩
end Go.Proofs.YtgiklggnolbiiaaGreat

/- The program's table and the reference's beside each other. -/
namespace Go.Proofs.YtgiklggnolbiiaaGreat
open Go.RowKit
variable {N n : Nat} {most : Int} {T1 T2 : Nat → Lv} {b rb : Nat} {lb : Nat → Nat} {hv qv : Nat → Value} {b2 rb2 c2 : Nat} {lb2 : Nat → Nat} {hv2 qv2 : Nat → Value} {w w' : World}

/-- Both tables, apart from each other. -/
structure Bt (N n : Nat) (most : Int) (T1 T2 : Nat → Lv) (b rb : Nat) (lb : Nat → Nat) (hv qv : Nat → Value) (b2 rb2 c2 : Nat) (lb2 : Nat → Nat) (hv2 qv2 : Nat → Value) (w : World) : Prop where
  ta : Tb N n most T1 b rb lb hv qv w
  tr : Rt N n most T2 b2 rb2 c2 lb2 hv2 qv2 w
  ap : ∀ k, OwnT n b rb lb hv qv k → ¬ OwnT n b2 rb2 lb2 hv2 qv2 k
theorem Bt.next (h : Bt N n most T1 T2 b rb lb hv qv b2 rb2 c2 lb2 hv2 qv2 w) (k : Below w.heap.size w w') : Bt N n most T1 T2 b rb lb hv qv b2 rb2 c2 lb2 hv2 qv2 w' := ⟨h.ta.next k, h.tr.next k, h.ap⟩
theorem Bt.low (h : Bt N n most T1 T2 b rb lb hv qv b2 rb2 c2 lb2 hv2 qv2 w) : N ≤ w.heap.size := h.ta.low
theorem Tb.ownlt (h : Tb N n most T1 b rb lb hv qv w) {k : Nat} (hk : OwnT n b rb lb hv qv k) : k < w.heap.size := by
  rcases hk with rfl | rfl | ⟨i, hi, rfl | e | e⟩
  · exact h.lt
  · exact h.rlt
  · exact (h.ls.la i hi).lt
  · exact ((h.ls.la i hi).hr.lt k e).2
  · exact ((h.ls.la i hi).qr.lt k e).2
theorem Rt.ownlt (h : Rt N n most T2 b2 rb2 c2 lb2 hv2 qv2 w) {k : Nat} (hk : OwnT n b2 rb2 lb2 hv2 qv2 k) : k < w.heap.size := by
  rcases hk with rfl | rfl | ⟨i, hi, rfl | e | e⟩
  · exact h.lt
  · exact h.rlt
  · exact (h.lr i hi).lt
  · exact ((h.lr i hi).hr.lt k e).2
  · exact ((h.lr i hi).qr.lt k e).2
/-- What the reference has, and an operation's box. -/
def XA (n b2 rb2 : Nat) (lb2 : Nat → Nat) (hv2 qv2 : Nat → Value) (p : Nat) (j : Nat) : Prop := OwnT n b2 rb2 lb2 hv2 qv2 j ∨ j = p
theorem Bt.fnA (h : Bt N n most T1 T2 b rb lb hv qv b2 rb2 c2 lb2 hv2 qv2 w) {p : Nat} {cur : Array Value} (ob : w.heap[p]? = some (.cells cur 32 (0, 0))) : Fn (XA n b2 rb2 lb2 hv2 qv2 p) n w.heap.size lb hv qv := fun j hj => by
  rcases hj with hj | rfl
  · refine ⟨h.tr.ownlt hj, fun i hi => ⟨fun e => ?_, fun e => ?_, fun e => ?_⟩⟩
    · exact h.ap j (.inr (.inr ⟨i, hi, .inl e⟩)) hj
    · exact h.ap j (.inr (.inr ⟨i, hi, .inr (.inl e)⟩)) hj
    · exact h.ap j (.inr (.inr ⟨i, hi, .inr (.inr e)⟩)) hj
  · refine ⟨heap_lt ob, fun i hi => ⟨fun e => ?_, es_ne (h.ta.ls.la i hi).hr ob (by decide), es_ne (h.ta.ls.la i hi).qr ob (by decide)⟩⟩
    have := (h.ta.ls.la i hi).blk
    rw [← e, ob] at this
    cases this
theorem Bt.fnR (h : Bt N n most T1 T2 b rb lb hv qv b2 rb2 c2 lb2 hv2 qv2 w) {p : Nat} {cur : Array Value} (ob : w.heap[p]? = some (.cells cur 32 (0, 0))) : Fn (XA n b rb lb hv qv p) n w.heap.size lb2 hv2 qv2 := fun j hj => by
  rcases hj with hj | rfl
  · refine ⟨h.ta.ownlt hj, fun i hi => ⟨fun e => ?_, fun e => ?_, fun e => ?_⟩⟩
    · exact h.ap j hj (.inr (.inr ⟨i, hi, .inl e⟩))
    · exact h.ap j hj (.inr (.inr ⟨i, hi, .inr (.inl e)⟩))
    · exact h.ap j hj (.inr (.inr ⟨i, hi, .inr (.inr e)⟩))
  · refine ⟨heap_lt ob, fun i hi => ⟨fun e => ?_, es_ne (h.tr.lr i hi).hr ob (by decide), es_ne (h.tr.lr i hi).qr ob (by decide)⟩⟩
    have := (h.tr.lr i hi).blk
    rw [← e, ob] at this
    cases this
/-- The program's table was turned. -/
theorem Bt.turnA (h : Bt N n most T1 T2 b rb lb hv qv b2 rb2 c2 lb2 hv2 qv2 w) {T' : Nat → Lv} {hv' qv' : Nat → Value} {p P : Nat} (t : Tb N n most T' b rb lb hv' qv' w') (f : Fn (XA n b2 rb2 lb2 hv2 qv2 p) n P lb hv' qv') (k : Kx (XA n b2 rb2 lb2 hv2 qv2 p) w w') : Bt N n most T' T2 b rb lb hv' qv' b2 rb2 c2 lb2 hv2 qv2 w' := by
  refine ⟨t, h.tr.kx k (fun j hj => .inl hj), fun j hj hr => ?_⟩
  rcases hj with rfl | rfl | ⟨i, hi, e⟩
  · exact h.ap _ (.inl rfl) hr
  · exact h.ap _ (.inr (.inl rfl)) hr
  · obtain ⟨_, f2⟩ := f j (.inl hr)
    rcases e with e | e | e
    · exact (f2 i hi).1 e
    · exact (f2 i hi).2.1 e
    · exact (f2 i hi).2.2 e
/-- The reference's table was turned. -/
theorem Bt.turnR (h : Bt N n most T1 T2 b rb lb hv qv b2 rb2 c2 lb2 hv2 qv2 w) {T' : Nat → Lv} {hv' qv' : Nat → Value} {p P : Nat} (t : Rt N n most T' b2 rb2 c2 lb2 hv' qv' w') (f : Fn (XA n b rb lb hv qv p) n P lb2 hv' qv') (k : Kx (XA n b rb lb hv qv p) w w') : Bt N n most T1 T' b rb lb hv qv b2 rb2 c2 lb2 hv' qv' w' := by
  refine ⟨h.ta.kx k (fun j hj => .inl hj), t, fun j hj hr => ?_⟩
  rcases hr with rfl | rfl | ⟨i, hi, e⟩
  · exact h.ap _ hj (.inl rfl)
  · exact h.ap _ hj (.inr (.inl rfl))
  · obtain ⟨_, f2⟩ := f j (.inl hj)
    rcases e with e | e | e
    · exact (f2 i hi).1 e
    · exact (f2 i hi).2.1 e
    · exact (f2 i hi).2.2 e
theorem bt_new (h : Tb N n most T1 b rb lb hv qv w) (r : Rt w.heap.size n most T2 b2 rb2 c2 lb2 hv2 qv2 w') (hlow : N ≤ w.heap.size) (k : Below w.heap.size w w') : Bt N n most T1 T2 b rb lb hv qv b2 rb2 c2 lb2 hv2 qv2 w' := by
  refine ⟨h.next k, ⟨r.blk, r.row, fun i hi => ⟨(r.lr i hi).blk, ?_, ?_, Nat.le_trans hlow (r.lr i hi).bB⟩, r.dq, r.srt, r.inj, r.apart, Nat.le_trans hlow r.bB, Nat.le_trans hlow r.rB⟩, fun j hj hr => ?_⟩
  · rcases (r.lr i hi).hr with e | ⟨g, cap, e, hB, rr⟩
    · exact .inl e
    · exact .inr ⟨g, cap, e, Nat.le_trans hlow hB, rr⟩
  · rcases (r.lr i hi).qr with e | ⟨g, cap, e, hB, rr⟩
    · exact .inl e
    · exact .inr ⟨g, cap, e, Nat.le_trans hlow hB, rr⟩
  · have h1 := h.ownlt hj
    have h2 : w.heap.size ≤ j := by
      rcases hr with rfl | rfl | ⟨i, hi, rfl | e | e⟩
      · exact r.bB
      · exact r.rB
      · exact (r.lr i hi).bB
      · exact ((r.lr i hi).hr.lt j e).1
      · exact ((r.lr i hi).qr.lt j e).1
    omega
/-- What i operations keep. -/
structure Iv (n : Nat) (most : Int) (i : Nat) (T : Nat → Lv) : Prop where
  on : On n most i T
  tot : totT T n ≤ i
theorem iv_none (n : Nat) {most : Int} (h : 0 ≤ most) : Iv n most 0 none0 := ⟨on_none n 0 h, by rw [tot_none]; exact Nat.le_refl _⟩
theorem iv_ask {i : Nat} {T : Nat → Lv} (who node m : Int) (hs : ∀ i, i < n → Srt (T i).1) (h : Iv n most i T) : Iv n most (i + 1) (askT n most T who node m).2 :=
  ⟨(on_ask who node m hs h.on).1, by have := tot_ask (most := most) who node m hs h.on.gd; have := h.tot; omega⟩
theorem iv_drop {i : Nat} {T : Nat → Lv} (who : Int) (hs : ∀ i, i < n → Srt (T i).1) (h : Iv n most i T) : Iv n most (i + 1) (dropD who T (dn n 0)).2 :=
  ⟨(on_drop who hs h.on).1.up (Nat.le_succ i), by have := tot_drop who hs h.on.gd; have := h.tot; omega⟩
theorem Iv.up {i j : Nat} {T : Nat → Lv} (h : Iv n most i T) (hij : i ≤ j) : Iv n most j T := ⟨h.on.up hij, Nat.le_trans h.tot hij⟩
theorem cells4 {w : World} {p : Nat} {x y z u : Value} {t : TypeId} (h : w.heap[p]? = some (.cells #[x, y, z, u] t (0, 0))) : w.cell? ⟨p, 0, none⟩ = some x ∧ w.cell? ⟨p, 1, none⟩ = some y ∧ w.cell? ⟨p, 2, none⟩ = some z ∧ w.cell? ⟨p, 3, none⟩ = some u := ⟨by simp [World.cell?, h], by simp [World.cell?, h], by simp [World.cell?, h], by simp [World.cell?, h]⟩
/-- Drop at the program's table: what X has stays. -/
theorem drop_x {X : Nat → Prop} {T : Nat → Lv} (w : World) (h : Tb N n most T b rb lb hv qv w) (hg : Gd n 1000 T) (hn : n ≤ 10000) (who : Int) (hX : Fn X n w.heap.size lb hv qv) {r : List Int × (Nat → Lv)} (hr : dropD who T (dn n 0) = r) :
    Calls Tryz.prog 11 #[.pointer (some ⟨b, 0, none⟩), .int .i64 who] w fun e w' => ∃ v, e = .returned v ∧ Is w.heap.size v r.1 w' ∧ (∃ hv' qv', Tb N n most r.2 b rb lb hv' qv' w' ∧ Fn X n w.heap.size lb hv' qv') ∧ Below N w w' ∧ Kx X w w' := by
  subst hr
  refine (drop_t w h hg hn who hX).mono ?_
  rintro e w' ⟨gv, hv', qv', M, h1, h2, h3, h4, h5, h6, h7⟩
  exact ⟨gv, h1, h3.down h2, ⟨_, _, h4, h7⟩, h5, Kx.kr h6⟩
theorem flat_le (f : Nat → List Int) (k : Nat) : ∀ xs : List Nat, (∀ j ∈ xs, (f j).length ≤ k) → (xs.flatMap f).length ≤ xs.length * k
  | [], _ => Nat.zero_le _
  | x :: r, h => by
    have h1 := flat_le f k r fun j hj => h j (List.mem_cons_of_mem _ hj)
    have h2 := h x (List.mem_cons_self ..)
    rw [List.flatMap_cons, List.length_append, List.length_cons, Nat.succ_mul]
    omega
theorem drop_few {k : Nat} {T : Nat → Lv} (who : Int) (hg : Gd n k T) : (dropD who T (dn n 0)).1.length ≤ n * k := by
  have e := drop_flat who T (dn n 0) (dn_nodup n) [] T (fun _ _ => rfl)
  have e2 : (dropD who T (dn n 0)).1 = (dn n 0).flatMap (fun j => (dD who T j).1) := by
    show ((dn n 0).foldl (dropS who) ([], T)).1 = _
    rw [e, List.nil_append]
  rw [e2]
  have h1 := flat_le (fun j => (dD who T j).1) k (dn n 0) (fun j hj => by
    have hjn := dn_mem.1 hj
    show (dD who T j).1.length ≤ k
    unfold dD
    split
    · have h2 := leave_few (who := who) (H := (T j).1) (Q := (T j).2)
      have h3 := hg.sum j hjn
      omega
    · exact Nat.zero_le _)
  rw [dn_len, Nat.sub_zero] at h1
  exact h1
theorem Is.kx {X : Nat → Prop} {B : Nat} {v : Value} {l : List Int} (h : Is B v l w) (k : Kx X w w') (hX : ∀ g, v.ownBlock = some g → X g) : Is B v l w' := h.keep fun g hg => by
  obtain ⟨cur, hc⟩ := h.ty g hg
  exact kx_eq k (hX g hg) hc
/-- Drop at the reference's table: what X has stays, and a row of numbers that was there. -/
theorem rdrop_x {X : Nat → Prop} {T : Nat → Lv} {v : Value} {l : List Int} {B0 : Nat} (w : World) (h : Rt N n most T b2 rb2 c2 lb2 hv2 qv2 w) (hg : Gd n 399 T) (hn : n ≤ 10000) (who : Int) (hX : Fn X n w.heap.size lb2 hv2 qv2) (I : Is B0 v l w) {r : List Int × (Nat → Lv)} (hr : dropD who T (dn n 0) = r) :
    Calls Tryz.prog 12 #[.pointer (some ⟨b2, 0, none⟩), .int .i64 who] w fun e w' => ∃ gv, e = .returned gv ∧ Is w.heap.size gv r.1 w' ∧ (∃ hv' qv', Rt N n most r.2 b2 rb2 c2 lb2 hv' qv' w' ∧ Fn X n w.heap.size lb2 hv' qv') ∧ Below N w w' ∧ Kx X w w' ∧ Is B0 v l w' := by
  have hX' : Fn (fun j => X j ∨ v.ownBlock = some j) n w.heap.size lb2 hv2 qv2 := fun j hj => by
    rcases hj with hj | hj
    · exact hX j hj
    · obtain ⟨cur, hc⟩ := I.ty j hj
      refine ⟨heap_lt hc, fun i hi => ⟨fun e => ?_, es_ne (h.lr i hi).hr hc (by decide), es_ne (h.lr i hi).qr hc (by decide)⟩⟩
      have := (h.lr i hi).blk
      rw [← e, hc] at this
      cases this
  refine (rdrop_t w h hg hn who hX' hr).mono ?_
  rintro e w' ⟨gv, h1, h2, ⟨⟨hv', qv', h3, h4⟩, h5, h6⟩⟩
  exact ⟨gv, h1, h2, ⟨_, _, h3, fun j hj => h4 j (.inl hj)⟩, h5, fun k cur t hk hc => h6 k cur t (.inl hk) hc, I.kx h6 fun g hg => .inr hg⟩
end Go.Proofs.YtgiklggnolbiiaaGreat
