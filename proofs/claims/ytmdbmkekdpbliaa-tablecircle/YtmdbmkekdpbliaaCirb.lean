/- TableCircle, plainly: the edges, and what a Drop does. -/
import Derived.Test.YtmdbmkekdpbliaaCir
namespace Go.Proofs.Ytmdbmkekdpbliaa
open Go.RowKit

theorem edge_pair {j p : Int} (h : p ≠ j) : edgeL [(j, 5)] [(p, 5)] = [(p, j)] := by
  have h1 : blocksD p [(j, 5)] [(p, 5)] = [j] := by
    have := blocks_at (H := [(j, 5)]) (Q := [(p, 5)]) (List.pairwise_singleton _ _) (x := 0) (by simp)
    refine this.trans ?_
    refine canon_one (fun y => ?_)
    have h3 : fitsB 5 5 = false := by decide +kernel
    unfold metD hindD
    simp
    constructor
    · rintro ⟨x, ⟨h1, _⟩, _⟩
      exact h1
    · rintro rfl
      exact ⟨5, ⟨rfl, rfl⟩, fun e => h e.symm, h3⟩
  unfold edgeL edge1
  simp [h1]
theorem cir_raw {n : Nat} (hn : 2 ≤ n) : ∀ m, m ≤ n → rawE (cT n n) m = (List.range m).map (fun j => (((prv n j : Nat) : Int), (j : Int)))
  | 0, _ => rfl
  | m + 1, h => by
    unfold rawE
    rw [cir_raw hn m (by omega), List.range_succ, List.map_append]
    congr 1
    rw [cT_at (by omega : m < n), if_pos (prv_lt (by omega))]
    refine edge_pair ?_
    have := prv_ne hn (by omega : m < n)
    omega
def tgt (n : Nat) : List En := (List.range n).map (fun (i : Nat) => ((i : Int), ((nxt n i : Nat) : Int)))
theorem tgt_perm {n : Nat} (hn : 2 ≤ n) : (rawE (cT n n) n).Perm (tgt n) := by
  rw [cir_raw hn n (Nat.le_refl _)]
  have e : (List.range n).map (fun j => (((prv n j : Nat) : Int), (j : Int))) = ((List.range n).map (prv n)).map (fun (i : Nat) => ((i : Int), ((nxt n i : Nat) : Int))) := by
    rw [List.map_map]
    refine List.map_congr_left (fun j hj => ?_)
    have := nxt_prv (List.mem_range.1 hj)
    show _ = (((prv n j : Nat) : Int), ((nxt n (prv n j) : Nat) : Int))
    rw [this]
  rw [e]
  refine List.Perm.map _ ?_
  obtain ⟨k, rfl⟩ : ∃ k, n = k + 1 := ⟨n - 1, by omega⟩
  have e2 : (List.range (k + 1)).map (prv (k + 1)) = k :: List.range k := by
    rw [List.range_succ_eq_map, List.map_cons, List.map_map]
    have : (List.range k).map (prv (k + 1) ∘ Nat.succ) = List.range k := by
      conv => rhs; rw [← List.map_id (List.range k)]
      exact List.map_congr_left (fun j _ => by simp [prv])
    rw [this]
    simp [prv]
  rw [e2, List.range_succ]
  exact (List.perm_append_singleton k (List.range k)).symm
theorem srt_unique {l m : List En} (hp : l.Perm m) (hs : m.Pairwise (fun a b => a.1 < b.1)) : srtE l = m := by
  refine List.Perm.eq_of_pairwise (le := fun a b => Go.Proofs.ltOf cfE b a = false) (fun a b _ _ h1 h2 => sepE a b h2 h1) ?_ (hs.imp (fun h => by rw [lt_no]; omega)) ((srtE_perm l).trans hp)
  have := List.pairwise_mergeSort (le := fun x y => !(Go.Proofs.ltOf cfE) y x) (fun a b c h1 h2 => by
    rw [Bool.not_eq_true'] at *
    exact swoE.ntrans _ _ _ h2 h1) (fun a b => by
    cases h : Go.Proofs.ltOf cfE b a
    · rfl
    · have h2 : Go.Proofs.ltOf cfE a b = false := by rw [lt_iff] at h; rw [lt_no]; omega
      simp [h2]) l
  exact this.imp (fun h => by simpa using h)
theorem cir_edges {n : Nat} (hn : 2 ≤ n) : edgesD (cT n n) n = tgt n := by
  unfold edgesD
  refine srt_unique (tgt_perm hn) ?_
  unfold tgt
  rw [List.pairwise_map]
  exact (List.pairwise_lt_range (n := n)).imp (fun {a c} (h : a < c) => by show (a : Int) < (c : Int); omega)
theorem tgt_len (n : Nat) : (tgt n).length = n := by simp [tgt]
theorem tgt_at {n i : Nat} (h : i < n) : (tgt n).getD i (0, 0) = ((i : Int), ((nxt n i : Nat) : Int)) := by
  simp [tgt, List.getD, h]
/-- What happens at one lane when who drops. -/
def dD (who : Int) (T : Nat → Lv) (j : Nat) : List Int × Lv := if hasL who (T j) then leaveD who (T j).1 (T j).2 else ([], T j)
theorem drop_flat (who : Int) (T : Nat → Lv) : ∀ (xs : List Nat), xs.Nodup → ∀ (g : List Int) (S : Nat → Lv), (∀ j ∈ xs, S j = T j) → xs.foldl (dropS who) (g, S) = (g ++ xs.flatMap (fun j => (dD who T j).1), fun j => if j ∈ xs then (dD who T j).2 else S j)
  | [], _, g, S, _ => by simp
  | x :: r, hn, g, S, h => by
    obtain ⟨h1, h2⟩ := List.nodup_cons.1 hn
    have e : dropS who (g, S) x = (g ++ (dD who T x).1, upd S x (dD who T x).2) := by
      have hS := h x List.mem_cons_self
      have hu : upd S x (S x) = S := by
        funext j
        unfold upd
        by_cases hj : j = x
        · rw [if_pos hj, hj]
        · rw [if_neg hj]
      unfold dropS dD
      cases hh : hasL who (T x)
      · have hh2 : hasL who (S x) = false := by rw [hS]; exact hh
        simp only [hh2, Bool.false_eq_true, if_false, List.append_nil]
        rw [← hS, hu]
      · simp only [hS, hh, if_true]
    rw [List.foldl_cons, e, drop_flat who T r h2 _ _ (fun j hj => by
      have hne : j ≠ x := fun e => h1 (by rw [← e]; exact hj)
      rw [upd_other S _ hne]
      exact h j (List.mem_cons_of_mem _ hj))]
    rw [List.flatMap_cons, List.append_assoc]
    congr 1
    funext j
    by_cases hj : j ∈ r
    · rw [if_pos hj, if_pos (List.mem_cons_of_mem _ hj)]
    · rw [if_neg hj]
      by_cases hx : j = x
      · subst hx
        rw [upd_same, if_pos List.mem_cons_self]
      · rw [upd_other S _ hx, if_neg (fun e => by rcases List.mem_cons.1 e with e | e; exact hx e; exact hj e)]
theorem dn_nodup (n : Nat) : (dn n 0).Nodup := by
  unfold dn
  rw [List.Nodup, List.pairwise_map]
  refine List.Pairwise.imp_of_mem ?_ (List.pairwise_lt_range (n := n - 0))
  intro a c ha hc h
  have := List.mem_range.1 ha
  have := List.mem_range.1 hc
  omega
theorem flat_none (g : Nat) (w : Int) : ∀ (xs : List Nat), g ∉ xs → xs.flatMap (fun j => if j = g then [w] else []) = []
  | [], _ => rfl
  | x :: r, h => by
    rw [List.flatMap_cons, flat_none g w r (fun e => h (List.mem_cons_of_mem _ e)), if_neg (fun e => h (by rw [e]; exact List.mem_cons_self))]
    rfl
theorem flat_one (g : Nat) (w : Int) : ∀ (xs : List Nat), xs.Nodup → g ∈ xs → xs.flatMap (fun j => if j = g then [w] else []) = [w]
  | [], _, h => by cases h
  | x :: r, hn, h => by
    obtain ⟨h1, h2⟩ := List.nodup_cons.1 hn
    rw [List.flatMap_cons]
    by_cases e : x = g
    · subst e
      rw [if_pos rfl, flat_none x w r h1]; rfl
    · rw [if_neg e, flat_one g w r h2 (by rcases List.mem_cons.1 h with h | h; exact absurd h.symm e; exact h)]
      rfl
/-- Behind the Drop of g. -/
def dT (n g : Nat) : Nat → Lv := fun j => if j = g then ([(((prv n g : Nat) : Int), 5)], []) else if j = nxt n g then ([((j : Int), 5)], []) else cT n n j
theorem leave_own {g w : Int} (h : w ≠ g) : leaveD g [(g, 5)] [(w, 5)] = ([w], [(w, 5)], []) := by
  have hb : (w == g) = false := by simpa using h
  unfold leaveD out1 isWho
  simp [hb, grantD, fitsL, putD, hasD]
theorem leave_wait {g y : Int} (h : y ≠ g) : leaveD g [(y, 5)] [(g, 5)] = ([], [(y, 5)], []) := by
  have hb : (y == g) = false := by simpa using h
  unfold leaveD out1 isWho
  simp [hb, grantD]
theorem cir_dD {n g j : Nat} (hn : 2 ≤ n) (hg : g < n) (hj : j < n) : dD (g : Int) (cT n n) j = (if j = g then [((prv n g : Nat) : Int)] else [], dT n g j) := by
  have hT := cT_at (k := n) hj
  rw [if_pos (prv_lt hj)] at hT
  unfold dD dT
  by_cases e : j = g
  · subst e
    have hh : hasL (j : Int) (cT n n j) = true := by
      rw [hT]
      unfold hasL
      show ((if ((j : Int) == (j : Int)) = true then (5 : Int) else 0) != 0 || _) = true
      simp
    rw [hh, if_pos rfl, if_pos rfl, if_pos rfl, hT]
    exact leave_own (by have := prv_ne hn hj; omega)
  · rw [if_neg e, if_neg e]
    by_cases e2 : j = nxt n g
    · have hp : prv n j = g := by rw [e2]; exact prv_nxt hg
      have hh : hasL (g : Int) (cT n n j) = true := by
        rw [hT, hp]
        unfold hasL
        show (_ || (if ((g : Int) == (g : Int)) = true then (5 : Int) else 0) != 0) = true
        simp
      rw [hh, if_pos rfl, if_pos e2, hT, hp]
      exact leave_wait (by omega)
    · have hp : prv n j ≠ g := fun h => e2 (by rw [← h, nxt_prv hj])
      have hh : hasL (g : Int) (cT n n j) = false := by
        rw [hT]
        unfold hasL
        show ((if ((j : Int) == (g : Int)) = true then (5 : Int) else 0) != 0 || (if (((prv n j : Nat) : Int) == (g : Int)) = true then (5 : Int) else 0) != 0) = false
        have h1 : ((j : Int) == (g : Int)) = false := by simp; omega
        have h2 : (((prv n j : Nat) : Int) == (g : Int)) = false := by simp; omega
        rw [h1, h2]; rfl
      rw [hh, if_neg e2]
      rfl
theorem cir_drop {n g : Nat} (hn : 2 ≤ n) (hg : g < n) : dropD (g : Int) (cT n n) (dn n 0) = ([((prv n g : Nat) : Int)], dT n g) := by
  unfold dropD
  rw [drop_flat (g : Int) (cT n n) (dn n 0) (dn_nodup n) [] (cT n n) (fun _ _ => rfl)]
  have h1 : (dn n 0).flatMap (fun j => (dD (g : Int) (cT n n) j).1) = (dn n 0).flatMap (fun j => if j = g then [((prv n g : Nat) : Int)] else []) := by
    rw [List.flatMap_def, List.flatMap_def]
    congr 1
    exact List.map_congr_left (fun j hj => by rw [cir_dD hn hg (dn_lt hj)])
  rw [h1, flat_one g _ _ (dn_nodup n) (dn_all.2 hg)]
  congr 1
  funext j
  by_cases hj : j ∈ dn n 0
  · rw [if_pos hj, cir_dD hn hg (dn_lt hj)]
  · rw [if_neg hj]
    have : ¬ j < n := fun h => hj (dn_all.2 h)
    have h2 := nxt_lt hg
    unfold dT
    rw [if_neg (by omega), if_neg (by omega)]
theorem dT_good {n g : Nat} (hn : 2 ≤ n) : Gd n 2 (dT n g) := by
  have G := cT_good (k := n) hn
  refine ⟨fun j hj => ?_, fun j hj => ?_⟩
  · unfold dT
    by_cases e : j = g
    · rw [if_pos e]; exact fine_own _
    · rw [if_neg e]
      by_cases e2 : j = nxt n g
      · rw [if_pos e2]; exact fine_own _
      · rw [if_neg e2]; exact G.fine j hj
  · unfold dT
    by_cases e : j = g
    · rw [if_pos e]; show 1 + 0 ≤ 2; decide
    · rw [if_neg e]
      by_cases e2 : j = nxt n g
      · rw [if_pos e2]; show 1 + 0 ≤ 2; decide
      · rw [if_neg e2]; exact G.sum j hj
theorem dT_none {n g : Nat} (hg : g < n) : atW ((prv n g : Nat) : Int) (dT n g) n = n := by
  refine at_none (fun j hj => ?_)
  unfold dT
  by_cases e : j = g
  · rw [if_pos e]; rfl
  · rw [if_neg e]
    by_cases e2 : j = nxt n g
    · rw [if_pos e2]; rfl
    · rw [if_neg e2, cT_looks _ hj, if_neg]
      rintro ⟨_, h⟩
      apply e
      rw [← nxt_prv hj, h, nxt_prv hg]
theorem dT_holds (n g : Nat) : lookD ((prv n g : Nat) : Int) (dT n g g).1 = 5 := by
  unfold dT
  rw [if_pos rfl]
  show (if (((prv n g : Nat) : Int) == ((prv n g : Nat) : Int)) = true then (5 : Int) else 0) = 5
  simp
theorem cnt_eq {a : Nat} : ∀ n, a < n → cnt (fun j => j == a) n = 1
  | 0, h => by omega
  | n + 1, h => by
    unfold cnt
    by_cases e : n = a
    · subst e
      have : ∀ m, m ≤ n → cnt (fun j => j == n) m = 0 := by
        intro m
        induction m with
        | zero => intro _; rfl
        | succ m ih =>
          intro hm
          unfold cnt
          rw [ih (by omega), if_neg (by simp; omega)]
      rw [this n (Nat.le_refl _)]; simp
    · rw [cnt_eq n (by omega), if_neg (by simpa using e)]
theorem cnt_two {a c : Nat} {n : Nat} (ha : a < n) (hc : c < n) (hne : a ≠ c) : cnt (fun j => !(j == a) && !(j == c)) n = n - 2 := by
  have h1 := cnt_part (fun _ => true) (fun j => j == a) n
  have h2 := cnt_part (fun j => !(j == a)) (fun j => j == c) n
  have h3 : cnt (fun _ => true) n = n := by
    have e := cnt_lt n n
    rw [Nat.min_self] at e
    exact (cnt_congr n (fun i hi => by simp [hi])).trans e
  have h4 : cnt (fun j => !(j == a) && (j == c)) n = 1 := by
    rw [← cnt_eq n hc]
    refine cnt_congr n (fun i _ => ?_)
    by_cases e : i = c
    · subst e
      have : ¬ i = a := fun e => hne e.symm
      simp [this]
    · simp [e]
  have h5 : cnt (fun i => true && (i == a)) n = 1 := by simpa using cnt_eq n ha
  have h6 : cnt (fun i => true && !(i == a)) n = cnt (fun i => !(i == a)) n := by simp
  omega
theorem dT_raw {n g : Nat} (hn : 2 ≤ n) : ∀ m, m ≤ n → (rawE (dT n g) m).length = cnt (fun j => !(j == g) && !(j == nxt n g)) m
  | 0, _ => rfl
  | m + 1, h => by
    unfold rawE cnt
    rw [List.length_append, dT_raw hn m (by omega)]
    congr 1
    unfold dT
    by_cases e : m = g
    · rw [if_pos e]; simp [e, edgeL]
    · rw [if_neg e]
      by_cases e2 : m = nxt n g
      · rw [if_pos e2]; simp [e2, edgeL]
      · rw [if_neg e2, cT_at (by omega : m < n), if_pos (prv_lt (by omega)), edge_pair (by have := prv_ne hn (by omega : m < n); omega)]
        simp [e, e2]
theorem dT_edges {n g : Nat} (hn : 2 ≤ n) (hg : g < n) : (edgesD (dT n g) n).length = n - 2 := by
  unfold edgesD
  rw [srtE_len, dT_raw hn n (Nat.le_refl _)]
  exact cnt_two hg (nxt_lt hg) (fun e => nxt_ne hn hg e.symm)
end Go.Proofs.Ytmdbmkekdpbliaa
