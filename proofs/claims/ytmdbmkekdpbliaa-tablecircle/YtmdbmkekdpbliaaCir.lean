/- TableCircle, plainly. -/
import Derived.Test.YtmdbmkekdpbliaaFul
namespace Go.Proofs.Ytmdbmkekdpbliaa
open Go.RowKit

/-- The one behind, and the one ahead, in a circle of n. -/
def prv (n j : Nat) : Nat := if j = 0 then n - 1 else j - 1
def nxt (n i : Nat) : Nat := if i + 1 = n then 0 else i + 1
theorem prv_lt {n j : Nat} (h : j < n) : prv n j < n := by unfold prv; split <;> omega
theorem nxt_lt {n i : Nat} (h : i < n) : nxt n i < n := by unfold nxt; split <;> omega
theorem md5 : md 5 := ⟨by decide, by decide⟩
theorem prv_ne {n j : Nat} (hn : 2 ≤ n) (_ : j < n) : prv n j ≠ j := by unfold prv; split <;> omega
theorem nxt_ne {n i : Nat} (hn : 2 ≤ n) (_ : i < n) : nxt n i ≠ i := by unfold nxt; split <;> omega
theorem prv_nxt {n i : Nat} (_ : i < n) : prv n (nxt n i) = i := by unfold prv nxt; split <;> split <;> omega
theorem nxt_prv {n j : Nat} (h : j < n) : nxt n (prv n j) = j := by unfold prv nxt; split <;> split <;> omega
theorem nxt_mod {n i : Nat} (h : i < n) : ((i : Int) + 1) % (n : Int) = (nxt n i : Nat) := by
  unfold nxt
  split
  · rename_i e
    have : (i : Int) + 1 = (n : Int) := by omega
    rw [this, Int.emod_self]; rfl
  · rw [Int.emod_eq_of_lt (by omega) (by omega)]; omega
theorem prv_mod {n j : Nat} (h : j < n) : ((j : Int) + (n : Int) - 1) % (n : Int) = (prv n j : Nat) := by
  unfold prv
  split
  · rename_i e
    subst e
    rw [Int.emod_eq_of_lt (by omega) (by omega)]; omega
  · have : (j : Int) + (n : Int) - 1 = ((j : Int) - 1) + (n : Int) := by omega
    rw [this, Int.add_emod_right, Int.emod_eq_of_lt (by omega) (by omega)]; omega
/-- Each holds its node; those below k wait for the one ahead. -/
def cT (n k : Nat) : Nat → Lv := fun j => if j < n then ([((j : Int), 5)], if prv n j < k then [((prv n j : Int), 5)] else []) else ([], [])
theorem cT_at {n k j : Nat} (h : j < n) : cT n k j = ([((j : Int), 5)], if prv n j < k then [((prv n j : Int), 5)] else []) := by unfold cT; rw [if_pos h]
theorem fine_pair {j p : Nat} (h : p ≠ j) : Fine [((j : Int), 5)] [((p : Int), 5)] := by
  have hne : ((j : Int) == (p : Int)) = false := by simp; omega
  have hne2 : ((p : Int) == (j : Int)) = false := by simp; omega
  refine ⟨⟨fun x hx => ?_, fun x hx => ?_, List.pairwise_singleton _ _, fun x r e => ?_⟩, fun x hx y hy hne => ?_, List.pairwise_singleton _ _, fun x hx => ?_⟩
  · rw [List.mem_singleton.1 hx]; exact md5
  · rw [List.mem_singleton.1 hx]; exact md5
  · injection e with e1 e2
    subst e1
    unfold fitsL hindD
    have : fitsB 5 5 = false := by decide +kernel
    simp [this]
    omega
  · rw [List.mem_singleton.1 hx, List.mem_singleton.1 hy] at hne
    exact absurd rfl hne
  · rw [List.mem_singleton.1 hx]
    show coversB 5 (if ((j : Int) == (p : Int)) = true then 5 else 0) = true
    rw [hne]
    decide +kernel
theorem fine_own (j : Nat) : Fine [((j : Int), 5)] [] := by
  refine ⟨⟨fun x hx => ?_, fun x hx => (by cases hx), List.Pairwise.nil, fun x r e => (by cases e)⟩, fun x hx y hy hne => ?_, List.Pairwise.nil, fun x hx => (by cases hx)⟩
  · rw [List.mem_singleton.1 hx]; exact md5
  · rw [List.mem_singleton.1 hx, List.mem_singleton.1 hy] at hne
    exact absurd rfl hne
theorem cT_good {n k : Nat} (hn : 2 ≤ n) : Gd n 2 (cT n k) := by
  refine ⟨fun j hj => ?_, fun j hj => ?_⟩
  · rw [cT_at hj]
    by_cases h : prv n j < k
    · rw [if_pos h]; exact fine_pair (prv_ne hn hj)
    · rw [if_neg h]; exact fine_own j
  · rw [cT_at hj]
    by_cases h : prv n j < k
    · rw [if_pos h]; exact Nat.le_refl _
    · rw [if_neg h]; show 1 + 0 ≤ 2; decide
/-- All hold their nodes. -/
theorem own_all {n : Nat} : gT (fun i => decide (i < n)) (fun i => ((i : Int), 5)) = cT n 0 := by
  funext j
  unfold gT cT
  by_cases h : j < n
  · simp [h]
  · simp [h]
theorem own_ask {n i : Nat} (hi : i < n) (hn : n ≤ 30) : askT n 100 (gT (fun j => decide (j < i)) (fun j => ((j : Int), 5))) (i : Int) (i : Int) 5 = ((1, 0), gT (fun j => decide (j < i + 1)) (fun j => ((j : Int), 5))) := by
  have e0 : gT (fun j => decide (j < i)) (fun j => ((j : Int), (5 : Int))) i = ([], []) := by unfold gT; rw [if_neg (by simp)]
  have he : errD n 100 (gT (fun j => decide (j < i)) (fun j => ((j : Int), 5))) (i : Int) (i : Int) 5 = 0 := by
    rw [gT_err hi (by omega) ⟨by decide, by decide⟩, if_neg]
    rintro ⟨_, h⟩
    rw [cnt_lt] at h
    omega
  rw [ask_yes he]
  have e2 : (i : Int).toNat = i := rfl
  have e3 : askD (i : Int) 5 [] [] = (1, [((i : Int), 5)], []) := by
    have h1 : okD (i : Int) 5 [] = true := by unfold okD; show (true && true && (0 == (0 : Int))) = true; rfl
    have h2 : goal 0 5 = 5 := by decide +kernel
    unfold askD
    rw [h1, if_pos rfl]
    show (if goal 0 5 == 0 then _ else _) = _
    rw [h2]; rfl
  rw [e2, e0, e3]
  congr 1
  show upd _ i ([((i : Int), 5)], []) = _
  rw [gT_upd]
  funext j
  unfold gT
  by_cases hj : j = i
  · subst hj
    simp
  · have hb : (j == i) = false := by simpa using hj
    have : decide (j < i) = decide (j < i + 1) := decide_eq_decide.2 (by omega)
    simp only [hb, Bool.false_or, this, if_neg hj]
theorem ask_wait {a c : Int} (h : a ≠ c) : askD a 5 [(c, 5)] [] = (2, [(c, 5)], [(a, 5)]) := by
  have hb : (c == a) = false := by simpa using fun e : c = a => h e.symm
  have h1 : okD a 5 [] = true := by unfold okD; show (true && true && (0 == (0 : Int))) = true; rfl
  have h2 : goal 0 5 = 5 := by decide +kernel
  have h3 : fitsB 5 5 = false := by decide +kernel
  have h4 : lookD a [(c, 5)] = 0 := by show (if (c == a) = true then (5 : Int) else 0) = 0; rw [hb]; rfl
  have h5 : fitsL (a, 5) [(c, 5)] = false := by
    unfold fitsL hindD
    simp [h3]
    exact fun e => h e.symm
  unfold askD
  rw [h1, if_pos rfl, h4]
  show (if (goal 0 5 == (0 : Int)) = true then _ else if (passD 0 [(c, 5)] [] && fitsL (a, goal 0 5) [(c, 5)]) = true then _ else ((2 : Int), [((c, 5) : En)], waitD 0 (a, goal 0 5) [(c, 5)] [])) = _
  rw [h2, h5, Bool.and_false]
  rfl
theorem cT_looks {n k j : Nat} (who : Nat) (hj : j < n) : lookD (who : Int) (cT n k j).2 = if prv n j < k ∧ prv n j = who then 5 else 0 := by
  rw [cT_at hj]
  by_cases h : prv n j < k
  · rw [if_pos h]
    show (if ((prv n j : Int) == (who : Int)) = true then (5 : Int) else 0) = _
    by_cases e : prv n j = who
    · rw [if_pos (by simp [e]), if_pos ⟨h, e⟩]
    · rw [if_neg (by simp; omega), if_neg (fun x => e x.2)]
  · rw [if_neg h, if_neg (fun x => h x.1)]; rfl
theorem at_none {who : Int} {T : Nat → Lv} {n : Nat} (h : noneW who n T) : atW who T n = n := by
  have h1 := atW_le who T n
  rcases Nat.lt_or_ge (atW who T n) n with h2 | h2
  · exact absurd (h _ h2) (atW_at who T n h2)
  · omega
theorem at_some {who : Int} {T : Nat → Lv} {n j : Nat} (hj : j < n) (h : lookD who (T j).2 ≠ 0) : atW who T n < n := by
  have h1 := atW_le who T n
  rcases Nat.lt_or_ge (atW who T n) n with h2 | h2
  · exact h2
  · exact absurd (atW_low who T n j (by omega)) h
theorem cir_ask {n i : Nat} (hi : i < n) (hn : 2 ≤ n) (hn2 : n ≤ 30) : askT n 100 (cT n i) (i : Int) (nxt n i : Nat) 5 = ((2, 0), cT n (i + 1)) := by
  have hx := nxt_lt hi
  have hp := prv_nxt hi
  have e0 : cT n i (nxt n i) = ([(((nxt n i : Nat) : Int), 5)], []) := by rw [cT_at hx, hp, if_neg (by omega)]
  have hw : noneW (i : Int) n (cT n i) := fun j hj => by
    rw [cT_looks i hj, if_neg]
    rintro ⟨h1, h2⟩
    omega
  have hle := len_le ((cT_good (k := i) hn).few (by decide) : Few n 1000 (cT n i))
  have hl : lenD (cT n i) n ≤ 60 := by
    have hf : Few n 1 (cT n i) := fun j hj => by
      rw [cT_at hj]
      by_cases h : prv n j < i
      · rw [if_pos h]; exact ⟨Nat.le_refl _, Nat.le_refl _⟩
      · rw [if_neg h]; exact ⟨Nat.le_refl _, Nat.zero_le _⟩
    have := len_le hf n (Nat.le_refl _)
    omega
  have he : errD n 100 (cT n i) (i : Int) (nxt n i : Nat) 5 = 0 := by
    unfold errD
    have h1 : (decide (0 ≤ ((nxt n i : Nat) : Int)) && decide (((nxt n i : Nat) : Int) < n)) = true := by simp; omega
    rw [h1, if_neg (by decide), at_none hw, if_neg (Nat.lt_irrefl n), if_neg, if_neg]
    · rintro ⟨_, h⟩
      omega
    · rintro (h | h | h)
      · omega
      · omega
      · exact absurd h (by decide +kernel)
  rw [ask_yes he]
  have e2 : (((nxt n i : Nat) : Int)).toNat = nxt n i := rfl
  rw [e2, e0]
  have h5 : askD (i : Int) 5 [(((nxt n i : Nat) : Int), 5)] [] = (2, [(((nxt n i : Nat) : Int), 5)], [((i : Int), 5)]) := ask_wait (by have := nxt_ne hn hi; omega)
  rw [h5]
  congr 1
  funext j
  unfold upd
  by_cases hj : j = nxt n i
  · subst hj
    rw [if_pos rfl, cT_at hx, hp, if_pos (by omega)]
  · rw [if_neg hj]
    by_cases hjn : j < n
    · rw [cT_at hjn, cT_at hjn]
      have hne : prv n j ≠ i := fun e => hj (by rw [← e, nxt_prv hjn])
      by_cases h : prv n j < i
      · rw [if_pos h, if_pos (by omega)]
      · rw [if_neg h, if_neg (by omega)]
    · unfold cT
      rw [if_neg hjn, if_neg hjn]
theorem cir_err {n i : Nat} (hi : i < n) : askT n 100 (cT n (i + 1)) (i : Int) (i : Int) 5 = ((0, 5), cT n (i + 1)) := by
  have hs : atW (i : Int) (cT n (i + 1)) n < n := at_some (j := nxt n i) (nxt_lt hi) (by
    rw [cT_looks i (nxt_lt hi), prv_nxt hi, if_pos ⟨by omega, rfl⟩]; decide)
  have he : errD n 100 (cT n (i + 1)) (i : Int) (i : Int) 5 = 5 := by
    unfold errD
    have h1 : (decide (0 ≤ (i : Int)) && decide ((i : Int) < n)) = true := by simp; omega
    rw [h1, if_neg (by decide), if_pos hs]
  rw [ask_not (by rw [he]; decide), he]
end Go.Proofs.Ytmdbmkekdpbliaa
