/- TableFull, plainly: tables where each lane has one holder at most and nobody waits. -/
import Derived.Test.YtmdbmkekdpbliaaEdgs
namespace Go.Proofs.Ytmdbmkekdpbliaa
open Go.RowKit

/-- Lane i has the one holder f i, where p i. -/
def gT (p : Nat → Bool) (f : Nat → En) : Nat → Lv := fun i => if p i then ([f i], []) else ([], [])
/-- How many are so, below n. -/
def cnt (p : Nat → Bool) : Nat → Nat
  | 0 => 0
  | n + 1 => cnt p n + (if p n then 1 else 0)
theorem cnt_congr {p q : Nat → Bool} : ∀ n, (∀ i, i < n → p i = q i) → cnt p n = cnt q n
  | 0, _ => rfl
  | n + 1, h => by
    unfold cnt
    rw [cnt_congr n (fun i hi => h i (by omega)), h n (by omega)]
theorem cnt_lt (c : Nat) : ∀ n, cnt (fun i => decide (i < c)) n = min c n
  | 0 => by simp [cnt]
  | n + 1 => by
    unfold cnt
    rw [cnt_lt c n]
    by_cases h : n < c
    · simp [h]; omega
    · simp [h]; omega
theorem cnt_part (p q : Nat → Bool) : ∀ n, cnt (fun i => p i && q i) n + cnt (fun i => p i && !q i) n = cnt p n
  | 0 => rfl
  | n + 1 => by
    have := cnt_part p q n
    unfold cnt
    cases p n <;> cases q n <;> simp <;> omega
theorem cnt_one {p : Nat → Bool} (h0 : p 0 = false) : ∀ n, 0 < n → cnt (fun i => i == 0 || p i) n = cnt p n + 1
  | 0, h => by omega
  | 1, _ => by simp [cnt, h0]
  | n + 2, _ => by
    have := cnt_one h0 (n + 1) (by omega)
    unfold cnt
    rw [this]
    simp; omega
theorem gT_len (p : Nat → Bool) (f : Nat → En) : ∀ n, lenD (gT p f) n = cnt p n
  | 0 => rfl
  | n + 1 => by
    unfold lenD cnt
    rw [gT_len p f n]
    unfold gT locksD
    cases p n <;> simp [newD]
theorem gT_q (p : Nat → Bool) (f : Nat → En) (i : Nat) : (gT p f i).2 = [] := by
  unfold gT; cases p i <;> rfl
theorem gT_wait (p : Nat → Bool) (f : Nat → En) (who : Int) (n : Nat) : atW who (gT p f) n = n := by
  have h1 := atW_le who (gT p f) n
  rcases Nat.lt_or_ge (atW who (gT p f) n) n with h | h
  · have h2 := atW_at who (gT p f) n h
    exfalso
    apply h2
    rw [gT_q]; rfl
  · omega
theorem gT_raw (p : Nat → Bool) (f : Nat → En) : ∀ n, rawE (gT p f) n = []
  | 0 => rfl
  | n + 1 => by
    unfold rawE
    rw [gT_raw p f n]
    unfold gT
    cases p n <;> rfl
theorem gT_edges (p : Nat → Bool) (f : Nat → En) (n : Nat) : edgesD (gT p f) n = [] := by
  unfold edgesD
  rw [gT_raw]
  unfold srtE
  exact List.mergeSort_nil
theorem gT_good (p : Nat → Bool) (f : Nat → En) (n : Nat) (hf : ∀ i, i < n → md (f i).2) : Gd n 1 (gT p f) := by
  refine ⟨fun i hi => ?_, fun i hi => ?_⟩
  · unfold gT
    cases h : p i
    · exact fine_nil
    · simp only [if_true]
      refine ⟨⟨fun x hx => ?_, fun x hx => (by cases hx), List.Pairwise.nil, fun x r e => (by cases e)⟩, fun x hx y hy hne => ?_, List.Pairwise.nil, fun x hx => (by cases hx)⟩
      · rw [List.mem_singleton.1 hx]; exact hf i hi
      · rw [List.mem_singleton.1 hx, List.mem_singleton.1 hy] at hne
        exact absurd rfl hne
  · unfold gT
    cases p i <;> simp
theorem gT_err {p : Nat → Bool} {f : Nat → En} {n : Nat} {most : Int} {who m : Int} {k : Nat} (hk : k < n) (hw : 0 ≤ who) (hm : md m) : errD n most (gT p f) who (k : Int) m = if hasL who (gT p f k) = false ∧ most ≤ (cnt p n : Int) then 3 else 0 := by
  unfold errD
  have h1 : (decide (0 ≤ (k : Int)) && decide ((k : Int) < n)) = true := by simp; omega
  rw [h1, if_neg (by decide), gT_wait, if_neg (Nat.lt_irrefl n), gT_len, if_neg]
  · rfl
  · rintro (h | h | h)
    · omega
    · have := hm.1; omega
    · rw [known_no] at h
      exact h ⟨by have := hm.1; omega, hm.2⟩
theorem gT_upd (p : Nat → Bool) (f : Nat → En) (k : Nat) (x : En) : upd (gT p f) k ([x], []) = gT (fun i => i == k || p i) (fun i => if i = k then x else f i) := by
  funext i
  unfold upd gT
  by_cases h : i = k
  · subst h; simp
  · simp [h]
theorem gT_held (p : Nat → Bool) (f : Nat → En) (who : Int) (hf : ∀ i, (f i).2 ≠ 0) : ∀ n, (heldD who (gT p f) n).length = cnt (fun i => p i && (f i).1 == who) n
  | 0 => rfl
  | n + 1 => by
    have ih := gT_held p f who hf n
    unfold heldD cnt
    have e : lookD who (gT p f n).1 = if p n && (f n).1 == who then (f n).2 else 0 := by
      unfold gT
      cases p n
      · rfl
      · show (if (f n).1 == who then (f n).2 else 0) = _
        simp
    rw [e]
    cases h : (p n && (f n).1 == who)
    · simp [ih]
    · simp [ih, hf n]
theorem leave_one (who m : Int) : leaveD who [(who, m)] [] = ([], [], []) := by
  unfold leaveD out1 isWho
  simp [grantD]
theorem gT_dropS (p : Nat → Bool) (f : Nat → En) (who : Int) (hf : ∀ i, (f i).2 ≠ 0) (x : Nat) : dropS who ([], gT p f) x = ([], gT (fun i => p i && !(i == x && (f i).1 == who)) f) := by
  unfold dropS
  have e : hasL who (gT p f x) = (p x && (f x).1 == who) := by
    unfold gT hasL
    cases p x
    · rfl
    · show ((if (f x).1 == who then (f x).2 else 0) != 0 || false) = _
      cases h : ((f x).1 == who)
      · simp
      · simp [hf x]
  dsimp only
  rw [e]
  cases h : (p x && (f x).1 == who)
  · rw [if_neg (by decide)]
    congr 1
    funext i
    unfold gT
    by_cases h2 : i = x
    · subst h2
      cases h3 : p i
      · simp [h3]
      · rw [h3] at h
        simp at h
        simp [h, h3]
    · simp [h2]
  · rw [if_pos rfl]
    have h1 : p x = true ∧ (f x).1 = who := by simpa using h
    have e2 : gT p f x = ([f x], []) := by unfold gT; rw [h1.1]; rfl
    have e3 : f x = (who, (f x).2) := by rw [← h1.2]
    have e4 : leaveD who (gT p f x).1 (gT p f x).2 = ([], [], []) := by
      rw [e2]
      show leaveD who [f x] [] = _
      rw [e3]; exact leave_one _ _
    rw [e4]
    congr 1
    funext i
    unfold upd gT
    by_cases h2 : i = x
    · subst h2
      simp [h1]
    · simp [h2]
theorem gT_drop (f : Nat → En) (who : Int) (hf : ∀ i, (f i).2 ≠ 0) : ∀ (xs : List Nat) (p : Nat → Bool), xs.foldl (dropS who) ([], gT p f) = ([], gT (fun i => p i && !(decide (i ∈ xs) && (f i).1 == who)) f)
  | [], p => by simp
  | x :: r, p => by
    rw [List.foldl_cons, gT_dropS p f who hf x, gT_drop f who hf r]
    congr 1
    congr 1
    funext i
    by_cases h1 : i = x <;> by_cases h2 : i ∈ r <;> cases p i <;> cases h3 : ((f i).1 == who) <;> simp [h1, h2]
theorem dn_all {n i : Nat} : i ∈ dn n 0 ↔ i < n := by
  unfold dn
  rw [List.mem_map]
  constructor
  · rintro ⟨j, hj, rfl⟩
    have := List.mem_range.1 hj
    omega
  · intro h
    exact ⟨n - 1 - i, by rw [List.mem_range]; omega, by omega⟩
/-- Who asks at node i, first. -/
def u0 (i : Nat) : En := (((i % 3 : Nat) : Int), 1)
def fT (c : Nat) : Nat → Lv := gT (fun i => decide (i < c)) u0
theorem fT_none : fT 0 = none0 := by
  funext i; unfold fT gT none0; simp
theorem ask_new (who : Int) : askD who 1 [] [] = (1, [(who, 1)], []) := by
  have h1 : okD who 1 [] = true := by unfold okD; show (true && true && (0 == (0 : Int))) = true; rfl
  have h2 : goal 0 1 = 1 := by decide +kernel
  unfold askD
  rw [h1, if_pos rfl]
  show (if goal 0 1 == 0 then _ else _) = _
  rw [h2]
  rfl
theorem full_ask {n i c : Nat} {m : Nat} (hi : i < n) (hc : c = min i m) : askT n (m : Int) (fT c) ((i : Int) % 3) (i : Int) 1 = (if i < m then ((1, 0), fT (min (i + 1) m)) else ((0, 3), fT (min (i + 1) m))) := by
  have hw : (i : Int) % 3 = ((i % 3 : Nat) : Int) := by omega
  have e0 : fT c i = ([], []) := by unfold fT gT; rw [if_neg (by simp; omega)]
  have he : errD n (m : Int) (fT c) ((i : Int) % 3) (i : Int) 1 = if (m : Int) ≤ (cnt (fun i => decide (i < c)) n : Int) then 3 else 0 := by
    unfold fT
    rw [gT_err hi (by omega) ⟨by decide, by decide⟩]
    have : hasL ((i : Int) % 3) (fT c i) = false := by rw [e0]; rfl
    unfold fT at this
    rw [this]
    simp
  rw [cnt_lt] at he
  by_cases h : i < m
  · rw [if_pos h]
    rw [if_neg (by omega)] at he
    rw [ask_yes he]
    have e2 : (i : Int).toNat = i := rfl
    rw [e2, e0, hw]
    rw [ask_new]
    congr 1
    show upd (fT c) i ([u0 i], []) = _
    unfold fT
    rw [gT_upd]
    funext j
    unfold gT
    by_cases hj : j = i
    · subst hj
      have h1 : decide (j < min (j + 1) m) = true := by rw [decide_eq_true_eq]; omega
      simp only [h1, if_true, beq_self_eq_true, Bool.true_or]
    · show (if (j == i || decide (j < c)) = true then (([if j = i then u0 i else u0 j], []) : Lv) else ([], [])) = if decide (j < min (i + 1) m) = true then ([u0 j], []) else ([], [])
      rw [if_neg hj]
      have : (j == i || decide (j < c)) = decide (j < min (i + 1) m) := by
        have hb : (j == i) = false := by simpa using hj
        rw [hb, Bool.false_or]
        exact decide_eq_decide.2 (by omega)
      rw [this]
  · rw [if_neg h]
    rw [if_pos (by omega)] at he
    rw [ask_not (by rw [he]; decide), he]
    congr 1
    congr 1
    omega
theorem cnt_pos {p : Nat → Bool} (h0 : p 0 = true) : ∀ n, 0 < n → 1 ≤ cnt p n
  | 0, h => by omega
  | 1, _ => by simp [cnt, h0]
  | n + 2, _ => by
    have := cnt_pos h0 (n + 1) (by omega)
    unfold cnt
    omega
def u1 (i : Nat) : En := if i = 0 then (0, 5) else u0 i
def p1 (c i : Nat) : Bool := i == 0 || decide (i < c)
def p2 (n c i : Nat) : Bool := p1 c i && !(decide (i ∈ dn n 0) && (u1 i).1 == 0)
def u2 (i : Nat) : En := if i = 0 then (7, 3) else u1 i
def p3 (n c i : Nat) : Bool := i == 0 || p2 n c i
theorem u1_md (i : Nat) : md (u1 i).2 := by
  unfold u1 u0 md
  split <;> simp
theorem u1_ne (i : Nat) : (u1 i).2 ≠ 0 := by have := (u1_md i).1; omega
theorem u2_md (i : Nat) : md (u2 i).2 := by
  unfold u2
  split
  · simp [md]
  · exact u1_md i
theorem full_two {n m c : Nat} (hn : 0 < n) (hc : 0 < c) : askT n (m : Int) (fT c) 0 0 5 = ((1, 0), gT (p1 c) u1) := by
  have e0 : fT c 0 = ([(0, 1)], []) := by unfold fT gT; rw [if_pos (by simp; omega)]; rfl
  have he : errD n (m : Int) (fT c) 0 0 5 = 0 := by
    have := gT_err (p := fun i => decide (i < c)) (f := u0) (n := n) (most := (m : Int)) (who := 0) (m := 5) (k := 0) hn (by decide) ⟨by decide, by decide⟩
    refine this.trans ?_
    have h : hasL 0 (gT (fun i => decide (i < c)) u0 0) = true := by
      have e1 : gT (fun i => decide (i < c)) u0 0 = ([(0, 1)], []) := e0
      rw [e1]; rfl
    rw [h]; simp
  rw [ask_yes he]
  have e2 : (0 : Int).toNat = 0 := rfl
  have e3 : askD 0 5 [(0, 1)] [] = (1, [(0, 5)], []) := by decide +kernel
  rw [e2, e0, e3]
  congr 1
  exact gT_upd (fun i => decide (i < c)) u0 0 (0, 5)
theorem full_drop (n c : Nat) : dropD 0 (gT (p1 c) u1) (dn n 0) = ([], gT (p2 n c) u1) := gT_drop u1 0 u1_ne (dn n 0) (p1 c)
theorem p2_zero {n c : Nat} (hn : 0 < n) : p2 n c 0 = false := by
  unfold p2
  have h : (0 : Nat) ∈ dn n 0 := dn_all.2 hn
  simp [h, u1]
theorem full_cnt {n c : Nat} (hn : 0 < n) (hc : 0 < c) (hcn : c ≤ n) : cnt (p2 n c) n + (heldD 0 (gT (p1 c) u1) n).length = c ∧ 1 ≤ (heldD 0 (gT (p1 c) u1) n).length := by
  rw [gT_held (p1 c) u1 0 u1_ne]
  have h1 : cnt (p2 n c) n = cnt (fun i => p1 c i && !((u1 i).1 == 0)) n := cnt_congr n (fun i hi => by
    unfold p2
    simp [dn_all.2 hi])
  have h2 := cnt_part (p1 c) (fun i => (u1 i).1 == 0) n
  have h3 : cnt (p1 c) n = c := by
    have : cnt (p1 c) n = cnt (fun i => decide (i < c)) n := cnt_congr n (fun i hi => by
      unfold p1
      cases i with
      | zero => simp [hc]
      | succ i => simp)
    rw [this, cnt_lt]; omega
  refine ⟨by omega, cnt_pos (by simp [p1, u1]) n hn⟩
theorem full_three {n m c : Nat} (hn : 0 < n) (hc : 0 < c) (hcn : c ≤ n) (hcm : c ≤ m) : askT n (m : Int) (gT (p2 n c) u1) 7 0 3 = ((1, 0), gT (p3 n c) u2) := by
  have e0 : gT (p2 n c) u1 0 = ([], []) := by unfold gT; rw [p2_zero hn]; rfl
  obtain ⟨h1, h2⟩ := full_cnt hn hc hcn
  have he : errD n (m : Int) (gT (p2 n c) u1) 7 0 3 = 0 := by
    have := gT_err (p := p2 n c) (f := u1) (n := n) (most := (m : Int)) (who := 7) (m := 3) (k := 0) hn (by decide) ⟨by decide, by decide⟩
    refine this.trans ?_
    rw [if_neg]
    rintro ⟨_, h⟩
    omega
  rw [ask_yes he]
  have e2 : (0 : Int).toNat = 0 := rfl
  have e3 : askD 7 3 [] [] = (1, [(7, 3)], []) := by decide +kernel
  rw [e2, e0, e3]
  congr 1
  exact gT_upd (p2 n c) u1 0 (7, 3)
theorem full_len {n c : Nat} (hn : 0 < n) : lenD (gT (p3 n c) u2) n = cnt (p2 n c) n + 1 := by
  rw [gT_len]
  exact cnt_one (p2_zero hn) n hn
theorem full_zero (n c : Nat) : lookD 0 (gT (p3 n c) u2 0).1 = 0 := by
  have : gT (p3 n c) u2 0 = ([(7, 3)], []) := by unfold gT p3; rw [if_pos (by simp)]; rfl
  rw [this]; rfl
end Go.Proofs.Ytmdbmkekdpbliaa
