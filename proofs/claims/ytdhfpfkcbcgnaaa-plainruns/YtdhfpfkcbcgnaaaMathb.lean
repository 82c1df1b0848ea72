/- Plain facts, second part: what Eval answers of one number, of parts, of another order. No Go in sight. -/
import Derived.Test.YtdhfpfkcbcgnaaaMath
namespace Go.Proofs.Ytdhfpfkcbcgnaaa.Calc
open Go.RowKit

theorem sumL_eq (l : List Int) : sumL l = l.foldl add2 0 := rfl
theorem mulL_eq (l : List Int) : mulL l = l.foldl mul2 1 := rfl
theorem andL_eq (l : List Int) : andL l = l.foldl and2 (-1) := rfl
theorem orL_eq (l : List Int) : orL l = l.foldl or2 0 := rfl

theorem fold_max (l : List Int) : ∀ a, (l.foldl max2 a = a ∨ l.foldl max2 a ∈ l) ∧ a ≤ l.foldl max2 a ∧ ∀ x ∈ l, x ≤ l.foldl max2 a := by
  induction l with
  | nil => intro a; simp
  | cons x l ih =>
    intro a
    obtain ⟨h1, h2, h3⟩ := ih (max2 a x)
    simp only [List.foldl_cons]
    have hm : a ≤ max2 a x ∧ x ≤ max2 a x ∧ (max2 a x = a ∨ max2 a x = x) := by unfold max2; split <;> omega
    refine ⟨?_, by omega, ?_⟩
    · rcases h1 with h1 | h1
      · rcases hm.2.2 with h | h
        · left; rw [h1, h]
        · right; rw [h1, h]; simp
      · right; simp [h1]
    · intro y hy
      rcases List.mem_cons.1 hy with rfl | hy
      · omega
      · exact h3 y hy
theorem fold_min (l : List Int) : ∀ a, (l.foldl min2 a = a ∨ l.foldl min2 a ∈ l) ∧ l.foldl min2 a ≤ a ∧ ∀ x ∈ l, l.foldl min2 a ≤ x := by
  induction l with
  | nil => intro a; simp
  | cons x l ih =>
    intro a
    obtain ⟨h1, h2, h3⟩ := ih (min2 a x)
    simp only [List.foldl_cons]
    have hm : min2 a x ≤ a ∧ min2 a x ≤ x ∧ (min2 a x = a ∨ min2 a x = x) := by unfold min2; split <;> omega
    refine ⟨?_, by omega, ?_⟩
    · rcases h1 with h1 | h1
      · rcases hm.2.2 with h | h
        · left; rw [h1, h]
        · right; rw [h1, h]; simp
      · right; simp [h1]
    · intro y hy
      rcases List.mem_cons.1 hy with rfl | hy
      · omega
      · exact h3 y hy
theorem head_mem {l : List Int} (h : l ≠ []) : l.getD 0 0 ∈ l := by cases l <;> simp at *
theorem maxL_spec (l : List Int) (h : l ≠ []) : maxL l ∈ l ∧ ∀ x ∈ l, x ≤ maxL l := by
  obtain ⟨h1, h2, h3⟩ := fold_max l (l.getD 0 0)
  refine ⟨?_, h3⟩
  rcases h1 with h1 | h1
  · unfold maxL; rw [h1]; exact head_mem h
  · exact h1
theorem minL_spec (l : List Int) (h : l ≠ []) : minL l ∈ l ∧ ∀ x ∈ l, minL l ≤ x := by
  obtain ⟨h1, h2, h3⟩ := fold_min l (l.getD 0 0)
  refine ⟨?_, h3⟩
  rcases h1 with h1 | h1
  · unfold minL; rw [h1]; exact head_mem h
  · exact h1
theorem maxL_is (l : List Int) (m : Int) (hm : m ∈ l) (hub : ∀ x ∈ l, x ≤ m) : maxL l = m := by
  have hne : l ≠ [] := by rintro rfl; simp at hm
  obtain ⟨h1, h2⟩ := maxL_spec l hne
  have := h2 m hm
  have := hub _ h1
  omega
theorem minL_is (l : List Int) (m : Int) (hm : m ∈ l) (hlb : ∀ x ∈ l, m ≤ x) : minL l = m := by
  have hne : l ≠ [] := by rintro rfl; simp at hm
  obtain ⟨h1, h2⟩ := minL_spec l hne
  have := h2 m hm
  have := hlb _ h1
  omega
theorem maxL_perm {l k : List Int} (p : l.Perm k) (h : l ≠ []) : maxL l = maxL k := by
  obtain ⟨h1, h2⟩ := maxL_spec l h
  exact (maxL_is k _ (p.mem_iff.1 h1) fun x hx => h2 x (p.mem_iff.2 hx)).symm
theorem minL_perm {l k : List Int} (p : l.Perm k) (h : l ≠ []) : minL l = minL k := by
  obtain ⟨h1, h2⟩ := minL_spec l h
  exact (minL_is k _ (p.mem_iff.1 h1) fun x hx => h2 x (p.mem_iff.2 hx)).symm
theorem maxL_parts (l k : List Int) (hl : l ≠ []) (hk : k ≠ []) : maxL [maxL l, maxL k] = maxL (l ++ k) := by
  obtain ⟨a1, a2⟩ := maxL_spec l hl
  obtain ⟨b1, b2⟩ := maxL_spec k hk
  obtain ⟨c1, c2⟩ := maxL_spec (l ++ k) (by simp [hl])
  apply maxL_is
  · rcases List.mem_append.1 c1 with h | h
    · have h1 := a2 _ h
      have h2 := c2 _ (List.mem_append_left k a1)
      rw [show maxL (l ++ k) = maxL l by omega]; simp
    · have h1 := b2 _ h
      have h2 := c2 _ (List.mem_append_right l b1)
      rw [show maxL (l ++ k) = maxL k by omega]; simp
  · intro x hx
    rcases List.mem_cons.1 hx with rfl | hx
    · exact c2 _ (List.mem_append_left k a1)
    · obtain rfl : x = maxL k := by simpa using hx
      exact c2 _ (List.mem_append_right l b1)
theorem minL_parts (l k : List Int) (hl : l ≠ []) (hk : k ≠ []) : minL [minL l, minL k] = minL (l ++ k) := by
  obtain ⟨a1, a2⟩ := minL_spec l hl
  obtain ⟨b1, b2⟩ := minL_spec k hk
  obtain ⟨c1, c2⟩ := minL_spec (l ++ k) (by simp [hl])
  apply minL_is
  · rcases List.mem_append.1 c1 with h | h
    · have h1 := a2 _ h
      have h2 := c2 _ (List.mem_append_left k a1)
      rw [show minL (l ++ k) = minL l by omega]; simp
    · have h1 := b2 _ h
      have h2 := c2 _ (List.mem_append_right l b1)
      rw [show minL (l ++ k) = minL k by omega]; simp
  · intro x hx
    rcases List.mem_cons.1 hx with rfl | hx
    · exact c2 _ (List.mem_append_left k a1)
    · obtain rfl : x = minL k := by simpa using hx
      exact c2 _ (List.mem_append_right l b1)

theorem alikeL_mem (l : List Int) : alikeL l = true ↔ ∀ x ∈ l, ∀ y ∈ l, x = y := by
  rw [alikeL_iff]
  constructor
  · intro h x hx y hy
    obtain ⟨i, hi, rfl⟩ := List.mem_iff_getElem.1 hx
    obtain ⟨j, hj, rfl⟩ := List.mem_iff_getElem.1 hy
    rw [← getD_at l i hi, ← getD_at l j hj, h i hi, h j hj]
  · intro h i hi
    rw [getD_at l i hi, getD_at l 0 (by omega)]
    exact h _ (List.getElem_mem _) _ (List.getElem_mem _)
theorem alikeL_perm {l k : List Int} (p : l.Perm k) : alikeL l = alikeL k := by
  rw [Bool.eq_iff_iff, alikeL_mem, alikeL_mem]
  exact ⟨fun h x hx y hy => h x (p.mem_iff.2 hx) y (p.mem_iff.2 hy), fun h x hx y hy => h x (p.mem_iff.1 hx) y (p.mem_iff.1 hy)⟩

theorem evalL_perm (kind : Int) {l k : List Int} (p : l.Perm k) (h1 : kind ≠ 1) (h3 : kind ≠ 3) : evalL kind l = evalL kind k := by
  have hs : sumL l = sumL k := fold_perm add_assoc2 add_comm2 p 0
  have hm : mulL l = mulL k := fold_perm mul_assoc2 mul_comm2 p 1
  have ha : andL l = andL k := fold_perm and_assoc2 and_comm2 p (-1)
  have ho : orL l = orL k := fold_perm or_assoc2 or_comm2 p 0
  by_cases hl : l = []
  · subst hl
    obtain rfl : k = [] := p.nil_eq.symm
    rfl
  · have hk : k ≠ [] := by rintro rfl; exact hl p.eq_nil
    unfold evalL
    rw [hs, hm, ha, ho, alikeL_perm p, maxL_perm p hl, minL_perm p hl]
    simp only [if_neg h1, if_neg h3, if_neg hl, if_neg hk]

/-- The kinds that are made of parts. -/
def Joins (k : Int) : Prop := k = 0 ∨ k = 2 ∨ k = 5 ∨ k = 6 ∨ k = 7 ∨ k = 8
theorem evalL_ok (kind : Int) (h : Joins kind) (l : List Int) (hl : l ≠ []) : (evalL kind l).2 = 0 := by
  rcases h with rfl | rfl | rfl | rfl | rfl | rfl <;> simp [evalL, hl]
theorem fold_in {f : Int → Int → Int} (stay : ∀ a b, In (f a b)) (l : List Int) (h : l ≠ []) (e : Int) : In (l.foldl f e) := by
  obtain ⟨k, x, rfl⟩ := List.eq_nil_or_concat l |>.resolve_left h
  rw [List.concat_eq_append, List.foldl_append]; exact stay _ _
theorem evalL_parts (kind : Int) (h : Joins kind) (l k : List Int) (hl : l ≠ []) (hk : k ≠ []) (il : ∀ n ∈ l, In n) (ik : ∀ n ∈ k, In n) :
    evalL kind [(evalL kind l).1, (evalL kind k).1] = evalL kind (l ++ k) := by
  have hlk : l ++ k ≠ [] := by simp [hl]
  rcases h with rfl | rfl | rfl | rfl | rfl | rfl
  · simp [evalL]
    rw [sumL_eq, sumL_eq, sumL_eq, sumL_eq, fold_parts add_assoc2 (fun _ => add_zero2) in_add add_comm2 l k il ik hl]
    simp only [List.foldl_cons, List.foldl_nil]
    rw [add_zero2 (fold_in in_add l hl 0)]
  · simp [evalL]
    rw [mulL_eq, mulL_eq, mulL_eq, mulL_eq, fold_parts mul_assoc2 (fun _ => mul_one2) in_mul mul_comm2 l k il ik hl]
    simp only [List.foldl_cons, List.foldl_nil]
    rw [mul_one2 (fold_in in_mul l hl 1)]
  · simp [evalL]
    rw [andL_eq, andL_eq, andL_eq, andL_eq, fold_parts and_assoc2 (fun _ => and_ones2) in_and and_comm2 l k il ik hl]
    simp only [List.foldl_cons, List.foldl_nil]
    rw [and_ones2 (fold_in in_and l hl (-1))]
  · simp [evalL]
    rw [orL_eq, orL_eq, orL_eq, orL_eq, fold_parts or_assoc2 (fun _ => or_zero2) in_or or_comm2 l k il ik hl]
    simp only [List.foldl_cons, List.foldl_nil]
    rw [or_zero2 (fold_in in_or l hl 0)]
  · simp [evalL, hl, hk, maxL_parts]
  · simp [evalL, hl, hk, minL_parts]
theorem evalL_one (kind : Int) (h : Joins kind ∨ kind = 1) (n : Int) (hn : In n) : evalL kind [n] = (n, 0) := by
  have e0 : sumL [n] = n := add_zero2 hn
  have e2 : mulL [n] = n := mul_one2 hn
  have e5 : andL [n] = n := and_ones2 hn
  have e6 : orL [n] = n := or_zero2 hn
  have e7 : maxL [n] = n := maxL_is _ _ (by simp) (by simp)
  have e8 : minL [n] = n := minL_is _ _ (by simp) (by simp)
  have e1 : diffL [n] = n := by
    rw [diffL, if_neg (by simp)]
    have : wrap64 (n - 0) = n := by rw [Int.sub_zero]; exact wrap_of_in hn
    simpa [sumL] using this
  rcases h with (rfl | rfl | rfl | rfl | rfl | rfl) | rfl <;> simp [evalL, e0, e1, e2, e5, e6, e7, e8]
theorem evalL_sub (n : Int) (hn : In n) : evalL 1 [n, n] = (0, 0) := by
  have : sumL [n] = n := add_zero2 hn
  simp [evalL, diffL, this, wrap64]
theorem evalL_equal (n : Int) : evalL 4 [n, n] = (1, 0) := by
  have : alikeL [n, n] = true := by rw [alikeL_mem]; simp
  simp [evalL, this, b01]
theorem evalL_less (n : Int) : evalL 3 [n, n] = (0, 0) := by
  have : riseL [n, n] = false := by simp [riseL]
  simp [evalL, this, b01]
theorem evalL_known (kind n : Int) (h : knownB kind = true) : (evalL kind [n]).2 = 0 := by
  have h := of_decide_eq_true h
  have : kind = 0 ∨ kind = 1 ∨ kind = 2 ∨ kind = 3 ∨ kind = 4 ∨ kind = 5 ∨ kind = 6 ∨ kind = 7 ∨ kind = 8 := by omega
  rcases this with rfl | rfl | rfl | rfl | rfl | rfl | rfl | rfl | rfl <;> simp [evalL]
theorem evalL_unknown (kind : Int) (l : List Int) (h : knownB kind = false) : evalL kind l = (0, 1) := by
  have h := of_decide_eq_false h
  unfold evalL
  repeat rw [if_neg (by omega)]
end Go.Proofs.Ytdhfpfkcbcgnaaa.Calc
