/- Lines in parts: what is printed is read again. No Go in sight. -/
import Derived.Test.YtanieihnkajpdaaDoorNums
import Derived.Lib.SplitLaws
namespace Go.Proofs.YtanieihnkajpdaaDoor
open Go.Lib (itoa split splitK index count count_one)

theorem index_no : ∀ (f : List UInt8), (∀ c ∈ f, c ≠ 32) → index f [32] = -1
  | [], _ => rfl
  | b :: r, h => by
    unfold index
    have hb : b ≠ 32 := h b (by simp)
    have hb2 : ((32 : UInt8) == b) = false := by simpa using fun e : (32 : UInt8) = b => hb e.symm
    rw [index_no r (fun c hc => h c (by simp [hc]))]
    simp [List.isPrefixOf, hb2]
theorem index_at : ∀ (f r : List UInt8), (∀ c ∈ f, c ≠ 32) → index (f ++ 32 :: r) [32] = f.length
  | [], r, _ => by simp [index, List.isPrefixOf]
  | b :: f, r, h => by
    show index (b :: (f ++ 32 :: r)) [32] = _
    unfold index
    have hb : b ≠ 32 := h b (by simp)
    have hb2 : ((32 : UInt8) == b) = false := by simpa using fun e : (32 : UInt8) = b => hb e.symm
    have hm : ((f.length : Int) == -1) = false := by rw [beq_eq_false_iff_ne]; omega
    rw [index_at f r (fun c hc => h c (by simp [hc]))]
    simp [List.isPrefixOf, hb2, hm]
theorem count_no (f : List UInt8) (h : ∀ c ∈ f, c ≠ 32) : count f [32] = 0 := by
  rw [count_one]
  exact List.count_eq_zero.2 (fun hm => h 32 hm rfl)
theorem count_at (f r : List UInt8) (h : ∀ c ∈ f, c ≠ 32) : count (f ++ 32 :: r) [32] = count r [32] + 1 := by
  rw [count_one, count_one, List.count_append, List.count_eq_zero.2 (fun hm => h 32 hm rfl)]
  simp
/-- The parts of a line. -/
def partsD (l : List UInt8) : List (List UInt8) := split l [32]
theorem parts_one (f : List UInt8) (h : ∀ c ∈ f, c ≠ 32) : partsD f = [f] := by
  unfold partsD split
  rw [count_no f h]
  rfl
theorem parts_at (f r : List UInt8) (h : ∀ c ∈ f, c ≠ 32) : partsD (f ++ 32 :: r) = f :: partsD r := by
  unfold partsD split
  rw [count_at f r h]
  have hi := index_at f r h
  show (if index (f ++ 32 :: r) [32] == -1 then [f ++ 32 :: r] else (f ++ 32 :: r).take ((index (f ++ 32 :: r) [32]).toNat + 0) :: splitK [32] 0 (count r [32]) ((f ++ 32 :: r).drop ((index (f ++ 32 :: r) [32]).toNat + [(32 : UInt8)].length))) = _
  have hm : ((f.length : Int) == -1) = false := by rw [beq_eq_false_iff_ne]; omega
  rw [hi, hm]
  simp only [Bool.false_eq_true, if_false]
  have e1 : (f ++ 32 :: r).take ((f.length : Int).toNat + 0) = f := by simp
  have e2 : (f ++ 32 :: r).drop ((f.length : Int).toNat + [(32 : UInt8)].length) = r := by
    simp [List.drop_append]
  rw [e1, e2]
theorem parts_line : ∀ (ns : List Int) (f : List UInt8), (∀ c ∈ f, c ≠ 32) → partsD (lineD f ns) = f :: ns.map itoa
  | [], f, h => by
    have e : lineD f [] = f := by simp [lineD]
    rw [e, parts_one f h]; rfl
  | n :: r, f, h => by
    have e : lineD f (n :: r) = f ++ 32 :: lineD (itoa n) r := by simp [lineD]
    rw [e, parts_at f _ h, parts_line r (itoa n) (itoa_mem n)]
    rfl
theorem word_mem (k : Int) : ∀ c ∈ wordD k, c ≠ 32 := by
  unfold wordD
  repeat (split; decide)
  decide
theorem nums_itoa : ∀ (ns : List Int), (∀ n ∈ ns, I64 n) → numsD (ns.map itoa) = some ns
  | [], _ => rfl
  | n :: r, h => by
    have e : numD (itoa n) = some n := by
      unfold numD
      rw [atoi_itoa n (h n (by simp))]
      simp
    simp only [List.map_cons, numsD, e, nums_itoa r (fun m hm => h m (by simp [hm]))]
/-- The instruction that a line tells. -/
def plD (s : List UInt8) : Option In := match partsD s with
  | [] => none
  | f :: r => match numsD r with
    | none => none
    | some ns => fillD (kindD f) ns
/-- What an instruction names; the rest is 0. -/
def norm (x : In) : In := if x.k = 1 ∨ x.k = 2 then ⟨x.k, x.a, x.b, x.c, []⟩ else if x.k = 3 ∨ x.k = 5 then ⟨x.k, x.a, x.b, 0, []⟩ else if x.k = 4 then ⟨x.k, x.a, x.b, 0, x.l⟩ else ⟨x.k, 0, 0, 0, []⟩
theorem pl_line (x : In) (h : Fine x) : plD (lineOf x) = if 1 ≤ x.k ∧ x.k ≤ 7 then some (norm x) else none := by
  unfold plD lineOf
  rw [parts_line _ _ (word_mem x.k)]
  simp only [nums_itoa _ (fine_named h).1]
  obtain ⟨k, a, b, c, l⟩ := x
  by_cases h1 : k = 1
  · subst h1; rfl
  by_cases h2 : k = 2
  · subst h2; rfl
  by_cases h3 : k = 3
  · subst h3; rfl
  by_cases h4 : k = 4
  · subst h4
    have e : kindD (wordD 4) = 4 := by decide
    simp [e, fillD, namedD, norm]
  by_cases h5 : k = 5
  · subst h5; rfl
  by_cases h6 : k = 6
  · subst h6; rfl
  by_cases h7 : k = 7
  · subst h7; rfl
  have e : wordD k = [] := by simp [wordD, h1, h2, h3, h4, h5, h6, h7]
  have e2 : kindD [] = 0 := by decide
  simp only [e, e2]
  rw [if_neg (by omega)]
  simp [fillD]
end Go.Proofs.YtanieihnkajpdaaDoor
