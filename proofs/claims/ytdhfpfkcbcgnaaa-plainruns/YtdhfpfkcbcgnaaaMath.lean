/- Plain facts on lists of whole numbers of 64 bits: sums, products, bits, the greatest, the least, rising rows, equal rows. No Go in sight. -/
import Derived.Test.YtdhfpfkcbcgnaaaEval
namespace Go.Proofs.Ytdhfpfkcbcgnaaa.Calc
open Go.RowKit

/-- A whole number of 64 bits. -/
def In (n : Int) : Prop := -9223372036854775808 ≤ n ∧ n ≤ 9223372036854775807
theorem in_of_wf {n : Int} (h : (Lit.int .i64 n).wf = true) : In n := by
  simp [Lit.wf, IntKind.min, IntKind.max, IntKind.signed, IntKind.bits] at h
  exact ⟨by omega, by omega⟩
theorem in_wrap (n : Int) : In (wrap64 n) := by unfold In wrap64; omega
theorem wrap_of_in {n : Int} (h : In n) : wrap64 n = n := by obtain ⟨h1, h2⟩ := h; unfold wrap64; omega

/-! bits -/
def B (n : Int) : BitVec 64 := BitVec.ofInt 64 n
theorem wrap_toInt (v : BitVec 64) : IntKind.i64.wrap (v.toNat : Int) = v.toInt := by
  rw [IntKind.wrap_i64, BitVec.toInt_eq_toNat_bmod, Int.bmod_def]
  have := v.isLt
  omega
theorem B_toInt (v : BitVec 64) : B v.toInt = v := BitVec.ofInt_toInt
theorem toInt_B {n : Int} (h : In n) : (B n).toInt = n := by
  unfold B
  rw [BitVec.toInt_ofInt, Int.bmod_def]
  obtain ⟨h1, h2⟩ := h
  omega
theorem in_toInt (v : BitVec 64) : In v.toInt := by
  have h1 := BitVec.le_toInt v
  have h2 := BitVec.toInt_lt (x := v)
  exact ⟨by simpa using h1, by simp at h2; omega⟩
theorem and_B (x y : Int) : bits .and .i64 x y = (B x &&& B y).toInt := wrap_toInt _
theorem or_B (x y : Int) : bits .or .i64 x y = (B x ||| B y).toInt := wrap_toInt _
def and2 (x y : Int) : Int := bits .and .i64 x y
def or2 (x y : Int) : Int := bits .or .i64 x y
def add2 (x y : Int) : Int := wrap64 (x + y)
def mul2 (x y : Int) : Int := wrap64 (x * y)

theorem add_assoc2 (a b c : Int) : add2 (add2 a b) c = add2 a (add2 b c) := by unfold add2 wrap64; omega
theorem add_comm2 (a b : Int) : add2 a b = add2 b a := by unfold add2; rw [Int.add_comm]
theorem wrap_emod (n : Int) : wrap64 n % 18446744073709551616 = n % 18446744073709551616 := by unfold wrap64; omega
theorem wrap_congr {a b : Int} (h : a % 18446744073709551616 = b % 18446744073709551616) : wrap64 a = wrap64 b := by unfold wrap64; omega
theorem mul_assoc2 (a b c : Int) : mul2 (mul2 a b) c = mul2 a (mul2 b c) := by
  unfold mul2
  apply wrap_congr
  rw [Int.mul_emod, wrap_emod, ← Int.mul_emod, Int.mul_emod a (wrap64 _), wrap_emod, ← Int.mul_emod, Int.mul_assoc]
theorem mul_comm2 (a b : Int) : mul2 a b = mul2 b a := by unfold mul2; rw [Int.mul_comm]
theorem and_assoc2 (a b c : Int) : and2 (and2 a b) c = and2 a (and2 b c) := by
  unfold and2; simp only [and_B, B_toInt, BitVec.and_assoc]
theorem and_comm2 (a b : Int) : and2 a b = and2 b a := by unfold and2; rw [and_B, and_B, BitVec.and_comm]
theorem or_assoc2 (a b c : Int) : or2 (or2 a b) c = or2 a (or2 b c) := by
  unfold or2; simp only [or_B, B_toInt, BitVec.or_assoc]
theorem or_comm2 (a b : Int) : or2 a b = or2 b a := by unfold or2; rw [or_B, or_B, BitVec.or_comm]
theorem add_zero2 {n : Int} (h : In n) : add2 0 n = n := by unfold add2; rw [Int.zero_add]; exact wrap_of_in h
theorem mul_one2 {n : Int} (h : In n) : mul2 1 n = n := by unfold mul2; rw [Int.one_mul]; exact wrap_of_in h
theorem and_ones2 {n : Int} (h : In n) : and2 (-1) n = n := by
  unfold and2; rw [and_B, show B (-1) = BitVec.allOnes 64 from by decide, BitVec.allOnes_and]; exact toInt_B h
theorem or_zero2 {n : Int} (h : In n) : or2 0 n = n := by
  unfold or2; rw [or_B, show B 0 = 0#64 from by decide, BitVec.zero_or]; exact toInt_B h
theorem in_add (a b : Int) : In (add2 a b) := in_wrap _
theorem in_mul (a b : Int) : In (mul2 a b) := in_wrap _
theorem in_and (a b : Int) : In (and2 a b) := by unfold and2; rw [and_B]; exact in_toInt _
theorem in_or (a b : Int) : In (or2 a b) := by unfold or2; rw [or_B]; exact in_toInt _

theorem max_assoc2 (a b c : Int) : max2 (max2 a b) c = max2 a (max2 b c) := by unfold max2; repeat' split <;> omega
theorem max_comm2 (a b : Int) : max2 a b = max2 b a := by unfold max2; repeat' split <;> omega
theorem min_assoc2 (a b c : Int) : min2 (min2 a b) c = min2 a (min2 b c) := by unfold min2; repeat' split <;> omega
theorem min_comm2 (a b : Int) : min2 a b = min2 b a := by unfold min2; repeat' split <;> omega

/-! folds -/
section
variable {f : Int → Int → Int} {e : Int}
theorem fold_from (assoc : ∀ a b c, f (f a b) c = f a (f b c)) (unit : ∀ n, In n → f e n = n) (stay : ∀ a b, In (f a b)) (comm : ∀ a b, f a b = f b a) (l : List Int) :
    (∀ n ∈ l, In n) → ∀ a, In a → l.foldl f a = f a (l.foldl f e) := by
  induction l with
  | nil => intro _ a ha; simp; rw [comm, unit a ha]
  | cons x l ih =>
    intro hl a ha
    have hx : In x := hl x (by simp)
    have hl' : ∀ n ∈ l, In n := fun n hn => hl n (by simp [hn])
    simp only [List.foldl_cons]
    rw [ih hl' (f a x) (stay a x), ih hl' (f e x) (stay e x), unit x hx, assoc]
theorem fold_parts (assoc : ∀ a b c, f (f a b) c = f a (f b c)) (unit : ∀ n, In n → f e n = n) (stay : ∀ a b, In (f a b)) (comm : ∀ a b, f a b = f b a) (l k : List Int) (hl : ∀ n ∈ l, In n) (hk : ∀ n ∈ k, In n) (hne : l ≠ []) :
    (l ++ k).foldl f e = f (l.foldl f e) (k.foldl f e) := by
  rw [List.foldl_append]
  apply fold_from assoc unit stay comm k hk
  cases l with
  | nil => exact absurd rfl hne
  | cons x l =>
    clear hne
    have hx : In x := hl x (by simp)
    simp only [List.foldl_cons]
    rw [unit x hx]
    have hl' : ∀ n ∈ l, In n := fun n hn => hl n (by simp [hn])
    rw [fold_from assoc unit stay comm l hl' x hx]
    exact stay _ _
end
theorem fold_perm {f : Int → Int → Int} (assoc : ∀ a b c, f (f a b) c = f a (f b c)) (comm : ∀ a b, f a b = f b a) {l k : List Int} (p : l.Perm k) (e : Int) : l.foldl f e = k.foldl f e :=
  p.foldl_eq' (fun x _ y _ z => by rw [assoc, comm x y, ← assoc]) e
end Go.Proofs.Ytdhfpfkcbcgnaaa.Calc
