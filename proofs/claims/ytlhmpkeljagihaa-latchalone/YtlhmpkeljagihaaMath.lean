/- Plain facts on bytes of whole numbers of 64 bits. No Go in sight. -/
import Derived.Test.YtlhmpkeljagihaaObj
namespace Go.Proofs.Ytlhmpkeljagihaa
open Go.RowKit

/-- A whole number of 64 bits. -/
def In (n : Int) : Prop := -9223372036854775808 ≤ n ∧ n ≤ 9223372036854775807
theorem in_of_wf {n : Int} (h : (Lit.int .i64 n).wf = true) : In n := by
  simp [Lit.wf, IntKind.min, IntKind.max, IntKind.signed, IntKind.bits] at h
  exact ⟨by omega, by omega⟩
theorem in_wrap (n : Int) : In (wrap64 n) := by unfold In wrap64; omega
theorem wrap_of_in {n : Int} (h : In n) : wrap64 n = n := by obtain ⟨h1, h2⟩ := h; unfold wrap64; omega

/-- The byte j of x. -/
def byteOf (x : Int) (j : Nat) : Int := x / 2 ^ (8 * j) % 256
/-- x with the byte j made v. -/
def putByte (x : Int) (j : Nat) (v : Int) : Int := wrap64 (x - x / 2 ^ (8 * j) % 256 * 2 ^ (8 * j) + v * 2 ^ (8 * j))

theorem bit_ff (s i : Nat) : Nat.testBit (255 * 2 ^ s) i = (decide (s ≤ i) && decide (i < s + 8)) := by
  rw [Nat.testBit_mul_two_pow, show (255 : Nat) = 2 ^ 8 - 1 from rfl, Nat.testBit_two_pow_sub_one]
  by_cases h : s ≤ i
  · simp [h]; omega
  · simp [h]
theorem bit_put (u s v i : Nat) (hv : v < 256) : Nat.testBit (2 ^ s * (2 ^ 8 * (u / 2 ^ (s + 8)) + v) + u % 2 ^ s) i = if s ≤ i ∧ i < s + 8 then v.testBit (i - s) else u.testBit i := by
  rw [Nat.testBit_two_pow_mul_add _ (Nat.mod_lt _ (Nat.two_pow_pos s))]
  by_cases h : i < s
  · rw [if_pos h, if_neg (by omega), Nat.testBit_mod_two_pow]; simp [h]
  · rw [if_neg h, Nat.testBit_two_pow_mul_add _ (show v < 2 ^ 8 from hv)]
    by_cases h' : i - s < 8
    · rw [if_pos h', if_pos (by omega)]
    · rw [if_neg h', if_neg (by omega), Nat.testBit_div_two_pow]; congr 1; omega
theorem nat_parts (u s : Nat) : u = 2 ^ s * (2 ^ 8 * (u / 2 ^ (s + 8)) + u / 2 ^ s % 256) + u % 2 ^ s := by
  have h1 := Nat.div_add_mod u (2 ^ s)
  have h2 := Nat.div_add_mod (u / 2 ^ s) 256
  rw [Nat.div_div_eq_div_mul, show 2 ^ s * 256 = 2 ^ (s + 8) from by rw [Nat.pow_add]] at h2
  rw [show (2 : Nat) ^ 8 = 256 from rfl, h2, h1]
theorem bv_put (X : BitVec 64) (s v : Nat) (hv : v < 256) :
    (X &&& ~~~(BitVec.ofNat 64 (255 * 2 ^ s))) ||| BitVec.ofNat 64 (v * 2 ^ s) = BitVec.ofNat 64 (2 ^ s * (2 ^ 8 * (X.toNat / 2 ^ (s + 8)) + v) + X.toNat % 2 ^ s) := by
  apply BitVec.eq_of_getLsbD_eq
  intro i hi
  rw [BitVec.getLsbD_or, BitVec.getLsbD_and, BitVec.getLsbD_not, BitVec.getLsbD_ofNat, BitVec.getLsbD_ofNat, BitVec.getLsbD_ofNat, bit_ff, bit_put _ _ _ _ hv, Nat.testBit_mul_two_pow]
  by_cases h : s ≤ i
  · by_cases h' : i < s + 8
    · simp [h, h', hi]
    · have hz : v.testBit (i - s) = false := Nat.testBit_lt_two_pow (Nat.lt_of_lt_of_le hv (by
        show 2 ^ 8 ≤ 2 ^ (i - s)
        exact Nat.pow_le_pow_right (by decide) (by omega)))
      simp [h, h', hi, hz]; rfl
  · simp [h, hi]; rfl

def B (n : Int) : BitVec 64 := BitVec.ofInt 64 n
theorem toNat_B (x : Int) : ((B x).toNat : Int) = x % 18446744073709551616 := by
  unfold B; rw [BitVec.toNat_ofInt]; simp; omega
theorem B_congr {x y : Int} (h : x % 18446744073709551616 = y % 18446744073709551616) : B x = B y := by
  apply BitVec.eq_of_toNat_eq
  have h1 := toNat_B x
  have h2 := toNat_B y
  omega
theorem B_nat (n : Nat) : B (n : Int) = BitVec.ofNat 64 n := by unfold B; exact BitVec.ofInt_natCast _ _
theorem B_wrap (x : Int) : B (wrap64 x) = B x := B_congr (by unfold wrap64; omega)
theorem B_uwrap (x : Int) : B (IntKind.u64.wrap x) = B x := B_congr (by rw [IntKind.wrap_u64]; omega)
theorem B_of_toNat (v : BitVec 64) : B (v.toNat : Int) = v := by rw [B_nat]; simp
theorem andNot_i64 (x y : Int) : bits .andNot .i64 x y = wrap64 ((B x &&& ~~~(B y)).toNat : Int) := by
  show IntKind.i64.wrap ((B x &&& ~~~(B y)).toNat : Int) = _
  rw [IntKind.wrap_i64]; unfold wrap64; omega
theorem or_i64 (x y : Int) : bits .or .i64 x y = wrap64 ((B x ||| B y).toNat : Int) := by
  show IntKind.i64.wrap ((B x ||| B y).toNat : Int) = _
  rw [IntKind.wrap_i64]; unfold wrap64; omega
theorem and_i64 (x y : Int) : bits .and .i64 x y = wrap64 ((B x &&& B y).toNat : Int) := by
  show IntKind.i64.wrap ((B x &&& B y).toNat : Int) = _
  rw [IntKind.wrap_i64]; unfold wrap64; omega
theorem andNot_u64 (x y : Int) : bits .andNot .u64 x y = ((B x &&& ~~~(B y)).toNat : Int) := by
  show IntKind.u64.wrap ((B x &&& ~~~(B y)).toNat : Int) = _
  rw [IntKind.wrap_u64]; have := (B x &&& ~~~(B y)).isLt; omega
theorem or_u64 (x y : Int) : bits .or .u64 x y = ((B x ||| B y).toNat : Int) := by
  show IntKind.u64.wrap ((B x ||| B y).toNat : Int) = _
  rw [IntKind.wrap_u64]; have := (B x ||| B y).isLt; omega
theorem and_u64 (x y : Int) : bits .and .u64 x y = ((B x &&& B y).toNat : Int) := by
  show IntKind.u64.wrap ((B x &&& B y).toNat : Int) = _
  rw [IntKind.wrap_u64]; have := (B x &&& B y).isLt; omega
theorem and_ff (X : BitVec 64) : (X &&& B 255).toNat = X.toNat % 256 := by
  rw [BitVec.toNat_and, show (B 255).toNat = 2 ^ 8 - 1 from rfl, Nat.and_two_pow_sub_one_eq_mod]
theorem mod_ff_i (x : Int) : bits .and .i64 x 255 = x % 256 := by
  rw [and_i64, and_ff]
  have h := toNat_B x
  unfold wrap64; omega
theorem mod_ff_u (x : Int) : bits .and .u64 x 255 = x % 256 := by
  rw [and_u64, and_ff]
  have h := toNat_B x
  omega

theorem B_ff (s : Nat) : B (255 * 2 ^ s) = BitVec.ofNat 64 (255 * 2 ^ s) := by
  rw [← B_nat]; congr 1
theorem B_vs (v s : Nat) : B ((v : Int) * 2 ^ s) = BitVec.ofNat 64 (v * 2 ^ s) := by
  rw [← B_nat]; congr 1

theorem put_eq (x : Int) (X j v : Nat) (hj : j < 8) (hX : (X : Int) = x % 18446744073709551616) :
    wrap64 (((2 ^ (8 * j) * (2 ^ 8 * (X / 2 ^ (8 * j + 8)) + v) + X % 2 ^ (8 * j) : Nat)) : Int) = putByte x j v := by
  unfold putByte wrap64
  match j, hj with
  | 0, _ => simp; omega
  | 1, _ => simp; omega
  | 2, _ => simp; omega
  | 3, _ => simp; omega
  | 4, _ => simp; omega
  | 5, _ => simp; omega
  | 6, _ => simp; omega
  | 7, _ => simp; omega
theorem B_nat_wrap (n : Nat) : wrap64 ((BitVec.ofNat 64 n).toNat : Int) = wrap64 (n : Int) := by
  rw [BitVec.toNat_ofNat]; unfold wrap64; omega
theorem put_i64 (x : Int) (j v : Nat) (hj : j < 8) (hv : v < 256) :
    bits .or .i64 (bits .andNot .i64 x (wrap64 (255 * 2 ^ (8 * j)))) (wrap64 ((v : Int) * 2 ^ (8 * j))) = putByte x j v := by
  rw [or_i64, andNot_i64, B_wrap, B_wrap, B_wrap, B_of_toNat, B_ff, B_vs, bv_put _ _ _ hv, B_nat_wrap]
  exact put_eq x _ j v hj (toNat_B x)
theorem put_u64 (x : Int) (j v : Nat) (hj : j < 8) (hv : v < 256) :
    wrap64 (bits .or .u64 (bits .andNot .u64 (IntKind.u64.wrap x) (IntKind.u64.wrap (255 * 2 ^ (8 * j)))) (IntKind.u64.wrap ((v : Int) * 2 ^ (8 * j)))) = putByte x j v := by
  rw [or_u64, andNot_u64, B_uwrap, B_uwrap, B_uwrap, B_of_toNat, B_ff, B_vs, bv_put _ _ _ hv, B_nat_wrap]
  exact put_eq x _ j v hj (toNat_B x)
theorem byte_i64 (x : Int) (j : Nat) : bits .and .i64 (x / 2 ^ (8 * j)) 255 = byteOf x j := mod_ff_i _
theorem byte_u64 (x : Int) (j : Nat) (hj : j < 8) : wrap64 (bits .and .u64 (IntKind.u64.wrap x / 2 ^ (8 * j)) 255) = byteOf x j := by
  rw [mod_ff_u, IntKind.wrap_u64]
  unfold byteOf wrap64
  match j, hj with
  | 0, _ => simp; omega
  | 1, _ => simp; omega
  | 2, _ => simp; omega
  | 3, _ => simp; omega
  | 4, _ => simp; omega
  | 5, _ => simp; omega
  | 6, _ => simp; omega
  | 7, _ => simp; omega
end Go.Proofs.Ytlhmpkeljagihaa
