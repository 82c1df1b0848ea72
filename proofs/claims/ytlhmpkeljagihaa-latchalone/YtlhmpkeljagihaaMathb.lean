/- Plain facts on bytes that are put and read back. No Go in sight. -/
import Derived.Test.YtlhmpkeljagihaaMath
namespace Go.Proofs.Ytlhmpkeljagihaa
open Go.RowKit

theorem eight {j : Nat} (h : j < 8) : j = 0 ∨ j = 1 ∨ j = 2 ∨ j = 3 ∨ j = 4 ∨ j = 5 ∨ j = 6 ∨ j = 7 := by omega
theorem get_put_same (x : Int) (k : Nat) (b : Int) (hk : k < 8) (h0 : 0 ≤ b) (h1 : b < 256) : byteOf (putByte x k b) k = b := by
  unfold byteOf putByte wrap64
  rcases eight hk with rfl | rfl | rfl | rfl | rfl | rfl | rfl | rfl <;> (simp; omega)
set_option maxHeartbeats 4000000 in
theorem get_put_other (x : Int) (k i : Nat) (b : Int) (hk : k < 8) (hi : i < 8) (h : i ≠ k) (h0 : 0 ≤ b) (h1 : b < 256) : byteOf (putByte x k b) i = byteOf x i := by
  unfold byteOf putByte wrap64
  rcases eight hk with rfl | rfl | rfl | rfl | rfl | rfl | rfl | rfl <;> rcases eight hi with rfl | rfl | rfl | rfl | rfl | rfl | rfl | rfl <;> first | (exact absurd rfl h) | (simp; omega)
theorem byte_range (x : Int) (j : Nat) : 0 ≤ byteOf x j ∧ byteOf x j < 256 := by unfold byteOf; omega

theorem nat_or_low (p y i : Nat) (hy : y < 2 ^ i) : p * 2 ^ i ||| y = p * 2 ^ i + y := by
  rw [Nat.mul_comm, ← Nat.two_pow_add_eq_or_of_lt hy]
theorem or_low (p y : Nat) (hp : p * 256 < 18446744073709551616) (hy : y < 256) : bits .or .u64 (IntKind.u64.wrap ((p : Int) * 256)) (y : Int) = ((p * 256 + y : Nat) : Int) := by
  rw [or_u64, B_uwrap, show ((p : Int) * 256) = ((p * 256 : Nat) : Int) by omega, B_nat, B_nat, BitVec.toNat_or, BitVec.toNat_ofNat, BitVec.toNat_ofNat, Nat.mod_eq_of_lt (by omega), Nat.mod_eq_of_lt (by omega), show 256 = 2 ^ 8 from rfl, nat_or_low p y 8 hy]
/-- What has been read back of X from the top down to the byte m. -/
def top (X : Int) (m : Nat) : Int := X % 18446744073709551616 / 2 ^ (8 * m)
theorem top_eight (X : Int) : top X 8 = 0 := by simp [top]; omega
theorem top_zero (X : Int) : top X 0 = X % 18446744073709551616 := by simp [top]
theorem top_parts (X : Int) (j : Nat) (hj : j < 8) : top X j = top X (j + 1) * 256 + byteOf X j ∧ 0 ≤ top X (j + 1) ∧ top X (j + 1) * 256 < 18446744073709551616 := by
  unfold top byteOf
  rcases eight hj with rfl | rfl | rfl | rfl | rfl | rfl | rfl | rfl <;> (simp; omega)
theorem top_step (X y : Int) (j : Nat) (hj : j < 8) (h : byteOf X j = y) : bits .or .u64 (IntKind.u64.wrap (top X (j + 1) * 256)) y = top X j := by
  obtain ⟨h1, h2, h3⟩ := top_parts X j hj
  obtain ⟨h4, h5⟩ := byte_range X j
  rw [h] at h1 h4 h5
  obtain ⟨p, hp⟩ := Int.eq_ofNat_of_zero_le h2
  obtain ⟨q, rfl⟩ := Int.eq_ofNat_of_zero_le h4
  rw [hp] at h1 h3 ⊢
  rw [or_low p q (by omega) (by omega), h1]
  omega
theorem uwrap_byte (x : Int) (j : Nat) : IntKind.u64.wrap (byteOf x j) = byteOf x j := by
  obtain ⟨h1, h2⟩ := byte_range x j
  rw [IntKind.wrap_u64]; omega
end Go.Proofs.Ytlhmpkeljagihaa
