/- Decimal texts: what is printed is read again. No Go in sight. -/
import Derived.Lib.AtoiAll
import Derived.Lib.ItoaNum
import Derived.Lib.ItoaLen
import Derived.Test.YtanieihnkajpdaaDoorRow
namespace Go.Proofs.YtanieihnkajpdaaDoor
open Go.Lib

def I64 (n : Int) : Prop := -9223372036854775808 ≤ n ∧ n ≤ 9223372036854775807
theorem dig_val (d : Nat) (h : d < 10) : (UInt8.ofNat (48 + d)).toNat = 48 + d := by
  rw [UInt8.toNat_ofNat']
  omega
theorem pu_snoc : ∀ (l : List UInt8) (acc m : Nat) (d : Nat), d < 10 → m < 1844674407370955162 → m * 10 + d < 18446744073709551616 → parseUint10 acc l = .ok m → parseUint10 acc (l ++ [UInt8.ofNat (48 + d)]) = .ok (m * 10 + d)
  | [], acc, m, d, hd, hm, hb, h => by
    simp only [parseUint10] at h
    injection h with h
    subst h
    simp only [List.nil_append, parseUint10, dig_val d hd]
    rw [if_pos (by omega), if_neg (by omega), if_neg (by omega)]
    congr 1
    omega
  | c :: r, acc, m, d, hd, hm, hb, h => by
    simp only [List.cons_append, parseUint10] at h ⊢
    split at h
    · rename_i h1
      rw [if_pos h1]
      split at h
      · cases h
      · rename_i h2
        rw [if_neg h2]
        split at h
        · cases h
        · rename_i h3
          rw [if_neg h3]
          exact pu_snoc r _ m d hd hm hb h
    · cases h
theorem pu_dec (u : Nat) (h : u < 18446744073709551616) : parseUint10 0 (decDigits u) = .ok u := by
  induction u using Nat.strongRecOn with
  | ind u ih =>
    rw [decDigits]
    split
    · rename_i h1
      simp only [parseUint10, dig_val u h1]
      rw [if_pos (by omega), if_neg (by omega), if_neg (by omega)]
      congr 1
      omega
    · rename_i h1
      have e := pu_snoc (decDigits (u / 10)) 0 (u / 10) (u % 10) (by omega) (by omega) (by omega) (ih (u / 10) (by omega) (by omega))
      rw [e]
      congr 1
      omega
theorem dec_ne (u : Nat) : decDigits u ≠ [] := by
  rw [decDigits]
  split
  · simp
  · simp
theorem dec_mem (u : Nat) : ∀ c ∈ decDigits u, 48 ≤ c.toNat ∧ c.toNat ≤ 57 := by
  induction u using Nat.strongRecOn with
  | ind u ih =>
    intro c hc
    rw [decDigits] at hc
    split at hc
    · rename_i h1
      simp only [List.mem_singleton] at hc
      subst hc
      rw [dig_val u h1]; omega
    · simp only [List.mem_append, List.mem_singleton] at hc
      rcases hc with hc | hc
      · exact ih (u / 10) (by omega) c hc
      · subst hc
        rw [dig_val _ (by omega)]; omega
theorem pm_dec (u : Nat) (h : u < 18446744073709551616) : parseMag (decDigits u) = .ok u := by
  unfold parseMag
  rw [if_neg (dec_ne u), pu_dec u h]
/-- What Itoa prints Atoi reads. -/
theorem atoi_itoa (n : Int) (h : I64 n) : atoiAll (itoa n) = .ok n := by
  unfold itoa
  split
  · rename_i h1
    have hu : n.natAbs < 18446744073709551616 := by have := h.1; omega
    show atoiAll (45 :: decDigits n.natAbs) = _
    unfold atoiAll
    have e45 : (45 : UInt8).toNat = 45 := rfl
    simp only [e45, or_true, if_true, pm_dec _ hu, not_true_eq_false, false_and, if_false, true_and]
    rw [if_neg (by have := h.1; omega)]
    congr 1
    omega
  · rename_i h1
    have hu : n.toNat < 18446744073709551616 := by have := h.2; omega
    have hm := dec_mem n.toNat
    have hp := pm_dec n.toNat hu
    generalize decDigits n.toNat = l at hm hp
    cases l with
    | nil => simp [parseMag] at hp
    | cons c r =>
      have hc := hm c (by simp)
      unfold atoiAll
      simp only
      rw [if_neg (by omega), hp]
      simp only
      rw [if_neg (by have := h.2; omega), if_neg (by omega), if_neg (by omega)]
      congr 1
      omega
/-- No space in it. -/
theorem itoa_mem (n : Int) : ∀ c ∈ itoa n, c ≠ 32 := by
  intro c hc e
  subst e
  unfold itoa at hc
  split at hc
  · simp only [List.mem_cons] at hc
    rcases hc with hc | hc
    · cases hc
    · have := (dec_mem _ _ hc).1
      revert this; decide
  · have := (dec_mem _ _ hc).1
    revert this; decide
/-- A line: its word, and behind a space each number. -/
def lineD (f : List UInt8) (ns : List Int) : List UInt8 := f ++ (ns.map fun n => 32 :: itoa n).flatten
theorem line_snoc {f : List UInt8} {ns : List Int} {k : Nat} (h : k < ns.length) : lineD f (ns.take (k + 1)) = lineD f (ns.take k) ++ [32] ++ itoa (ns.getD k 0) := by
  have e : ns.getD k 0 = ns[k] := by simp [h]
  unfold lineD
  rw [List.take_add_one, List.getElem?_eq_getElem h, e]
  simp only [Option.toList, List.map_append, List.map_cons, List.map_nil, List.flatten_append, List.flatten_cons, List.flatten_nil, List.append_nil, List.append_assoc, List.cons_append, List.nil_append]
theorem line_len {f : List UInt8} {ns : List Int} (hi : ∀ n ∈ ns, I64 n) : (lineD f ns).length ≤ f.length + 22 * ns.length := by
  unfold lineD
  induction ns with
  | nil => simp
  | cons n r ih =>
    have h1 := itoa_length_le n (hi n (by simp)).1 (hi n (by simp)).2
    have h2 := ih (fun m hm => hi m (by simp [hm]))
    simp only [List.map_cons, List.flatten_cons, List.length_append, List.length_cons] at h2 ⊢
    omega
end Go.Proofs.YtanieihnkajpdaaDoor
