/- The leaves of package calc and of the reference: what each function answers for a slice of integers that it reads. -/
import Derived.Test.YtdhfpfkcbcgnaaaRows
import Derived.WalkKit
import Derived.WalkSpells
import Derived.WalkLawsBesides
import Derived.Deep.QuietTactic
import Derived.BigQuiet
import Derived.Outline
namespace Go.Proofs.Ytdhfpfkcbcgnaaa.Calc
open Go.RowKit

/-- A slice of integers that is read: 'len' cells from 'a' on hold the numbers 'l'. -/
def Seg (w : World) (a : Option Addr) (len : Nat) (l : List Int) : Prop :=
  l.length = len ∧ (len = 0 ∨ ∃ b off, a = some ⟨b, off, none⟩ ∧ ∀ i, i < len → w.cell? ⟨b, off + i, none⟩ = some (.int .i64 (l.getD i 0)))

theorem ret_int {k : IntKind} {a b : Int} (h : a = b) : Ending.returned (.int k a) = .returned (.int k b) := by rw [h]

theorem fold_snoc {α : Type} (f : α → Int → α) (z : α) (l : List Int) (k : Nat) (h : k < l.length) :
    (l.take (k + 1)).foldl f z = f ((l.take k).foldl f z) l[k] := by
  rw [List.take_succ_eq_append_getElem h, List.foldl_append]; rfl
theorem take_all (l : List Int) (k : Nat) (h : ¬ k < l.length) : l.take k = l := List.take_of_length_le (by omega)

def sumL (l : List Int) : Int := l.foldl (fun t n => wrap64 (t + n)) 0
def mulL (l : List Int) : Int := l.foldl (fun t n => wrap64 (t * n)) 1

theorem sum_any (a : Option Addr) (len cap : Nat) (l : List Int) (w : World) (hs : Seg w a len l) (hm : len ≤ maxLen) :
    Calls Try.prog 54 #[.slice a len cap] w fun e w' => e = .returned (.int .i64 (sumL l)) ∧ w' = w := by
  unfold maxLen at hm
  obtain ⟨rfl, hs⟩ := hs
  rcases hs with h0 | ⟨b, off, rfl, hc⟩
  · obtain rfl : l = [] := List.eq_nil_of_length_eq_zero h0
    go_enter Try.func54, Try.ntmps54
    go_wp2
    go_loop [3, 8] (fun t i => i = .int .i64 0 ∧ t = .int .i64 0) (fun _ i => 1)
    case atStart => exact ⟨rfl, rfl⟩
    case round =>
      obtain ⟨rfl, rfl⟩ := hrel
      go_wp2
      go_ret
      exact ⟨rfl, rfl⟩
  · go_enter Try.func54, Try.ntmps54
    go_wp2
    go_loop [3, 8] (fun t i => ∃ k : Nat, k ≤ l.length ∧ i = .int .i64 k ∧ t = .int .i64 (sumL (l.take k))) (fun _ i => l.length - (intOf i).toNat)
    case atStart => exact ⟨0, Nat.zero_le _, rfl, rfl⟩
    case round =>
      obtain ⟨k, hk, rfl, rfl⟩ := hrel
      have hcell : k < l.length → w.cell? ⟨b, off + k, none⟩ = some (.int .i64 (l.getD k 0)) := fun h => hc k h
      go_wp2
      · go_round
        case rel => exact ⟨k + 1, by omega, by go_num, by rw [sumL, sumL, fold_snoc _ _ _ _ ‹_›]⟩
        case measure => simp [intOf]; omega
      · go_ret
        exact ⟨ret_int (by rw [take_all _ _ ‹_›]), rfl⟩

theorem mul_any (a : Option Addr) (len cap : Nat) (l : List Int) (w : World) (hs : Seg w a len l) (hm : len ≤ maxLen) :
    Calls Try.prog 56 #[.slice a len cap] w fun e w' => e = .returned (.int .i64 (mulL l)) ∧ w' = w := by
  unfold maxLen at hm
  obtain ⟨rfl, hs⟩ := hs
  rcases hs with h0 | ⟨b, off, rfl, hc⟩
  · obtain rfl : l = [] := List.eq_nil_of_length_eq_zero h0
    go_enter Try.func56, Try.ntmps56
    go_wp2
    go_loop [3, 8] (fun t i => i = .int .i64 0 ∧ t = .int .i64 1) (fun _ i => 1)
    case atStart => exact ⟨rfl, rfl⟩
    case round =>
      obtain ⟨rfl, rfl⟩ := hrel
      go_wp2
      go_ret
      exact ⟨rfl, rfl⟩
  · go_enter Try.func56, Try.ntmps56
    go_wp2
    go_loop [3, 8] (fun t i => ∃ k : Nat, k ≤ l.length ∧ i = .int .i64 k ∧ t = .int .i64 (mulL (l.take k))) (fun _ i => l.length - (intOf i).toNat)
    case atStart => exact ⟨0, Nat.zero_le _, rfl, rfl⟩
    case round =>
      obtain ⟨k, hk, rfl, rfl⟩ := hrel
      have hcell : k < l.length → w.cell? ⟨b, off + k, none⟩ = some (.int .i64 (l.getD k 0)) := fun h => hc k h
      go_wp2
      · go_round
        case rel => exact ⟨k + 1, by omega, by go_num, by rw [mulL, mulL, fold_snoc _ _ _ _ ‹_›]⟩
        case measure => simp [intOf]; omega
      · go_ret
        exact ⟨ret_int (by rw [take_all _ _ ‹_›]), rfl⟩

theorem and_any (a : Option Addr) (len cap : Nat) (l : List Int) (w : World) (hs : Seg w a len l) (hm : len ≤ maxLen) :
    Calls Try.prog 60 #[.slice a len cap] w fun e w' => e = .returned (.int .i64 (l.foldl (fun t n => bits .and .i64 t n) (-1))) ∧ w' = w := by
  unfold maxLen at hm
  obtain ⟨rfl, hs⟩ := hs
  rcases hs with h0 | ⟨b, off, rfl, hc⟩
  · obtain rfl : l = [] := List.eq_nil_of_length_eq_zero h0
    go_enter Try.func60, Try.ntmps60
    go_wp2
    go_loop [3, 8] (fun t i => i = .int .i64 0 ∧ t = .int .i64 (-1)) (fun _ i => 1)
    case atStart => exact ⟨rfl, rfl⟩
    case round =>
      obtain ⟨rfl, rfl⟩ := hrel
      go_wp2
      go_ret
      exact ⟨rfl, rfl⟩
  · go_enter Try.func60, Try.ntmps60
    go_wp2
    go_loop [3, 8] (fun t i => ∃ k : Nat, k ≤ l.length ∧ i = .int .i64 k ∧ t = .int .i64 ((l.take k).foldl (fun t n => bits .and .i64 t n) (-1))) (fun _ i => l.length - (intOf i).toNat)
    case atStart => exact ⟨0, Nat.zero_le _, rfl, rfl⟩
    case round =>
      obtain ⟨k, hk, rfl, rfl⟩ := hrel
      have hcell : k < l.length → w.cell? ⟨b, off + k, none⟩ = some (.int .i64 (l.getD k 0)) := fun h => hc k h
      go_wp2
      · go_round
        case rel => exact ⟨k + 1, by omega, by go_num, by rw [fold_snoc _ _ _ _ ‹_›]⟩
        case measure => simp [intOf]; omega
      · go_ret
        exact ⟨ret_int (by rw [take_all _ _ ‹_›]), rfl⟩

theorem or_any (a : Option Addr) (len cap : Nat) (l : List Int) (w : World) (hs : Seg w a len l) (hm : len ≤ maxLen) :
    Calls Try.prog 61 #[.slice a len cap] w fun e w' => e = .returned (.int .i64 (l.foldl (fun t n => bits .or .i64 t n) 0)) ∧ w' = w := by
  unfold maxLen at hm
  obtain ⟨rfl, hs⟩ := hs
  rcases hs with h0 | ⟨b, off, rfl, hc⟩
  · obtain rfl : l = [] := List.eq_nil_of_length_eq_zero h0
    go_enter Try.func61, Try.ntmps61
    go_wp2
    go_loop [3, 8] (fun t i => i = .int .i64 0 ∧ t = .int .i64 0) (fun _ i => 1)
    case atStart => exact ⟨rfl, rfl⟩
    case round =>
      obtain ⟨rfl, rfl⟩ := hrel
      go_wp2
      go_ret
      exact ⟨rfl, rfl⟩
  · go_enter Try.func61, Try.ntmps61
    go_wp2
    go_loop [3, 8] (fun t i => ∃ k : Nat, k ≤ l.length ∧ i = .int .i64 k ∧ t = .int .i64 ((l.take k).foldl (fun t n => bits .or .i64 t n) 0)) (fun _ i => l.length - (intOf i).toNat)
    case atStart => exact ⟨0, Nat.zero_le _, rfl, rfl⟩
    case round =>
      obtain ⟨k, hk, rfl, rfl⟩ := hrel
      have hcell : k < l.length → w.cell? ⟨b, off + k, none⟩ = some (.int .i64 (l.getD k 0)) := fun h => hc k h
      go_wp2
      · go_round
        case rel => exact ⟨k + 1, by omega, by go_num, by rw [fold_snoc _ _ _ _ ‹_›]⟩
        case measure => simp [intOf]; omega
      · go_ret
        exact ⟨ret_int (by rw [take_all _ _ ‹_›]), rfl⟩


theorem head_at {b off : Nat} {l : List Int} {w : World} (hc : ∀ i, i < l.length → w.cell? ⟨b, off + i, none⟩ = some (.int .i64 (l.getD i 0))) (h : 0 < l.length) :
    w.cell? ⟨b, off, none⟩ = some (.int .i64 (l.getD 0 0)) := by simpa using hc 0 h


def max2 (t n : Int) : Int := if t < n then n else t
def maxTo (l : List Int) (k : Nat) : Int := (l.take k).foldl max2 (l.getD 0 0)
def maxL (l : List Int) : Int := l.foldl max2 (l.getD 0 0)
theorem maxTo_one (l : List Int) (h : 0 < l.length) : maxTo l 1 = l[0] := by
  cases l with
  | nil => simp at h
  | cons a t => simp [maxTo, max2]
theorem maxTo_succ (l : List Int) (k : Nat) (h : k < l.length) : maxTo l (k + 1) = max2 (maxTo l k) l[k] := by
  unfold maxTo; rw [fold_snoc _ _ _ _ h]
theorem maxTo_all (l : List Int) (k : Nat) (h : ¬ k < l.length) : maxTo l k = maxL l := by
  unfold maxTo maxL; rw [take_all _ _ h]

theorem max_any (a : Option Addr) (len cap : Nat) (l : List Int) (w : World) (hs : Seg w a len l) (hm : len ≤ maxLen) (hne : 0 < len) :
    Calls Try.prog 63 #[.slice a len cap] w fun e w' => e = .returned (.int .i64 (maxL l)) ∧ w' = w := by
  unfold maxLen at hm
  obtain ⟨rfl, hs⟩ := hs
  rcases hs with h0 | ⟨b, off, rfl, hc⟩
  · omega
  · have hz := head_at hc hne
    have h1 : ¬ (l.length : Int) < 1 := by omega
    go_enter Try.func63, Try.ntmps63
    go_wp2
    go_loop [3, 4] (fun t i => ∃ k : Nat, 0 < k ∧ k ≤ l.length ∧ i = .int .i64 k ∧ t = .int .i64 (maxTo l k)) (fun _ i => l.length - (intOf i).toNat)
    case atStart => exact ⟨1, by omega, by omega, rfl, by rw [maxTo_one l hne]⟩
    case round =>
      obtain ⟨k, hk0, hk, rfl, rfl⟩ := hrel
      have hcell : k < l.length → w.cell? ⟨b, off + k, none⟩ = some (.int .i64 (l.getD k 0)) := fun h => hc k h
      go_wp2
      · go_round
        case rel => exact ⟨k + 1, by omega, by omega, by go_num, by rw [maxTo_succ _ _ ‹_›]; rfl⟩
        case measure => simp [intOf]; omega
      · go_ret
        exact ⟨ret_int (maxTo_all _ _ ‹_›), rfl⟩

def min2 (t n : Int) : Int := if n < t then n else t
def minTo (l : List Int) (k : Nat) : Int := (l.take k).foldl min2 (l.getD 0 0)
def minL (l : List Int) : Int := l.foldl min2 (l.getD 0 0)
theorem minTo_one (l : List Int) (h : 0 < l.length) : minTo l 1 = l[0] := by
  cases l with
  | nil => simp at h
  | cons a t => simp [minTo, min2]
theorem minTo_succ (l : List Int) (k : Nat) (h : k < l.length) : minTo l (k + 1) = min2 (minTo l k) l[k] := by
  unfold minTo; rw [fold_snoc _ _ _ _ h]
theorem minTo_all (l : List Int) (k : Nat) (h : ¬ k < l.length) : minTo l k = minL l := by
  unfold minTo minL; rw [take_all _ _ h]

theorem min_any (a : Option Addr) (len cap : Nat) (l : List Int) (w : World) (hs : Seg w a len l) (hm : len ≤ maxLen) (hne : 0 < len) :
    Calls Try.prog 64 #[.slice a len cap] w fun e w' => e = .returned (.int .i64 (minL l)) ∧ w' = w := by
  unfold maxLen at hm
  obtain ⟨rfl, hs⟩ := hs
  rcases hs with h0 | ⟨b, off, rfl, hc⟩
  · omega
  · have hz := head_at hc hne
    have h1 : ¬ (l.length : Int) < 1 := by omega
    go_enter Try.func64, Try.ntmps64
    go_wp2
    go_loop [3, 4] (fun t i => ∃ k : Nat, 0 < k ∧ k ≤ l.length ∧ i = .int .i64 k ∧ t = .int .i64 (minTo l k)) (fun _ i => l.length - (intOf i).toNat)
    case atStart => exact ⟨1, by omega, by omega, rfl, by rw [minTo_one l hne]⟩
    case round =>
      obtain ⟨k, hk0, hk, rfl, rfl⟩ := hrel
      have hcell : k < l.length → w.cell? ⟨b, off + k, none⟩ = some (.int .i64 (l.getD k 0)) := fun h => hc k h
      go_wp2
      · go_round
        case rel => exact ⟨k + 1, by omega, by omega, by go_num, by rw [minTo_succ _ _ ‹_›]; rfl⟩
        case measure => simp [intOf]; omega
      · go_ret
        exact ⟨ret_int (minTo_all _ _ ‹_›), rfl⟩

end Go.Proofs.Ytdhfpfkcbcgnaaa.Calc
