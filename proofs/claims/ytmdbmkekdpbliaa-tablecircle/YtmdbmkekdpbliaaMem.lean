/- Lists of entries in memory: rows of a block of their own; what append, copy and clear do to them. -/
import Derived.Test.YtmdbmkekdpbliaaOps
import Derived.OwnWalk
import Derived.Laws.OwnMore
import Derived.Laws.AppendOwn
import Derived.Laws.CopyRow
import Derived.Laws.CopyOwn
import Derived.Deep.RegionLaw
import Derived.Deep.Heap
import Derived.Lib.AppendZerosOnto
namespace Go.Proofs.Ytmdbmkekdpbliaa
open Go.RowKit

theorem heap_lt {w : World} {g : Nat} {o : Obj} (h : w.heap[g]? = some o) : g < w.heap.size := by
  by_cases hl : g < w.heap.size
  · exact hl
  · rw [Array.getElem?_eq_none (by omega)] at h; cases h
/-- One that holds or waits, and its mode. -/
abbrev En := Int × Int
/-- The cells of entries. -/
def pairs : List En → List Value
  | [] => []
  | p :: r => .int .i64 p.1 :: .int .i64 p.2 :: pairs r
theorem pairs_app : ∀ (l m : List En), pairs (l ++ m) = pairs l ++ pairs m
  | [], m => rfl
  | p :: r, m => by
    show Value.int .i64 p.1 :: Value.int .i64 p.2 :: pairs (r ++ m) = _
    rw [pairs_app r m]; rfl
theorem pairs_len : ∀ (l : List En), (pairs l).length = l.length * 2
  | [] => rfl
  | p :: r => by
    show (pairs r).length + 1 + 1 = (r.length + 1) * 2
    rw [pairs_len r]; omega
theorem pairs_one : ∀ (l : List En), ∀ u ∈ pairs l, u.oneCell' = true
  | [], u, h => by cases h
  | p :: r, u, h => by
    rcases List.mem_cons.1 h with rfl | h
    · rfl
    · rcases List.mem_cons.1 h with rfl | h
      · rfl
      · exact pairs_one r u h
theorem pairs_take : ∀ (l : List En) (i : Nat), pairs (l.take i) = (pairs l).take (i * 2)
  | [], i => by simp [pairs]
  | p :: r, 0 => rfl
  | p :: r, i + 1 => by
    rw [show (i + 1) * 2 = i * 2 + 1 + 1 by omega]
    show Value.int .i64 p.1 :: Value.int .i64 p.2 :: pairs (r.take i) = Value.int .i64 p.1 :: Value.int .i64 p.2 :: (pairs r).take (i * 2)
    rw [pairs_take r i]
theorem pairs_drop : ∀ (l : List En) (i : Nat), pairs (l.drop i) = (pairs l).drop (i * 2)
  | [], i => by simp [pairs]
  | p :: r, 0 => rfl
  | p :: r, i + 1 => by
    rw [show (i + 1) * 2 = i * 2 + 1 + 1 by omega]
    exact pairs_drop r i
theorem pairs_fst : ∀ (l : List En) (i : Nat), i < l.length → (pairs l)[i * 2]? = some (.int .i64 (l.getD i (0, 0)).1)
  | [], i, h => by cases h
  | p :: r, 0, _ => rfl
  | p :: r, i + 1, h => by
    rw [show (i + 1) * 2 = i * 2 + 1 + 1 by omega]
    exact pairs_fst r i (by simpa using h)
theorem pairs_snd : ∀ (l : List En) (i : Nat), i < l.length → (pairs l)[i * 2 + 1]? = some (.int .i64 (l.getD i (0, 0)).2)
  | [], i, h => by cases h
  | p :: r, 0, _ => rfl
  | p :: r, i + 1, h => by
    rw [show (i + 1) * 2 + 1 = i * 2 + 1 + 1 + 1 by omega]
    exact pairs_snd r i (by simpa using h)

/-- Block g has room for cap entries, and l lies at its head. -/
structure Rb (g cap : Nat) (l : List En) (w : World) : Prop where
  blk : ∃ cur, w.heap[g]? = some (.cells cur 41 (0, 0)) ∧ cur.size = cap * 2 ∧ cur.toList.take (l.length * 2) = pairs l
  le : l.length ≤ cap
  mx : cap ≤ maxLen
namespace Rb
variable {g cap : Nat} {l : List En} {w w' : World}
theorem lt (h : Rb g cap l w) : g < w.heap.size := heap_lt h.blk.choose_spec.1
theorem keep (h : Rb g cap l w) (k : w'.heap[g]? = w.heap[g]?) : Rb g cap l w' := ⟨⟨_, k.trans h.blk.choose_spec.1, h.blk.choose_spec.2⟩, h.le, h.mx⟩
theorem next (h : Rb g cap l w) (k : Below w.heap.size w w') : Rb g cap l w' := h.keep (k.block _ h.lt)
theorem drew (h : Rb g cap l w) : Rb g cap l w.drew := h.keep rfl
theorem free (h : Rb g cap l w) (k : Nat) : w.frozen? ⟨g, k, none⟩ = false := by
  obtain ⟨⟨cur, h, _⟩, _⟩ := h
  simp [World.frozen?, h]
theorem at_ (h : Rb g cap l w) {j : Nat} (hj : j < l.length * 2) : w.cell? ⟨g, j, none⟩ = (pairs l)[j]? := by
  obtain ⟨⟨cur, h, _, e⟩, _⟩ := h
  rw [← e, List.getElem?_take_of_lt hj]
  simp [World.cell?, h]
theorem fst (h : Rb g cap l w) {i : Nat} (hi : i < l.length) : w.cell? ⟨g, i * 2, none⟩ = some (.int .i64 (l.getD i (0, 0)).1) := by
  rw [h.at_ (by omega), pairs_fst l i hi]
theorem snd (h : Rb g cap l w) {i : Nat} (hi : i < l.length) : w.cell? ⟨g, i * 2 + 1, none⟩ = some (.int .i64 (l.getD i (0, 0)).2) := by
  rw [h.at_ (by omega), pairs_snd l i hi]
end Rb
/-- The slice v: the entries l, in a row of its own at or above B. -/
def Es (B : Nat) (v : Value) (l : List En) (w : World) : Prop := (v = .slice none 0 0 ∧ l = []) ∨ ∃ g cap, v = .slice (some ⟨g, 0, none⟩) l.length cap ∧ B ≤ g ∧ Rb g cap l w
namespace Es
variable {B : Nat} {v : Value} {l : List En} {w w' : World}
theorem lt (h : Es B v l w) : ∀ k, v.ownBlock = some k → B ≤ k ∧ k < w.heap.size := by
  rcases h with ⟨rfl, _⟩ | ⟨g, cap, rfl, hB, r⟩
  · intro k hk; cases hk
  · intro k hk
    obtain rfl : g = k := by simpa [Value.ownBlock] using hk
    exact ⟨hB, r.lt⟩
theorem keep (h : Es B v l w) (k : ∀ g, v.ownBlock = some g → w'.heap[g]? = w.heap[g]?) : Es B v l w' := by
  rcases h with h | ⟨g, cap, rfl, hB, r⟩
  · exact .inl h
  · exact .inr ⟨g, cap, rfl, hB, r.keep (k g rfl)⟩
theorem next (h : Es B v l w) (k : Below w.heap.size w w') : Es B v l w' := h.keep fun g hg => k.block g (h.lt g hg).2
theorem ty (h : Es B v l w) : ∀ g, v.ownBlock = some g → ∃ cur, w.heap[g]? = some (.cells cur 41 (0, 0)) := by
  rcases h with ⟨rfl, _⟩ | ⟨g, cap, rfl, hB, r⟩
  · intro k hk; cases hk
  · intro k hk
    obtain rfl : g = k := by simpa [Value.ownBlock] using hk
    exact ⟨_, r.blk.choose_spec.1⟩
theorem own (h : Es B v l w) : w.ownsRow B 41 2 v l.length (pairs l) := by
  refine ⟨pairs_len l, ?_⟩
  rcases h with ⟨rfl, rfl⟩ | ⟨g, cap, rfl, hB, ⟨cur, h1, h2, h3⟩, hle, hmx⟩
  · exact .inl ⟨rfl, rfl⟩
  · exact .inr ⟨g, cap, cur, rfl, hB, h1, hle, hmx, h2, h3⟩
theorem of (h : w.ownsRow B 41 2 v l.length (pairs l)) : Es B v l w := by
  rcases h.2 with ⟨rfl, e⟩ | ⟨g, cap, cur, rfl, hB, h1, hle, hmx, h2, h3⟩
  · exact .inl ⟨rfl, List.eq_nil_of_length_eq_zero e⟩
  · exact .inr ⟨g, cap, rfl, hB, ⟨cur, h1, h2, h3⟩, hle, hmx⟩
end Es
/-- Only block g is turned (and new ones are made). -/
theorem grown_below {w w' : World} {r : Option Nat} {B : Nat} (h : w.grownBy w' r) (hB : B ≤ w.heap.size) (hr : ∀ g, r = some g → B ≤ g) : Below B w w' :=
  (Below.refl _ w).grown h hB hr
theorem grown_row (w : World) (g : Nat) (cs : Array Value) : w.grownBy (w.setRow g cs) (some g) :=
  ⟨rfl, rfl, rfl, by simp [World.setRow], fun k hk hne => by
    show (w.heap.modify g _)[k]? = _
    rw [Array.getElem?_modify, if_neg (fun e => hne (by rw [e]))]⟩
theorem grown_trans {w w' w'' : World} {r : Option Nat} (h : w.grownBy w' r) (k : w'.grownBy w'' r) : w.grownBy w'' r :=
  ⟨k.os.trans h.os, k.tape.trans h.tape, k.output.trans h.output, Nat.le_trans h.size k.size, fun i hi hne => (k.block i (Nat.lt_of_lt_of_le hi h.size) hne).trans (h.block i hi hne)⟩
theorem grown_drew (w : World) (r : Option Nat) : w.grownBy w.drew r := ⟨rfl, rfl, rfl, Nat.le_refl _, fun _ _ _ => rfl⟩
theorem grown_of_below {w w' : World} (h : Below w.heap.size w w') (r : Option Nat) : w.grownBy w' r := ⟨h.os, h.tape, h.output, h.size, fun k hk _ => h.block k hk⟩
end Go.Proofs.Ytmdbmkekdpbliaa
