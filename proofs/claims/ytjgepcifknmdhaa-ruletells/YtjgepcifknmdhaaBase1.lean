/- Texts of this claim, put together in their order. -/
import Derived.Shelf.SortM.Plain
import Derived.Shelf.SortM.SortNone
import Derived.Ground.SlgmProg
import Derived.Shelf.SlicesG.CompactI
import Derived.Ground.SlgnProg
import Derived.Test.YtjgepcifknmdhaaProg
import Derived.Test.YtjgepcifknmdhaaRows
import Derived.WalkKit
import Derived.WalkSpells
import Derived.WalkLawsBesides
import Derived.Deep.QuietTactic
import Derived.BigQuiet
import Derived.Outline
import Derived.Below
import Derived.OwnWalk
import Derived.Laws.OwnMore
import Derived.Laws.AppendOwn
import Derived.Laws.CopyRow
import Derived.Laws.CopyOwn
import Derived.Deep.RegionLaw
import Derived.Deep.Heap
import Derived.Deep.Slices
import Derived.Deep.RegionHeld3
import Derived.BigRegion
import Derived.ProofKit
import Derived.Lib.AppendZerosOnto
import Derived.Lib.OwnBridge
import Derived.Lib.RowBridge
import Derived.Lib.SliceRun
import Derived.Deep.AppendLies
/- The library contracts that this seat uses, laid at its translation by the kit's command (plain words). -/
namespace Go.Proofs.Ytjgepcifknmdhaa
open Go.Shelf
def Try.laysS_ren : Go.Shelf.Ren := ⟨fun | 5 => 47 | 8 => 70 | 7 => 69 | 19 => 91 | 20 => 92 | 10 => 83 | 11 => 84 | 12 => 85 | 13 => 86 | 14 => 87 | 15 => 88 | 16 => 62 | 17 => 89 | 18 => 90 | 30 => 96 | 31 => 97 | 32 => 98 | 33 => 99 | 34 => 100 | 35 => 75 | 40 => 109 | n => n, fun | 23 => 23 | 25 => 3 | 3 => 3 | 32 => 79 | 22 => 23 | 0 => 0 | 44 => 104 | 46 => 106 | 4 => 4 | 36 => 99 | 35 => 98 | 41 => 55 | 5 => 5 | 9 => 9 | 53 => 109 | 57 => 113 | 63 => 120 | 64 => 121 | n => n, fun | n => n⟩
theorem Try.laysS : Go.Proofs.SlLaysM.n5 Try.prog Try.laysS_ren := {
  mixed := by kernel_rfl
  f5 := ⟨Try.f47.name, by decide, Try.func47.trans (congrArg some (by kernel_rfl))⟩
  f7 := ⟨Try.f69.name, by decide, Try.func69.trans (congrArg some (by kernel_rfl))⟩
  f8 := Try.func70.trans (congrArg some (by kernel_rfl))
  f10 := ⟨Try.f83.name, by decide, Try.func83.trans (congrArg some (by kernel_rfl))⟩
  f11 := ⟨Try.f84.name, by decide, Try.func84.trans (congrArg some (by kernel_rfl))⟩
  f12 := ⟨Try.f85.name, by decide, Try.func85.trans (congrArg some (by kernel_rfl))⟩
  f13 := ⟨Try.f86.name, by decide, Try.func86.trans (congrArg some (by kernel_rfl))⟩
  f14 := ⟨Try.f87.name, by decide, Try.func87.trans (congrArg some (by kernel_rfl))⟩
  f15 := ⟨Try.f88.name, by decide, Try.func88.trans (congrArg some (by kernel_rfl))⟩
  f16 := ⟨Try.f62.name, by decide, Try.func62.trans (congrArg some (by kernel_rfl))⟩
  f17 := ⟨Try.f89.name, by decide, Try.func89.trans (congrArg some (by kernel_rfl))⟩
  f18 := ⟨Try.f90.name, by decide, Try.func90.trans (congrArg some (by kernel_rfl))⟩
  f19 := Try.func91.trans (congrArg some (by kernel_rfl))
  f20 := Try.func92.trans (congrArg some (by kernel_rfl))
  f30 := ⟨Try.f96.name, by decide, Try.func96.trans (congrArg some (by kernel_rfl))⟩
  f31 := Try.func97.trans (congrArg some (by kernel_rfl))
  f32 := Try.func98.trans (congrArg some (by kernel_rfl))
  f33 := ⟨Try.f99.name, by decide, Try.func99.trans (congrArg some (by kernel_rfl))⟩
  f34 := ⟨Try.f100.name, by decide, Try.func100.trans (congrArg some (by kernel_rfl))⟩
  f35 := ⟨Try.f75.name, by decide, Try.func75.trans (congrArg some (by kernel_rfl))⟩
  f40 := ⟨Try.f109.name, by decide, Try.func109.trans (congrArg some (by kernel_rfl))⟩
  t0 := Try.underlying0
  a0 := Try.isAgg0
  z0 := Try.sizeOf0
  v0 := Try.zeroValue0
  t3 := Try.underlying3
  a3 := Try.isAgg3
  z3 := Try.sizeOf3
  v3 := Try.zeroValue3
  t4 := Try.underlying4
  a4 := Try.isAgg4
  z4 := Try.sizeOf4
  v4 := Try.zeroValue4
  t5 := Try.underlying5
  a5 := Try.isAgg5
  z5 := Try.sizeOf5
  v5 := Try.zeroValue5
  t9 := Try.underlying9
  a9 := Try.isAgg9
  z9 := Try.sizeOf9
  v9 := Try.zeroValue9
  t22 := Try.underlying23
  a22 := Try.isAgg23
  z22 := Try.sizeOf23
  v22 := Try.zeroValue23
  t23 := Try.underlying23
  a23 := Try.isAgg23
  z23 := Try.sizeOf23
  v23 := Try.zeroValue23
  t25 := Try.underlying3
  a25 := Try.isAgg3
  z25 := Try.sizeOf3
  v25 := Try.zeroValue3
  t32 := Try.underlying79
  a32 := Try.isAgg79
  z32 := Try.sizeOf79
  v32 := Try.zeroValue79
  t35 := Try.underlying98
  a35 := Try.isAgg98
  z35 := Try.sizeOf98
  v35 := Try.zeroValue98
  t36 := Try.underlying99
  a36 := Try.isAgg99
  z36 := Try.sizeOf99
  v36 := Try.zeroValue99
  t41 := Try.underlying55
  a41 := Try.isAgg55
  z41 := Try.sizeOf55
  v41 := Try.zeroValue55
  t44 := Try.underlying104
  a44 := Try.isAgg104
  z44 := Try.sizeOf104
  v44 := Try.zeroValue104
  t46 := Try.underlying106
  a46 := Try.isAgg106
  z46 := Try.sizeOf106
  v46 := Try.zeroValue106
  t53 := Try.underlying109
  a53 := Try.isAgg109
  z53 := Try.sizeOf109
  v53 := Try.zeroValue109
  t57 := Try.underlying113
  a57 := Try.isAgg113
  z57 := Try.sizeOf113
  v57 := Try.zeroValue113
  t63 := Try.underlying120
  a63 := Try.isAgg120
  z63 := Try.sizeOf120
  v63 := Try.zeroValue120
  t64 := Try.underlying121
  a64 := Try.isAgg121
  z64 := Try.sizeOf121
  v64 := Try.zeroValue121 }
def Try.laysC_ren : Go.Shelf.Ren := ⟨fun | 43 => 48 | n => n, fun | 22 => 23 | 23 => 3 | 3 => 3 | 4 => 4 | 0 => 0 | n => n, fun | n => n⟩
theorem Try.laysC : Go.Proofs.SlLaysN.n43 Try.prog Try.laysC_ren := {
  mixed := by kernel_rfl
  f43 := ⟨Try.f48.name, by decide, Try.func48.trans (congrArg some (by kernel_rfl))⟩
  t0 := Try.underlying0
  a0 := Try.isAgg0
  z0 := Try.sizeOf0
  v0 := Try.zeroValue0
  t3 := Try.underlying3
  a3 := Try.isAgg3
  z3 := Try.sizeOf3
  v3 := Try.zeroValue3
  t4 := Try.underlying4
  a4 := Try.isAgg4
  z4 := Try.sizeOf4
  v4 := Try.zeroValue4
  t22 := Try.underlying23
  a22 := Try.isAgg23
  z22 := Try.sizeOf23
  v22 := Try.zeroValue23
  t23 := Try.underlying3
  a23 := Try.isAgg3
  z23 := Try.sizeOf3
  v23 := Try.zeroValue3
  i23 := by kernel_rfl }
end Go.Proofs.Ytjgepcifknmdhaa

/- What all texts of this seat use: slices of numbers and of pairs in memory, append, the library's Sort and Compact, the reference's Ints. -/
namespace Go.Proofs.Ytjgepcifknmdhaa
open Go.RowKit
variable {B : Nat}

theorem hide {p : Prop} (h : p) : Hid p := h
theorem unhide {p : Prop} (h : Hid p) : p := h
theorem ret_int {k : IntKind} {a b : Int} (h : a = b) : Ending.returned (.int k a) = .returned (.int k b) := by rw [h]
theorem ret_bool {a b : Bool} (h : a = b) : Ending.returned (.bool a) = .returned (.bool b) := by rw [h]
theorem bthen {B : Nat} {w w' w'' : World} (h : Below B w w') (k : Below w'.heap.size w' w'') (hB : B ≤ w.heap.size) : Below B w w'' := h.trans (k.mono (Nat.le_trans hB h.size))
theorem below_new (w : World) (o : Obj) : Below w.heap.size w (w.alloc o) := (Below.refl _ _).alloc (Nat.le_refl _) _
theorem below_then {w w' w'' : World} (h : Below w.heap.size w w') (k : Below w'.heap.size w' w'') : Below w.heap.size w w'' := bthen h k (Nat.le_refl _)
theorem below_add {w w' : World} (h : Below w.heap.size w w') (o : Obj) : Below w.heap.size w (w'.alloc o) := below_then h (below_new w' o)
/-- A slice of integers that is read: 'len' cells from 'a' on hold the numbers 'l'. -/
def SegK (k : IntKind) (w : World) (a : Option Addr) (len : Nat) (l : List Int) : Prop :=
  l.length = len ∧ (len = 0 ∨ ∃ b off, a = some ⟨b, off, none⟩ ∧ ∀ i, i < len → w.cell? ⟨b, off + i, none⟩ = some (.int k (l.getD i 0)))
theorem SegK.later {k : IntKind} {w w' : World} {a : Option Addr} {len : Nat} {l : List Int} (h : SegK k w a len l) (hb : Below w.heap.size w w') : SegK k w' a len l := by
  rcases h.2 with h0 | ⟨b, off, rfl, hc⟩
  · exact ⟨h.1, .inl h0⟩
  · by_cases e : len = 0
    · exact ⟨h.1, .inl e⟩
    · have hlt : b < w.heap.size := by
        have := hc 0 (by omega)
        simp only [World.cell?] at this
        by_cases hb : b < w.heap.size
        · exact hb
        · simp [Array.getElem?_eq_none (show w.heap.size ≤ b by omega)] at this
      exact ⟨h.1, .inr ⟨b, off, rfl, fun i hi => (hb.cell (p := ⟨b, off + i, none⟩) hlt).trans (hc i hi)⟩⟩
theorem seg_nil (w : World) (a : Option Addr) : SegK .i64 w a 0 [] := ⟨rfl, .inl rfl⟩
/-- A slice that was just written out. -/
theorem seg_new (w : World) (l : List Int) : SegK .i64 (w.alloc (.cells (l.map (Value.int .i64 ·)).toArray 3)) (some ⟨w.heap.size, 0, none⟩) l.length l :=
  ⟨rfl, .inr ⟨w.heap.size, 0, rfl, fun i hi => by rw [Nat.zero_add, World.cell?_alloc_new]; simp [hi]⟩⟩
theorem take_all (l : List Int) (k : Nat) (h : ¬ k < l.length) : l.take k = l := List.take_of_length_le (by omega)
/-- Does v stand in l? -/
def hasB (v : Int) (l : List Int) : Bool := l.any (fun x => v == x)
theorem has_no (v : Int) (l : List Int) (h : ∀ j, j < l.length → v ≠ l.getD j 0) : hasB v l = false := by
  unfold hasB
  rw [List.any_eq_false]
  intro x hx
  obtain ⟨j, hj, rfl⟩ := List.getElem_of_mem hx
  have := h j hj
  simpa [List.getD_eq_getElem?_getD, hj] using this
theorem has_yes (v : Int) (l : List Int) (k : Nat) (h : k < l.length) (e : v = l.getD k 0) : hasB v l = true := by
  unfold hasB
  rw [List.any_eq_true]
  exact ⟨l[k], List.getElem_mem h, by simp [e, List.getD_eq_getElem?_getD, h]⟩
set_option maxRecDepth 100000 in
theorem index_any (v : Int) (a : Option Addr) (len cap : Nat) (l : List Int) (w : World) (hs : SegK .i64 w a len l) (hm : len ≤ maxLen) :
    Calls Try.prog 79 #[.slice a len cap, .int .i64 v] w fun e w' => (∃ i : Int, e = .returned (.int .i64 i) ∧ decide (0 ≤ i) = hasB v l) ∧ w' = w := by
  unfold maxLen at hm
  obtain ⟨rfl, hs⟩ := hs
  rcases hs with h0 | ⟨b, off, rfl, hc⟩
  · obtain rfl : l = [] := List.eq_nil_of_length_eq_zero h0
    go_enter Try.func79, Try.ntmps79
    go_wp2
    go_loop [8] (fun i => i = .int .i64 0) (fun i => 1)
    case atStart => exact rfl
    case round =>
      subst hrel
      go_wp2
      go_ret
      exact ⟨⟨_, rfl, rfl⟩, rfl⟩
  · have Hc := hide hc
    clear hc
    go_enter Try.func79, Try.ntmps79
    go_wp2
    go_loop [8] (fun i => ∃ k : Nat, k ≤ l.length ∧ i = .int .i64 k ∧ ∀ j, j < k → v ≠ l.getD j 0) (fun i => l.length - (intOf i).toNat)
    case atStart => exact ⟨0, Nat.zero_le _, rfl, fun j hj => by omega⟩
    case round =>
      obtain ⟨k, hk, rfl, hno⟩ := hrel
      have Hno := hide hno
      clear hno
      by_cases hlt : k < l.length
      · obtain ⟨x, hx⟩ : ∃ x, x = l.getD k 0 := ⟨_, rfl⟩
        have hcell : w.cell? ⟨b, off + k, none⟩ = some (.int .i64 x) := by rw [hx]; exact unhide Hc k hlt
        have Hx := hide hx
        clear hx
        by_cases he : v = x
        · have He := hide he
          have hb : (v == x) = true := beq_iff_eq.2 he
          clear he
          go_wp2
          go_ret
          exact ⟨⟨_, rfl, by rw [has_yes v l k hlt ((unhide He).trans (unhide Hx))]; simp⟩, rfl⟩
        · have hb : (v == x) = false := beq_eq_false_iff_ne.2 he
          have He := hide he
          clear he
          go_wp2
          go_round
          case rel => exact ⟨k + 1, by omega, by go_num, fun j hj => by
            rcases (show j < k ∨ j = k by omega) with h | rfl
            · exact unhide Hno j h
            · rw [← unhide Hx]; exact unhide He⟩
          case measure => simp [intOf]; omega
      · go_wp2
        go_ret
        exact ⟨⟨_, rfl, by rw [has_no v l (fun j hj => unhide Hno j (by omega))]; simp⟩, rfl⟩
set_option maxRecDepth 100000 in
theorem contains_any (v : Int) (a : Option Addr) (len cap : Nat) (l : List Int) (w : World) (hs : SegK .i64 w a len l) (hm : len ≤ maxLen) :
    Calls Try.prog 56 #[.slice a len cap, .int .i64 v] w fun e w' => e = .returned (.bool (hasB v l)) ∧ w' = w := by
  go_enter Try.func56, Try.ntmps56
  go_wp2_with fail
  refine (index_any v _ _ _ l _ hs hm).mono ?_
  rintro e w' ⟨⟨i, rfl, hi⟩, rfl⟩
  have Hi := hide hi
  clear hi
  go_wp2
  go_ret
  exact ⟨ret_bool (unhide Hi), rfl⟩
theorem seg1 (w : World) (x : Int) : SegK .i64 (w.alloc (.cells #[.int .i64 x] 3)) (some ⟨w.heap.size, 0, none⟩) 1 [x] := seg_new w [x]
theorem seg2 (w : World) (x y : Int) : SegK .i64 (w.alloc (.cells #[.int .i64 x, .int .i64 y] 3)) (some ⟨w.heap.size, 0, none⟩) 2 [x, y] := seg_new w [x, y]
theorem heap_lt {w : World} {g : Nat} {o : Obj} (h : w.heap[g]? = some o) : g < w.heap.size := by
  by_cases hl : g < w.heap.size
  · exact hl
  · rw [Array.getElem?_eq_none (by omega)] at h; cases h
/-- One that holds or waits, and its mode. -/
abbrev En := Int × Int
/-- The cells of entries. -/
def pairs : List En → List Value
  | [] => []
  | p :: r => .int .i64 p.1 :: .int .i64 p.2 :: pairs r
theorem pairs_app : ∀ (l m : List En), pairs (l ++ m) = pairs l ++ pairs m
  | [], m => rfl
  | p :: r, m => by
    show Value.int .i64 p.1 :: Value.int .i64 p.2 :: pairs (r ++ m) = _
    rw [pairs_app r m]; rfl
theorem pairs_len : ∀ (l : List En), (pairs l).length = l.length * 2
  | [] => rfl
  | p :: r => by
    show (pairs r).length + 1 + 1 = (r.length + 1) * 2
    rw [pairs_len r]; omega
theorem pairs_one : ∀ (l : List En), ∀ u ∈ pairs l, u.oneCell' = true
  | [], u, h => by cases h
  | p :: r, u, h => by
    rcases List.mem_cons.1 h with rfl | h
    · rfl
    · rcases List.mem_cons.1 h with rfl | h
      · rfl
      · exact pairs_one r u h
theorem pairs_fst : ∀ (l : List En) (i : Nat), i < l.length → (pairs l)[i * 2]? = some (.int .i64 (l.getD i (0, 0)).1)
  | [], i, h => by cases h
  | p :: r, 0, _ => rfl
  | p :: r, i + 1, h => by
    rw [show (i + 1) * 2 = i * 2 + 1 + 1 by omega]
    exact pairs_fst r i (by simpa using h)
theorem pairs_snd : ∀ (l : List En) (i : Nat), i < l.length → (pairs l)[i * 2 + 1]? = some (.int .i64 (l.getD i (0, 0)).2)
  | [], i, h => by cases h
  | p :: r, 0, _ => rfl
  | p :: r, i + 1, h => by
    rw [show (i + 1) * 2 + 1 = i * 2 + 1 + 1 + 1 by omega]
    exact pairs_snd r i (by simpa using h)
/-- Only block g is turned (and new ones are made). -/
theorem grown_below {w w' : World} {r : Option Nat} {B : Nat} (h : w.grownBy w' r) (hB : B ≤ w.heap.size) (hr : ∀ g, r = some g → B ≤ g) : Below B w w' :=
  (Below.refl _ w).grown h hB hr
theorem grown_row (w : World) (g : Nat) (cs : Array Value) : w.grownBy (w.setRow g cs) (some g) :=
  ⟨rfl, rfl, rfl, by simp [World.setRow], fun k hk hne => by
    show (w.heap.modify g _)[k]? = _
    rw [Array.getElem?_modify, if_neg (fun e => hne (by rw [e]))]⟩
theorem grown_trans {w w' w'' : World} {r : Option Nat} (h : w.grownBy w' r) (k : w'.grownBy w'' r) : w.grownBy w'' r :=
  ⟨k.os.trans h.os, k.tape.trans h.tape, k.output.trans h.output, Nat.le_trans h.size k.size, fun i hi hne => (k.block i (Nat.lt_of_lt_of_le hi h.size) hne).trans (h.block i hi hne)⟩
theorem grown_drew (w : World) (r : Option Nat) : w.grownBy w.drew r := ⟨rfl, rfl, rfl, Nat.le_refl _, fun _ _ _ => rfl⟩
theorem grown_of_below {w w' : World} (h : Below w.heap.size w w') (r : Option Nat) : w.grownBy w' r := ⟨h.os, h.tape, h.output, h.size, fun k hk _ => h.block k hk⟩
/-- A slice of integers that came in: nil, or 'cap' cells that hold the numbers 'zs', of which the first 'len' are its elements. -/
def IsRow (k : IntKind) (w : World) (a : Option Addr) (len cap : Nat) (zs : List Int) : Prop :=
  (a = none ∧ len = 0 ∧ cap = 0 ∧ zs = []) ∨
  ∃ x, a = some x ∧ len ≤ cap ∧ cap ≤ maxLen ∧ zs.length = cap ∧ (∀ i, i < zs.length → w.cell? (x.add i) = some (.int k (zs.getD i 0))) ∧ ∀ n ∈ zs, (Lit.int k n).wf = true
theorem isRow_seg {k : IntKind} {w : World} {a : Option Addr} {len cap : Nat} {zs : List Int} (h : IsRow k w a len cap zs) :
    SegK k w a len (zs.take len) ∧ len ≤ cap ∧ cap ≤ maxLen ∧ ∀ n ∈ zs.take len, (Lit.int k n).wf = true := by
  rcases h with ⟨rfl, rfl, rfl, rfl⟩ | ⟨x, rfl, hl, hm, hz, hcell, hwz⟩
  · exact ⟨⟨rfl, .inl rfl⟩, Nat.le_refl _, Nat.zero_le _, by simp⟩
  · refine ⟨⟨by simp; omega, ?_⟩, hl, hm, fun n hn => hwz n (List.mem_of_mem_take hn)⟩
    by_cases h0 : len = 0
    · exact .inl h0
    · obtain ⟨b, off, spot⟩ := x
      have hc := hcell 0 (by omega)
      have hspot : spot = none := by simpa [Addr.add] using World.cell?_spot hc
      subst hspot
      refine .inr ⟨b, off, rfl, fun i hi => ?_⟩
      have := hcell i (by omega)
      simp [Addr.add] at this
      have e : (if i = 0 then (⟨b, off, none⟩ : Addr) else ⟨b, off + i, none⟩) = ⟨b, off + i, none⟩ := by
        by_cases h : i = 0 <;> simp [h]
      rw [e] at this
      rw [this]
      simp [hi]
/-- The cells that hold the numbers of a list. -/
def vals (l : List Int) : List Value := l.map (Value.int .i64)
theorem vals_one (l : List Int) : ∀ u ∈ vals l, u.oneCell' = true := by
  intro u hu
  unfold vals at hu
  obtain ⟨n, _, rfl⟩ := List.mem_map.1 hu
  rfl
/-- The slice v: the numbers l, in a row of its own at or above B. -/
def Is (B : Nat) (v : Value) (l : List Int) (w : World) : Prop := w.ownsRow B 3 1 v l.length (vals l)
theorem is_nil (B : Nat) (w : World) : Is B (.slice none 0 0) [] w := World.ownsRow_nil w B 3 1
theorem Is.ty {v : Value} {l : List Int} {w : World} (h : Is B v l w) : ∀ g, v.ownBlock = some g → ∃ cur, w.heap[g]? = some (.cells cur 3 (0, 0)) := by
  rcases h.2 with ⟨rfl, _⟩ | ⟨g, cap, cur, rfl, _, hg, _⟩
  · intro k hk; cases hk
  · intro k hk
    obtain rfl : g = k := by simpa [Value.ownBlock] using hk
    exact ⟨_, hg⟩
theorem Is.keep {v : Value} {l : List Int} {w w' : World} (h : Is B v l w) (k : ∀ g, v.ownBlock = some g → w'.heap[g]? = w.heap[g]?) : Is B v l w' := by
  refine ⟨h.1, ?_⟩
  rcases h.2 with h0 | ⟨g, cap, cur, rfl, hB, hg, r⟩
  · exact .inl h0
  · exact .inr ⟨g, cap, cur, rfl, hB, (k g rfl).trans hg, r⟩
theorem Is.next {v : Value} {l : List Int} {w w' : World} (h : Is B v l w) (k : Below w.heap.size w w') : Is B v l w' := h.keep fun g hg => k.block g (h.lt g hg).2
theorem Is.form {v : Value} {l : List Int} {w : World} (h : Is B v l w) : ∃ a cap, v = .slice a l.length cap := by
  rcases h.2 with ⟨rfl, e⟩ | ⟨g, cap, cur, rfl, _⟩
  · exact ⟨none, 0, by rw [e]⟩
  · exact ⟨_, cap, rfl⟩
theorem inf3 : (Try.prog.info? 3).map (fun i => (i.zero, i.size, i.bytes)) = some (some (.int .i64 0), 1, 8) := by kernel_rfl
theorem Is.down {B' : Nat} {v : Value} {l : List Int} {w : World} (h : Is B' v l w) (hB : B ≤ B') : Is B v l w := by
  refine ⟨h.1, ?_⟩
  rcases h.2 with h0 | ⟨g, cap, cur, e, h1, r⟩
  · exact .inl h0
  · exact .inr ⟨g, cap, cur, e, Nat.le_trans hB h1, r⟩
def sortI (l : List Int) : List Int := l.mergeSort fun x y => decide (x ≤ y)
theorem sortI_len (l : List Int) : (sortI l).length = l.length := List.length_mergeSort _
theorem grow_old (w : World) (os : Array Obj) (k : Nat) (h : k < w.heap.size) : (Go.Sort.grow w os).heap[k]? = w.heap[k]? := by
  show (w.heap ++ os)[k]? = _
  rw [Array.getElem?_append_left h]
theorem is_pos {v : Value} {l : List Int} {w : World} (h : Is B v l w) (hl : 0 < l.length) : ∃ g cap, v = .slice (some ⟨g, 0, none⟩) l.length cap ∧ B ≤ g ∧ g < w.heap.size ∧ l.length ≤ cap ∧ Sort.Holds (Value.int .i64) w g 0 l.toArray := by
  have hne : v ≠ .slice none 0 0 := by
    rintro rfl
    rcases h.2 with ⟨_, e⟩ | ⟨g, cap, cur, e, _⟩
    · omega
    · cases e
  obtain ⟨g, cap, e, h1, h2, h3, _, _, h4⟩ := Lib.holds_of_ownsRow (enc := Value.int .i64) h hne
  exact ⟨g, cap, e, h1, h2, h3, h4⟩
theorem sort_any (w : World) {v : Value} {l : List Int} (h : Is B v l w) (hl : l.length < 1000000000) :
    Calls Try.prog 47 #[v] w fun e w' => e = .returned (.tuple #[]) ∧ Is B v (sortI l) w' ∧ w.grownBy w' v.ownBlock := by
  rcases Nat.eq_zero_or_pos l.length with h0 | h0
  · obtain rfl : l = [] := List.eq_nil_of_length_eq_zero h0
    obtain ⟨a, cap, rfl⟩ := h.form
    refine Calls.mono (AnyM.slices_Sort_int_none Try.laysS a cap w) ?_
    rintro e w' ⟨rfl, rfl⟩
    have e0 : sortI [] = [] := by unfold sortI; exact List.mergeSort_nil
    rw [e0]
    exact ⟨rfl, h, ⟨rfl, rfl, rfl, Nat.le_refl _, fun _ _ _ => rfl⟩⟩
  · obtain ⟨g, cap, rfl, hB, hg, hc, hH⟩ := is_pos h h0
    refine Calls.mono (AnyM.slices_Sort_int Try.laysS g 0 cap l w hH hg (by omega)) ?_
    rintro e w' ⟨rfl, n, os, hw⟩
    change w' = Sort.grow (Sort.putRow (Value.int .i64) (Sort.ahead w n) g 0 (sortI l).toArray) os at hw
    subst hw
    have own := Lib.ownsRow_putRow (enc := Value.int .i64) (q := n) (k := l.length) h (ys := sortI l) (sortI_len l) (Nat.le_refl _)
    have hsz : (Sort.putRow (Value.int .i64) (Sort.ahead w n) g 0 (sortI l).toArray).heap.size = w.heap.size := by simp [Sort.putRow, Sort.mapBlock, Sort.ahead]
    refine ⟨rfl, ?_, ⟨rfl, rfl, rfl, ?_, fun k hk hne => ?_⟩⟩
    · have own2 : Is B (.slice (some ⟨g, 0, none⟩) l.length cap) (sortI l) (Sort.putRow (Value.int .i64) (Sort.ahead w n) g 0 (sortI l).toArray) := by
        unfold Is vals
        rw [sortI_len]
        have e1 : (sortI l).take l.length = sortI l := List.take_of_length_le (by rw [sortI_len]; exact Nat.le_refl _)
        rw [e1] at own
        exact own
      exact own2.keep fun k hk => grow_old _ os k (by
        obtain rfl : g = k := by simpa [Value.ownBlock] using hk
        rw [hsz]; exact hg)
    · show w.heap.size ≤ (_ ++ os).size
      rw [Array.size_append, hsz]; omega
    · refine (grow_old _ os k (by rw [hsz]; exact hk)).trans ?_
      have hgk : g ≠ k := fun e => hne (by rw [e]; rfl)
      simp [Sort.putRow, Sort.mapBlock, Sort.ahead, Array.getElem?_modify, hgk]
theorem compact_any (w : World) {v : Value} {l : List Int} (h : Is B v l w) (hl : l.length < 1000000000) :
    Calls Try.prog 48 #[v] w fun e w' => ∃ v', e = .returned v' ∧ Is B v' (Lib.compact l) w' ∧ w.grownBy w' v.ownBlock := by
  rcases Nat.eq_zero_or_pos l.length with h0 | h0
  · obtain rfl : l = [] := List.eq_nil_of_length_eq_zero h0
    obtain ⟨a, cap, rfl⟩ := h.form
    refine Calls.mono (AnyG.slices_Compact_int_empty Try.laysC a cap w) ?_
    rintro e w' ⟨rfl, rfl⟩
    exact ⟨_, rfl, h, ⟨rfl, rfl, rfl, Nat.le_refl _, fun _ _ _ => rfl⟩⟩
  · obtain ⟨g, cap, rfl, hB, hg, hc, hH⟩ := is_pos h h0
    refine Calls.mono (AnyG.slices_Compact_int Try.laysC g 0 cap l w hH (by omega) hc) ?_
    rintro e w' ⟨rfl, n, rfl⟩
    have hle := Lib.compact_length_le l
    have own := Lib.ownsRow_putRow (enc := Value.int .i64) (q := n) (k := (Lib.compact l).length) h (ys := Lib.compact l ++ List.replicate (l.length - (Lib.compact l).length) 0) (by rw [List.length_append, List.length_replicate]; omega) hle
    rw [List.take_left] at own
    refine ⟨_, rfl, own, ⟨rfl, rfl, rfl, ?_, fun k hk hne => ?_⟩⟩
    · simp [Sort.putRow, Sort.mapBlock, Sort.ahead]
    · have hgk : g ≠ k := fun e => hne (by rw [e]; rfl)
      simp [Sort.putRow, Sort.mapBlock, Sort.ahead, Array.getElem?_modify, hgk]
/-- One number more, behind the others. -/
theorem wpList_push (w : World) {ops : Array Oper} {rest : List Oper} {o : Oper} {a : Act} {Q : Exit → Act → World → Prop} (hgd : o.guard = none) (s x : Operand)
    (ho : o.op = .call { callee := .builtin .append, args := #[s, x], argTypes := #[23, 23] }) (base : Nat) (ag : Option Addr) (n cg : Nat) (l : List Int) (z : Int)
    (N : Nat) (hs : a.eval s = .slice ag n cg) (hx : a.eval x = .slice (some ⟨N, 0, none⟩) 1 1) (hN : w.heap.size = N) (hn : l.length = n) (hown : Is base (.slice ag n cg) l w) (hb : base ≤ w.heap.size) (hm : n < 10000000)
    (h : ∀ g cap w', Is base (.slice (some ⟨g, 0, none⟩) (n + 1) cap) (l ++ [z]) w' → w.grownBy w' (Value.slice ag n cg).ownBlock → wpList Try.prog ops Q rest (a.put o.dst (.slice (some ⟨g, 0, none⟩) (n + 1) cap)) w') :
    wpList Try.prog ops Q (o :: rest) a (w.alloc (.cells #[.int .i64 z] 3)) := by
  subst hN
  obtain ⟨i3, hi3, hz0, hz1, hz2⟩ := info_parts inf3
  have B5 := below_new w (.cells #[.int .i64 z] 3)
  have G5 := hown.next B5
  have own5 : (w.alloc (.cells #[.int .i64 z] 3)).ownsRow base 3 1 (.slice ag n cg) n (vals l) := by
    have := G5
    unfold Is at this
    rw [hn] at this
    exact this
  refine wpList_append_lies _ hgd s x 23 ho base 3 i3 _ 1 8 Try.underlying23 hi3 hz0 hz1 hz2 rfl (by decide) _ n _ hs own5 ⟨w.heap.size, 0, none⟩ 1 1 [.int .i64 z] hx rfl (World.news_of_block (heap_alloc_new w _)) (vals_one [z]) (by decide) (by unfold maxLen; omega) (by omega) (Nat.le_trans hb B5.size) _ rfl ?_
  intro g cap w' a1 a2 _ _
  refine h g cap w' ?_ (grown_trans (grown_of_below B5 _) a2)
  unfold Is vals
  rw [List.length_append, hn, List.map_append]
  exact a1
/-- The slice v is read: the numbers l. -/
def Rd (w : World) (v : Value) (l : List Int) : Prop := ∃ a cap, v = .slice a l.length cap ∧ SegK .i64 w a l.length l
theorem Rd.next {w w' : World} {v : Value} {l : List Int} (h : Rd w v l) (k : Below w.heap.size w w') : Rd w' v l := by
  obtain ⟨a, cap, e, s⟩ := h
  exact ⟨a, cap, e, s.later k⟩
theorem Is.rd {w : World} {v : Value} {l : List Int} (h : Is B v l w) : Rd w v l := by
  rcases h.2 with ⟨rfl, e⟩ | ⟨g, cap, cur, rfl, _, hg, _⟩
  · have : l = [] := List.eq_nil_of_length_eq_zero e
    subst this
    exact ⟨none, 0, rfl, seg_nil _ _⟩
  · refine ⟨_, cap, rfl, rfl, .inr ⟨g, 0, rfl, fun i hi => ?_⟩⟩
    have := h.cells (g := g) rfl i (.int .i64 (l.getD i 0)) (by
      unfold vals
      rw [List.getElem?_map, List.getElem?_eq_getElem hi]; simp [List.getD, hi])
    rwa [Addr.add_lit] at this
theorem rd_one (w : World) (x : Int) : Rd (w.alloc (.cells #[.int .i64 x] 3)) (.slice (some ⟨w.heap.size, 0, none⟩) 1 1) [x] := ⟨_, 1, rfl, seg1 w x⟩
theorem eq_take {l m : List Int} {k : Nat} (h : l.length = m.length) (hk : l.length ≤ k) (hall : ∀ j, j < k → l.getD j 0 = m.getD j 0) : (l == m) = true := by
  rw [beq_iff_eq]
  apply List.ext_getElem h
  intro j h1 h2
  have := hall j (by omega)
  simpa [h1, h2] using this
theorem ne_at {l m : List Int} {k : Nat} (h : l.getD k 0 ≠ m.getD k 0) : (l == m) = false := by
  rw [beq_eq_false_iff_ne]
  rintro rfl
  exact h rfl
theorem seg_at {w : World} {a : Option Addr} {l : List Int} (h : SegK .i64 w a l.length l) {i : Nat} (hi : i < l.length) : ∃ b off, a = some ⟨b, off, none⟩ ∧ w.cell? ⟨b, off + i, none⟩ = some (.int .i64 (l.getD i 0)) := by
  rcases h.2 with h0 | ⟨b, off, e, hc⟩
  · omega
  · exact ⟨b, off, e, hc i hi⟩
set_option maxRecDepth 100000 in
theorem ints_any (u v : Value) (l m : List Int) (w : World) (hu : Rd w u l) (hv : Rd w v m) (hl9 : l.length < 100000000) (hm9 : m.length < 100000000) :
    Calls Try.prog 11 #[u, v] w fun e w' => e = .returned (.bool (l == m)) ∧ Below w.heap.size w w' := by
  obtain ⟨a, ca, rfl, h3⟩ := hu
  obtain ⟨b, cb, rfl, g3⟩ := hv
  replace h3 := hide h3
  replace g3 := hide g3
  by_cases hl : l.length = m.length
  · have hl2 := hide hl
    rw [← hl]
    clear hl hm9
    go_enter Try.func11, Try.ntmps11
    go_wp2_with fail
    go_loopw [5] (fun i wr => ∃ k : Nat, k ≤ l.length ∧ i = .int .i64 k ∧ Below w.heap.size w wr ∧ Hid (∀ j, j < k → l.getD j 0 = m.getD j 0)) (fun i _ => l.length - (intOf i).toNat)
    case atStart => exact ⟨0, Nat.zero_le _, rfl, Below.refl _ _, fun j hj => absurd hj (Nat.not_lt_zero _)⟩
    case round =>
      obtain ⟨k, hk, rfl, hb, hall⟩ := hrel
      by_cases hlt : k < l.length
      · obtain ⟨b1, o1, rfl, c1⟩ := seg_at ((unhide h3).later hb) (i := k) hlt
        obtain ⟨b2, o2, rfl, c2⟩ := seg_at ((unhide g3).later hb) (i := k) (by have := unhide hl2; omega)
        obtain ⟨x, hx⟩ : ∃ x, l.getD k 0 = x := ⟨_, rfl⟩
        obtain ⟨y, hy⟩ : ∃ y, m.getD k 0 = y := ⟨_, rfl⟩
        rw [hx] at c1
        rw [hy] at c2
        replace hb := hide hb
        by_cases e : x = y
        · have eb : (x == y) = true := by simpa using e
          have hall2 : Hid (∀ j, j < k + 1 → l.getD j 0 = m.getD j 0) := hide fun j hj => by
            by_cases h : j < k
            · exact unhide hall j h
            · obtain rfl : j = k := by omega
              rw [hx, hy, e]
          subst e
          clear hx hy
          go_wp2_with fail
          go_region
          all_goals
            go_wp2
            go_roundw
            case rel => exact ⟨k + 1, by omega, by go_num, (unhide hb).drew, unhide hall2⟩
            case measure => simp [intOf]; omega
        · have eb : (x == y) = false := by simpa using e
          have r : Hid ((l == m) = false) := hide (ne_at (k := k) (by rw [hx, hy]; exact e))
          clear hx hy
          go_wp2_with fail
          go_region
          all_goals
            go_wp2
            go_ret
            exact ⟨by rw [unhide r]; rfl, (unhide hb).drew⟩
      · have r : Hid ((l == m) = true) := hide (eq_take (k := k) (unhide hl2) (by omega) (unhide hall))
        replace hb := hide hb
        go_wp2
        go_ret
        exact ⟨by rw [unhide r]; rfl, unhide hb⟩
  · have r : Hid ((l == m) = false) := by
      show _ = _
      rw [beq_eq_false_iff_ne]
      rintro rfl
      exact hl rfl
    go_enter Try.func11, Try.ntmps11
    go_wp2
    go_ret
    exact ⟨by rw [unhide r]; rfl, Below.refl _ _⟩
/-- Behind a call that makes memory alone. -/
theorem bt {w0 w w' : World} (h : Below B w0 w) (k : Below w.heap.size w w') (hB : B ≤ w.heap.size) : Below B w0 w' := h.trans (k.mono hB)
/-- A sorted list without its repetitions: rising, and who was there is there. -/
theorem upto_facts (d : Array Int) (hs : ∀ i j, i < j → j < d.size → d[i]! ≤ d[j]!) : ∀ m, m ≤ d.size → (∀ x ∈ Lib.compactUpTo d m, ∃ j, j < m ∧ d[j]! = x) ∧ (∀ j, j < m → d[j]! ∈ Lib.compactUpTo d m) ∧ (Lib.compactUpTo d m).Pairwise (· < ·)
  | 0, _ => by simp [Lib.compactUpTo]
  | m + 1, hm => by
    obtain ⟨h1, h2, h3⟩ := upto_facts d hs m (by omega)
    rw [Lib.compactUpTo_succ]
    by_cases hk : Lib.keeps d m = true
    · rw [if_pos hk]
      refine ⟨fun x hx => ?_, fun j hj => ?_, ?_⟩
      · rcases List.mem_append.1 hx with h | h
        · obtain ⟨j, hj, e⟩ := h1 x h
          exact ⟨j, by omega, e⟩
        · exact ⟨m, by omega, (List.mem_singleton.1 h).symm⟩
      · rcases (show j < m ∨ j = m by omega) with h | rfl
        · exact List.mem_append_left _ (h2 j h)
        · exact List.mem_append_right _ (List.mem_singleton.2 rfl)
      · rw [List.pairwise_append]
        refine ⟨h3, List.pairwise_singleton _ _, fun x hx y hy => ?_⟩
        rw [List.mem_singleton.1 hy]
        obtain ⟨j, hj, e⟩ := h1 x hx
        have hne : d[m]! ≠ d[m - 1]! := by
          intro e2
          rw [Lib.keeps_neg (by omega) e2] at hk
          cases hk
        have h5 := hs (m - 1) m (by omega) (by omega)
        rcases (show j < m - 1 ∨ j = m - 1 by omega) with h | rfl
        · have h6 := hs j (m - 1) h (by omega)
          omega
        · omega
    · rw [if_neg hk, List.append_nil]
      refine ⟨fun x hx => ?_, fun j hj => ?_, h3⟩
      · obtain ⟨j, hj, e⟩ := h1 x hx
        exact ⟨j, by omega, e⟩
      · rcases (show j < m ∨ j = m by omega) with h | rfl
        · exact h2 j h
        · have h0 : 0 < j := by
            rcases Nat.eq_zero_or_pos j with e | e
            · subst e; exact absurd (Lib.keeps_lt_one d 0 (by omega)) hk
            · exact e
          have e2 : d[j]! = d[j - 1]! := by
            by_cases e2 : d[j]! = d[j - 1]!
            · exact e2
            · exact absurd (Lib.keeps_pos e2) hk
          rw [e2]
          exact h2 (j - 1) (by omega)
/-- Rising, each once. -/
def canon (l : List Int) : List Int := Lib.compact (sortI l)
theorem sortI_mem {l : List Int} {x : Int} : x ∈ sortI l ↔ x ∈ l := List.mem_mergeSort
theorem sortI_srt (l : List Int) : (sortI l).Pairwise (· ≤ ·) := by
  have := List.pairwise_mergeSort (le := fun x y : Int => decide (x ≤ y)) (fun a b c h1 h2 => by simp at *; omega) (fun a b => by simp; omega) l
  exact this.imp (fun h => by simpa using h)
theorem canon_facts (l : List Int) : (∀ x, x ∈ canon l ↔ x ∈ l) ∧ (canon l).Pairwise (· < ·) := by
  have hg : ∀ i, i < (sortI l).length → (sortI l).toArray[i]! = (sortI l).getD i 0 := fun i hi => by simp [List.getD, hi]
  obtain ⟨h1, h2, h3⟩ := upto_facts (sortI l).toArray (fun i j hij hj => by
    simp only [List.size_toArray] at hj
    rw [hg i (by omega), hg j hj]
    have := List.pairwise_iff_getElem.1 (sortI_srt l) i j (by omega) hj hij
    simpa [List.getD, hj, show i < (sortI l).length by omega] using this) (sortI l).length (by simp)
  refine ⟨fun x => ⟨fun hx => ?_, fun hx => ?_⟩, h3⟩
  · obtain ⟨j, hj, e⟩ := h1 x hx
    rw [hg j hj] at e
    rw [← sortI_mem, ← e]
    simp [List.getD, hj]
  · rw [← sortI_mem] at hx
    obtain ⟨j, hj, rfl⟩ := List.getElem_of_mem hx
    have := h2 j hj
    rw [hg j hj, show (sortI l).getD j 0 = (sortI l)[j] by simp [List.getD, hj]] at this
    exact this
theorem canon_one {l : List Int} {x : Int} (h : ∀ y, y ∈ l ↔ y = x) : canon l = [x] := by
  obtain ⟨h1, h2⟩ := canon_facts l
  have hm : ∀ y, y ∈ canon l ↔ y = x := fun y => (h1 y).trans (h y)
  cases hc : canon l with
  | nil => have := (hm x).2 rfl; rw [hc] at this; cases this
  | cons a r =>
    rw [hc] at hm h2
    have ha : a = x := (hm a).1 (by simp)
    cases r with
    | nil => rw [ha]
    | cons c r =>
      have hcx : c = x := (hm c).1 (by simp)
      have := (List.pairwise_cons.1 h2).1 c (by simp)
      omega
theorem canon_nil {l : List Int} (h : l = []) : canon l = [] := by
  subst h
  obtain ⟨h1, _⟩ := canon_facts []
  cases hc : canon [] with
  | nil => rfl
  | cons a r => have := (h1 a).1 (by rw [hc]; simp); cases this
theorem addr_add (b off i : Nat) : (⟨b, off, none⟩ : Addr).add i = ⟨b, off + i, none⟩ := by
  by_cases h : i = 0 <;> simp [Addr.add, h]
/-- The cells that hold the numbers of a list. -/
theorem seg_news {w : World} {b off len : Nat} {l : List Int} (hs : SegK .i64 w (some ⟨b, off, none⟩) len l) :
    ∀ j u, (vals l)[j]? = some u → w.cell? ((⟨b, off, none⟩ : Addr).add j) = some u := by
  intro j u hj
  unfold vals at hj
  rw [List.getElem?_map] at hj
  have hjl : j < l.length := by
    rcases Nat.lt_or_ge j l.length with h | h
    · exact h
    · rw [List.getElem?_eq_none (by omega)] at hj; simp at hj
  rw [List.getElem?_eq_getElem hjl] at hj
  obtain rfl : Value.int .i64 l[j] = u := by simpa using hj
  rcases hs.2 with h | ⟨b', off', he, hc⟩
  · have := hs.1; omega
  · obtain ⟨rfl, rfl⟩ : b = b' ∧ off = off' := by simpa using he
    rw [addr_add, hc j (by rw [← hs.1]; exact hjl), List.getD_eq_getElem?_getD, List.getElem?_eq_getElem hjl]
    rfl
theorem vals_len (l : List Int) (n : Nat) (h : l.length = n) : (vals l).length = n * 1 := by simp [vals, h]
/-- What append asks of its second argument: a slice that is read, nil or not. -/
theorem run_append_seg (w : World) (ty : TypeId) (base : Nat) (i0 : TypeInfo) (hi : Try.prog.info? 3 = some i0) (hz0 : i0.zero = some (.int .i64 0)) (hz1 : i0.size = 1) (hz2 : i0.bytes = 8)
    (v : Value) (n : Nat) (k : List Int) (hown : w.ownsRow base 3 1 v n (vals k)) (va : Option Addr) (m c : Nat) (l : List Int) (hs : SegK .i64 w va m l) (hnil : va = none → c = 0)
    (hm : n + m ≤ 2000) (hbase : base ≤ w.heap.size) :
    ∃ v' w', (Builtin.append_ #[23, 23] ty #[v, .slice va m c]).run Try.prog w = .ok v' w' ∧ w'.ownsRow base 3 1 v' (n + m) (vals (k ++ l)) ∧ w.grownBy w' v.ownBlock := by
  cases va with
  | none =>
    obtain rfl := hnil rfl
    have hm0 : m = 0 := by
      rcases hs.2 with h | ⟨_, _, h, _⟩
      · exact h
      · cases h
    subst hm0
    obtain rfl : l = [] := List.eq_nil_of_length_eq_zero hs.1
    have hr := run_append_owned_none (P := Try.prog) (w := w) base 23 ty 3 i0 1 Try.underlying23 hi v n _ hown
    exact ⟨v, w, hr, by simpa using hown, ⟨rfl, rfl, rfl, Nat.le_refl _, fun _ _ _ => rfl⟩⟩
  | some ad =>
    have hnews : ∀ j u, (vals l)[j]? = some u → w.cell? (ad.add j) = some u := by
      rcases hs.2 with h | ⟨b, off, h, _⟩
      · subst h
        obtain rfl : l = [] := List.eq_nil_of_length_eq_zero hs.1
        intro j u hj
        simp [vals] at hj
      · obtain rfl : ad = ⟨b, off, none⟩ := by simpa using h
        exact seg_news hs
    obtain ⟨v', w', hr, h2, h3, _⟩ := run_append_own (P := Try.prog) w base 23 ty 3 i0 (.int .i64 0) 1 8 Try.underlying23 hi hz0 hz1 hz2 rfl (by decide) v n _ hown ad m c _ (vals_len l m hs.1) hnews (ints_oneCell _ _) (by unfold maxLen; omega) (by omega) hbase
    exact ⟨v', w', hr, by unfold vals at *; rw [List.map_append]; exact h2, h3⟩
theorem wp_append_seg (w : World) {o : Oper} {a : Act} {K : Act → World → Prop} {Q : Exit → Act → World → Prop} (s x : Operand)
    (ho : o.op = .call { callee := .builtin .append, args := #[s, x], argTypes := #[23, 23] })
    (base : Nat) (v : Value) (n : Nat) (k : List Int) (hv : a.eval s = v) (hown : w.ownsRow base 3 1 v n (vals k)) (va : Option Addr) (m c : Nat) (l : List Int) (hx : a.eval x = .slice va m c) (hs : SegK .i64 w va m l) (hnil : va = none → c = 0)
    (hm : n + m ≤ 2000) (hbase : base ≤ w.heap.size)
    (h : ∀ v' w', w'.ownsRow base 3 1 v' (n + m) (vals (k ++ l)) → w.grownBy w' v.ownBlock → K (a.put o.dst v') w') : o.wp Try.prog a w K Q := by
  obtain ⟨i0, hi, hz0, hz1, hz2⟩ := info_parts inf3
  obtain ⟨v', w', hr, h2, h3⟩ := run_append_seg w o.type base i0 hi hz0 hz1 hz2 v n k hown va m c l hs hnil hm hbase
  unfold Oper.wp execOp
  simp only [ho, resolve, invoke, builtin, Sem.run_bind, Sem.run_pure, Result.andThen_ok, List.map_toArray, List.map_cons, List.map_nil, hv, hx, hr]
  exact h v' w' h2 h3
theorem wpList_append_seg (w : World) {ops : Array Oper} {rest : List Oper} {o : Oper} {a : Act} {Q : Exit → Act → World → Prop} (hw : Region.wanted o (yielded ops a.tmps) = true) (s x : Operand)
    (ho : o.op = .call { callee := .builtin .append, args := #[s, x], argTypes := #[23, 23] })
    (base : Nat) (v : Value) (n : Nat) (k : List Int) (hv : a.eval s = v) (hown : w.ownsRow base 3 1 v n (vals k)) (va : Option Addr) (m c : Nat) (l : List Int) (hx : a.eval x = .slice va m c) (hs : SegK .i64 w va m l) (hnil : va = none → c = 0)
    (hm : n + m ≤ 2000) (hbase : base ≤ w.heap.size)
    (h : ∀ v' w', w'.ownsRow base 3 1 v' (n + m) (vals (k ++ l)) → w.grownBy w' v.ownBlock → wpList Try.prog ops Q rest (a.put o.dst v') w') : wpList Try.prog ops Q (o :: rest) a w :=
  wpList_step fun K hK => by
    rw [if_pos hw]
    exact wp_append_seg w s x ho base v n k hv hown va m c l hx hs hnil hm hbase fun v' w' h2 h3 => hK _ _ (h v' w' h2 h3)
theorem isRow_nil {k : IntKind} {w : World} {a : Option Addr} {len cap : Nat} {zs : List Int} (h : IsRow k w a len cap zs) : a = none → cap = 0 := by
  rcases h with ⟨_, _, h, _⟩ | ⟨x, h, _⟩
  · exact fun _ => h
  · rintro rfl; cases h
theorem SegK.at {k : IntKind} {w : World} {a : Option Addr} {len : Nat} {l : List Int} (h : SegK k w a len l) {i : Nat} (hi : i < len) :
    ∃ b off, a = some ⟨b, off, none⟩ ∧ w.cell? ⟨b, off + i, none⟩ = some (.int k (l.getD i 0)) := by
  rcases h.2 with h0 | ⟨b, off, rfl, hc⟩
  · omega
  · exact ⟨b, off, rfl, hc i hi⟩
theorem Is.elem' {B : Nat} {a : Option Addr} {n c : Nat} {l : List Int} {w : World} (h : Is B (.slice a n c) l w) {i : Nat} (hi : i < l.length) : ∃ g o, a = some ⟨g, o, none⟩ ∧ w.cell? ⟨g, o + i, none⟩ = some (.int .i64 (l.getD i 0)) ∧ g < w.heap.size := by
  obtain ⟨a', c', e, sg⟩ := h.rd
  injection e with e1 e2 e3
  subst e1 e3
  obtain ⟨g, o, rfl, d⟩ := seg_at sg hi
  exact ⟨g, o, rfl, d, World.block_lt_of_cell? _ _ d⟩
/-- cmp.Compare. -/
def cmpD (a b : Int) : Int := if a < b then -1 else if b < a then 1 else 0
set_option maxRecDepth 100000 in
theorem nan_any (a : Int) (w : World) : Calls Try.prog 75 #[.int .i64 a] w fun e w' => e = .returned (.bool false) ∧ w' = w := by
  go_enter Try.func75, Try.ntmps75
  go_wp2
  go_ret
  exact ⟨by simp, rfl⟩
set_option maxRecDepth 100000 in
theorem cmp_any (a b : Int) (w : World) : Calls Try.prog 54 #[.int .i64 a, .int .i64 b] w fun e w' => e = .returned (.int .i64 (cmpD a b)) ∧ w' = w := by
  go_enter Try.func54, Try.ntmps54
  go_wp2_with (go_at_call 75; refine (nan_any _ _).mono ?_; rintro e w' ⟨rfl, rfl⟩)
  all_goals (go_ret; refine ⟨?_, rfl⟩; unfold cmpD; (repeat' split) <;> first | rfl | (exfalso; omega))
/-- The slice v: the pairs l, of type t, in a row of its own at or above B. -/
def Pr (t : TypeId) (B : Nat) (v : Value) (l : List En) (w : World) : Prop := w.ownsRow B t 2 v l.length (pairs l)
namespace Pr
variable {t : TypeId} {B : Nat} {v : Value} {l : List En} {w w' : World}
theorem nil (t : TypeId) (B : Nat) (w : World) : Pr t B (.slice none 0 0) [] w := World.ownsRow_nil w B t 2
theorem lt (h : Pr t B v l w) : ∀ g, v.ownBlock = some g → B ≤ g ∧ g < w.heap.size := World.ownsRow.lt h
theorem ty (h : Pr t B v l w) : ∀ g, v.ownBlock = some g → ∃ cur, w.heap[g]? = some (.cells cur t (0, 0)) := by
  rcases h.2 with ⟨rfl, _⟩ | ⟨g, cap, cur, rfl, _, hg, _⟩
  · intro k hk; cases hk
  · intro k hk
    obtain rfl : g = k := by simpa [Value.ownBlock] using hk
    exact ⟨_, hg⟩
theorem keep (h : Pr t B v l w) (k : ∀ g, v.ownBlock = some g → w'.heap[g]? = w.heap[g]?) : Pr t B v l w' := by
  refine ⟨h.1, ?_⟩
  rcases h.2 with h0 | ⟨g, cap, cur, rfl, hB, hg, r⟩
  · exact .inl h0
  · exact .inr ⟨g, cap, cur, rfl, hB, (k g rfl).trans hg, r⟩
theorem next (h : Pr t B v l w) (k : Below w.heap.size w w') : Pr t B v l w' := h.keep fun g hg => k.block g (h.lt g hg).2
theorem drewN (h : Pr t B v l w) (n : Nat) : Pr t B v l (w.drewN n) := h.keep fun _ _ => rfl
theorem down {B' : Nat} (h : Pr t B' v l w) (hB : B ≤ B') : Pr t B v l w := by
  refine ⟨h.1, ?_⟩
  rcases h.2 with h0 | ⟨g, cap, cur, rfl, hB', r⟩
  · exact .inl h0
  · exact .inr ⟨g, cap, cur, rfl, Nat.le_trans hB hB', r⟩
theorem form (h : Pr t B v l w) : ∃ a cap, v = .slice a l.length cap := by
  rcases h.2 with ⟨rfl, e⟩ | ⟨g, cap, cur, rfl, _⟩
  · exact ⟨none, 0, by rw [e]⟩
  · exact ⟨_, cap, rfl⟩
theorem elem {a : Option Addr} {n c : Nat} (h : Pr t B (.slice a n c) l w) {i : Nat} (hi : i < l.length) : ∃ g, a = some ⟨g, 0, none⟩ ∧ w.cell? ⟨g, i * 2, none⟩ = some (.int .i64 (l.getD i (0, 0)).1) ∧ w.cell? ⟨g, i * 2 + 1, none⟩ = some (.int .i64 (l.getD i (0, 0)).2) ∧ g < w.heap.size := by
  rcases h.2 with ⟨_, e⟩ | ⟨g, cap, cur, e, _, hg, _, _, _, hc⟩
  · omega
  · injection e with e1 _ _
    subst e1
    have key : ∀ j, j < l.length * 2 → w.cell? ⟨g, j, none⟩ = (pairs l)[j]? := fun j hj => by
      rw [← hc, List.getElem?_take_of_lt hj]
      simp [World.cell?, hg]
    exact ⟨g, rfl, by rw [key _ (by omega), pairs_fst l i hi], by rw [key _ (by omega), pairs_snd l i hi], heap_lt hg⟩
end Pr
theorem inf69 : (Try.prog.info? 41).map (fun i => (i.zero, i.size, i.bytes)) = some (some (.agg #[.int .i64 0, .int .i64 0]), 2, 16) := by kernel_rfl
theorem pairs_all (x : En) : ∀ u ∈ pairs [x], u.oneCell' = true := pairs_one [x]
/-- One pair more, behind the others. -/
theorem wpList_pair (t st : TypeId) (ht : Try.prog.underlying st = some (.slice t)) (hinf : (Try.prog.info? t).map (fun i => (i.zero, i.size, i.bytes)) = some (some (.agg #[.int .i64 0, .int .i64 0]), 2, 16))
    (w : World) {ops : Array Oper} {rest : List Oper} {o : Oper} {a : Act} {Q : Exit → Act → World → Prop} (hgd : o.guard = none) (s x : Operand)
    (ho : o.op = .call { callee := .builtin .append, args := #[s, x], argTypes := #[st, st] }) (base : Nat) (ag : Option Addr) (n cg : Nat) (l : List En) (z : En)
    (N : Nat) (hs : a.eval s = .slice ag n cg) (hx : a.eval x = .slice (some ⟨N, 0, none⟩) 1 1) (hN : w.heap.size = N) (hn : l.length = n) (hown : Pr t base (.slice ag n cg) l w) (hb : base ≤ w.heap.size) (hm : n < 10000000)
    (h : ∀ g cap w', Pr t base (.slice (some ⟨g, 0, none⟩) (n + 1) cap) (l ++ [z]) w' → w.grownBy w' (Value.slice ag n cg).ownBlock → wpList Try.prog ops Q rest (a.put o.dst (.slice (some ⟨g, 0, none⟩) (n + 1) cap)) w') :
    wpList Try.prog ops Q (o :: rest) a (w.alloc (.cells #[.int .i64 z.1, .int .i64 z.2] t)) := by
  subst hN
  obtain ⟨i3, hi3, hz0, hz1, hz2⟩ := info_parts hinf
  have B5 := below_new w (.cells #[.int .i64 z.1, .int .i64 z.2] t)
  have G5 := hown.next B5
  have own5 : (w.alloc (.cells #[.int .i64 z.1, .int .i64 z.2] t)).ownsRow base t 2 (.slice ag n cg) n (pairs l) := by
    have := G5
    unfold Pr at this
    rw [hn] at this
    exact this
  refine wpList_append_lies _ hgd s x st ho base t i3 _ 2 16 ht hi3 hz0 hz1 hz2 rfl (by decide) _ n _ hs own5 ⟨w.heap.size, 0, none⟩ 1 1 (pairs [z]) hx rfl (World.news_of_block (heap_alloc_new w _)) (pairs_all z) (by decide) (by unfold maxLen; omega) (by omega) (Nat.le_trans hb B5.size) _ rfl ?_
  intro g cap w' a1 a2 _ _
  refine h g cap w' ?_ (grown_trans (grown_of_below B5 _) a2)
  unfold Pr
  rw [List.length_append, hn, pairs_app]
  exact a1
end Go.Proofs.Ytjgepcifknmdhaa

/- Slices of edges that are read; Clone, rising, Nodes, Next. -/
namespace Go.Proofs.Ytjgepcifknmdhaa
open Go.RowKit

/-- The slice v is read: the pairs l. -/
def Re (w : World) (v : Value) (l : List En) : Prop := ∃ a cap, v = .slice a l.length cap ∧ (l.length = 0 ∨ ∃ b off, a = some ⟨b, off, none⟩ ∧ ∀ i, i < l.length →
  w.cell? ⟨b, off + i * 2, none⟩ = some (.int .i64 (l.getD i (0, 0)).1) ∧ w.cell? ⟨b, off + i * 2 + 1, none⟩ = some (.int .i64 (l.getD i (0, 0)).2))
theorem Re.form {w : World} {v : Value} {l : List En} (h : Re w v l) : ∃ a cap, v = .slice a l.length cap := by
  obtain ⟨a, cap, e, _⟩ := h
  exact ⟨a, cap, e⟩
theorem Re.at {w : World} {a : Option Addr} {n cap : Nat} {l : List En} (h : Re w (.slice a n cap) l) {i : Nat} (hi : i < l.length) : ∃ b off, a = some ⟨b, off, none⟩ ∧ b < w.heap.size ∧
    w.cell? ⟨b, off + i * 2, none⟩ = some (.int .i64 (l.getD i (0, 0)).1) ∧ w.cell? ⟨b, off + i * 2 + 1, none⟩ = some (.int .i64 (l.getD i (0, 0)).2) := by
  obtain ⟨a', cap', e, h⟩ := h
  injection e with e1 e2 e3
  subst e1
  rcases h with h | ⟨b, off, e, h⟩
  · omega
  · exact ⟨b, off, e, World.block_lt_of_cell? _ _ (h i hi).1, h i hi⟩
theorem Re.next {w w' : World} {v : Value} {l : List En} (h : Re w v l) (k : Below w.heap.size w w') : Re w' v l := by
  obtain ⟨a, cap, e, h⟩ := h
  refine ⟨a, cap, e, ?_⟩
  rcases h with h | ⟨b, off, e, h⟩
  · exact .inl h
  · refine .inr ⟨b, off, e, fun i hi => ?_⟩
    obtain ⟨h1, h2⟩ := h i hi
    have hb := World.block_lt_of_cell? _ _ h1
    exact ⟨(k.cell (p := ⟨b, off + i * 2, none⟩) hb).trans h1, (k.cell (p := ⟨b, off + i * 2 + 1, none⟩) hb).trans h2⟩
theorem re_nil (w : World) (a : Option Addr) (cap : Nat) : Re w (.slice a 0 cap) [] := ⟨a, cap, rfl, .inl rfl⟩
theorem Pr.re {t : TypeId} {B : Nat} {v : Value} {l : List En} {w : World} (h : Pr t B v l w) : Re w v l := by
  obtain ⟨a, cap, rfl⟩ := h.form
  refine ⟨a, cap, rfl, ?_⟩
  rcases Nat.eq_zero_or_pos l.length with e | e
  · exact .inl e
  · obtain ⟨g, e1, _⟩ := h.elem (i := 0) e
    refine .inr ⟨g, 0, e1, fun i hi => ?_⟩
    obtain ⟨g', e2, h1, h2, _⟩ := h.elem hi
    rw [e1] at e2
    injection e2 with e2
    injection e2 with e2
    subst e2
    rw [Nat.zero_add]
    exact ⟨h1, h2⟩
/-- A slice that is nil has no room. -/
def Nz (v : Value) : Prop := ∀ n c, v = .slice none n c → c = 0
theorem Is.nz {B : Nat} {v : Value} {l : List Int} {w : World} (h : Is B v l w) : Nz v := by
  intro n c e
  rcases h.2 with ⟨rfl, _⟩ | ⟨g, cap, cur, rfl, _⟩
  · cases e; rfl
  · cases e
set_option maxRecDepth 100000 in
theorem clone_i (w : World) {v : Value} {l : List Int} (h : Rd w v l) (hz : Nz v) (hn : l.length ≤ 1500) :
    Calls Try.prog 46 #[v] w fun e w' => ∃ v', e = .returned v' ∧ Is w.heap.size v' l w' ∧ Below w.heap.size w w' := by
  obtain ⟨a, cap, rfl, hs⟩ := h
  cases a with
  | none =>
    have hl : l.length = 0 := by
      rcases hs.2 with h | ⟨_, _, h, _⟩
      · exact h
      · cases h
    obtain rfl : l = [] := List.eq_nil_of_length_eq_zero hl
    obtain rfl := hz _ _ rfl
    have q := fun w => Lib.run_eql_slice_nil (P := Try.prog) w 23 3 none 0 0 0 0 Try.underlying23
    go_enter Try.func46, Try.ntmps46
    go_wp2
    go_ret
    exact ⟨_, rfl, is_nil _ _, Below.refl _ _⟩
  | some a =>
    have q := fun w => Lib.run_eql_slice_nil (P := Try.prog) w 23 3 (some a) l.length cap 0 0 Try.underlying23
    have BW := below_new w (.cells #[] 3)
    have own : Hid ((w.alloc (.cells #[] 3)).ownsRow w.heap.size 3 1 (.slice (some ⟨w.heap.size, 0, none⟩) 0 0) 0 (vals [])) := World.ownsRow_lit w #[] 0 (Nat.le_refl _) (Nat.zero_le _) rfl
    have hs1 := hide (hs.later BW)
    have HBW := hide BW
    have hn2 : Hid (0 + l.length ≤ 2000) := by show _ ≤ _; omega
    clear BW hs hz
    generalize l.length = n at *
    go_enter Try.func46, Try.ntmps46
    go_wp2_with (at_builtin; refine wpList_append_seg _ (by rfl) (.tmp 5) (.tmp 6) rfl w.heap.size _ 0 [] rfl (unhide own) _ _ _ l rfl (unhide hs1) (fun h => by cases h) (unhide hn2) (unhide HBW).size ?_; intro v' w' a1 a2; replace a1 := hide a1; replace a2 := hide a2)
    go_ret
    have a3 := unhide a1
    rw [Nat.zero_add, List.nil_append] at a3
    refine ⟨v', rfl, ?_, (unhide HBW).trans (grown_below (unhide a2) (unhide HBW).size (fun k hk => ((unhide own).lt k hk).1))⟩
    have e := (unhide hs1).1
    unfold Is
    rw [e]
    exact a3
set_option maxRecDepth 100000 in
theorem rising_any (w : World) {v : Value} {l : List Int} (h : Rd w v l) (hz : Nz v) (hn : l.length ≤ 1500) :
    Calls Try.prog 33 #[v] w fun e w' => ∃ v', e = .returned v' ∧ Is w.heap.size v' (canon l) w' ∧ Below w.heap.size w w' := by
  have C := hide (clone_i w h hz hn)
  have hl1 : Hid (l.length < 1000000000) := by show _ < _; omega
  have hl2 : Hid ((sortI l).length < 1000000000) := by show _ < _; rw [sortI_len]; omega
  clear h hz hn
  go_enter Try.func33, Try.ntmps33
  go_wp2_with fail
  refine (unhide C).mono ?_
  rintro e w1 ⟨v1, rfl, I1, b1⟩
  replace I1 := hide I1
  replace b1 := hide b1
  go_wp2_with fail
  refine (sort_any w1 (unhide I1) (unhide hl1)).mono ?_
  rintro e w2 ⟨rfl, I2, g2⟩
  have b2 := hide ((unhide b1).trans (grown_below g2 (unhide b1).size (fun k hk => ((unhide I1).lt k hk).1)))
  replace I2 := hide I2
  clear g2
  go_wp2_with fail
  refine (compact_any w2 (unhide I2) (unhide hl2)).mono ?_
  rintro e w3 ⟨v3, rfl, I3, g3⟩
  have b3 := hide ((unhide b2).trans (grown_below g3 (unhide b2).size (fun k hk => ((unhide I2).lt k hk).1)))
  replace I3 := hide I3
  clear g3
  go_wp2
  go_ret
  exact ⟨v3, rfl, unhide I3, unhide b3⟩
/-- Two numbers more, behind the others. -/
theorem wpList_push2 (w : World) {ops : Array Oper} {rest : List Oper} {o : Oper} {a : Act} {Q : Exit → Act → World → Prop} (hgd : o.guard = none) (s x : Operand)
    (ho : o.op = .call { callee := .builtin .append, args := #[s, x], argTypes := #[23, 23] }) (base : Nat) (ag : Option Addr) (n cg : Nat) (l : List Int) (z y : Int)
    (N : Nat) (hs : a.eval s = .slice ag n cg) (hx : a.eval x = .slice (some ⟨N, 0, none⟩) 2 2) (hN : w.heap.size = N) (hn : l.length = n) (hown : Is base (.slice ag n cg) l w) (hb : base ≤ w.heap.size) (hm : n < 10000000)
    (h : ∀ g cap w', Is base (.slice (some ⟨g, 0, none⟩) (n + 2) cap) (l ++ [z, y]) w' → w.grownBy w' (Value.slice ag n cg).ownBlock → wpList Try.prog ops Q rest (a.put o.dst (.slice (some ⟨g, 0, none⟩) (n + 2) cap)) w') :
    wpList Try.prog ops Q (o :: rest) a (w.alloc (.cells #[.int .i64 z, .int .i64 y] 3)) := by
  subst hN
  obtain ⟨i3, hi3, hz0, hz1, hz2⟩ := info_parts inf3
  have B5 := below_new w (.cells #[.int .i64 z, .int .i64 y] 3)
  have G5 := hown.next B5
  have own5 : (w.alloc (.cells #[.int .i64 z, .int .i64 y] 3)).ownsRow base 3 1 (.slice ag n cg) n (vals l) := by
    have := G5
    unfold Is at this
    rw [hn] at this
    exact this
  refine wpList_append_lies _ hgd s x 23 ho base 3 i3 _ 1 8 Try.underlying23 hi3 hz0 hz1 hz2 rfl (by decide) _ n _ hs own5 ⟨w.heap.size, 0, none⟩ 2 2 [.int .i64 z, .int .i64 y] hx rfl (World.news_of_block (heap_alloc_new w _)) (vals_one [z, y]) (by decide) (by unfold maxLen; omega) (by omega) (Nat.le_trans hb B5.size) _ rfl ?_
  intro g cap w' a1 a2 _ _
  refine h g cap w' ?_ (grown_trans (grown_of_below B5 _) a2)
  unfold Is vals
  rw [List.length_append, hn, List.map_append]
  exact a1
/-- All that edges name. -/
def nodL (l : List En) : List Int := l.flatMap (fun e => [e.1, e.2])
theorem nod_succ (l : List En) (t : Nat) (ht : t < l.length) : nodL (l.take (t + 1)) = nodL (l.take t) ++ [(l.getD t (0, 0)).1, (l.getD t (0, 0)).2] := by
  unfold nodL
  rw [List.take_succ_eq_append_getElem ht, List.flatMap_append]
  simp [List.getD, ht]
theorem nod_len (l : List En) : (nodL l).length = l.length * 2 := by
  induction l with
  | nil => rfl
  | cons x r ih =>
    show ([x.1, x.2] ++ nodL r).length = _
    rw [List.length_append, ih]; simp; omega
theorem nod_mem {l : List En} {x : Int} : x ∈ nodL l ↔ ∃ e ∈ l, x = e.1 ∨ x = e.2 := by
  unfold nodL
  simp [List.mem_flatMap]
set_option maxRecDepth 100000 in
set_option maxHeartbeats 1000000 in
theorem nodes_any (w : World) {v : Value} {l : List En} (h : Re w v l) (hn : l.length ≤ 700) :
    Calls Try.prog 12 #[v] w fun e w' => ∃ v', e = .returned v' ∧ Is w.heap.size v' (canon (nodL l)) w' ∧ Below w.heap.size w w' := by
  obtain ⟨a, cap, rfl⟩ := h.form
  have R := hide h
  clear h
  go_enter Try.func12, Try.ntmps12
  go_wp2
  go_loopw [3, 8] (fun s3 s8 wr => ∃ (t k : Nat) (ag : Option Addr) (cg : Nat), t ≤ l.length ∧ k = t * 2 ∧ s3 = .slice ag k cg ∧ s8 = .int .i64 t ∧ Hid (Is w.heap.size (.slice ag k cg) (nodL (l.take t)) wr) ∧ Hid (Below w.heap.size w wr)) (fun _ s8 _ => l.length - (intOf s8).toNat)
  case atStart => exact ⟨0, 0, none, 0, Nat.zero_le _, rfl, rfl, rfl, is_nil _ _, Below.refl _ _⟩
  case round =>
    obtain ⟨t, k, ag, cg, ht, hk, rfl, rfl, I3, b3⟩ := hrel
    have hk9 : k < 10000000 := by omega
    by_cases hlt : t < l.length
    · obtain ⟨g, o, rfl, _, d1, d2⟩ := ((unhide R).next (unhide b3)).at hlt
      obtain ⟨x, hx⟩ : ∃ x, x = l.getD t (0, 0) := ⟨_, rfl⟩
      have hs := nod_succ l t hlt
      rw [← hx] at d1 d2 hs
      replace hs := hide hs
      replace hx := hide hx
      have hl3 : Hid ((nodL (l.take t)).length = k) := by show _ = _; rw [nod_len, List.length_take, hk]; omega
      have I4 := hide ((unhide I3).next (below_new wr (.cells #[.int .i64 x.1, .int .i64 x.2] 41)))
      have hb4 : Hid (w.heap.size ≤ (wr.alloc (.cells #[.int .i64 x.1, .int .i64 x.2] 41)).heap.size) := Nat.le_trans (unhide b3).size (below_new wr _).size
      replace hk := hide hk
      go_wp2_with (at_builtin; refine wpList_push2 _ rfl (.tmp 12) (.tmp 17) rfl w.heap.size ag k cg _ x.1 x.2 _ rfl rfl (by simp) (unhide hl3) (unhide I4) (unhide hb4) hk9 ?_; intro g5 cap5 w5 a1 a2; replace a1 := hide a1; replace a2 := hide a2)
      go_roundw
      case rel => exact ⟨t + 1, k + 2, some ⟨g5, 0, none⟩, cap5, by omega, by have := unhide hk; omega, rfl, by go_num, by rw [unhide hs]; exact unhide a1, (unhide b3).trans (grown_below (grown_trans (grown_of_below (below_new wr _) _) (unhide a2)) (unhide b3).size (fun k hk => ((unhide I3).lt k hk).1))⟩
      case measure => simp [intOf]; omega
    · obtain rfl : t = l.length := by omega
      rw [List.take_length] at I3
      have hl3 : Hid ((nodL l).length ≤ 1500) := by show _ ≤ _; rw [nod_len]; omega
      clear hk
      go_wp2_with fail
      refine (rising_any wr (unhide I3).rd (unhide I3).nz (unhide hl3)).mono ?_
      rintro e w5 ⟨v5, rfl, I5, b5⟩
      have b6 := hide ((unhide b3).trans (b5.mono (unhide b3).size))
      have I6 := hide (I5.down (unhide b3).size)
      clear I5 b5
      go_wp2
      go_ret
      exact ⟨v5, rfl, unhide I6, unhide b6⟩
/-- To whom edges from n go. -/
def nexL (n : Int) (l : List En) : List Int := (l.filter (fun e => e.1 == n)).map (·.2)
theorem nex_succ (n : Int) (l : List En) (t : Nat) (ht : t < l.length) : nexL n (l.take (t + 1)) = nexL n (l.take t) ++ (if (l.getD t (0, 0)).1 == n then [(l.getD t (0, 0)).2] else []) := by
  unfold nexL
  rw [List.take_succ_eq_append_getElem ht, List.filter_append, List.map_append]
  have e : l.getD t (0, 0) = l[t] := by simp [List.getD, ht]
  rw [e]
  cases h : (l[t].1 == n) <;> simp [h]
theorem nex_le (n : Int) (l : List En) : (nexL n l).length ≤ l.length := by
  unfold nexL
  rw [List.length_map]
  exact List.length_filter_le _ _
theorem nex_mem {n x : Int} {l : List En} : x ∈ nexL n l ↔ (n, x) ∈ l := by
  unfold nexL
  rw [List.mem_map]
  constructor
  · rintro ⟨⟨a, b⟩, h, rfl⟩
    rw [List.mem_filter] at h
    have : a = n := by simpa using h.2
    rw [← this]
    exact h.1
  · intro h
    exact ⟨(n, x), List.mem_filter.2 ⟨h, by simp⟩, rfl⟩
set_option maxRecDepth 100000 in
set_option maxHeartbeats 1000000 in
theorem next_any (w : World) {v : Value} {l : List En} (n : Int) (h : Re w v l) (hn : l.length ≤ 700) :
    Calls Try.prog 14 #[.int .i64 n, v] w fun e w' => ∃ v', e = .returned v' ∧ Is w.heap.size v' (canon (nexL n l)) w' ∧ Below w.heap.size w w' := by
  obtain ⟨a, cap, rfl⟩ := h.form
  have R := hide h
  clear h
  go_enter Try.func14, Try.ntmps14
  go_wp2
  go_loopw [5, 10] (fun s5 s10 wr => ∃ (t k : Nat) (ag : Option Addr) (cg : Nat), t ≤ l.length ∧ k ≤ t ∧ s5 = .slice ag k cg ∧ s10 = .int .i64 t ∧ Hid ((nexL n (l.take t)).length = k) ∧ Hid (Is w.heap.size (.slice ag k cg) (nexL n (l.take t)) wr) ∧ Hid (Below w.heap.size w wr)) (fun _ s10 _ => l.length - (intOf s10).toNat)
  case atStart => exact ⟨0, 0, none, 0, Nat.zero_le _, Nat.le_refl _, rfl, rfl, rfl, is_nil _ _, Below.refl _ _⟩
  case round =>
    obtain ⟨t, k, ag, cg, ht, hk, rfl, rfl, hl3, I3, b3⟩ := hrel
    have hk9 : k < 10000000 := by omega
    by_cases hlt : t < l.length
    · obtain ⟨g, o, rfl, _, d1, d2⟩ := ((unhide R).next (unhide b3)).at hlt
      obtain ⟨x, hx⟩ : ∃ x, x = l.getD t (0, 0) := ⟨_, rfl⟩
      have hs := nex_succ n l t hlt
      rw [← hx] at d1 d2 hs
      replace hx := hide hx
      have I4 := hide ((unhide I3).next (below_new wr (.cells #[.int .i64 x.1, .int .i64 x.2] 41)))
      have b4 := hide (below_then (unhide b3) (below_new wr (.cells #[.int .i64 x.1, .int .i64 x.2] 41)))
      have hb4 : Hid (w.heap.size ≤ (wr.alloc (.cells #[.int .i64 x.1, .int .i64 x.2] 41)).heap.size) := Nat.le_trans (unhide b3).size (below_new wr _).size
      cases hq : (x.1 == n)
      · rw [hq, if_neg (by decide), List.append_nil] at hs
        replace hs := hide hs
        go_wp2
        go_roundw
        case rel => exact ⟨t + 1, k, ag, cg, by omega, by omega, rfl, by go_num, by rw [unhide hs]; exact unhide hl3, by rw [unhide hs]; exact unhide I4, unhide b4⟩
        case measure => simp [intOf]; omega
      · rw [hq, if_pos rfl] at hs
        replace hs := hide hs
        go_wp2_with (at_builtin; refine wpList_push _ rfl (.tmp 18) (.tmp 21) rfl w.heap.size ag k cg _ x.2 _ rfl rfl (by simp) (unhide hl3) (unhide I4) (unhide hb4) hk9 ?_; intro g5 cap5 w5 a1 a2; replace a1 := hide a1; replace a2 := hide a2)
        go_roundw
        case rel => exact ⟨t + 1, k + 1, some ⟨g5, 0, none⟩, cap5, by omega, by omega, rfl, by go_num, by
          show _ = _
          rw [unhide hs, List.length_append, unhide hl3]; rfl, by rw [unhide hs]; exact unhide a1, (unhide b3).trans (grown_below (grown_trans (grown_of_below (below_new wr _) _) (unhide a2)) (unhide b3).size (fun k hk => ((unhide I3).lt k hk).1))⟩
        case measure => simp [intOf]; omega
    · obtain rfl : t = l.length := by omega
      rw [List.take_length] at I3 hl3
      have hl4 : Hid ((nexL n l).length ≤ 1500) := by have := unhide hl3; show _ ≤ _; omega
      go_wp2_with fail
      refine (rising_any wr (unhide I3).rd (unhide I3).nz (unhide hl4)).mono ?_
      rintro e w5 ⟨v5, rfl, I5, b5⟩
      have b6 := hide ((unhide b3).trans (b5.mono (unhide b3).size))
      have I6 := hide (I5.down (unhide b3).size)
      clear I5 b5
      go_wp2
      go_ret
      exact ⟨v5, rfl, unhide I6, unhide b6⟩
end Go.Proofs.Ytjgepcifknmdhaa
