/- What all texts of this seat use: slices of numbers and of pairs in memory, append, the library's Sort and Compact, the reference's Ints. -/
import Derived.Test.YtoamcbnklgkgnaaRows
import Derived.WalkKit
import Derived.WalkSpells
import Derived.WalkLawsBesides
import Derived.Deep.QuietTactic
import Derived.BigQuiet
import Derived.Outline
import Derived.Below
import Derived.OwnWalk
import Derived.Laws.OwnMore
import Derived.Laws.AppendOwn
import Derived.Laws.CopyRow
import Derived.Laws.CopyOwn
import Derived.Deep.RegionLaw
import Derived.Deep.Heap
import Derived.Deep.Slices
import Derived.Deep.RegionHeld3
import Derived.BigRegion
import Derived.ProofKit
import Derived.Lib.AppendZerosOnto
import Derived.Lib.OwnBridge
import Derived.Lib.RowBridge
import Derived.Lib.SliceRun
import Derived.Deep.AppendLies
namespace Go.Proofs.Ytoamcbnklgkgnaa
open Go.RowKit
variable {B : Nat}

theorem hide {p : Prop} (h : p) : Hid p := h
theorem unhide {p : Prop} (h : Hid p) : p := h
theorem ret_int {k : IntKind} {a b : Int} (h : a = b) : Ending.returned (.int k a) = .returned (.int k b) := by rw [h]
theorem ret_bool {a b : Bool} (h : a = b) : Ending.returned (.bool a) = .returned (.bool b) := by rw [h]
theorem bthen {B : Nat} {w w' w'' : World} (h : Below B w w') (k : Below w'.heap.size w' w'') (hB : B ≤ w.heap.size) : Below B w w'' := h.trans (k.mono (Nat.le_trans hB h.size))
theorem below_new (w : World) (o : Obj) : Below w.heap.size w (w.alloc o) := (Below.refl _ _).alloc (Nat.le_refl _) _
theorem below_then {w w' w'' : World} (h : Below w.heap.size w w') (k : Below w'.heap.size w' w'') : Below w.heap.size w w'' := bthen h k (Nat.le_refl _)
theorem below_add {w w' : World} (h : Below w.heap.size w w') (o : Obj) : Below w.heap.size w (w'.alloc o) := below_then h (below_new w' o)
/-- A slice of integers that is read: 'len' cells from 'a' on hold the numbers 'l'. -/
def SegK (k : IntKind) (w : World) (a : Option Addr) (len : Nat) (l : List Int) : Prop :=
  l.length = len ∧ (len = 0 ∨ ∃ b off, a = some ⟨b, off, none⟩ ∧ ∀ i, i < len → w.cell? ⟨b, off + i, none⟩ = some (.int k (l.getD i 0)))
theorem SegK.later {k : IntKind} {w w' : World} {a : Option Addr} {len : Nat} {l : List Int} (h : SegK k w a len l) (hb : Below w.heap.size w w') : SegK k w' a len l := by
  rcases h.2 with h0 | ⟨b, off, rfl, hc⟩
  · exact ⟨h.1, .inl h0⟩
  · by_cases e : len = 0
    · exact ⟨h.1, .inl e⟩
    · have hlt : b < w.heap.size := by
        have := hc 0 (by omega)
        simp only [World.cell?] at this
        by_cases hb : b < w.heap.size
        · exact hb
        · simp [Array.getElem?_eq_none (show w.heap.size ≤ b by omega)] at this
      exact ⟨h.1, .inr ⟨b, off, rfl, fun i hi => (hb.cell (p := ⟨b, off + i, none⟩) hlt).trans (hc i hi)⟩⟩
theorem seg_nil (w : World) (a : Option Addr) : SegK .i64 w a 0 [] := ⟨rfl, .inl rfl⟩
/-- A slice that was just written out. -/
theorem seg_new (w : World) (l : List Int) : SegK .i64 (w.alloc (.cells (l.map (Value.int .i64 ·)).toArray 3)) (some ⟨w.heap.size, 0, none⟩) l.length l :=
  ⟨rfl, .inr ⟨w.heap.size, 0, rfl, fun i hi => by rw [Nat.zero_add, World.cell?_alloc_new]; simp [hi]⟩⟩
theorem take_all (l : List Int) (k : Nat) (h : ¬ k < l.length) : l.take k = l := List.take_of_length_le (by omega)
/-- Does v stand in l? -/
def hasB (v : Int) (l : List Int) : Bool := l.any (fun x => v == x)
theorem has_no (v : Int) (l : List Int) (h : ∀ j, j < l.length → v ≠ l.getD j 0) : hasB v l = false := by
  unfold hasB
  rw [List.any_eq_false]
  intro x hx
  obtain ⟨j, hj, rfl⟩ := List.getElem_of_mem hx
  have := h j hj
  simpa [List.getD_eq_getElem?_getD, hj] using this
theorem has_yes (v : Int) (l : List Int) (k : Nat) (h : k < l.length) (e : v = l.getD k 0) : hasB v l = true := by
  unfold hasB
  rw [List.any_eq_true]
  exact ⟨l[k], List.getElem_mem h, by simp [e, List.getD_eq_getElem?_getD, h]⟩
theorem seg1 (w : World) (x : Int) : SegK .i64 (w.alloc (.cells #[.int .i64 x] 3)) (some ⟨w.heap.size, 0, none⟩) 1 [x] := seg_new w [x]
theorem seg2 (w : World) (x y : Int) : SegK .i64 (w.alloc (.cells #[.int .i64 x, .int .i64 y] 3)) (some ⟨w.heap.size, 0, none⟩) 2 [x, y] := seg_new w [x, y]
theorem heap_lt {w : World} {g : Nat} {o : Obj} (h : w.heap[g]? = some o) : g < w.heap.size := by
  by_cases hl : g < w.heap.size
  · exact hl
  · rw [Array.getElem?_eq_none (by omega)] at h; cases h
/-- One that holds or waits, and its mode. -/
abbrev En := Int × Int
/-- The cells of entries. -/
def pairs : List En → List Value
  | [] => []
  | p :: r => .int .i64 p.1 :: .int .i64 p.2 :: pairs r
theorem pairs_app : ∀ (l m : List En), pairs (l ++ m) = pairs l ++ pairs m
  | [], m => rfl
  | p :: r, m => by
    show Value.int .i64 p.1 :: Value.int .i64 p.2 :: pairs (r ++ m) = _
    rw [pairs_app r m]; rfl
theorem pairs_len : ∀ (l : List En), (pairs l).length = l.length * 2
  | [] => rfl
  | p :: r => by
    show (pairs r).length + 1 + 1 = (r.length + 1) * 2
    rw [pairs_len r]; omega
theorem pairs_one : ∀ (l : List En), ∀ u ∈ pairs l, u.oneCell' = true
  | [], u, h => by cases h
  | p :: r, u, h => by
    rcases List.mem_cons.1 h with rfl | h
    · rfl
    · rcases List.mem_cons.1 h with rfl | h
      · rfl
      · exact pairs_one r u h
theorem pairs_fst : ∀ (l : List En) (i : Nat), i < l.length → (pairs l)[i * 2]? = some (.int .i64 (l.getD i (0, 0)).1)
  | [], i, h => by cases h
  | p :: r, 0, _ => rfl
  | p :: r, i + 1, h => by
    rw [show (i + 1) * 2 = i * 2 + 1 + 1 by omega]
    exact pairs_fst r i (by simpa using h)
theorem pairs_snd : ∀ (l : List En) (i : Nat), i < l.length → (pairs l)[i * 2 + 1]? = some (.int .i64 (l.getD i (0, 0)).2)
  | [], i, h => by cases h
  | p :: r, 0, _ => rfl
  | p :: r, i + 1, h => by
    rw [show (i + 1) * 2 + 1 = i * 2 + 1 + 1 + 1 by omega]
    exact pairs_snd r i (by simpa using h)
/-- Only block g is turned (and new ones are made). -/
theorem grown_below {w w' : World} {r : Option Nat} {B : Nat} (h : w.grownBy w' r) (hB : B ≤ w.heap.size) (hr : ∀ g, r = some g → B ≤ g) : Below B w w' :=
  (Below.refl _ w).grown h hB hr
theorem grown_row (w : World) (g : Nat) (cs : Array Value) : w.grownBy (w.setRow g cs) (some g) :=
  ⟨rfl, rfl, rfl, by simp [World.setRow], fun k hk hne => by
    show (w.heap.modify g _)[k]? = _
    rw [Array.getElem?_modify, if_neg (fun e => hne (by rw [e]))]⟩
theorem grown_trans {w w' w'' : World} {r : Option Nat} (h : w.grownBy w' r) (k : w'.grownBy w'' r) : w.grownBy w'' r :=
  ⟨k.os.trans h.os, k.tape.trans h.tape, k.output.trans h.output, Nat.le_trans h.size k.size, fun i hi hne => (k.block i (Nat.lt_of_lt_of_le hi h.size) hne).trans (h.block i hi hne)⟩
theorem grown_drew (w : World) (r : Option Nat) : w.grownBy w.drew r := ⟨rfl, rfl, rfl, Nat.le_refl _, fun _ _ _ => rfl⟩
theorem grown_of_below {w w' : World} (h : Below w.heap.size w w') (r : Option Nat) : w.grownBy w' r := ⟨h.os, h.tape, h.output, h.size, fun k hk _ => h.block k hk⟩
/-- A slice of integers that came in: nil, or 'cap' cells that hold the numbers 'zs', of which the first 'len' are its elements. -/
def IsRow (k : IntKind) (w : World) (a : Option Addr) (len cap : Nat) (zs : List Int) : Prop :=
  (a = none ∧ len = 0 ∧ cap = 0 ∧ zs = []) ∨
  ∃ x, a = some x ∧ len ≤ cap ∧ cap ≤ maxLen ∧ zs.length = cap ∧ (∀ i, i < zs.length → w.cell? (x.add i) = some (.int k (zs.getD i 0))) ∧ ∀ n ∈ zs, (Lit.int k n).wf = true
theorem isRow_seg {k : IntKind} {w : World} {a : Option Addr} {len cap : Nat} {zs : List Int} (h : IsRow k w a len cap zs) :
    SegK k w a len (zs.take len) ∧ len ≤ cap ∧ cap ≤ maxLen ∧ ∀ n ∈ zs.take len, (Lit.int k n).wf = true := by
  rcases h with ⟨rfl, rfl, rfl, rfl⟩ | ⟨x, rfl, hl, hm, hz, hcell, hwz⟩
  · exact ⟨⟨rfl, .inl rfl⟩, Nat.le_refl _, Nat.zero_le _, by simp⟩
  · refine ⟨⟨by simp; omega, ?_⟩, hl, hm, fun n hn => hwz n (List.mem_of_mem_take hn)⟩
    by_cases h0 : len = 0
    · exact .inl h0
    · obtain ⟨b, off, spot⟩ := x
      have hc := hcell 0 (by omega)
      have hspot : spot = none := by simpa [Addr.add] using World.cell?_spot hc
      subst hspot
      refine .inr ⟨b, off, rfl, fun i hi => ?_⟩
      have := hcell i (by omega)
      simp [Addr.add] at this
      have e : (if i = 0 then (⟨b, off, none⟩ : Addr) else ⟨b, off + i, none⟩) = ⟨b, off + i, none⟩ := by
        by_cases h : i = 0 <;> simp [h]
      rw [e] at this
      rw [this]
      simp [hi]
/-- The cells that hold the numbers of a list. -/
def vals (l : List Int) : List Value := l.map (Value.int .i64)
theorem vals_one (l : List Int) : ∀ u ∈ vals l, u.oneCell' = true := by
  intro u hu
  unfold vals at hu
  obtain ⟨n, _, rfl⟩ := List.mem_map.1 hu
  rfl
/-- The slice v: the numbers l, in a row of its own at or above B. -/
def Is (B : Nat) (v : Value) (l : List Int) (w : World) : Prop := w.ownsRow B 3 1 v l.length (vals l)
theorem is_nil (B : Nat) (w : World) : Is B (.slice none 0 0) [] w := World.ownsRow_nil w B 3 1
theorem Is.ty {v : Value} {l : List Int} {w : World} (h : Is B v l w) : ∀ g, v.ownBlock = some g → ∃ cur, w.heap[g]? = some (.cells cur 3 (0, 0)) := by
  rcases h.2 with ⟨rfl, _⟩ | ⟨g, cap, cur, rfl, _, hg, _⟩
  · intro k hk; cases hk
  · intro k hk
    obtain rfl : g = k := by simpa [Value.ownBlock] using hk
    exact ⟨_, hg⟩
theorem Is.keep {v : Value} {l : List Int} {w w' : World} (h : Is B v l w) (k : ∀ g, v.ownBlock = some g → w'.heap[g]? = w.heap[g]?) : Is B v l w' := by
  refine ⟨h.1, ?_⟩
  rcases h.2 with h0 | ⟨g, cap, cur, rfl, hB, hg, r⟩
  · exact .inl h0
  · exact .inr ⟨g, cap, cur, rfl, hB, (k g rfl).trans hg, r⟩
theorem Is.next {v : Value} {l : List Int} {w w' : World} (h : Is B v l w) (k : Below w.heap.size w w') : Is B v l w' := h.keep fun g hg => k.block g (h.lt g hg).2
theorem Is.form {v : Value} {l : List Int} {w : World} (h : Is B v l w) : ∃ a cap, v = .slice a l.length cap := by
  rcases h.2 with ⟨rfl, e⟩ | ⟨g, cap, cur, rfl, _⟩
  · exact ⟨none, 0, by rw [e]⟩
  · exact ⟨_, cap, rfl⟩
theorem inf3 : (Try.prog.info? 3).map (fun i => (i.zero, i.size, i.bytes)) = some (some (.int .i64 0), 1, 8) := by kernel_rfl
theorem Is.down {B' : Nat} {v : Value} {l : List Int} {w : World} (h : Is B' v l w) (hB : B ≤ B') : Is B v l w := by
  refine ⟨h.1, ?_⟩
  rcases h.2 with h0 | ⟨g, cap, cur, e, h1, r⟩
  · exact .inl h0
  · exact .inr ⟨g, cap, cur, e, Nat.le_trans hB h1, r⟩
/-- One number more, behind the others. -/
theorem wpList_push (w : World) {ops : Array Oper} {rest : List Oper} {o : Oper} {a : Act} {Q : Exit → Act → World → Prop} (hgd : o.guard = none) (s x : Operand)
    (ho : o.op = .call { callee := .builtin .append, args := #[s, x], argTypes := #[22, 22] }) (base : Nat) (ag : Option Addr) (n cg : Nat) (l : List Int) (z : Int)
    (N : Nat) (hs : a.eval s = .slice ag n cg) (hx : a.eval x = .slice (some ⟨N, 0, none⟩) 1 1) (hN : w.heap.size = N) (hn : l.length = n) (hown : Is base (.slice ag n cg) l w) (hb : base ≤ w.heap.size) (hm : n < 10000000)
    (h : ∀ g cap w', Is base (.slice (some ⟨g, 0, none⟩) (n + 1) cap) (l ++ [z]) w' → w.grownBy w' (Value.slice ag n cg).ownBlock → wpList Try.prog ops Q rest (a.put o.dst (.slice (some ⟨g, 0, none⟩) (n + 1) cap)) w') :
    wpList Try.prog ops Q (o :: rest) a (w.alloc (.cells #[.int .i64 z] 3)) := by
  subst hN
  obtain ⟨i3, hi3, hz0, hz1, hz2⟩ := info_parts inf3
  have B5 := below_new w (.cells #[.int .i64 z] 3)
  have G5 := hown.next B5
  have own5 : (w.alloc (.cells #[.int .i64 z] 3)).ownsRow base 3 1 (.slice ag n cg) n (vals l) := by
    have := G5
    unfold Is at this
    rw [hn] at this
    exact this
  refine wpList_append_lies _ hgd s x 22 ho base 3 i3 _ 1 8 Try.underlying22 hi3 hz0 hz1 hz2 rfl (by decide) _ n _ hs own5 ⟨w.heap.size, 0, none⟩ 1 1 [.int .i64 z] hx rfl (World.news_of_block (heap_alloc_new w _)) (vals_one [z]) (by decide) (by unfold maxLen; omega) (by omega) (Nat.le_trans hb B5.size) _ rfl ?_
  intro g cap w' a1 a2 _ _
  refine h g cap w' ?_ (grown_trans (grown_of_below B5 _) a2)
  unfold Is vals
  rw [List.length_append, hn, List.map_append]
  exact a1
/-- The slice v is read: the numbers l. -/
def Rd (w : World) (v : Value) (l : List Int) : Prop := ∃ a cap, v = .slice a l.length cap ∧ SegK .i64 w a l.length l
theorem Rd.next {w w' : World} {v : Value} {l : List Int} (h : Rd w v l) (k : Below w.heap.size w w') : Rd w' v l := by
  obtain ⟨a, cap, e, s⟩ := h
  exact ⟨a, cap, e, s.later k⟩
theorem Is.rd {w : World} {v : Value} {l : List Int} (h : Is B v l w) : Rd w v l := by
  rcases h.2 with ⟨rfl, e⟩ | ⟨g, cap, cur, rfl, _, hg, _⟩
  · have : l = [] := List.eq_nil_of_length_eq_zero e
    subst this
    exact ⟨none, 0, rfl, seg_nil _ _⟩
  · refine ⟨_, cap, rfl, rfl, .inr ⟨g, 0, rfl, fun i hi => ?_⟩⟩
    have := h.cells (g := g) rfl i (.int .i64 (l.getD i 0)) (by
      unfold vals
      rw [List.getElem?_map, List.getElem?_eq_getElem hi]; simp [List.getD, hi])
    rwa [Addr.add_lit] at this
theorem rd_one (w : World) (x : Int) : Rd (w.alloc (.cells #[.int .i64 x] 3)) (.slice (some ⟨w.heap.size, 0, none⟩) 1 1) [x] := ⟨_, 1, rfl, seg1 w x⟩
theorem eq_take {l m : List Int} {k : Nat} (h : l.length = m.length) (hk : l.length ≤ k) (hall : ∀ j, j < k → l.getD j 0 = m.getD j 0) : (l == m) = true := by
  rw [beq_iff_eq]
  apply List.ext_getElem h
  intro j h1 h2
  have := hall j (by omega)
  simpa [h1, h2] using this
theorem ne_at {l m : List Int} {k : Nat} (h : l.getD k 0 ≠ m.getD k 0) : (l == m) = false := by
  rw [beq_eq_false_iff_ne]
  rintro rfl
  exact h rfl
theorem seg_at {w : World} {a : Option Addr} {l : List Int} (h : SegK .i64 w a l.length l) {i : Nat} (hi : i < l.length) : ∃ b off, a = some ⟨b, off, none⟩ ∧ w.cell? ⟨b, off + i, none⟩ = some (.int .i64 (l.getD i 0)) := by
  rcases h.2 with h0 | ⟨b, off, e, hc⟩
  · omega
  · exact ⟨b, off, e, hc i hi⟩
/-- Behind a call that makes memory alone. -/
theorem bt {w0 w w' : World} (h : Below B w0 w) (k : Below w.heap.size w w') (hB : B ≤ w.heap.size) : Below B w0 w' := h.trans (k.mono hB)
theorem addr_add (b off i : Nat) : (⟨b, off, none⟩ : Addr).add i = ⟨b, off + i, none⟩ := by
  by_cases h : i = 0 <;> simp [Addr.add, h]
/-- The cells that hold the numbers of a list. -/
theorem seg_news {w : World} {b off len : Nat} {l : List Int} (hs : SegK .i64 w (some ⟨b, off, none⟩) len l) :
    ∀ j u, (vals l)[j]? = some u → w.cell? ((⟨b, off, none⟩ : Addr).add j) = some u := by
  intro j u hj
  unfold vals at hj
  rw [List.getElem?_map] at hj
  have hjl : j < l.length := by
    rcases Nat.lt_or_ge j l.length with h | h
    · exact h
    · rw [List.getElem?_eq_none (by omega)] at hj; simp at hj
  rw [List.getElem?_eq_getElem hjl] at hj
  obtain rfl : Value.int .i64 l[j] = u := by simpa using hj
  rcases hs.2 with h | ⟨b', off', he, hc⟩
  · have := hs.1; omega
  · obtain ⟨rfl, rfl⟩ : b = b' ∧ off = off' := by simpa using he
    rw [addr_add, hc j (by rw [← hs.1]; exact hjl), List.getD_eq_getElem?_getD, List.getElem?_eq_getElem hjl]
    rfl
theorem vals_len (l : List Int) (n : Nat) (h : l.length = n) : (vals l).length = n * 1 := by simp [vals, h]
/-- What append asks of its second argument: a slice that is read, nil or not. -/
theorem run_append_seg (w : World) (ty : TypeId) (base : Nat) (i0 : TypeInfo) (hi : Try.prog.info? 3 = some i0) (hz0 : i0.zero = some (.int .i64 0)) (hz1 : i0.size = 1) (hz2 : i0.bytes = 8)
    (v : Value) (n : Nat) (k : List Int) (hown : w.ownsRow base 3 1 v n (vals k)) (va : Option Addr) (m c : Nat) (l : List Int) (hs : SegK .i64 w va m l) (hnil : va = none → c = 0)
    (hm : n + m ≤ 2000) (hbase : base ≤ w.heap.size) :
    ∃ v' w', (Builtin.append_ #[22, 22] ty #[v, .slice va m c]).run Try.prog w = .ok v' w' ∧ w'.ownsRow base 3 1 v' (n + m) (vals (k ++ l)) ∧ w.grownBy w' v.ownBlock := by
  cases va with
  | none =>
    obtain rfl := hnil rfl
    have hm0 : m = 0 := by
      rcases hs.2 with h | ⟨_, _, h, _⟩
      · exact h
      · cases h
    subst hm0
    obtain rfl : l = [] := List.eq_nil_of_length_eq_zero hs.1
    have hr := run_append_owned_none (P := Try.prog) (w := w) base 22 ty 3 i0 1 Try.underlying22 hi v n _ hown
    exact ⟨v, w, hr, by simpa using hown, ⟨rfl, rfl, rfl, Nat.le_refl _, fun _ _ _ => rfl⟩⟩
  | some ad =>
    have hnews : ∀ j u, (vals l)[j]? = some u → w.cell? (ad.add j) = some u := by
      rcases hs.2 with h | ⟨b, off, h, _⟩
      · subst h
        obtain rfl : l = [] := List.eq_nil_of_length_eq_zero hs.1
        intro j u hj
        simp [vals] at hj
      · obtain rfl : ad = ⟨b, off, none⟩ := by simpa using h
        exact seg_news hs
    obtain ⟨v', w', hr, h2, h3, _⟩ := run_append_own (P := Try.prog) w base 22 ty 3 i0 (.int .i64 0) 1 8 Try.underlying22 hi hz0 hz1 hz2 rfl (by decide) v n _ hown ad m c _ (vals_len l m hs.1) hnews (ints_oneCell _ _) (by unfold maxLen; omega) (by omega) hbase
    exact ⟨v', w', hr, by unfold vals at *; rw [List.map_append]; exact h2, h3⟩
theorem wp_append_seg (w : World) {o : Oper} {a : Act} {K : Act → World → Prop} {Q : Exit → Act → World → Prop} (s x : Operand)
    (ho : o.op = .call { callee := .builtin .append, args := #[s, x], argTypes := #[22, 22] })
    (base : Nat) (v : Value) (n : Nat) (k : List Int) (hv : a.eval s = v) (hown : w.ownsRow base 3 1 v n (vals k)) (va : Option Addr) (m c : Nat) (l : List Int) (hx : a.eval x = .slice va m c) (hs : SegK .i64 w va m l) (hnil : va = none → c = 0)
    (hm : n + m ≤ 2000) (hbase : base ≤ w.heap.size)
    (h : ∀ v' w', w'.ownsRow base 3 1 v' (n + m) (vals (k ++ l)) → w.grownBy w' v.ownBlock → K (a.put o.dst v') w') : o.wp Try.prog a w K Q := by
  obtain ⟨i0, hi, hz0, hz1, hz2⟩ := info_parts inf3
  obtain ⟨v', w', hr, h2, h3⟩ := run_append_seg w o.type base i0 hi hz0 hz1 hz2 v n k hown va m c l hs hnil hm hbase
  unfold Oper.wp execOp
  simp only [ho, resolve, invoke, builtin, Sem.run_bind, Sem.run_pure, Result.andThen_ok, List.map_toArray, List.map_cons, List.map_nil, hv, hx, hr]
  exact h v' w' h2 h3
theorem wpList_append_seg (w : World) {ops : Array Oper} {rest : List Oper} {o : Oper} {a : Act} {Q : Exit → Act → World → Prop} (hw : Region.wanted o (yielded ops a.tmps) = true) (s x : Operand)
    (ho : o.op = .call { callee := .builtin .append, args := #[s, x], argTypes := #[22, 22] })
    (base : Nat) (v : Value) (n : Nat) (k : List Int) (hv : a.eval s = v) (hown : w.ownsRow base 3 1 v n (vals k)) (va : Option Addr) (m c : Nat) (l : List Int) (hx : a.eval x = .slice va m c) (hs : SegK .i64 w va m l) (hnil : va = none → c = 0)
    (hm : n + m ≤ 2000) (hbase : base ≤ w.heap.size)
    (h : ∀ v' w', w'.ownsRow base 3 1 v' (n + m) (vals (k ++ l)) → w.grownBy w' v.ownBlock → wpList Try.prog ops Q rest (a.put o.dst v') w') : wpList Try.prog ops Q (o :: rest) a w :=
  wpList_step fun K hK => by
    rw [if_pos hw]
    exact wp_append_seg w s x ho base v n k hv hown va m c l hx hs hnil hm hbase fun v' w' h2 h3 => hK _ _ (h v' w' h2 h3)
theorem isRow_nil {k : IntKind} {w : World} {a : Option Addr} {len cap : Nat} {zs : List Int} (h : IsRow k w a len cap zs) : a = none → cap = 0 := by
  rcases h with ⟨_, _, h, _⟩ | ⟨x, h, _⟩
  · exact fun _ => h
  · rintro rfl; cases h
theorem SegK.at {k : IntKind} {w : World} {a : Option Addr} {len : Nat} {l : List Int} (h : SegK k w a len l) {i : Nat} (hi : i < len) :
    ∃ b off, a = some ⟨b, off, none⟩ ∧ w.cell? ⟨b, off + i, none⟩ = some (.int k (l.getD i 0)) := by
  rcases h.2 with h0 | ⟨b, off, rfl, hc⟩
  · omega
  · exact ⟨b, off, rfl, hc i hi⟩
theorem Is.elem' {B : Nat} {a : Option Addr} {n c : Nat} {l : List Int} {w : World} (h : Is B (.slice a n c) l w) {i : Nat} (hi : i < l.length) : ∃ g o, a = some ⟨g, o, none⟩ ∧ w.cell? ⟨g, o + i, none⟩ = some (.int .i64 (l.getD i 0)) ∧ g < w.heap.size := by
  obtain ⟨a', c', e, sg⟩ := h.rd
  injection e with e1 e2 e3
  subst e1 e3
  obtain ⟨g, o, rfl, d⟩ := seg_at sg hi
  exact ⟨g, o, rfl, d, World.block_lt_of_cell? _ _ d⟩
end Go.Proofs.Ytoamcbnklgkgnaa
