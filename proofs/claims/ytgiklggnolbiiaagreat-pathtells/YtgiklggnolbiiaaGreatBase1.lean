/- Texts of this claim, put together in their order. -/
import Derived.Test.YtgiklggnolbiiaaGreatRows
import Derived.WalkKit
import Derived.WalkSpells
import Derived.WalkLawsBesides
import Derived.Deep.QuietTactic
import Derived.BigQuiet
import Derived.Outline
import Derived.Below
import Derived.OwnWalk
import Derived.Laws.OwnMore
import Derived.Laws.AppendOwn
import Derived.Laws.CopyRow
import Derived.Laws.CopyOwn
import Derived.Deep.RegionLaw
import Derived.Deep.Heap
import Derived.Lib.AppendZerosOnto
import Derived.Deep.AppendLies
import Derived.Lib.Overlaps
/- The leaves of package mode and of the reference: slices.Contains, oneOf, Known, join, Sup. -/
namespace Go.Proofs.YtgiklggnolbiiaaGreat
open Go.RowKit

theorem hide {p : Prop} (h : p) : Hid p := h
theorem unhide {p : Prop} (h : Hid p) : p := h
theorem ret_int {k : IntKind} {a b : Int} (h : a = b) : Ending.returned (.int k a) = .returned (.int k b) := by rw [h]
theorem ret_bool {a b : Bool} (h : a = b) : Ending.returned (.bool a) = .returned (.bool b) := by rw [h]
theorem bthen {B : Nat} {w w' w'' : World} (h : Below B w w') (k : Below w'.heap.size w' w'') (hB : B ≤ w.heap.size) : Below B w w'' := h.trans (k.mono (Nat.le_trans hB h.size))
theorem below_new (w : World) (o : Obj) : Below w.heap.size w (w.alloc o) := (Below.refl _ _).alloc (Nat.le_refl _) _
theorem below_then {w w' w'' : World} (h : Below w.heap.size w w') (k : Below w'.heap.size w' w'') : Below w.heap.size w w'' := bthen h k (Nat.le_refl _)
theorem below_add {w w' : World} (h : Below w.heap.size w w') (o : Obj) : Below w.heap.size w (w'.alloc o) := below_then h (below_new w' o)

/-- A slice of integers that is read: 'len' cells from 'a' on hold the numbers 'l'. -/
def SegK (k : IntKind) (w : World) (a : Option Addr) (len : Nat) (l : List Int) : Prop :=
  l.length = len ∧ (len = 0 ∨ ∃ b off, a = some ⟨b, off, none⟩ ∧ ∀ i, i < len → w.cell? ⟨b, off + i, none⟩ = some (.int k (l.getD i 0)))
theorem SegK.later {k : IntKind} {w w' : World} {a : Option Addr} {len : Nat} {l : List Int} (h : SegK k w a len l) (hb : Below w.heap.size w w') : SegK k w' a len l := by
  rcases h.2 with h0 | ⟨b, off, rfl, hc⟩
  · exact ⟨h.1, .inl h0⟩
  · by_cases e : len = 0
    · exact ⟨h.1, .inl e⟩
    · have hlt : b < w.heap.size := by
        have := hc 0 (by omega)
        simp only [World.cell?] at this
        by_cases hb : b < w.heap.size
        · exact hb
        · simp [Array.getElem?_eq_none (show w.heap.size ≤ b by omega)] at this
      exact ⟨h.1, .inr ⟨b, off, rfl, fun i hi => (hb.cell (p := ⟨b, off + i, none⟩) hlt).trans (hc i hi)⟩⟩
theorem seg_nil (w : World) (a : Option Addr) : SegK .i64 w a 0 [] := ⟨rfl, .inl rfl⟩
/-- A slice that was just written out. -/
theorem seg_new (w : World) (l : List Int) : SegK .i64 (w.alloc (.cells (l.map (Value.int .i64 ·)).toArray 3)) (some ⟨w.heap.size, 0, none⟩) l.length l :=
  ⟨rfl, .inr ⟨w.heap.size, 0, rfl, fun i hi => by rw [Nat.zero_add, World.cell?_alloc_new]; simp [hi]⟩⟩

theorem fold_snoc {α : Type} (f : α → Int → α) (z : α) (l : List Int) (k : Nat) (h : k < l.length) :
    (l.take (k + 1)).foldl f z = f ((l.take k).foldl f z) (l.getD k 0) := by
  rw [List.take_succ_eq_append_getElem h, List.foldl_append, List.getD_eq_getElem?_getD, List.getElem?_eq_getElem h]; rfl
theorem take_all (l : List Int) (k : Nat) (h : ¬ k < l.length) : l.take k = l := List.take_of_length_le (by omega)

/-- Does v stand in l? -/
def hasB (v : Int) (l : List Int) : Bool := l.any (fun x => v == x)
theorem has_no (v : Int) (l : List Int) (h : ∀ j, j < l.length → v ≠ l.getD j 0) : hasB v l = false := by
  unfold hasB
  rw [List.any_eq_false]
  intro x hx
  obtain ⟨j, hj, rfl⟩ := List.getElem_of_mem hx
  have := h j hj
  simpa [List.getD_eq_getElem?_getD, hj] using this
theorem has_yes (v : Int) (l : List Int) (k : Nat) (h : k < l.length) (e : v = l.getD k 0) : hasB v l = true := by
  unfold hasB
  rw [List.any_eq_true]
  exact ⟨l[k], List.getElem_mem h, by simp [e, List.getD_eq_getElem?_getD, h]⟩

set_option maxRecDepth 100000 in
theorem index_any (v : Int) (a : Option Addr) (len cap : Nat) (l : List Int) (w : World) (hs : SegK .i64 w a len l) (hm : len ≤ maxLen) :
    Calls Tryz.prog 158 #[.slice a len cap, .int .i64 v] w fun e w' => (∃ i : Int, e = .returned (.int .i64 i) ∧ decide (0 ≤ i) = hasB v l) ∧ w' = w := by
  unfold maxLen at hm
  obtain ⟨rfl, hs⟩ := hs
  rcases hs with h0 | ⟨b, off, rfl, hc⟩
  · obtain rfl : l = [] := List.eq_nil_of_length_eq_zero h0
    go_enter Tryz.func158, Tryz.ntmps158
    go_wp2
    go_loop [8] (fun i => i = .int .i64 0) (fun i => 1)
    case atStart => exact rfl
    case round =>
      subst hrel
      go_wp2
      go_ret
      exact ⟨⟨_, rfl, rfl⟩, rfl⟩
  · have Hc := hide hc
    clear hc
    go_enter Tryz.func158, Tryz.ntmps158
    go_wp2
    go_loop [8] (fun i => ∃ k : Nat, k ≤ l.length ∧ i = .int .i64 k ∧ ∀ j, j < k → v ≠ l.getD j 0) (fun i => l.length - (intOf i).toNat)
    case atStart => exact ⟨0, Nat.zero_le _, rfl, fun j hj => by omega⟩
    case round =>
      obtain ⟨k, hk, rfl, hno⟩ := hrel
      have Hno := hide hno
      clear hno
      by_cases hlt : k < l.length
      · obtain ⟨x, hx⟩ : ∃ x, x = l.getD k 0 := ⟨_, rfl⟩
        have hcell : w.cell? ⟨b, off + k, none⟩ = some (.int .i64 x) := by rw [hx]; exact unhide Hc k hlt
        have Hx := hide hx
        clear hx
        by_cases he : v = x
        · have He := hide he
          have hb : (v == x) = true := beq_iff_eq.2 he
          clear he
          go_wp2
          go_ret
          exact ⟨⟨_, rfl, by rw [has_yes v l k hlt ((unhide He).trans (unhide Hx))]; simp⟩, rfl⟩
        · have hb : (v == x) = false := beq_eq_false_iff_ne.2 he
          have He := hide he
          clear he
          go_wp2
          go_round
          case rel => exact ⟨k + 1, by omega, by go_num, fun j hj => by
            rcases (show j < k ∨ j = k by omega) with h | rfl
            · exact unhide Hno j h
            · rw [← unhide Hx]; exact unhide He⟩
          case measure => simp [intOf]; omega
      · go_wp2
        go_ret
        exact ⟨⟨_, rfl, by rw [has_no v l (fun j hj => unhide Hno j (by omega))]; simp⟩, rfl⟩

set_option maxRecDepth 100000 in
theorem contains_any (v : Int) (a : Option Addr) (len cap : Nat) (l : List Int) (w : World) (hs : SegK .i64 w a len l) (hm : len ≤ maxLen) :
    Calls Tryz.prog 145 #[.slice a len cap, .int .i64 v] w fun e w' => e = .returned (.bool (hasB v l)) ∧ w' = w := by
  go_enter Tryz.func145, Tryz.ntmps145
  go_wp2_with fail
  refine (index_any v _ _ _ l _ hs hm).mono ?_
  rintro e w' ⟨⟨i, rfl, hi⟩, rfl⟩
  have Hi := hide hi
  clear hi
  go_wp2
  go_ret
  exact ⟨ret_bool (unhide Hi), rfl⟩
set_option maxRecDepth 100000 in
theorem oneOf_any (v : Int) (a : Option Addr) (len cap : Nat) (l : List Int) (w : World) (hs : SegK .i64 w a len l) (hm : len ≤ maxLen) :
    Calls Tryz.prog 132 #[.int .i64 v, .slice a len cap] w fun e w' => e = .returned (.bool (hasB v l)) ∧ w' = w := by
  go_enter Tryz.func132, Tryz.ntmps132
  go_wp2_with fail
  refine (contains_any v _ _ _ l _ hs hm).mono ?_
  rintro e w' ⟨rfl, rfl⟩
  go_wp2
  go_ret
  exact ⟨rfl, rfl⟩

/-- Is m a mode? -/
def knownB (m : Int) : Bool := decide (0 ≤ m) && decide (m ≤ 5)
theorem known_iff {m : Int} : knownB m = true ↔ 0 ≤ m ∧ m ≤ 5 := by simp [knownB]
theorem known_no {m : Int} : knownB m = false ↔ ¬ (0 ≤ m ∧ m ≤ 5) := by rw [← known_iff]; simp
set_option maxRecDepth 100000 in
theorem known_any (m : Int) (w : World) : Calls Tryz.prog 76 #[.int .i64 m] w fun e w' => e = .returned (.bool (knownB m)) ∧ w' = w := by
  unfold knownB
  by_cases h1 : 0 ≤ m <;> by_cases h2 : m ≤ 5
  all_goals
    go_enter Tryz.func76, Tryz.ntmps76
    go_wp2
    go_ret
    exact ⟨by simp [h1, h2], rfl⟩
set_option maxRecDepth 100000 in
theorem mode_any (m : Int) (w : World) : Calls Tryz.prog 37 #[.int .i64 m] w fun e w' => e = .returned (.bool (knownB m)) ∧ w' = w := by
  unfold knownB
  by_cases h1 : 0 ≤ m <;> by_cases h2 : m ≤ 5
  all_goals
    go_enter Tryz.func37, Tryz.ntmps37
    go_wp2
    go_ret
    exact ⟨by simp [h1, h2], rfl⟩

/-- The least above a and b. -/
def joinD (a b : Int) : Int := if knownB b then (if (a == 2) && (b == 3) || (a == 3) && (b == 2) then 4 else max a b) else 5
set_option maxRecDepth 100000 in
theorem join_any (a b : Int) (w : World) : Calls Tryz.prog 107 #[.int .i64 a, .int .i64 b] w fun e w' => e = .returned (.int .i64 (joinD a b)) ∧ w' = w := by
  cases hk : knownB b
  · have E := hide (show joinD a b = 5 by simp [joinD, hk])
    have K := hide hk
    clear hk
    go_enter Tryz.func107, Tryz.ntmps107
    go_wp2_with fail
    refine (known_any b _).mono ?_
    rw [unhide K]
    rintro e w' ⟨rfl, rfl⟩
    go_wp2
    go_ret
    exact ⟨ret_int (unhide E).symm, rfl⟩
  · cases h1 : (a == 2) <;> cases h2 : (a == 3) <;> cases h3 : (b == 2) <;> cases h4 : (b == 3)
    all_goals
      have E := hide (show joinD a b = _ by simp only [joinD, hk, h1, h2, h3, h4]; rfl)
      have K := hide hk
      clear hk
      go_enter Tryz.func107, Tryz.ntmps107
      go_wp2_with fail
      refine (known_any b _).mono ?_
      rw [unhide K]
      rintro e w' ⟨rfl, rfl⟩
      go_wp2
    all_goals
      go_ret
      exact ⟨ret_int (by rw [unhide E]; simp <;> omega), rfl⟩

/-- The least above all of l. -/
def supL (l : List Int) : Int := l.foldl joinD 0
def supTo (l : List Int) (k : Nat) : Int := (l.take k).foldl joinD 0
theorem supTo_succ (l : List Int) (k : Nat) (h : k < l.length) : supTo l (k + 1) = joinD (supTo l k) (l.getD k 0) := fold_snoc _ _ _ _ h
theorem supTo_all (l : List Int) (k : Nat) (h : ¬ k < l.length) : supTo l k = supL l := by unfold supTo; rw [take_all _ _ h]; rfl

set_option maxRecDepth 100000 in
theorem sup_any (a : Option Addr) (len cap : Nat) (l : List Int) (w : World) (hs : SegK .i64 w a len l) (hm : len ≤ maxLen) :
    Calls Tryz.prog 77 #[.slice a len cap] w fun e w' => e = .returned (.int .i64 (supL l)) ∧ w' = w := by
  unfold maxLen at hm
  obtain ⟨rfl, hs⟩ := hs
  rcases hs with h0 | ⟨b, off, rfl, hc⟩
  · obtain rfl : l = [] := List.eq_nil_of_length_eq_zero h0
    go_enter Tryz.func77, Tryz.ntmps77
    go_wp2
    go_loop [3, 8] (fun t i => i = .int .i64 0 ∧ t = .int .i64 0) (fun _ i => 1)
    case atStart => exact ⟨rfl, rfl⟩
    case round =>
      obtain ⟨rfl, rfl⟩ := hrel
      go_wp2
      go_ret
      exact ⟨rfl, rfl⟩
  · have Hc := hide hc
    clear hc
    go_enter Tryz.func77, Tryz.ntmps77
    go_wp2
    go_loop [3, 8] (fun t i => ∃ k : Nat, k ≤ l.length ∧ i = .int .i64 k ∧ t = .int .i64 (supTo l k)) (fun _ i => l.length - (intOf i).toNat)
    case atStart => exact ⟨0, Nat.zero_le _, rfl, rfl⟩
    case round =>
      obtain ⟨k, hk, rfl, rfl⟩ := hrel
      by_cases hlt : k < l.length
      · obtain ⟨x, hx⟩ : ∃ x, x = l.getD k 0 := ⟨_, rfl⟩
        have hcell : w.cell? ⟨b, off + k, none⟩ = some (.int .i64 x) := by rw [hx]; exact unhide Hc k hlt
        have Hx := hide hx
        clear hx
        go_wp2_with fail
        refine (join_any _ x _).mono ?_
        rintro e w' ⟨rfl, rfl⟩
        go_wp2
        go_round
        case rel => exact ⟨k + 1, by omega, by go_num, by rw [supTo_succ _ _ hlt, ← unhide Hx]⟩
        case measure => simp [intOf]; omega
      · go_wp2
        go_ret
        exact ⟨ret_int (supTo_all _ _ hlt), rfl⟩

set_option maxRecDepth 100000 in
theorem rsup_any (a : Option Addr) (len cap : Nat) (l : List Int) (w : World) (hs : SegK .i64 w a len l) (hm : len ≤ maxLen) :
    Calls Tryz.prog 82 #[.slice a len cap] w fun e w' => e = .returned (.int .i64 (supL l)) ∧ w' = w := by
  unfold maxLen at hm
  obtain ⟨rfl, hs⟩ := hs
  rcases hs with h0 | ⟨b, off, rfl, hc⟩
  · obtain rfl : l = [] := List.eq_nil_of_length_eq_zero h0
    go_enter Tryz.func82, Tryz.ntmps82
    go_wp2
    go_loop [3, 4] (fun t i => i = .int .i64 0 ∧ t = .int .i64 0) (fun _ i => 1)
    case atStart => exact ⟨rfl, rfl⟩
    case round =>
      obtain ⟨rfl, rfl⟩ := hrel
      go_wp2
      go_ret
      exact ⟨rfl, rfl⟩
  · have Hc := hide hc
    clear hc
    go_enter Tryz.func82, Tryz.ntmps82
    go_wp2
    go_loop [3, 4] (fun t i => ∃ k : Nat, k ≤ l.length ∧ i = .int .i64 k ∧ t = .int .i64 (supTo l k)) (fun _ i => l.length - (intOf i).toNat)
    case atStart => exact ⟨0, Nat.zero_le _, rfl, rfl⟩
    case round =>
      obtain ⟨k, hk, rfl, rfl⟩ := hrel
      by_cases hlt : k < l.length
      · obtain ⟨x, hx⟩ : ∃ x, x = l.getD k 0 := ⟨_, rfl⟩
        have hcell : w.cell? ⟨b, off + k, none⟩ = some (.int .i64 x) := by rw [hx]; exact unhide Hc k hlt
        have Hx := hide hx
        clear hx
        have S := hide (supTo_succ l k hlt)
        generalize supTo l k = t at S ⊢
        cases hkn : knownB x
        · have E := hide (show joinD t x = 5 by simp [joinD, hkn])
          have K := hide hkn
          clear hkn
          go_wp2_with fail
          refine (mode_any x _).mono ?_
          rw [unhide K]
          rintro e w' ⟨rfl, rfl⟩
          go_wp2
          go_round
          case rel => exact ⟨k + 1, by omega, by go_num, by rw [unhide S, ← unhide Hx, unhide E]⟩
          case measure => simp [intOf]; omega
        · cases h1 : (t == 2) <;> cases h2 : (t == 3) <;> cases h3 : (x == 2) <;> cases h4 : (x == 3)
          all_goals
            have E := hide (show joinD t x = _ by simp only [joinD, hkn, h1, h2, h3, h4]; rfl)
            have K := hide hkn
            clear hkn
            go_wp2_with fail
            refine (mode_any x _).mono ?_
            rw [unhide K]
            rintro e w' ⟨rfl, rfl⟩
            go_wp2
          all_goals
            go_round
            case rel => exact ⟨k + 1, by omega, by go_num, by rw [unhide S, ← unhide Hx, unhide E]; simp <;> omega⟩
            case measure => simp [intOf]; omega
      · go_wp2
        go_ret
        exact ⟨ret_int (supTo_all _ _ hlt), rfl⟩
end Go.Proofs.YtgiklggnolbiiaaGreat

/- Package mode and the reference: Fits, Covers, Intent, Reads, Writes; the statements' own 'first'. -/
namespace Go.Proofs.YtgiklggnolbiiaaGreat
open Go.RowKit

theorem seg1 (w : World) (x : Int) : SegK .i64 (w.alloc (.cells #[.int .i64 x] 3)) (some ⟨w.heap.size, 0, none⟩) 1 [x] := seg_new w [x]
theorem seg2 (w : World) (x y : Int) : SegK .i64 (w.alloc (.cells #[.int .i64 x, .int .i64 y] 3)) (some ⟨w.heap.size, 0, none⟩) 2 [x, y] := seg_new w [x, y]
theorem seg3 (w : World) (x y z : Int) : SegK .i64 (w.alloc (.cells #[.int .i64 x, .int .i64 y, .int .i64 z] 3)) (some ⟨w.heap.size, 0, none⟩) 3 [x, y, z] := seg_new w [x, y, z]
theorem seg5 (w : World) (x y z u v : Int) : SegK .i64 (w.alloc (.cells #[.int .i64 x, .int .i64 y, .int .i64 z, .int .i64 u, .int .i64 v] 3)) (some ⟨w.heap.size, 0, none⟩) 5 [x, y, z, u, v] := seg_new w [x, y, z, u, v]

/-- What fits. -/
def fitsB (a b : Int) : Bool :=
  if a == 0 then knownB b else if a == 1 then hasB b [0, 1, 2, 3, 4] else if a == 2 then hasB b [0, 1, 2] else if a == 3 then hasB b [0, 1, 3] else if a == 4 then hasB b [0, 1] else if a == 5 then hasB b [0] else false
set_option maxRecDepth 100000 in
theorem fits_any (a b : Int) (w : World) : Calls Tryz.prog 133 #[.int .i64 a, .int .i64 b] w fun e w' => e = .returned (.bool (fitsB a b)) ∧ Below w.heap.size w w' := by
  rcases Bool.eq_false_or_eq_true (a == 0) with h0 | h0
  · have E := hide (show fitsB a b = knownB b by simp only [fitsB, h0]; rfl)
    go_enter Tryz.func133, Tryz.ntmps133
    go_wp2_with fail
    refine (known_any b _).mono ?_
    rintro e w' ⟨rfl, rfl⟩
    go_wp2
    go_ret
    exact ⟨ret_bool (unhide E).symm, Below.refl _ _⟩
  rcases Bool.eq_false_or_eq_true (a == 1) with h1 | h1
  · have E := hide (show fitsB a b = hasB b [0, 1, 2, 3, 4] by simp only [fitsB, h0, h1]; rfl)
    go_enter Tryz.func133, Tryz.ntmps133
    go_wp2_with fail
    refine (oneOf_any b _ _ _ [0, 1, 2, 3, 4] _ (seg5 w 0 1 2 3 4) (by decide)).mono ?_
    rintro e w' ⟨rfl, rfl⟩
    go_wp2
    go_ret
    exact ⟨ret_bool (unhide E).symm, below_new _ _⟩
  rcases Bool.eq_false_or_eq_true (a == 2) with h2 | h2
  · have E := hide (show fitsB a b = hasB b [0, 1, 2] by simp only [fitsB, h0, h1, h2]; rfl)
    go_enter Tryz.func133, Tryz.ntmps133
    go_wp2_with fail
    refine (oneOf_any b _ _ _ [0, 1, 2] _ (seg3 w 0 1 2) (by decide)).mono ?_
    rintro e w' ⟨rfl, rfl⟩
    go_wp2
    go_ret
    exact ⟨ret_bool (unhide E).symm, below_new _ _⟩
  rcases Bool.eq_false_or_eq_true (a == 3) with h3 | h3
  · have E := hide (show fitsB a b = hasB b [0, 1, 3] by simp only [fitsB, h0, h1, h2, h3]; rfl)
    go_enter Tryz.func133, Tryz.ntmps133
    go_wp2_with fail
    refine (oneOf_any b _ _ _ [0, 1, 3] _ (seg3 w 0 1 3) (by decide)).mono ?_
    rintro e w' ⟨rfl, rfl⟩
    go_wp2
    go_ret
    exact ⟨ret_bool (unhide E).symm, below_new _ _⟩
  rcases Bool.eq_false_or_eq_true (a == 4) with h4 | h4
  · have E := hide (show fitsB a b = hasB b [0, 1] by simp only [fitsB, h0, h1, h2, h3, h4]; rfl)
    go_enter Tryz.func133, Tryz.ntmps133
    go_wp2_with fail
    refine (oneOf_any b _ _ _ [0, 1] _ (seg2 w 0 1) (by decide)).mono ?_
    rintro e w' ⟨rfl, rfl⟩
    go_wp2
    go_ret
    exact ⟨ret_bool (unhide E).symm, below_new _ _⟩
  rcases Bool.eq_false_or_eq_true (a == 5) with h5 | h5
  · have E := hide (show fitsB a b = hasB b [0] by simp only [fitsB, h0, h1, h2, h3, h4, h5]; rfl)
    go_enter Tryz.func133, Tryz.ntmps133
    go_wp2_with fail
    refine (oneOf_any b _ _ _ [0] _ (seg1 w 0) (by decide)).mono ?_
    rintro e w' ⟨rfl, rfl⟩
    go_wp2
    go_ret
    exact ⟨ret_bool (unhide E).symm, below_new _ _⟩
  have E := hide (show fitsB a b = false by simp only [fitsB, h0, h1, h2, h3, h4, h5]; rfl)
  go_enter Tryz.func133, Tryz.ntmps133
  go_wp2
  go_ret
  exact ⟨ret_bool (unhide E).symm, Below.refl _ _⟩

/-- What covers. -/
def coversB (h t : Int) : Bool := knownB t && (joinD (joinD 0 h) t == h)
theorem supL_two (h t : Int) : supL [h, t] = joinD (joinD 0 h) t := rfl
theorem supL_three (h t c : Int) : supL [h, t, c] = joinD (joinD (joinD 0 h) t) c := rfl
theorem supL_one (h : Int) : supL [h] = joinD 0 h := rfl
set_option maxRecDepth 100000 in
theorem covers_any (h t : Int) (w : World) : Calls Tryz.prog 101 #[.int .i64 h, .int .i64 t] w fun e w' => e = .returned (.bool (coversB h t)) ∧ Below w.heap.size w w' := by
  cases hk : knownB t
  · have E := hide (show coversB h t = false by simp [coversB, hk])
    have K := hide hk
    clear hk
    go_enter Tryz.func101, Tryz.ntmps101
    go_wp2_with fail
    refine (known_any t _).mono ?_
    rw [unhide K]
    rintro e w' ⟨rfl, rfl⟩
    go_wp2
    go_ret
    exact ⟨ret_bool (unhide E).symm, Below.refl _ _⟩
  · have E := hide (show coversB h t = (supL [h, t] == h) by simp [coversB, hk, supL_two])
    have K := hide hk
    clear hk
    go_enter Tryz.func101, Tryz.ntmps101
    go_wp2_with fail
    refine (known_any t _).mono ?_
    rw [unhide K]
    rintro e w' ⟨rfl, rfl⟩
    go_wp2_with fail
    refine (sup_any _ _ _ [h, t] _ (seg2 _ h t) (by decide)).mono ?_
    rintro e w' ⟨rfl, rfl⟩
    go_wp2
    go_ret
    exact ⟨ret_bool (unhide E).symm, below_new _ _⟩
theorem covers_known {h t : Int} (e : coversB h t = true) : knownB h = true := by
  unfold coversB at e
  rw [Bool.and_eq_true] at e
  obtain ⟨e1, e2⟩ := e
  have := of_decide_eq_true (show decide (joinD (joinD 0 h) t = h) = true from by simpa using e2)
  rw [known_iff] at *
  unfold joinD at this
  rw [if_pos (known_iff.2 e1)] at this
  by_cases hk : knownB h = true
  · exact known_iff.1 hk
  · rw [Bool.not_eq_true] at hk
    rw [hk] at this
    simp at this
    omega
/-- How what lies above is held. -/
def intentD (m : Int) : Int := if m == 1 then 1 else if m == 3 then 1 else if m == 2 then 2 else if m == 4 then 2 else if m == 5 then 2 else 0
set_option maxRecDepth 100000 in
theorem intent_any (m : Int) (w : World) : Calls Tryz.prog 63 #[.int .i64 m] w fun e w' => e = .returned (.int .i64 (intentD m)) ∧ w' = w := by
  rcases Bool.eq_false_or_eq_true (m == 1) with h1 | h1
  · have E := hide (show intentD m = 1 by simp only [intentD, h1]; rfl)
    go_enter Tryz.func63, Tryz.ntmps63
    go_wp2
    go_ret
    exact ⟨ret_int (unhide E).symm, rfl⟩
  rcases Bool.eq_false_or_eq_true (m == 3) with h3 | h3
  · have E := hide (show intentD m = 1 by simp only [intentD, h1, h3]; rfl)
    go_enter Tryz.func63, Tryz.ntmps63
    go_wp2
    go_ret
    exact ⟨ret_int (unhide E).symm, rfl⟩
  rcases Bool.eq_false_or_eq_true (m == 2) with h2 | h2
  · have E := hide (show intentD m = 2 by simp only [intentD, h1, h3, h2]; rfl)
    go_enter Tryz.func63, Tryz.ntmps63
    go_wp2
    go_ret
    exact ⟨ret_int (unhide E).symm, rfl⟩
  rcases Bool.eq_false_or_eq_true (m == 4) with h4 | h4
  · have E := hide (show intentD m = 2 by simp only [intentD, h1, h3, h2, h4]; rfl)
    go_enter Tryz.func63, Tryz.ntmps63
    go_wp2
    go_ret
    exact ⟨ret_int (unhide E).symm, rfl⟩
  rcases Bool.eq_false_or_eq_true (m == 5) with h5 | h5
  · have E := hide (show intentD m = 2 by simp only [intentD, h1, h3, h2, h4, h5]; rfl)
    go_enter Tryz.func63, Tryz.ntmps63
    go_wp2
    go_ret
    exact ⟨ret_int (unhide E).symm, rfl⟩
  have E := hide (show intentD m = 0 by simp only [intentD, h1, h3, h2, h4, h5]; rfl)
  go_enter Tryz.func63, Tryz.ntmps63
  go_wp2
  go_ret
  exact ⟨ret_int (unhide E).symm, rfl⟩
/-- Who reads, who writes all that lies below. -/
def readsB (m : Int) : Bool := decide (3 ≤ m) && decide (m ≤ 5)
def writesB (m : Int) : Bool := m == 5
set_option maxRecDepth 100000 in
theorem reads_any (m : Int) (w : World) : Calls Tryz.prog 103 #[.int .i64 m] w fun e w' => e = .returned (.bool (readsB m)) ∧ Below w.heap.size w w' := by
  have E := hide (show hasB m [3, 4, 5] = readsB m by
    rw [Bool.eq_iff_iff]
    simp [hasB, readsB]
    omega)
  go_enter Tryz.func103, Tryz.ntmps103
  go_wp2_with fail
  refine (oneOf_any m _ _ _ [3, 4, 5] _ (seg3 w 3 4 5) (by decide)).mono ?_
  rintro e w' ⟨rfl, rfl⟩
  go_wp2
  go_ret
  exact ⟨ret_bool (unhide E), below_new _ _⟩
set_option maxRecDepth 100000 in
theorem writes_any (m : Int) (w : World) : Calls Tryz.prog 102 #[.int .i64 m] w fun e w' => e = .returned (.bool (writesB m)) ∧ Below w.heap.size w w' := by
  have E := hide (show hasB m [5] = writesB m by simp [hasB, writesB])
  go_enter Tryz.func102, Tryz.ntmps102
  go_wp2_with fail
  refine (oneOf_any m _ _ _ [5] _ (seg1 w 5) (by decide)).mono ?_
  rintro e w' ⟨rfl, rfl⟩
  go_wp2
  go_ret
  exact ⟨ret_bool (unhide E), below_new _ _⟩
end Go.Proofs.YtgiklggnolbiiaaGreat

/- Lists of entries in memory: rows of a block of their own; what append, copy and clear do to them. -/
namespace Go.Proofs.YtgiklggnolbiiaaGreat
open Go.RowKit

theorem heap_lt {w : World} {g : Nat} {o : Obj} (h : w.heap[g]? = some o) : g < w.heap.size := by
  by_cases hl : g < w.heap.size
  · exact hl
  · rw [Array.getElem?_eq_none (by omega)] at h; cases h
/-- One that holds or waits, and its mode. -/
abbrev En := Int × Int
/-- The cells of entries. -/
def pairs : List En → List Value
  | [] => []
  | p :: r => .int .i64 p.1 :: .int .i64 p.2 :: pairs r
theorem pairs_app : ∀ (l m : List En), pairs (l ++ m) = pairs l ++ pairs m
  | [], m => rfl
  | p :: r, m => by
    show Value.int .i64 p.1 :: Value.int .i64 p.2 :: pairs (r ++ m) = _
    rw [pairs_app r m]; rfl
theorem pairs_len : ∀ (l : List En), (pairs l).length = l.length * 2
  | [] => rfl
  | p :: r => by
    show (pairs r).length + 1 + 1 = (r.length + 1) * 2
    rw [pairs_len r]; omega
theorem pairs_one : ∀ (l : List En), ∀ u ∈ pairs l, u.oneCell' = true
  | [], u, h => by cases h
  | p :: r, u, h => by
    rcases List.mem_cons.1 h with rfl | h
    · rfl
    · rcases List.mem_cons.1 h with rfl | h
      · rfl
      · exact pairs_one r u h
theorem pairs_take : ∀ (l : List En) (i : Nat), pairs (l.take i) = (pairs l).take (i * 2)
  | [], i => by simp [pairs]
  | p :: r, 0 => rfl
  | p :: r, i + 1 => by
    rw [show (i + 1) * 2 = i * 2 + 1 + 1 by omega]
    show Value.int .i64 p.1 :: Value.int .i64 p.2 :: pairs (r.take i) = Value.int .i64 p.1 :: Value.int .i64 p.2 :: (pairs r).take (i * 2)
    rw [pairs_take r i]
theorem pairs_drop : ∀ (l : List En) (i : Nat), pairs (l.drop i) = (pairs l).drop (i * 2)
  | [], i => by simp [pairs]
  | p :: r, 0 => rfl
  | p :: r, i + 1 => by
    rw [show (i + 1) * 2 = i * 2 + 1 + 1 by omega]
    exact pairs_drop r i
theorem pairs_fst : ∀ (l : List En) (i : Nat), i < l.length → (pairs l)[i * 2]? = some (.int .i64 (l.getD i (0, 0)).1)
  | [], i, h => by cases h
  | p :: r, 0, _ => rfl
  | p :: r, i + 1, h => by
    rw [show (i + 1) * 2 = i * 2 + 1 + 1 by omega]
    exact pairs_fst r i (by simpa using h)
theorem pairs_snd : ∀ (l : List En) (i : Nat), i < l.length → (pairs l)[i * 2 + 1]? = some (.int .i64 (l.getD i (0, 0)).2)
  | [], i, h => by cases h
  | p :: r, 0, _ => rfl
  | p :: r, i + 1, h => by
    rw [show (i + 1) * 2 + 1 = i * 2 + 1 + 1 + 1 by omega]
    exact pairs_snd r i (by simpa using h)

/-- Block g has room for cap entries, and l lies at its head. -/
structure Rb (g cap : Nat) (l : List En) (w : World) : Prop where
  blk : ∃ cur, w.heap[g]? = some (.cells cur 92 (0, 0)) ∧ cur.size = cap * 2 ∧ cur.toList.take (l.length * 2) = pairs l
  le : l.length ≤ cap
  mx : cap ≤ maxLen
namespace Rb
variable {g cap : Nat} {l : List En} {w w' : World}
theorem lt (h : Rb g cap l w) : g < w.heap.size := heap_lt h.blk.choose_spec.1
theorem keep (h : Rb g cap l w) (k : w'.heap[g]? = w.heap[g]?) : Rb g cap l w' := ⟨⟨_, k.trans h.blk.choose_spec.1, h.blk.choose_spec.2⟩, h.le, h.mx⟩
theorem next (h : Rb g cap l w) (k : Below w.heap.size w w') : Rb g cap l w' := h.keep (k.block _ h.lt)
theorem drew (h : Rb g cap l w) : Rb g cap l w.drew := h.keep rfl
theorem free (h : Rb g cap l w) (k : Nat) : w.frozen? ⟨g, k, none⟩ = false := by
  obtain ⟨⟨cur, h, _⟩, _⟩ := h
  simp [World.frozen?, h]
theorem at_ (h : Rb g cap l w) {j : Nat} (hj : j < l.length * 2) : w.cell? ⟨g, j, none⟩ = (pairs l)[j]? := by
  obtain ⟨⟨cur, h, _, e⟩, _⟩ := h
  rw [← e, List.getElem?_take_of_lt hj]
  simp [World.cell?, h]
theorem fst (h : Rb g cap l w) {i : Nat} (hi : i < l.length) : w.cell? ⟨g, i * 2, none⟩ = some (.int .i64 (l.getD i (0, 0)).1) := by
  rw [h.at_ (by omega), pairs_fst l i hi]
theorem snd (h : Rb g cap l w) {i : Nat} (hi : i < l.length) : w.cell? ⟨g, i * 2 + 1, none⟩ = some (.int .i64 (l.getD i (0, 0)).2) := by
  rw [h.at_ (by omega), pairs_snd l i hi]
end Rb
/-- The slice v: the entries l, in a row of its own at or above B. -/
def Es (B : Nat) (v : Value) (l : List En) (w : World) : Prop := (v = .slice none 0 0 ∧ l = []) ∨ ∃ g cap, v = .slice (some ⟨g, 0, none⟩) l.length cap ∧ B ≤ g ∧ Rb g cap l w
namespace Es
variable {B : Nat} {v : Value} {l : List En} {w w' : World}
theorem lt (h : Es B v l w) : ∀ k, v.ownBlock = some k → B ≤ k ∧ k < w.heap.size := by
  rcases h with ⟨rfl, _⟩ | ⟨g, cap, rfl, hB, r⟩
  · intro k hk; cases hk
  · intro k hk
    obtain rfl : g = k := by simpa [Value.ownBlock] using hk
    exact ⟨hB, r.lt⟩
theorem keep (h : Es B v l w) (k : ∀ g, v.ownBlock = some g → w'.heap[g]? = w.heap[g]?) : Es B v l w' := by
  rcases h with h | ⟨g, cap, rfl, hB, r⟩
  · exact .inl h
  · exact .inr ⟨g, cap, rfl, hB, r.keep (k g rfl)⟩
theorem next (h : Es B v l w) (k : Below w.heap.size w w') : Es B v l w' := h.keep fun g hg => k.block g (h.lt g hg).2
theorem ty (h : Es B v l w) : ∀ g, v.ownBlock = some g → ∃ cur, w.heap[g]? = some (.cells cur 92 (0, 0)) := by
  rcases h with ⟨rfl, _⟩ | ⟨g, cap, rfl, hB, r⟩
  · intro k hk; cases hk
  · intro k hk
    obtain rfl : g = k := by simpa [Value.ownBlock] using hk
    exact ⟨_, r.blk.choose_spec.1⟩
theorem own (h : Es B v l w) : w.ownsRow B 92 2 v l.length (pairs l) := by
  refine ⟨pairs_len l, ?_⟩
  rcases h with ⟨rfl, rfl⟩ | ⟨g, cap, rfl, hB, ⟨cur, h1, h2, h3⟩, hle, hmx⟩
  · exact .inl ⟨rfl, rfl⟩
  · exact .inr ⟨g, cap, cur, rfl, hB, h1, hle, hmx, h2, h3⟩
theorem of (h : w.ownsRow B 92 2 v l.length (pairs l)) : Es B v l w := by
  rcases h.2 with ⟨rfl, e⟩ | ⟨g, cap, cur, rfl, hB, h1, hle, hmx, h2, h3⟩
  · exact .inl ⟨rfl, List.eq_nil_of_length_eq_zero e⟩
  · exact .inr ⟨g, cap, rfl, hB, ⟨cur, h1, h2, h3⟩, hle, hmx⟩
end Es
/-- Only block g is turned (and new ones are made). -/
theorem grown_below {w w' : World} {r : Option Nat} {B : Nat} (h : w.grownBy w' r) (hB : B ≤ w.heap.size) (hr : ∀ g, r = some g → B ≤ g) : Below B w w' :=
  (Below.refl _ w).grown h hB hr
theorem grown_row (w : World) (g : Nat) (cs : Array Value) : w.grownBy (w.setRow g cs) (some g) :=
  ⟨rfl, rfl, rfl, by simp [World.setRow], fun k hk hne => by
    show (w.heap.modify g _)[k]? = _
    rw [Array.getElem?_modify, if_neg (fun e => hne (by rw [e]))]⟩
theorem grown_trans {w w' w'' : World} {r : Option Nat} (h : w.grownBy w' r) (k : w'.grownBy w'' r) : w.grownBy w'' r :=
  ⟨k.os.trans h.os, k.tape.trans h.tape, k.output.trans h.output, Nat.le_trans h.size k.size, fun i hi hne => (k.block i (Nat.lt_of_lt_of_le hi h.size) hne).trans (h.block i hi hne)⟩
theorem grown_drew (w : World) (r : Option Nat) : w.grownBy w.drew r := ⟨rfl, rfl, rfl, Nat.le_refl _, fun _ _ _ => rfl⟩
theorem grown_of_below {w w' : World} (h : Below w.heap.size w w') (r : Option Nat) : w.grownBy w' r := ⟨h.os, h.tape, h.output, h.size, fun k hk _ => h.block k hk⟩
end Go.Proofs.YtgiklggnolbiiaaGreat

/- slices.Delete at entries. -/
namespace Go.Proofs.YtgiklggnolbiiaaGreat
open Go.RowKit

theorem inf42 : (Tryz.prog.info? 92).map (fun i => (i.zero, i.size, i.bytes)) = some (some (.agg #[.int .i64 0, .int .i64 0]), 2, 16) := by kernel_rfl
theorem step_app_row {ops : Array Oper} {o : Oper} {a : Act} {w : World} {K : Act → World → Prop} {Q : Exit → Act → World → Prop} {E : Prop}
    (hgd : Region.wanted o (yielded ops a.tmps) = true) (s x : Operand) (ho : o.op = .call { callee := .builtin .append, args := #[s, x], argTypes := #[58, 58] })
    (g n cap : Nat) (cur : Array Value) (hg : w.heap[g]? = some (.cells cur 92 (0, 0))) (hs : a.eval s = .slice (some ⟨g, 0, none⟩) n cap)
    (ad : Addr) (m c : Nat) (news : List Value) (hx : a.eval x = .slice (some ad) m c) (hl : news.length = m * 2) (hc : ∀ j u, news[j]? = some u → w.cell? (ad.add j) = some u) (h1 : ∀ u ∈ news, u.oneCell' = true)
    (hroom : n + m ≤ cap) (hfit : n * 2 + news.length ≤ cur.size)
    (hK : K (a.put o.dst (.slice (some ⟨g, 0, none⟩) (n + m) cap)) (w.setRow g (cur.toList.take (n * 2) ++ news ++ cur.toList.drop (n * 2 + news.length)).toArray)) :
    if Region.wanted o (yielded ops a.tmps) = true then Oper.wp Tryz.prog o a w K Q else E := by
  obtain ⟨i0, hi, hz0, hz1, hz2⟩ := info_parts inf42
  have hr := run_append_room (P := Tryz.prog) w 58 o.type 92 i0 Tryz.underlying58 hi g n cap cur hg ad m c news (by rw [hz1]; exact hl) hc h1 hroom (by rw [hz1]; exact hfit)
  rw [hz1] at hr
  rw [if_pos hgd]
  unfold Oper.wp execOp
  simp only [ho, resolve, invoke, builtin, Sem.run_bind, Sem.run_pure, Result.andThen_ok, List.map_toArray, List.map_cons, List.map_nil, hs, hx, hr]
  exact hK
theorem zc_mem (n : Nat) : ∀ u ∈ (Builtin.zeroCells #[.int .i64 0, .int .i64 0] n).toList, u.oneCell' = true := by
  intro u hu
  obtain ⟨k, hk, rfl⟩ := List.getElem_of_mem hu
  simp only [Builtin.zeroCells, Array.getElem_toList]
  have : k % 2 = 0 ∨ k % 2 = 1 := by omega
  rcases this with h | h <;> simp [h] <;> rfl
/-- 'clear(s)' of n > 0 entries. -/
theorem run_clear_row (w : World) (ty : TypeId) (g o n c : Nat) (hn : 0 < n) (cur : Array Value) (hg : w.heap[g]? = some (.cells cur 92 (0, 0))) (hfit : o + n * 2 ≤ cur.size) :
    (Builtin.clear_ #[58] ty #[.slice (some ⟨g, o, none⟩) n c]).run Tryz.prog w = .ok (.tuple #[]) (w.setRow g (cur.toList.take o ++ (Builtin.zeroCells #[.int .i64 0, .int .i64 0] n).toList ++ cur.toList.drop (o + n * 2)).toArray) := by
  have hsz : (Builtin.zeroCells #[.int .i64 0, .int .i64 0] n).toList.length = n * 2 := by rw [Array.length_toList, size_zeroCells]; rfl
  have hst := run_storeCells_at Tryz.prog g o 92 (Builtin.zeroCells #[.int .i64 0, .int .i64 0] n).toList 0 cur w hg (by rw [hsz]; simpa using hfit) (zc_mem n)
  rw [hsz] at hst
  simp only [Nat.add_zero] at hst
  have hz : (zeroValue 92).run Tryz.prog w = .ok (.agg #[.int .i64 0, .int .i64 0]) w := Tryz.zeroValue92 w
  obtain ⟨m, rfl⟩ : ∃ m, n = m + 1 := ⟨n - 1, by omega⟩
  simp [Builtin.clear_, run_underlying Tryz.underlying58, hz, Value.cells, hst]

theorem take_app_left {α : Type} (a b : List α) (k : Nat) (h : a.length = k) : (a ++ b).take k = a := by subst h; simp
set_option maxRecDepth 100000 in
/-- Nothing is taken out. -/
theorem delete_same {B : Nat} {v : Value} {l : List En} (w : World) (h : Es B v l w) (i : Nat) (hi : i ≤ l.length) :
    Calls Tryz.prog 87 #[v, .int .i64 i, .int .i64 i] w fun e w' => e = .returned v ∧ w' = w := by
  rcases h with ⟨rfl, rfl⟩ | ⟨g, cap, rfl, hB, r⟩
  · obtain rfl : i = 0 := by simpa using hi
    go_enter Tryz.func87, Tryz.ntmps87
    go_wp2
    all_goals (go_ret; exact ⟨rfl, rfl⟩)
  · have h1 := r.le
    have h2 := r.mx
    unfold maxLen at h2
    have R := hide r
    clear r
    generalize l.length = n at *
    go_enter Tryz.func87, Tryz.ntmps87
    go_wp2
    all_goals (go_ret; exact ⟨rfl, rfl⟩)
set_option maxHeartbeats 1000000 in
set_option maxRecDepth 100000 in
theorem delete_cut {g cap : Nat} {l : List En} (w : World) (r : Rb g cap l w) (i j : Nat) (hij : i < j) (hj : j ≤ l.length) :
    Calls Tryz.prog 87 #[.slice (some ⟨g, 0, none⟩) l.length cap, .int .i64 i, .int .i64 j] w fun e w' => e = .returned (.slice (some ⟨g, 0, none⟩) (l.length - (j - i)) cap) ∧ Rb g cap (l.take i ++ l.drop j) w' ∧ w.grownBy w' (some g) := by
  obtain ⟨⟨cur, hg, hsz, hl⟩, hle, hmx⟩ := r
  unfold maxLen at hmx
  obtain ⟨news, hnews⟩ : ∃ news, news = pairs (l.drop j) := ⟨_, rfl⟩
  have hlen : news.length = (l.length - j) * 2 := by rw [hnews, pairs_len, List.length_drop]
  obtain ⟨A, hA, hsrc⟩ : ∃ A : Addr, (if cap = j then some (⟨g, 0, none⟩ : Addr) else some ⟨g, j * 2, none⟩) = some A ∧ Hid (∀ t u, news[t]? = some u → w.drew.cell? (A.add t) = some u) := by
    by_cases h : cap = j
    · refine ⟨⟨g, 0, none⟩, by simp [h], fun t u hu => ?_⟩
      have h0 : news.length = 0 := by rw [hlen]; omega
      rw [List.length_eq_zero_iff.1 h0] at hu
      simp at hu
    · refine ⟨⟨g, j * 2, none⟩, by simp [h], fun t u hu => ?_⟩
      have ht : t < (l.length - j) * 2 := by
        have := (List.getElem?_eq_some_iff.1 hu).1
        rwa [hlen] at this
      rw [hnews, pairs_drop, List.getElem?_drop, ← hl, List.getElem?_take_of_lt (by omega)] at hu
      rw [Addr.add_lit]
      show World.cell? w _ = _
      simp only [World.cell?, hg]
      simpa using hu
  have s1 := hide hlen
  have s2 : Hid (∀ u ∈ news, u.oneCell' = true) := by rw [hnews]; exact pairs_one _
  have hg' : w.drew.heap[g]? = some (.cells cur 92 (0, 0)) := hg
  have hfit : Hid (i * 2 + news.length ≤ cur.size) := by show _ ≤ _; rw [hlen, hsz]; omega
  obtain ⟨c1, hc1⟩ : ∃ c1 : Array Value, c1 = (cur.toList.take (i * 2) ++ news ++ cur.toList.drop (i * 2 + news.length)).toArray := ⟨_, rfl⟩
  have hc1s : c1.size = cap * 2 := by
    have h2 : cur.toList.length = cap * 2 := by rw [Array.length_toList]; exact hsz
    rw [hc1]
    simp only [List.size_toArray, List.length_append, List.length_take, List.length_drop, h2, hlen]
    omega
  obtain ⟨W1, hW1⟩ : ∃ W1, W1 = w.drew.setRow g c1 := ⟨_, rfl⟩
  have hG1 : W1.heap[g]? = some (.cells c1 92 (0, 0)) := by rw [hW1]; exact setRow_heap _ g cur c1 92 _ hg'
  have hcl : ∀ ty c, (Builtin.clear_ #[58] ty #[.slice (some ⟨g, (i + (l.length - j)) * 2, none⟩) (l.length - (i + (l.length - j))) c]).run Tryz.prog W1 = .ok (.tuple #[]) (W1.setRow g (c1.toList.take ((i + (l.length - j)) * 2) ++ (Builtin.zeroCells #[.int .i64 0, .int .i64 0] (l.length - (i + (l.length - j)))).toList ++ c1.toList.drop ((i + (l.length - j)) * 2 + (l.length - (i + (l.length - j))) * 2)).toArray) :=
    fun ty c => run_clear_row W1 ty g _ _ c (by omega) c1 hG1 (by rw [hc1s]; omega)
  have hfin : Hid (Rb g cap (l.take i ++ l.drop j) (W1.setRow g (c1.toList.take ((i + (l.length - j)) * 2) ++ (Builtin.zeroCells #[.int .i64 0, .int .i64 0] (l.length - (i + (l.length - j)))).toList ++ c1.toList.drop ((i + (l.length - j)) * 2 + (l.length - (i + (l.length - j))) * 2)).toArray)) := by
    have hc1l : c1.toList.length = cap * 2 := by rw [Array.length_toList]; exact hc1s
    have hcul : cur.toList.length = cap * 2 := by rw [Array.length_toList]; exact hsz
    have hzl : (Builtin.zeroCells #[.int .i64 0, .int .i64 0] (l.length - (i + (l.length - j)))).toList.length = (l.length - (i + (l.length - j))) * 2 := by rw [Array.length_toList, size_zeroCells]; rfl
    have hn : (l.take i ++ l.drop j).length = i + (l.length - j) := by simp only [List.length_append, List.length_take, List.length_drop]; omega
    refine ⟨⟨_, setRow_heap _ g c1 _ 92 _ hG1, ?_, ?_⟩, by rw [hn]; omega, by unfold maxLen; exact hmx⟩
    · simp only [List.size_toArray, List.length_append, List.length_take, List.length_drop, hc1l, hzl]; omega
    · rw [hn, List.append_assoc, take_app_left _ _ _ (by rw [List.length_take, hc1l]; omega), hc1]
      show ((cur.toList.take (i * 2) ++ news) ++ _).take _ = _
      rw [take_app_left _ _ _ (by rw [List.length_append, List.length_take, hcul, hlen]; omega), pairs_app, pairs_take, hnews, ← hl, List.take_take, show min (i * 2) (l.length * 2) = i * 2 by omega]
  have hgr : Hid (w.grownBy (W1.setRow g (c1.toList.take ((i + (l.length - j)) * 2) ++ (Builtin.zeroCells #[.int .i64 0, .int .i64 0] (l.length - (i + (l.length - j)))).toList ++ c1.toList.drop ((i + (l.length - j)) * 2 + (l.length - (i + (l.length - j))) * 2)).toArray) (some g)) := by
    rw [hW1]
    exact grown_trans (grown_trans (grown_drew w _) (grown_row _ g _)) (grown_row _ g _)
  have HW1 := hide hW1
  have Hc1 := hide hc1
  have HG1 := hide hG1
  have Hg' := hide hg'
  generalize (W1.setRow g (c1.toList.take ((i + (l.length - j)) * 2) ++ (Builtin.zeroCells #[.int .i64 0, .int .i64 0] (l.length - (i + (l.length - j)))).toList ++ c1.toList.drop ((i + (l.length - j)) * 2 + (l.length - (i + (l.length - j))) * 2)).toArray) = W2 at hcl hfin hgr
  have Hl := hide hl
  have Hn := hide hnews
  have hlt : Hid (l.length - (j - i) = i + (l.length - j)) := by show _ = _; omega
  clear hW1 hc1 hG1 hg' hl hnews hlen hg hsz hc1s
  generalize l.length = n at *
  have hic : i ≤ cap := by omega
  have hjc : j ≤ cap := by omega
  go_enter Tryz.func87, Tryz.ntmps87
  go_wp2_with fail
  go_region_law (refine step_app_row rfl (.tmp 22) (.tmp 25) rfl g i cap cur (unhide Hg') (by simp [Act.eval, Act.put]) A (n - j) (cap - j) news (by simp [Act.eval, Act.put]) (unhide s1) (unhide hsrc) (unhide s2) (by omega) (unhide hfit) ?_; rw [← unhide Hc1, ← unhide HW1])
  go_wp2
  go_ret
  exact ⟨by rw [unhide hlt]; rfl, unhide hfin, unhide hgr⟩
end Go.Proofs.YtgiklggnolbiiaaGreat

/- slices.Insert of one entry. -/
namespace Go.Proofs.YtgiklggnolbiiaaGreat
open Go.RowKit

theorem run_copy_r (w : World) (ty : TypeId) (g o dLen dCap : Nat) (a : Addr) (sLen sCap : Nat) (cur : Array Value) (cs : List Value) (k : Nat)
    (hg : w.heap[g]? = some (.cells cur 92 (0, 0))) (hk : Nat.min sLen dLen = k) (hn : cs.length = k * 2)
    (hsrc : ∀ j v, cs[j]? = some v → w.cell? (a.add j) = some v) (hfit : o + cs.length ≤ cur.size) (h1 : ∀ v ∈ cs, v.oneCell' = true) :
    (Builtin.copy_ #[58, 58] ty #[.slice (some ⟨g, o, none⟩) dLen dCap, .slice (some a) sLen sCap]).run Tryz.prog w =
      .ok (goInt k) (w.setRow g (cur.toList.take o ++ cs ++ cur.toList.drop (o + cs.length)).toArray) := by
  obtain ⟨i0, hi, hz0, hz1, hz2⟩ := info_parts inf42
  have hl := run_firstCells_some (P := Tryz.prog) w 2 k a sLen sCap cs hn hsrc
  have hst := run_storeCells_at Tryz.prog g o 92 cs 0 cur w hg (by simpa using hfit) h1
  simp only [Nat.add_zero] at hst
  simp [Builtin.copy_, run_underlying Tryz.underlying58, Builtin.lenOf, sizeOf, typeInfo, hi, hz1, hk, hl, hst]
theorem wp_copy_r (w : World) {o : Oper} {a : Act} {K : Act → World → Prop} {Q : Exit → Act → World → Prop} (d s : Operand)
    (ho : o.op = .call { callee := .builtin .copy, args := #[d, s], argTypes := #[58, 58] }) (v u : Value) (hd : a.eval d = v) (hs : a.eval s = u) {v' : Value} {w' : World}
    (hr : (Builtin.copy_ #[58, 58] o.type #[v, u]).run Tryz.prog w = .ok v' w') (h : K (a.put o.dst v') w') : o.wp Tryz.prog a w K Q := by
  unfold Oper.wp execOp
  simp only [ho, resolve, invoke, builtin, Sem.run_bind, Sem.run_pure, Result.andThen_ok, List.map_toArray, List.map_cons, List.map_nil, hd, hs, hr]
  exact h
theorem wpList_copy_r (w : World) {ops : Array Oper} {rest : List Oper} {o : Oper} {a : Act} {Q : Exit → Act → World → Prop} (hgd : o.guard = none) (d s : Operand)
    (ho : o.op = .call { callee := .builtin .copy, args := #[d, s], argTypes := #[58, 58] }) (v u : Value) (hd : a.eval d = v) (hs : a.eval s = u) {v' : Value} {w' : World}
    (hr : (Builtin.copy_ #[58, 58] o.type #[v, u]).run Tryz.prog w = .ok v' w') (h : wpList Tryz.prog ops Q rest (a.put o.dst v') w') : wpList Tryz.prog ops Q (o :: rest) a w :=
  wpList_plain hgd fun _ hK => wp_copy_r w d s ho v u hd hs hr (hK _ _ h)
theorem step_copy_r {ops : Array Oper} {o : Oper} {a : Act} {w : World} {K : Act → World → Prop} {Q : Exit → Act → World → Prop} {E : Prop}
    (hw : Region.wanted o (yielded ops a.tmps) = true) (d s : Operand)
    (ho : o.op = .call { callee := .builtin .copy, args := #[d, s], argTypes := #[58, 58] }) (v u : Value) (hd : a.eval d = v) (hs : a.eval s = u) {v' : Value} {w' : World}
    (hr : (Builtin.copy_ #[58, 58] o.type #[v, u]).run Tryz.prog w = .ok v' w') (h : K (a.put o.dst v') w') :
    if Region.wanted o (yielded ops a.tmps) = true then Oper.wp Tryz.prog o a w K Q else E := by
  rw [if_pos hw]
  exact wp_copy_r w d s ho v u hd hs hr h

theorem parts4 {α : Type} (C : List α) (a b d : Nat) (h : a + b + d ≤ C.length) : ∃ A P D R, C = A ++ (P ++ (D ++ R)) ∧ A.length = a ∧ P.length = b ∧ D.length = d :=
  ⟨C.take a, (C.drop a).take b, ((C.drop a).drop b).take d, ((C.drop a).drop b).drop d, by rw [List.take_append_drop, List.take_append_drop, List.take_append_drop], by simp; omega, by simp; omega, by simp; omega⟩
theorem tl {α : Type} {a b : List α} {k : Nat} (h : a.length = k) : (a ++ b).take k = a := List.take_left' h
theorem dl {α : Type} {a b : List α} {k : Nat} (h : a.length = k) : (a ++ b).drop k = b := List.drop_left' h
theorem shift_list {α : Type} (C X D : List α) (a b d : Nat) (h : a + b + d ≤ C.length) (hX : X.length = b) (hD : D.length = d) :
    ((C.take (a + b) ++ D ++ C.drop (a + b + d)).take a ++ X ++ (C.take (a + b) ++ D ++ C.drop (a + b + d)).drop (a + b)).take (a + b + d) = C.take a ++ X ++ D ∧
    ((C.take (a + b) ++ D ++ C.drop (a + b + d)).take a ++ X ++ (C.take (a + b) ++ D ++ C.drop (a + b + d)).drop (a + b)).length = C.length := by
  constructor
  · obtain ⟨A, P, D', R, rfl, hA, hP, hD'⟩ := parts4 C a b d h
    have e1 : (A ++ (P ++ (D' ++ R))).take (a + b) = A ++ P := by rw [← List.append_assoc]; exact tl (by rw [List.length_append]; omega)
    have e2 : (A ++ (P ++ (D' ++ R))).drop (a + b + d) = R := by rw [← List.append_assoc, ← List.append_assoc]; exact dl (by simp only [List.length_append]; omega)
    have e3 : (A ++ (P ++ (D' ++ R))).take a = A := tl hA
    rw [e1, e2, e3]
    have e4 : (A ++ P ++ D ++ R).take a = A := by rw [List.append_assoc, List.append_assoc]; exact tl hA
    have e5 : (A ++ P ++ D ++ R).drop (a + b) = D ++ R := by rw [List.append_assoc]; exact dl (by rw [List.length_append]; omega)
    rw [e4, e5, ← List.append_assoc]
    exact tl (by simp only [List.length_append]; omega)
  · simp only [List.length_append, List.length_take, List.length_drop, hX, hD]; omega
theorem grow_list {α : Type} (C X D : List α) (a b d : Nat) (h : a + b + d ≤ C.length) (hX : X.length = b) (hD : D.length = d) :
    ((C.take a ++ X ++ C.drop (a + b)).take (a + b) ++ D ++ (C.take a ++ X ++ C.drop (a + b)).drop (a + b + d)).take (a + b + d) = C.take a ++ X ++ D ∧
    ((C.take a ++ X ++ C.drop (a + b)).take (a + b) ++ D ++ (C.take a ++ X ++ C.drop (a + b)).drop (a + b + d)).length = C.length := by
  constructor
  · obtain ⟨A, P, D', R, rfl, hA, hP, hD'⟩ := parts4 C a b d h
    have e2 : (A ++ (P ++ (D' ++ R))).drop (a + b) = D' ++ R := by rw [← List.append_assoc]; exact dl (by simp only [List.length_append]; omega)
    have e3 : (A ++ (P ++ (D' ++ R))).take a = A := tl hA
    rw [e2, e3]
    have e4 : (A ++ X ++ (D' ++ R)).take (a + b) = A ++ X := tl (by rw [List.length_append]; omega)
    rw [e4]
    exact tl (by simp only [List.length_append]; omega)
  · simp only [List.length_append, List.length_take, List.length_drop, hX, hD]; omega

/-- The new row's block: the old one's, or a new one. -/
def At (v v' : Value) (N : Nat) : Prop := ∀ k, v'.ownBlock = some k → v.ownBlock = some k ∨ N ≤ k
set_option maxRecDepth 100000 in
/-- Behind all: append. -/
theorem insert_end {B : Nat} {v : Value} {l : List En} (w : World) (h : Es B v l w) (x : En) (vb : Nat) (hv : w.heap[vb]? = some (.cells #[.int .i64 x.1, .int .i64 x.2] 92 (0, 0))) (hB : B ≤ w.heap.size) (hn : l.length < 1000000) :
    Calls Tryz.prog 112 #[v, .int .i64 (l.length : Int), .slice (some ⟨vb, 0, none⟩) 1 1] w fun e w' => ∃ v', e = .returned v' ∧ Es B v' (l ++ [x]) w' ∧ w.grownBy w' v.ownBlock ∧ At v v' w.heap.size := by
  obtain ⟨i0, hi, hz0, hz1, hz2⟩ := info_parts inf42
  obtain ⟨u, hu⟩ : ∃ u : List Value, u = [.int .i64 x.1, .int .i64 x.2] := ⟨_, rfl⟩
  have hown := hide h.own
  have hnews : Hid (∀ j y, u[j]? = some y → w.cell? ((⟨vb, 0, none⟩ : Addr).add j) = some y) := by rw [hu]; exact World.news_of_block hv
  have h1 : Hid (∀ y ∈ u, y.oneCell' = true) := by rw [hu]; exact pairs_one [x]
  have hul : Hid (u.length = 1 * 2) := by rw [hu]; rfl
  have hpx : Hid (pairs (l ++ [x]) = pairs l ++ u) := by rw [hu]; exact pairs_app l [x]
  have hlx : Hid ((l ++ [x]).length = l.length + 1) := by show _ = _; simp
  have Hu := hide hu
  have Hv := hide hv
  have H0 := hide h
  have Hi := hide hi
  have Hz0 := hide hz0
  have Hz1 := hide hz1
  have Hz2 := hide hz2
  clear hu hv hi hz0 hz1 hz2
  have key : ∀ g cap w', w'.ownsRow B 92 2 (.slice (some ⟨g, 0, none⟩) (l.length + 1) cap) (l.length + 1) (pairs l ++ u) → w.grownBy w' v.ownBlock → (v.ownBlock = some g ∨ g = w.heap.size) →
      ∃ v', Ending.returned (.slice (some ⟨g, 0, none⟩) (l.length + 1) cap) = .returned v' ∧ Es B v' (l ++ [x]) w' ∧ w.grownBy w' v.ownBlock ∧ At v v' w.heap.size := by
    intro g cap w' a1 a2 a3
    refine ⟨_, rfl, Es.of (by rw [unhide hlx, unhide hpx]; exact a1), a2, fun k hk => ?_⟩
    obtain rfl : g = k := by simpa [Value.ownBlock] using hk
    exact a3.imp id (fun e => by omega)
  replace key := hide key
  rcases h with ⟨rfl, rfl⟩ | ⟨g, cap, rfl, hBg, r⟩
  · go_enter Tryz.func112, Tryz.ntmps112
    go_wp2_with (at_builtin; refine wpList_append_lies _ rfl (.tmp 23) (.tmp 24) 58 rfl B 92 i0 _ 2 16 Tryz.underlying58 (unhide Hi) (unhide Hz0) (unhide Hz1) (unhide Hz2) rfl (by decide) _ 0 _ rfl (unhide hown) ⟨vb, 0, none⟩ 1 1 u rfl (unhide hul) (unhide hnews) (unhide h1) (by decide) (by decide) (by decide) hB _ rfl ?_; intro g cap w' a1 a2 a3 _)
    go_ret
    exact unhide key g cap w' a1 a2 a3
  · have h1' := r.le
    have h2' := r.mx
    unfold maxLen at h2'
    have R := hide r
    clear r H0
    generalize l.length = n at *
    have b1 : Hid (n + 1 ≤ maxLen) := by show _ ≤ _; unfold maxLen; omega
    have b2 : Hid ((n + 1) * 16 ≤ 140737488355328) := by show _ ≤ _; omega
    go_enter Tryz.func112, Tryz.ntmps112
    go_wp2_with (at_builtin; refine wpList_append_lies _ rfl (.tmp 23) (.tmp 24) 58 rfl B 92 i0 _ 2 16 Tryz.underlying58 (unhide Hi) (unhide Hz0) (unhide Hz1) (unhide Hz2) rfl (by decide) _ n _ rfl (unhide hown) ⟨vb, 0, none⟩ 1 1 u rfl (unhide hul) (unhide hnews) (unhide h1) (by decide) (unhide b1) (unhide b2) hB _ rfl ?_; intro g cap w' a1 a2 a3 _)
    all_goals
      go_ret
      exact unhide key _ _ _ a1 a2 a3
theorem run_callFunc_over (w : World) (a b : Addr) (la ca lb cb : Nat) (hne : a.block ≠ b.block) (tA tB : TypeId) (kA kB : Nat) (hsa : w.shape? a.block = some (tA, kA)) (hsb : w.shape? b.block = some (tB, kB)) (hkB : kB ≠ 0) (hfa : w.frozen? a = false) (hfe : w.frozen? { block := a.block, off := kA } = false) :
    (callFunc 134 #[.slice (some a) la ca, .slice (some b) lb cb]).run Tryz.prog w = .ok (.value (.bool false)) w := by
  rw [run_callFunc_extern Tryz.func134 (by kernel_rfl) (by kernel_rfl) (by kernel_rfl) (e := Extern.SlicesOverlaps.overlaps #[58, 58] #[4]) (by kernel_rfl),
      Lib.run_overlaps_apart w 58 4 92 Tryz.underlying58 2 Tryz.sizeOf92 a b la ca lb cb hne tA tB kA kB hsa hsb hkB hfa hfe]
  rfl
theorem shape_cells {w : World} {g : Nat} {cur : Array Value} {t : TypeId} {fr : Nat × Nat} (h : w.heap[g]? = some (.cells cur t fr)) : w.shape? g = some (t, cur.size) := by
  simp [World.shape?, h]
theorem pairs_ins (l : List En) (i : Nat) (x : En) : pairs (l.take i ++ x :: l.drop i) = (pairs l).take (i * 2) ++ [.int .i64 x.1, .int .i64 x.2] ++ pairs (l.drop i) := by
  rw [show l.take i ++ x :: l.drop i = l.take i ++ [x] ++ l.drop i by simp, pairs_app, pairs_app, pairs_take]; rfl
theorem ins_len (l : List En) (i : Nat) (x : En) (hi : i ≤ l.length) : (l.take i ++ x :: l.drop i).length = l.length + 1 := by
  simp only [List.length_append, List.length_take, List.length_cons, List.length_drop]; omega
set_option maxRecDepth 100000 in
set_option maxHeartbeats 1000000 in
/-- There is room. -/
theorem insert_shift {g cap : Nat} {l : List En} (w : World) (r : Rb g cap l w) (i : Nat) (hi : i < l.length) (hroom : l.length + 1 ≤ cap) (x : En) (vb : Nat) (hv : w.heap[vb]? = some (.cells #[.int .i64 x.1, .int .i64 x.2] 92 (0, 0))) (hvg : vb ≠ g) :
    Calls Tryz.prog 112 #[.slice (some ⟨g, 0, none⟩) l.length cap, .int .i64 i, .slice (some ⟨vb, 0, none⟩) 1 1] w fun e w' => e = .returned (.slice (some ⟨g, 0, none⟩) (l.length + 1) cap) ∧ Rb g cap (l.take i ++ x :: l.drop i) w' ∧ w.grownBy w' (some g) := by
  obtain ⟨⟨cur, hg, hsz, hl⟩, hle, hmx⟩ := r
  unfold maxLen at hmx
  obtain ⟨u, hu⟩ : ∃ u : List Value, u = [.int .i64 x.1, .int .i64 x.2] := ⟨_, rfl⟩
  obtain ⟨D, hD⟩ : ∃ D, D = pairs (l.drop i) := ⟨_, rfl⟩
  have hDl : D.length = (l.length - i) * 2 := by rw [hD, pairs_len, List.length_drop]
  have hul : u.length = 1 * 2 := by rw [hu]; rfl
  have hcl : cur.toList.length = cap * 2 := by rw [Array.length_toList]; exact hsz
  have hov : ∀ lb cb, (callFunc 134 #[.slice (some ⟨vb, 0, none⟩) 1 1, .slice (some ⟨g, (i + 1) * 2, none⟩) lb cb]).run Tryz.prog w = .ok (.value (.bool false)) w := fun lb cb =>
    run_callFunc_over w _ _ 1 1 lb cb hvg 92 92 2 (cap * 2) (shape_cells hv) (by rw [← hsz]; exact shape_cells hg) (by omega) (by simp [World.frozen?, hv]) (by simp [World.frozen?, hv])
  have hg' : w.drew.heap[g]? = some (.cells cur 92 (0, 0)) := hg
  obtain ⟨c1, hc1⟩ : ∃ c1 : Array Value, c1 = (cur.toList.take (i * 2 + 2) ++ D ++ cur.toList.drop (i * 2 + 2 + D.length)).toArray := ⟨_, rfl⟩
  have hcp1 : ∀ ty dc sc, (Builtin.copy_ #[58, 58] ty #[.slice (some ⟨g, (i + 1) * 2, none⟩) (l.length - i) dc, .slice (some ⟨g, i * 2, none⟩) (l.length + 1 - i) sc]).run Tryz.prog w.drew = .ok (goInt ((l.length - i : Nat) : Int)) (w.drew.setRow g c1) := fun ty dc sc => by
    have := run_copy_r w.drew ty g ((i + 1) * 2) (l.length - i) dc ⟨g, i * 2, none⟩ (l.length + 1 - i) sc cur D (l.length - i) hg' (by simp only [Nat.min_def]; split <;> omega) hDl
      (fun j v hj => by
        have ht : j < (l.length - i) * 2 := by
          have := (List.getElem?_eq_some_iff.1 hj).1
          rwa [hDl] at this
        rw [hD, pairs_drop, List.getElem?_drop, ← hl, List.getElem?_take_of_lt (by omega)] at hj
        rw [Addr.add_lit]
        show World.cell? w _ = _
        simp only [World.cell?, hg]
        simpa using hj) (by rw [hDl, hsz]; omega) (by rw [hD]; exact pairs_one _)
    rw [this, hc1, show (i + 1) * 2 = i * 2 + 2 by omega]
  obtain ⟨W1, hW1⟩ : ∃ W1, W1 = w.drew.setRow g c1 := ⟨_, rfl⟩
  rw [← hW1] at hcp1
  have hG1 : W1.heap[g]? = some (.cells c1 92 (0, 0)) := by rw [hW1]; exact setRow_heap _ g cur c1 92 _ hg'
  have hV1 : W1.heap[vb]? = some (.cells #[.int .i64 x.1, .int .i64 x.2] 92 (0, 0)) := by rw [hW1]; exact (setRow_other _ g vb _ hvg).trans hv
  obtain ⟨c2, hc2⟩ : ∃ c2 : Array Value, c2 = (c1.toList.take (i * 2) ++ u ++ c1.toList.drop (i * 2 + u.length)).toArray := ⟨_, rfl⟩
  have hSL := shift_list cur.toList u D (i * 2) 2 ((l.length - i) * 2) (by rw [hcl]; omega) hul hDl
  have hc2s : c2.size = cap * 2 := by
    rw [hc2, hc1, List.size_toArray, hul]
    show List.length (List.take (i * 2) (_ ++ _ ++ _) ++ u ++ List.drop (i * 2 + 2) (_ ++ _ ++ _)) = _
    rw [hDl, hSL.2, hcl]
  have hc2t : c2.toList.take ((l.length + 1) * 2) = pairs (l.take i ++ x :: l.drop i) := by
    rw [pairs_ins, ← hu, ← hD, ← hl, List.take_take, show min (i * 2) (l.length * 2) = i * 2 by omega, ← hSL.1, hc2, hc1, hDl, show (l.length + 1) * 2 = i * 2 + 2 + (l.length - i) * 2 by omega]
    rw [hul]
  have hc1s : i * 2 + u.length ≤ c1.size := by
    rw [hc1, List.size_toArray, hul]
    simp only [List.length_append, List.length_take, List.length_drop, hcl, hDl]; omega
  have hcp2 : ∀ ty dc, (Builtin.copy_ #[58, 58] ty #[.slice (some ⟨g, i * 2, none⟩) (l.length + 1 - i) dc, .slice (some ⟨vb, 0, none⟩) 1 1]).run Tryz.prog W1 = .ok (goInt ((1 : Nat) : Int)) (W1.setRow g c2) := fun ty dc => by
    rw [run_copy_r W1 ty g (i * 2) (l.length + 1 - i) dc ⟨vb, 0, none⟩ 1 1 c1 u 1 hG1 (by simp only [Nat.min_def]; split <;> omega) hul (by rw [hu]; exact World.news_of_block hV1) hc1s (by rw [hu]; exact pairs_one [x]), hc2]
  have hfin : Hid (Rb g cap (l.take i ++ x :: l.drop i) (W1.setRow g c2)) :=
    ⟨⟨_, setRow_heap _ g c1 _ 92 _ hG1, hc2s, by rw [ins_len l i x (by omega)]; exact hc2t⟩, by rw [ins_len l i x (by omega)]; exact hroom, by unfold maxLen; exact hmx⟩
  have hgr : Hid (w.grownBy (W1.setRow g c2) (some g)) := by
    rw [hW1]
    exact grown_trans (grown_trans (grown_drew w _) (grown_row _ g _)) (grown_row _ g _)
  generalize W1.setRow g c2 = W2 at hcp2 hfin hgr
  replace hcp1 := hide hcp1
  replace hcp2 := hide hcp2
  clear hc1 hW1 hG1 hV1 hc2 hc2s hc2t hc1s hSL hg' hD hDl hu hul hcl hl hsz hg hv
  generalize l.length = n at *
  have q1 : ¬ ((i : Int) = (n : Int)) := by omega
  have q2 : ¬ (cap = i) := by omega
  have q3 : ¬ (cap = i + 1) := by omega
  have q4 : ((i : Int) + 1).toNat = i + 1 := by omega
  have q5 : IntKind.i64.wrap ((i : Int) + 1) = (i : Int) + 1 := by rw [IntKind.wrap_i64]; omega
  have q6 : (0 : Int) ≤ (i : Int) + 1 := by omega
  have q7 : (i : Int) ≤ (n : Int) := by omega
  have q8 : i ≤ n := by omega
  have q9 : (i : Int) ≤ (n : Int) + 1 := by omega
  go_enter Tryz.func112, Tryz.ntmps112
  go_wp2_with (simp only [hov])
  go_region_law (refine step_copy_r rfl (.tmp 73) (.tmp 76) rfl (.slice (some ⟨g, (i + 1) * 2, none⟩) (n - i) (cap - (i + 1))) (.slice (some ⟨g, i * 2, none⟩) (n + 1 - i) (cap - i)) (by simp [Act.eval, Act.put]) (by simp [Act.eval, Act.put]) (unhide hcp1 _ _ _) ?_)
  have hcp3 := unhide hcp2
  clear hcp2
  go_wp2
  go_ret
  exact ⟨rfl, unhide hfin, unhide hgr⟩
end Go.Proofs.YtgiklggnolbiiaaGreat

/- slices.Insert of one entry where there is no room; all three ways together. -/
namespace Go.Proofs.YtgiklggnolbiiaaGreat
open Go.RowKit

set_option maxRecDepth 100000 in
set_option maxHeartbeats 1000000 in
theorem insert_grow {g cap : Nat} {l : List En} (w : World) (r : Rb g cap l w) (i : Nat) (hi : i < l.length) (hroom : cap < l.length + 1) (hn : l.length < 1000000) (x : En) (vb : Nat) (hv : w.heap[vb]? = some (.cells #[.int .i64 x.1, .int .i64 x.2] 92 (0, 0))) :
    Calls Tryz.prog 112 #[.slice (some ⟨g, 0, none⟩) l.length cap, .int .i64 i, .slice (some ⟨vb, 0, none⟩) 1 1] w fun e w' => ∃ G, e = .returned (.slice (some ⟨w.heap.size, 0, none⟩) (l.length + 1) G) ∧ Rb w.heap.size G (l.take i ++ x :: l.drop i) w' ∧ Below w.heap.size w w' := by
  have hgw := r.lt
  have hvw := heap_lt hv
  obtain ⟨⟨cur, hg, hsz, hl⟩, hle, hmx⟩ := r
  have hmx0 := hmx
  unfold maxLen at hmx
  obtain ⟨i0, hi0, hz0, hz1, hz2⟩ := info_parts inf42
  obtain ⟨N, hN⟩ : ∃ N, N = w.heap.size := ⟨_, rfl⟩
  obtain ⟨u, hu⟩ : ∃ u : List Value, u = [.int .i64 x.1, .int .i64 x.2] := ⟨_, rfl⟩
  obtain ⟨D, hD⟩ : ∃ D, D = pairs (l.drop i) := ⟨_, rfl⟩
  have hDl : D.length = (l.length - i) * 2 := by rw [hD, pairs_len, List.length_drop]
  have hul : u.length = 1 * 2 := by rw [hu]; rfl
  have hcl : cur.toList.length = cap * 2 := by rw [Array.length_toList]; exact hsz
  have hkk : (l.length : Int) + 1 - (i : Int) = ((l.length + 1 - i : Nat) : Int) := by omega
  have hik : i + (l.length + 1 - i) = l.length + 1 := by omega
  have hpt : ((pairs l).take (i * 2)).length = i * 2 := by rw [List.length_take, pairs_len]; omega
  have hold : (Builtin.firstCells i0.size i (.slice (some ⟨g, 0, none⟩) i cap)).run Tryz.prog w.drew = .ok ((pairs l).take (i * 2)).toArray w.drew := by
    rw [hz1]
    exact run_firstCells_some w.drew 2 i ⟨g, 0, none⟩ i cap _ hpt (fun j v hj => by
      have ht : j < i * 2 := by
        have := (List.getElem?_eq_some_iff.1 hj).1
        rwa [hpt] at this
      rw [List.getElem?_take_of_lt ht, ← hl, List.getElem?_take_of_lt (by omega)] at hj
      rw [Addr.add_lit]
      show World.cell? w _ = _
      simp only [World.cell?, hg]
      simpa using hj)
  obtain ⟨G, hG⟩ : ∃ G, G = grownCap w (l.length + 1) cap 92 := ⟨_, rfl⟩
  obtain ⟨ROW, hROW⟩ : ∃ ROW : Array Value, ROW = ((pairs l).take (i * 2)).toArray ++ Builtin.zeroCells (Value.agg #[.int .i64 0, .int .i64 0]).cells (l.length + 1 - i) ++ Builtin.zeroCells (Value.agg #[.int .i64 0, .int .i64 0]).cells (G - (l.length + 1)) := ⟨_, rfl⟩
  have hGn : l.length + 1 ≤ G := by rw [hG]; exact grownCap_ge w _ _ _
  have hG63 : G ≤ maxLen := by rw [hG]; exact grownCap_le_maxLen w (l.length + 1) cap 92 (by unfold maxLen; omega)
  have hRs : ROW.size = G * 2 := by
    have zc : (Value.agg #[.int .i64 0, .int .i64 0]).cells.size = 2 := rfl
    rw [hROW]
    simp only [Array.size_append, List.size_toArray, size_zeroCells, hpt, zc]; omega
  have hRl : ROW.toList.length = G * 2 := by rw [Array.length_toList]; exact hRs
  have hRt : ROW.toList.take (i * 2) = (pairs l).take (i * 2) := by
    rw [hROW, Array.append_assoc]
    show (((pairs l).take (i * 2)).toArray ++ _).toList.take _ = _
    rw [Array.toList_append]
    exact tl hpt
  have hrz : ∀ ty, (Builtin.append_ #[58, 3] ty #[.slice (some ⟨g, 0, none⟩) i cap, .int .i64 ((l.length : Int) + 1 - (i : Int))]).run Tryz.prog w =
      .ok (.slice (some ⟨N, 0, none⟩) (l.length + 1) G) (w.drew.alloc (.cells ROW 92)) := fun ty => by
    have h := Lib.run_append_grow_zeros w 58 3 ty 92 i0 _ .i64 .i64 Tryz.underlying58 Tryz.underlying3 hi0 hz0 (some ⟨g, 0, none⟩) i cap ((pairs l).take (i * 2)) hold (l.length + 1 - i) (by omega) (by omega) (by omega) (by omega) (by rw [hz2]; omega) (by rw [hz2, hik]; exact growslice_fits hroom (by omega))
    rw [hik] at h
    rw [hkk, h, hROW, hG, hN]
  obtain ⟨W1, hW1⟩ : ∃ W1, W1 = w.drew.alloc (.cells ROW 92) := ⟨_, rfl⟩
  rw [← hW1] at hrz
  have hG1 : W1.heap[N]? = some (.cells ROW 92 (0, 0)) := by rw [hW1, hN]; exact heap_alloc_new w.drew _
  have hV1 : W1.heap[vb]? = some (.cells #[.int .i64 x.1, .int .i64 x.2] 92 (0, 0)) := by rw [hW1]; exact (heap_alloc_old w.drew _ hvw).trans hv
  have hO1 : W1.heap[g]? = some (.cells cur 92 (0, 0)) := by rw [hW1]; exact (heap_alloc_old w.drew _ hgw).trans hg
  have hB1 : Below w.heap.size w W1 := by rw [hW1]; exact grown_below (grown_trans (grown_drew w none) (World.grownBy_alloc w.drew _ none)) (Nat.le_refl _) (fun g h => by cases h)
  obtain ⟨c1, hc1⟩ : ∃ c1 : Array Value, c1 = (ROW.toList.take (i * 2) ++ u ++ ROW.toList.drop (i * 2 + u.length)).toArray := ⟨_, rfl⟩
  have hcp1 : ∀ ty dc, (Builtin.copy_ #[58, 58] ty #[.slice (some ⟨N, i * 2, none⟩) (l.length + 1 - i) dc, .slice (some ⟨vb, 0, none⟩) 1 1]).run Tryz.prog W1 = .ok (goInt ((1 : Nat) : Int)) (W1.setRow N c1) := fun ty dc => by
    rw [run_copy_r W1 ty N (i * 2) (l.length + 1 - i) dc ⟨vb, 0, none⟩ 1 1 ROW u 1 hG1 (by simp only [Nat.min_def]; split <;> omega) hul (by rw [hu]; exact World.news_of_block hV1) (by rw [hul, hRs]; omega) (by rw [hu]; exact pairs_one [x]), hc1]
  obtain ⟨W2, hW2⟩ : ∃ W2, W2 = W1.setRow N c1 := ⟨_, rfl⟩
  rw [← hW2] at hcp1
  have hgN : g ≠ N := by omega
  have hG2 : W2.drew.heap[N]? = some (.cells c1 92 (0, 0)) := by rw [hW2]; exact setRow_heap _ N ROW c1 92 _ hG1
  have hO2 : W2.drew.heap[g]? = some (.cells cur 92 (0, 0)) := by rw [hW2]; exact (setRow_other _ N g _ hgN).trans hO1
  obtain ⟨c2, hc2⟩ : ∃ c2 : Array Value, c2 = (c1.toList.take (i * 2 + 2) ++ D ++ c1.toList.drop (i * 2 + 2 + D.length)).toArray := ⟨_, rfl⟩
  have hSL := grow_list ROW.toList u D (i * 2) 2 ((l.length - i) * 2) (by rw [hRl]; omega) hul hDl
  have hc2s : c2.size = G * 2 := by
    rw [hc2, hc1, List.size_toArray, hul]
    show List.length (List.take (i * 2 + 2) (_ ++ _ ++ _) ++ D ++ List.drop (i * 2 + 2 + D.length) (_ ++ _ ++ _)) = _
    rw [hDl, hSL.2, hRl]
  have hc2t : c2.toList.take ((l.length + 1) * 2) = pairs (l.take i ++ x :: l.drop i) := by
    rw [pairs_ins, ← hu, ← hD, ← hRt, ← hSL.1, hc2, hc1, hDl, show (l.length + 1) * 2 = i * 2 + 2 + (l.length - i) * 2 by omega]
    rw [hul]
  have hc1s : c1.size = G * 2 := by
    rw [hc1, List.size_toArray, hul]
    simp only [List.length_append, List.length_take, List.length_drop, hRl, hul]; omega
  have hcp2 : ∀ ty dc sc, (Builtin.copy_ #[58, 58] ty #[.slice (some ⟨N, (i + 1) * 2, none⟩) (l.length - i) dc, .slice (some ⟨g, i * 2, none⟩) (l.length - i) sc]).run Tryz.prog W2.drew = .ok (goInt ((l.length - i : Nat) : Int)) (W2.drew.setRow N c2) := fun ty dc sc => by
    have := run_copy_r W2.drew ty N ((i + 1) * 2) (l.length - i) dc ⟨g, i * 2, none⟩ (l.length - i) sc c1 D (l.length - i) hG2 (by simp only [Nat.min_def]; split <;> omega) hDl
      (fun j v hj => by
        have ht : j < (l.length - i) * 2 := by
          have := (List.getElem?_eq_some_iff.1 hj).1
          rwa [hDl] at this
        rw [hD, pairs_drop, List.getElem?_drop, ← hl, List.getElem?_take_of_lt (by omega)] at hj
        rw [Addr.add_lit]
        simp only [World.cell?, hO2]
        simpa using hj) (by rw [hDl, hc1s]; omega) (by rw [hD]; exact pairs_one _)
    rw [this, hc2, show (i + 1) * 2 = i * 2 + 2 by omega]
  have hfin : Hid (Rb N G (l.take i ++ x :: l.drop i) (W2.drew.setRow N c2)) :=
    ⟨⟨_, setRow_heap _ N c1 _ 92 _ hG2, hc2s, by rw [ins_len l i x (by omega)]; exact hc2t⟩, by rw [ins_len l i x (by omega)]; exact hGn, hG63⟩
  have hgr : Hid (Below w.heap.size w (W2.drew.setRow N c2)) := by
    rw [hW2]
    have hNl : w.heap.size ≤ N := by omega
    have h1 : Below w.heap.size w (W1.setRow N c1) := below_setRow hB1 hNl c1
    exact grown_below (grown_trans (grown_trans (grown_of_below h1 (some N)) (grown_drew _ _)) (grown_row _ N c2)) (Nat.le_refl _) (fun g h => by injection h with h; omega)
  generalize W2.drew.setRow N c2 = W3 at hcp2 hfin hgr
  have hNh := hide hN
  have hgw2 := hide hgw
  have hvw2 := hide hvw
  replace hrz := hide hrz
  replace hcp2 := hide hcp2
  clear hc1 hW1 hW2 hG1 hV1 hO1 hO2 hB1 hc2 hc2s hc2t hc1s hSL hD hDl hu hul hcl hl hsz hg hv hRt hRl hRs hROW hold hpt hik hkk hG hG2 hi0 hz0 hz1 hz2 hmx0 hN
  have hG64 : G ≤ 9223372036854775807 := by unfold maxLen at hG63; omega
  clear hG63
  rw [← unhide hNh]
  generalize l.length = n at *
  have q1 : ¬ ((i : Int) = (n : Int)) := by omega
  have q2 : ¬ (cap = i) := by omega
  have q3 : ¬ (G = i + 1) := by omega
  have q31 : ¬ (G = i) := by omega
  have q4 : ((i : Int) + 1).toNat = i + 1 := by omega
  have q5 : IntKind.i64.wrap ((i : Int) + 1) = (i : Int) + 1 := by rw [IntKind.wrap_i64]; omega
  have q6 : (0 : Int) ≤ (i : Int) + 1 := by omega
  have q7 : (i : Int) ≤ (n : Int) := by omega
  have q8 : i ≤ n := by omega
  have q9 : (i : Int) ≤ (n : Int) + 1 := by omega
  have q10 : (cap : Int) < (n : Int) + 1 := by omega
  go_enter Tryz.func112, Tryz.ntmps112
  go_wp2_with (at_builtin; refine Lib.wpList_append_run _ rfl _ _ _ _ rfl _ _ rfl rfl _ _ (unhide hrz _) ?_)
  go_wp2
  go_region_law (refine step_copy_r rfl (.tmp 50) (.tmp 53) rfl (.slice (some ⟨N, (i + 1) * 2, none⟩) (n - i) (G - (i + 1))) (.slice (some ⟨g, i * 2, none⟩) (n - i) (cap - i)) (by simp [Act.eval, Act.put]) (by simp [Act.eval, Act.put]) (unhide hcp2 _ _ _) ?_)
  go_wp2
  go_ret
  exact ⟨G, rfl, unhide hfin, by rw [unhide hNh]; exact unhide hgr⟩
/-- One entry is put in at place i. -/
theorem insert_any {B : Nat} {v : Value} {l : List En} (w : World) (h : Es B v l w) (i : Nat) (hi : i ≤ l.length) (x : En) (vb : Nat) (hv : w.heap[vb]? = some (.cells #[.int .i64 x.1, .int .i64 x.2] 92 (0, 0))) (hvb : v.ownBlock ≠ some vb) (hB : B ≤ w.heap.size) (hn : l.length < 1000000) :
    Calls Tryz.prog 112 #[v, .int .i64 i, .slice (some ⟨vb, 0, none⟩) 1 1] w fun e w' => ∃ v', e = .returned v' ∧ Es B v' (l.take i ++ x :: l.drop i) w' ∧ w.grownBy w' v.ownBlock ∧ At v v' w.heap.size := by
  by_cases he : i = l.length
  · subst he
    rw [List.take_length, List.drop_length]
    exact insert_end w h x vb hv hB hn
  · rcases h with ⟨rfl, rfl⟩ | ⟨g, cap, rfl, hBg, r⟩
    · exact absurd (Nat.le_zero.1 hi) he
    · have hlt : i < l.length := by omega
      by_cases hr : l.length + 1 ≤ cap
      · refine (insert_shift w r i hlt hr x vb hv (fun e => hvb (by rw [e]; rfl))).mono ?_
        rintro e w' ⟨rfl, r', hg⟩
        exact ⟨_, rfl, .inr ⟨g, cap, by rw [ins_len l i x hi], hBg, r'⟩, hg, fun k hk => .inl hk⟩
      · refine (insert_grow w r i hlt (by omega) hn x vb hv).mono ?_
        rintro e w' ⟨G, rfl, r', hb⟩
        refine ⟨_, rfl, .inr ⟨w.heap.size, G, by rw [ins_len l i x hi], hB, r'⟩, grown_of_below hb _, fun k hk => .inr ?_⟩
        have : w.heap.size = k := by simpa [Value.ownBlock] using hk
        omega
end Go.Proofs.YtgiklggnolbiiaaGreat
