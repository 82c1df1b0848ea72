/- The leaves of package mode and of the reference: slices.Contains, oneOf, Known, join, Sup. -/
import Derived.Test.YtmdbmkekdpbliaaRows
import Derived.WalkKit
import Derived.WalkSpells
import Derived.WalkLawsBesides
import Derived.Deep.QuietTactic
import Derived.BigQuiet
import Derived.Outline
import Derived.Below
namespace Go.Proofs.Ytmdbmkekdpbliaa
open Go.RowKit

theorem hide {p : Prop} (h : p) : Hid p := h
theorem unhide {p : Prop} (h : Hid p) : p := h
theorem ret_int {k : IntKind} {a b : Int} (h : a = b) : Ending.returned (.int k a) = .returned (.int k b) := by rw [h]
theorem ret_bool {a b : Bool} (h : a = b) : Ending.returned (.bool a) = .returned (.bool b) := by rw [h]
theorem bthen {B : Nat} {w w' w'' : World} (h : Below B w w') (k : Below w'.heap.size w' w'') (hB : B ≤ w.heap.size) : Below B w w'' := h.trans (k.mono (Nat.le_trans hB h.size))
theorem below_new (w : World) (o : Obj) : Below w.heap.size w (w.alloc o) := (Below.refl _ _).alloc (Nat.le_refl _) _
theorem below_then {w w' w'' : World} (h : Below w.heap.size w w') (k : Below w'.heap.size w' w'') : Below w.heap.size w w'' := bthen h k (Nat.le_refl _)
theorem below_add {w w' : World} (h : Below w.heap.size w w') (o : Obj) : Below w.heap.size w (w'.alloc o) := below_then h (below_new w' o)

/-- A slice of integers that is read: 'len' cells from 'a' on hold the numbers 'l'. -/
def SegK (k : IntKind) (w : World) (a : Option Addr) (len : Nat) (l : List Int) : Prop :=
  l.length = len ∧ (len = 0 ∨ ∃ b off, a = some ⟨b, off, none⟩ ∧ ∀ i, i < len → w.cell? ⟨b, off + i, none⟩ = some (.int k (l.getD i 0)))
theorem SegK.later {k : IntKind} {w w' : World} {a : Option Addr} {len : Nat} {l : List Int} (h : SegK k w a len l) (hb : Below w.heap.size w w') : SegK k w' a len l := by
  rcases h.2 with h0 | ⟨b, off, rfl, hc⟩
  · exact ⟨h.1, .inl h0⟩
  · by_cases e : len = 0
    · exact ⟨h.1, .inl e⟩
    · have hlt : b < w.heap.size := by
        have := hc 0 (by omega)
        simp only [World.cell?] at this
        by_cases hb : b < w.heap.size
        · exact hb
        · simp [Array.getElem?_eq_none (show w.heap.size ≤ b by omega)] at this
      exact ⟨h.1, .inr ⟨b, off, rfl, fun i hi => (hb.cell (p := ⟨b, off + i, none⟩) hlt).trans (hc i hi)⟩⟩
theorem seg_nil (w : World) (a : Option Addr) : SegK .i64 w a 0 [] := ⟨rfl, .inl rfl⟩
/-- A slice that was just written out. -/
theorem seg_new (w : World) (l : List Int) : SegK .i64 (w.alloc (.cells (l.map (Value.int .i64 ·)).toArray 3)) (some ⟨w.heap.size, 0, none⟩) l.length l :=
  ⟨rfl, .inr ⟨w.heap.size, 0, rfl, fun i hi => by rw [Nat.zero_add, World.cell?_alloc_new]; simp [hi]⟩⟩

theorem fold_snoc {α : Type} (f : α → Int → α) (z : α) (l : List Int) (k : Nat) (h : k < l.length) :
    (l.take (k + 1)).foldl f z = f ((l.take k).foldl f z) (l.getD k 0) := by
  rw [List.take_succ_eq_append_getElem h, List.foldl_append, List.getD_eq_getElem?_getD, List.getElem?_eq_getElem h]; rfl
theorem take_all (l : List Int) (k : Nat) (h : ¬ k < l.length) : l.take k = l := List.take_of_length_le (by omega)

/-- Does v stand in l? -/
def hasB (v : Int) (l : List Int) : Bool := l.any (fun x => v == x)
theorem has_no (v : Int) (l : List Int) (h : ∀ j, j < l.length → v ≠ l.getD j 0) : hasB v l = false := by
  unfold hasB
  rw [List.any_eq_false]
  intro x hx
  obtain ⟨j, hj, rfl⟩ := List.getElem_of_mem hx
  have := h j hj
  simpa [List.getD_eq_getElem?_getD, hj] using this
theorem has_yes (v : Int) (l : List Int) (k : Nat) (h : k < l.length) (e : v = l.getD k 0) : hasB v l = true := by
  unfold hasB
  rw [List.any_eq_true]
  exact ⟨l[k], List.getElem_mem h, by simp [e, List.getD_eq_getElem?_getD, h]⟩

theorem index_any (v : Int) (a : Option Addr) (len cap : Nat) (l : List Int) (w : World) (hs : SegK .i64 w a len l) (hm : len ≤ maxLen) :
    Calls Try.prog 102 #[.slice a len cap, .int .i64 v] w fun e w' => (∃ i : Int, e = .returned (.int .i64 i) ∧ decide (0 ≤ i) = hasB v l) ∧ w' = w := by
  unfold maxLen at hm
  obtain ⟨rfl, hs⟩ := hs
  rcases hs with h0 | ⟨b, off, rfl, hc⟩
  · obtain rfl : l = [] := List.eq_nil_of_length_eq_zero h0
    go_enter Try.func102, Try.ntmps102
    go_wp2
    go_loop [8] (fun i => i = .int .i64 0) (fun i => 1)
    case atStart => exact rfl
    case round =>
      subst hrel
      go_wp2
      go_ret
      exact ⟨⟨_, rfl, rfl⟩, rfl⟩
  · have Hc := hide hc
    clear hc
    go_enter Try.func102, Try.ntmps102
    go_wp2
    go_loop [8] (fun i => ∃ k : Nat, k ≤ l.length ∧ i = .int .i64 k ∧ ∀ j, j < k → v ≠ l.getD j 0) (fun i => l.length - (intOf i).toNat)
    case atStart => exact ⟨0, Nat.zero_le _, rfl, fun j hj => by omega⟩
    case round =>
      obtain ⟨k, hk, rfl, hno⟩ := hrel
      have Hno := hide hno
      clear hno
      by_cases hlt : k < l.length
      · obtain ⟨x, hx⟩ : ∃ x, x = l.getD k 0 := ⟨_, rfl⟩
        have hcell : w.cell? ⟨b, off + k, none⟩ = some (.int .i64 x) := by rw [hx]; exact unhide Hc k hlt
        have Hx := hide hx
        clear hx
        by_cases he : v = x
        · have He := hide he
          have hb : (v == x) = true := beq_iff_eq.2 he
          clear he
          go_wp2
          go_ret
          exact ⟨⟨_, rfl, by rw [has_yes v l k hlt ((unhide He).trans (unhide Hx))]; simp⟩, rfl⟩
        · have hb : (v == x) = false := beq_eq_false_iff_ne.2 he
          have He := hide he
          clear he
          go_wp2
          go_round
          case rel => exact ⟨k + 1, by omega, by go_num, fun j hj => by
            rcases (show j < k ∨ j = k by omega) with h | rfl
            · exact unhide Hno j h
            · rw [← unhide Hx]; exact unhide He⟩
          case measure => simp [intOf]; omega
      · go_wp2
        go_ret
        exact ⟨⟨_, rfl, by rw [has_no v l (fun j hj => unhide Hno j (by omega))]; simp⟩, rfl⟩

theorem contains_any (v : Int) (a : Option Addr) (len cap : Nat) (l : List Int) (w : World) (hs : SegK .i64 w a len l) (hm : len ≤ maxLen) :
    Calls Try.prog 85 #[.slice a len cap, .int .i64 v] w fun e w' => e = .returned (.bool (hasB v l)) ∧ w' = w := by
  go_enter Try.func85, Try.ntmps85
  go_wp2_with fail
  refine (index_any v _ _ _ l _ hs hm).mono ?_
  rintro e w' ⟨⟨i, rfl, hi⟩, rfl⟩
  have Hi := hide hi
  clear hi
  go_wp2
  go_ret
  exact ⟨ret_bool (unhide Hi), rfl⟩
theorem oneOf_any (v : Int) (a : Option Addr) (len cap : Nat) (l : List Int) (w : World) (hs : SegK .i64 w a len l) (hm : len ≤ maxLen) :
    Calls Try.prog 63 #[.int .i64 v, .slice a len cap] w fun e w' => e = .returned (.bool (hasB v l)) ∧ w' = w := by
  go_enter Try.func63, Try.ntmps63
  go_wp2_with fail
  refine (contains_any v _ _ _ l _ hs hm).mono ?_
  rintro e w' ⟨rfl, rfl⟩
  go_wp2
  go_ret
  exact ⟨rfl, rfl⟩

/-- Is m a mode? -/
def knownB (m : Int) : Bool := decide (0 ≤ m) && decide (m ≤ 5)
theorem known_iff {m : Int} : knownB m = true ↔ 0 ≤ m ∧ m ≤ 5 := by simp [knownB]
theorem known_no {m : Int} : knownB m = false ↔ ¬ (0 ≤ m ∧ m ≤ 5) := by rw [← known_iff]; simp
theorem known_any (m : Int) (w : World) : Calls Try.prog 41 #[.int .i64 m] w fun e w' => e = .returned (.bool (knownB m)) ∧ w' = w := by
  unfold knownB
  by_cases h1 : 0 ≤ m <;> by_cases h2 : m ≤ 5
  all_goals
    go_enter Try.func41, Try.ntmps41
    go_wp2
    go_ret
    exact ⟨by simp [h1, h2], rfl⟩
theorem mode_any (m : Int) (w : World) : Calls Try.prog 47 #[.int .i64 m] w fun e w' => e = .returned (.bool (knownB m)) ∧ w' = w := by
  unfold knownB
  by_cases h1 : 0 ≤ m <;> by_cases h2 : m ≤ 5
  all_goals
    go_enter Try.func47, Try.ntmps47
    go_wp2
    go_ret
    exact ⟨by simp [h1, h2], rfl⟩

/-- The least above a and b. -/
def joinD (a b : Int) : Int := if knownB b then (if (a == 2) && (b == 3) || (a == 3) && (b == 2) then 4 else max a b) else 5
theorem join_any (a b : Int) (w : World) : Calls Try.prog 74 #[.int .i64 a, .int .i64 b] w fun e w' => e = .returned (.int .i64 (joinD a b)) ∧ w' = w := by
  cases hk : knownB b
  · have E := hide (show joinD a b = 5 by simp [joinD, hk])
    have K := hide hk
    clear hk
    go_enter Try.func74, Try.ntmps74
    go_wp2_with fail
    refine (known_any b _).mono ?_
    rw [unhide K]
    rintro e w' ⟨rfl, rfl⟩
    go_wp2
    go_ret
    exact ⟨ret_int (unhide E).symm, rfl⟩
  · cases h1 : (a == 2) <;> cases h2 : (a == 3) <;> cases h3 : (b == 2) <;> cases h4 : (b == 3)
    all_goals
      have E := hide (show joinD a b = _ by simp only [joinD, hk, h1, h2, h3, h4]; rfl)
      have K := hide hk
      clear hk
      go_enter Try.func74, Try.ntmps74
      go_wp2_with fail
      refine (known_any b _).mono ?_
      rw [unhide K]
      rintro e w' ⟨rfl, rfl⟩
      go_wp2
    all_goals
      go_ret
      exact ⟨ret_int (by rw [unhide E]; simp <;> omega), rfl⟩

/-- The least above all of l. -/
def supL (l : List Int) : Int := l.foldl joinD 0
def supTo (l : List Int) (k : Nat) : Int := (l.take k).foldl joinD 0
theorem supTo_succ (l : List Int) (k : Nat) (h : k < l.length) : supTo l (k + 1) = joinD (supTo l k) (l.getD k 0) := fold_snoc _ _ _ _ h
theorem supTo_all (l : List Int) (k : Nat) (h : ¬ k < l.length) : supTo l k = supL l := by unfold supTo; rw [take_all _ _ h]; rfl

theorem sup_any (a : Option Addr) (len cap : Nat) (l : List Int) (w : World) (hs : SegK .i64 w a len l) (hm : len ≤ maxLen) :
    Calls Try.prog 42 #[.slice a len cap] w fun e w' => e = .returned (.int .i64 (supL l)) ∧ w' = w := by
  unfold maxLen at hm
  obtain ⟨rfl, hs⟩ := hs
  rcases hs with h0 | ⟨b, off, rfl, hc⟩
  · obtain rfl : l = [] := List.eq_nil_of_length_eq_zero h0
    go_enter Try.func42, Try.ntmps42
    go_wp2
    go_loop [3, 8] (fun t i => i = .int .i64 0 ∧ t = .int .i64 0) (fun _ i => 1)
    case atStart => exact ⟨rfl, rfl⟩
    case round =>
      obtain ⟨rfl, rfl⟩ := hrel
      go_wp2
      go_ret
      exact ⟨rfl, rfl⟩
  · have Hc := hide hc
    clear hc
    go_enter Try.func42, Try.ntmps42
    go_wp2
    go_loop [3, 8] (fun t i => ∃ k : Nat, k ≤ l.length ∧ i = .int .i64 k ∧ t = .int .i64 (supTo l k)) (fun _ i => l.length - (intOf i).toNat)
    case atStart => exact ⟨0, Nat.zero_le _, rfl, rfl⟩
    case round =>
      obtain ⟨k, hk, rfl, rfl⟩ := hrel
      by_cases hlt : k < l.length
      · obtain ⟨x, hx⟩ : ∃ x, x = l.getD k 0 := ⟨_, rfl⟩
        have hcell : w.cell? ⟨b, off + k, none⟩ = some (.int .i64 x) := by rw [hx]; exact unhide Hc k hlt
        have Hx := hide hx
        clear hx
        go_wp2_with fail
        refine (join_any _ x _).mono ?_
        rintro e w' ⟨rfl, rfl⟩
        go_wp2
        go_round
        case rel => exact ⟨k + 1, by omega, by go_num, by rw [supTo_succ _ _ hlt, ← unhide Hx]⟩
        case measure => simp [intOf]; omega
      · go_wp2
        go_ret
        exact ⟨ret_int (supTo_all _ _ hlt), rfl⟩

theorem rsup_any (a : Option Addr) (len cap : Nat) (l : List Int) (w : World) (hs : SegK .i64 w a len l) (hm : len ≤ maxLen) :
    Calls Try.prog 48 #[.slice a len cap] w fun e w' => e = .returned (.int .i64 (supL l)) ∧ w' = w := by
  unfold maxLen at hm
  obtain ⟨rfl, hs⟩ := hs
  rcases hs with h0 | ⟨b, off, rfl, hc⟩
  · obtain rfl : l = [] := List.eq_nil_of_length_eq_zero h0
    go_enter Try.func48, Try.ntmps48
    go_wp2
    go_loop [3, 4] (fun t i => i = .int .i64 0 ∧ t = .int .i64 0) (fun _ i => 1)
    case atStart => exact ⟨rfl, rfl⟩
    case round =>
      obtain ⟨rfl, rfl⟩ := hrel
      go_wp2
      go_ret
      exact ⟨rfl, rfl⟩
  · have Hc := hide hc
    clear hc
    go_enter Try.func48, Try.ntmps48
    go_wp2
    go_loop [3, 4] (fun t i => ∃ k : Nat, k ≤ l.length ∧ i = .int .i64 k ∧ t = .int .i64 (supTo l k)) (fun _ i => l.length - (intOf i).toNat)
    case atStart => exact ⟨0, Nat.zero_le _, rfl, rfl⟩
    case round =>
      obtain ⟨k, hk, rfl, rfl⟩ := hrel
      by_cases hlt : k < l.length
      · obtain ⟨x, hx⟩ : ∃ x, x = l.getD k 0 := ⟨_, rfl⟩
        have hcell : w.cell? ⟨b, off + k, none⟩ = some (.int .i64 x) := by rw [hx]; exact unhide Hc k hlt
        have Hx := hide hx
        clear hx
        have S := hide (supTo_succ l k hlt)
        generalize supTo l k = t at S ⊢
        cases hkn : knownB x
        · have E := hide (show joinD t x = 5 by simp [joinD, hkn])
          have K := hide hkn
          clear hkn
          go_wp2_with fail
          refine (mode_any x _).mono ?_
          rw [unhide K]
          rintro e w' ⟨rfl, rfl⟩
          go_wp2
          go_round
          case rel => exact ⟨k + 1, by omega, by go_num, by rw [unhide S, ← unhide Hx, unhide E]⟩
          case measure => simp [intOf]; omega
        · cases h1 : (t == 2) <;> cases h2 : (t == 3) <;> cases h3 : (x == 2) <;> cases h4 : (x == 3)
          all_goals
            have E := hide (show joinD t x = _ by simp only [joinD, hkn, h1, h2, h3, h4]; rfl)
            have K := hide hkn
            clear hkn
            go_wp2_with fail
            refine (mode_any x _).mono ?_
            rw [unhide K]
            rintro e w' ⟨rfl, rfl⟩
            go_wp2
          all_goals
            go_round
            case rel => exact ⟨k + 1, by omega, by go_num, by rw [unhide S, ← unhide Hx, unhide E]; simp <;> omega⟩
            case measure => simp [intOf]; omega
      · go_wp2
        go_ret
        exact ⟨ret_int (supTo_all _ _ hlt), rfl⟩
end Go.Proofs.Ytmdbmkekdpbliaa
