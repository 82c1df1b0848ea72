/- A configuration (twelve whole numbers), how a copy of it lies in memory, and what the leaves of package shape answer. -/
import Derived.Test.YtdhfpfkcbcgnaaaRows
import Derived.WalkKit
import Derived.WalkSpells
import Derived.WalkLawsBesides
import Derived.Deep.QuietTactic
import Derived.BigQuiet
import Derived.BigRegion
import Derived.Deep.RegionHeld3
import Derived.Below
import Derived.Outline
namespace Go.Proofs.Ytdhfpfkcbcgnaaa
open Go.RowKit

theorem hide {p : Prop} (h : p) : Hid p := h
theorem unhide {p : Prop} (h : Hid p) : p := h
theorem bthen {B : Nat} {w w' w'' : World} (h : Below B w w') (k : Below w'.heap.size w' w'') (hB : B ≤ w.heap.size) : Below B w w'' := h.trans (k.mono (Nat.le_trans hB h.size))

/-- A configuration. -/
structure Cf where
  r : Int
  o : Int
  s : Int
  d : Int
  t : Int
  l : Int
  g : Int
  k : Int
  u : Int
  e : Int
  i : Int
  p : Int
/-- .. as a value. -/
def cv (c : Cf) : Value := .agg #[.int .i64 c.r, .int .i64 c.o, .int .i64 c.s, .int .i64 c.d, .int .i64 c.t, .int .i64 c.l, .int .i64 c.g, .int .i64 c.k, .int .i64 c.u, .int .i64 c.e, .int .i64 c.i, .int .i64 c.p]
/-- .. as it lies in block b. -/
def Bx (c : Cf) (b : Nat) (w : World) : Prop := w.heap[b]? = some (.cells #[.int .i64 c.r, .int .i64 c.o, .int .i64 c.s, .int .i64 c.d, .int .i64 c.t, .int .i64 c.l, .int .i64 c.g, .int .i64 c.k, .int .i64 c.u, .int .i64 c.e, .int .i64 c.i, .int .i64 c.p] 23 (0, 0))
theorem Bx.later {c : Cf} {b B : Nat} {w w' : World} (h : Bx c b w) (hb : Below B w w') (hB : b < B) : Bx c b w' := (hb.block b hB).trans h
theorem Bx.lt {c : Cf} {b : Nat} {w : World} (h : Bx c b w) : b < w.heap.size := by
  unfold Bx at h
  by_cases hb : b < w.heap.size
  · exact hb
  · rw [Array.getElem?_eq_none (by omega)] at h; cases h
theorem Bx.next {c : Cf} {b : Nat} {w w' : World} (h : Bx c b w) (hb : Below w.heap.size w w') : Bx c b w' := h.later hb h.lt
theorem Bx.drew {c : Cf} {b : Nat} {w : World} (h : Bx c b w) : Bx c b w.drew := h
theorem Bx.cells {c : Cf} {b : Nat} {w : World} (h : Bx c b w) :
    w.cell? ⟨b, 0, none⟩ = some (.int .i64 c.r) ∧ w.cell? ⟨b, 1, none⟩ = some (.int .i64 c.o) ∧ w.cell? ⟨b, 2, none⟩ = some (.int .i64 c.s) ∧ w.cell? ⟨b, 3, none⟩ = some (.int .i64 c.d) ∧
    w.cell? ⟨b, 4, none⟩ = some (.int .i64 c.t) ∧ w.cell? ⟨b, 5, none⟩ = some (.int .i64 c.l) ∧ w.cell? ⟨b, 6, none⟩ = some (.int .i64 c.g) ∧ w.cell? ⟨b, 7, none⟩ = some (.int .i64 c.k) ∧
    w.cell? ⟨b, 8, none⟩ = some (.int .i64 c.u) ∧ w.cell? ⟨b, 9, none⟩ = some (.int .i64 c.e) ∧ w.cell? ⟨b, 10, none⟩ = some (.int .i64 c.i) ∧ w.cell? ⟨b, 11, none⟩ = some (.int .i64 c.p) := by
  unfold Bx at h
  simp [World.cell?, h]

/-- Is n from l to m? -/
def inB (n l m : Int) : Bool := decide (l ≤ n) && decide (n ≤ m)
theorem inB_iff {n l m : Int} : inB n l m = true ↔ l ≤ n ∧ n ≤ m := by simp [inB]
theorem inB_no {n l m : Int} : inB n l m = false ↔ ¬ (l ≤ n ∧ n ≤ m) := by rw [← inB_iff]; simp

theorem within_any (n l m : Int) (w : World) : Calls Try.prog 50 #[.int .i64 n, .int .i64 l, .int .i64 m] w fun e w' => e = .returned (.bool (inB n l m)) ∧ w' = w := by
  unfold inB
  by_cases h1 : l ≤ n <;> by_cases h2 : n ≤ m
  all_goals
    go_enter Try.func50, Try.ntmps50
    go_wp2
    go_ret
    exact ⟨by simp [h1, h2], rfl⟩

/-- The parts of the heap are within their bounds. -/
structure Hp (c : Cf) : Prop where
  r1 : 1 ≤ c.r
  r8 : c.r ≤ 8
  o1 : 1 ≤ c.o
  o8 : c.o ≤ 8
  s1 : 1 ≤ c.s
  s8 : c.s ≤ 8
  d1 : 1 ≤ c.d
  d8 : c.d ≤ 8
/-- How many objects, stripes, words. -/
def no (c : Cf) : Int := c.r * c.o
def ns (c : Cf) : Int := no c * c.s
def nw (c : Cf) : Int := ns c * c.d
theorem mul_in {a b A B : Int} (h1 : 1 ≤ a) (h2 : a ≤ A) (h3 : 1 ≤ b) (h4 : b ≤ B) : 1 ≤ a * b ∧ a * b ≤ A * B := by
  constructor
  · have := Int.mul_le_mul h1 h3 (by omega) (by omega); omega
  · exact Int.mul_le_mul h2 h4 (by omega) (by omega)
theorem no_in {c : Cf} (h : Hp c) : 1 ≤ no c ∧ no c ≤ 64 := by have := mul_in h.r1 h.r8 h.o1 h.o8; unfold no; omega
theorem ns_in {c : Cf} (h : Hp c) : 1 ≤ ns c ∧ ns c ≤ 512 := by have := mul_in (no_in h).1 (no_in h).2 h.s1 h.s8; unfold ns; omega
theorem nw_in {c : Cf} (h : Hp c) : 1 ≤ nw c ∧ nw c ≤ 4096 := by have := mul_in (ns_in h).1 (ns_in h).2 h.d1 h.d8; unfold nw; omega
theorem ret_int {a b : Int} (h : a = b) : Ending.returned (.int .i64 a) = .returned (.int .i64 b) := by rw [h]
theorem kin {a : Int} (h1 : 0 ≤ a) (h2 : a ≤ 100000) : IntKind.i64.wrap a = a := by rw [IntKind.wrap_i64]; omega
theorem wrap_in {a : Int} (h1 : 0 ≤ a) (h2 : a ≤ 100000) : wrap64 a = a := by unfold wrap64; omega

theorem bx_new (c : Cf) (w : World) : Bx c w.heap.size (w.alloc (.cells #[.int .i64 c.r, .int .i64 c.o, .int .i64 c.s, .int .i64 c.d, .int .i64 c.t, .int .i64 c.l, .int .i64 c.g, .int .i64 c.k, .int .i64 c.u, .int .i64 c.e, .int .i64 c.i, .int .i64 c.p] 23)) := by
  show (w.heap.push _)[w.heap.size]? = _
  simp
theorem below_new (w : World) (o : Obj) : Below w.heap.size w (w.alloc o) := (Below.refl _ _).alloc (Nat.le_refl _) _
/-- Of a call that was made behind the box. -/
theorem below_call {w w' : World} {o : Obj} (h : Below (w.alloc o).heap.size (w.alloc o) w') : Below w.heap.size w w' := bthen (below_new w o) h (Nat.le_refl _)
theorem below_drew {w w' : World} {o : Obj} (h : Below (w.alloc o).drew.heap.size (w.alloc o).drew w') : Below w.heap.size w w' := bthen (below_new w o).drew h (Nat.le_refl _)
theorem below_then {w w' w'' : World} (h : Below w.heap.size w w') (k : Below w'.heap.size w' w'') : Below w.heap.size w w'' := bthen h k (Nat.le_refl _)

theorem objects_any (c : Cf) (w : World) (h : Hp c) : Calls Try.prog 42 #[cv c] w fun e w' => e = .returned (.int .i64 (no c)) ∧ Below w.heap.size w w' := by
  have e1 : wrap64 (c.r * c.o) = no c := wrap_in (by have := no_in h; unfold no at this; omega) (by have := no_in h; unfold no at this; omega)
  unfold cv
  go_enter Try.func42, Try.ntmps42
  go_wp2
  go_ret
  exact ⟨ret_int e1, (Below.refl _ _).alloc (Nat.le_refl _) _⟩
theorem stripes_any (c : Cf) (w : World) (h : Hp c) : Calls Try.prog 30 #[cv c] w fun e w' => e = .returned (.int .i64 (ns c)) ∧ Below w.heap.size w w' := by
  have e1 : IntKind.i64.wrap (no c * c.s) = ns c := kin (by have := ns_in h; unfold ns at this; omega) (by have := ns_in h; unfold ns at this; omega)
  unfold cv
  go_enter Try.func30, Try.ntmps30
  go_wp2_with fail
  have hx := bx_new c w
  go_region_held3 (fun wz => wz.cell? ⟨w.heap.size, 0, none⟩ = some (.int .i64 c.r) ∧ wz.cell? ⟨w.heap.size, 1, none⟩ = some (.int .i64 c.o) ∧ wz.cell? ⟨w.heap.size, 2, none⟩ = some (.int .i64 c.s) ∧ wz.cell? ⟨w.heap.size, 3, none⟩ = some (.int .i64 c.d) ∧ wz.cell? ⟨w.heap.size, 4, none⟩ = some (.int .i64 c.t) ∧ wz.cell? ⟨w.heap.size, 5, none⟩ = some (.int .i64 c.l) ∧ wz.cell? ⟨w.heap.size, 6, none⟩ = some (.int .i64 c.g) ∧ wz.cell? ⟨w.heap.size, 7, none⟩ = some (.int .i64 c.k) ∧ wz.cell? ⟨w.heap.size, 8, none⟩ = some (.int .i64 c.u) ∧ wz.cell? ⟨w.heap.size, 9, none⟩ = some (.int .i64 c.e) ∧ wz.cell? ⟨w.heap.size, 10, none⟩ = some (.int .i64 c.i) ∧ wz.cell? ⟨w.heap.size, 11, none⟩ = some (.int .i64 c.p)) (first | exact hx.drew.cells | exact hx1.cells)
    (first
      | (go_at_call 42; refine (objects_any c _ h).mono ?_; rintro e w1 ⟨rfl, hb⟩; have hx1 := hx.drew.next hb))
  go_wp2
  go_ret
  exact ⟨rfl, below_drew hb⟩
end Go.Proofs.Ytdhfpfkcbcgnaaa
