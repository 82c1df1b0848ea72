/- Texts of this claim, put together in their order. -/
import Derived.WalkKit
import Derived.WalkSpells
import Derived.WalkLawsBesides
import Derived.Deep.QuietTactic
import Derived.BigQuiet
import Derived.BigRegion
import Derived.Deep.RegionHeld3
import Derived.Below
import Derived.Outline
import Derived.Deep.Slices
import Derived.ProofKit
import Derived.Test.YtgiklggnolbiiaaGreatBase1
import Derived.Test.YtgiklggnolbiiaaGreatBase2
import Derived.Test.YtgiklggnolbiiaaGreatBase3
import Derived.Test.YtgiklggnolbiiaaGreatBase4
import Derived.Test.YtgiklggnolbiiaaGreatBase5
import Derived.Test.YtgiklggnolbiiaaGreatBase6
import Derived.Test.YtgiklggnolbiiaaGreatBase7
import Derived.Test.YtgiklggnolbiiaaGreatBase8
import Derived.Test.YtgiklggnolbiiaaGreatBase9
import Derived.Test.YtgiklggnolbiiaaGreatBase10
import Derived.Test.YtgiklggnolbiiaaGreatBase11
import Derived.Test.YtgiklggnolbiiaaGreatBase12
import Derived.Test.YtgiklggnolbiiaaGreatBase13
import Derived.Test.YtgiklggnolbiiaaGreatBase14
import Derived.Test.YtgiklggnolbiiaaGreatBase15
import Derived.Test.YtgiklggnolbiiaaGreatBase16
import Derived.Test.YtgiklggnolbiiaaGreatBase17
/- A configuration (twelve whole numbers), how a copy of it lies in memory, and what the leaves of package shape answer. -/
namespace Go.Proofs.YtgiklggnolbiiaaGreat
open Go.RowKit


/-- A configuration. -/
structure Cf where
  r : Int
  o : Int
  s : Int
  d : Int
  t : Int
  l : Int
  g : Int
  k : Int
  u : Int
  e : Int
  i : Int
  p : Int
/-- .. as a value. -/
def cv (c : Cf) : Value := .agg #[.int .i64 c.r, .int .i64 c.o, .int .i64 c.s, .int .i64 c.d, .int .i64 c.t, .int .i64 c.l, .int .i64 c.g, .int .i64 c.k, .int .i64 c.u, .int .i64 c.e, .int .i64 c.i, .int .i64 c.p]
/-- .. as it lies in block b. -/
def Bx (c : Cf) (b : Nat) (w : World) : Prop := w.heap[b]? = some (.cells #[.int .i64 c.r, .int .i64 c.o, .int .i64 c.s, .int .i64 c.d, .int .i64 c.t, .int .i64 c.l, .int .i64 c.g, .int .i64 c.k, .int .i64 c.u, .int .i64 c.e, .int .i64 c.i, .int .i64 c.p] 68 (0, 0))
theorem Bx.later {c : Cf} {b B : Nat} {w w' : World} (h : Bx c b w) (hb : Below B w w') (hB : b < B) : Bx c b w' := (hb.block b hB).trans h
theorem Bx.lt {c : Cf} {b : Nat} {w : World} (h : Bx c b w) : b < w.heap.size := by
  unfold Bx at h
  by_cases hb : b < w.heap.size
  · exact hb
  · rw [Array.getElem?_eq_none (by omega)] at h; cases h
theorem Bx.next {c : Cf} {b : Nat} {w w' : World} (h : Bx c b w) (hb : Below w.heap.size w w') : Bx c b w' := h.later hb h.lt
theorem Bx.drew {c : Cf} {b : Nat} {w : World} (h : Bx c b w) : Bx c b w.drew := h
theorem Bx.cells {c : Cf} {b : Nat} {w : World} (h : Bx c b w) :
    w.cell? ⟨b, 0, none⟩ = some (.int .i64 c.r) ∧ w.cell? ⟨b, 1, none⟩ = some (.int .i64 c.o) ∧ w.cell? ⟨b, 2, none⟩ = some (.int .i64 c.s) ∧ w.cell? ⟨b, 3, none⟩ = some (.int .i64 c.d) ∧
    w.cell? ⟨b, 4, none⟩ = some (.int .i64 c.t) ∧ w.cell? ⟨b, 5, none⟩ = some (.int .i64 c.l) ∧ w.cell? ⟨b, 6, none⟩ = some (.int .i64 c.g) ∧ w.cell? ⟨b, 7, none⟩ = some (.int .i64 c.k) ∧
    w.cell? ⟨b, 8, none⟩ = some (.int .i64 c.u) ∧ w.cell? ⟨b, 9, none⟩ = some (.int .i64 c.e) ∧ w.cell? ⟨b, 10, none⟩ = some (.int .i64 c.i) ∧ w.cell? ⟨b, 11, none⟩ = some (.int .i64 c.p) := by
  unfold Bx at h
  simp [World.cell?, h]

/-- Is n from l to m? -/
def inB (n l m : Int) : Bool := decide (l ≤ n) && decide (n ≤ m)
theorem inB_iff {n l m : Int} : inB n l m = true ↔ l ≤ n ∧ n ≤ m := by simp [inB]
theorem inB_no {n l m : Int} : inB n l m = false ↔ ¬ (l ≤ n ∧ n ≤ m) := by rw [← inB_iff]; simp

set_option maxRecDepth 100000 in
theorem within_any (n l m : Int) (w : World) : Calls Tryz.prog 157 #[.int .i64 n, .int .i64 l, .int .i64 m] w fun e w' => e = .returned (.bool (inB n l m)) ∧ w' = w := by
  unfold inB
  by_cases h1 : l ≤ n <;> by_cases h2 : n ≤ m
  all_goals
    go_enter Tryz.func157, Tryz.ntmps157
    go_wp2
    go_ret
    exact ⟨by simp [h1, h2], rfl⟩

/-- The parts of the heap are within their bounds. -/
structure Hp (c : Cf) : Prop where
  r1 : 1 ≤ c.r
  r8 : c.r ≤ 8
  o1 : 1 ≤ c.o
  o8 : c.o ≤ 8
  s1 : 1 ≤ c.s
  s8 : c.s ≤ 8
  d1 : 1 ≤ c.d
  d8 : c.d ≤ 8
/-- How many objects, stripes, words. -/
def no (c : Cf) : Int := c.r * c.o
def ns (c : Cf) : Int := no c * c.s
def nw (c : Cf) : Int := ns c * c.d
theorem mul_in {a b A B : Int} (h1 : 1 ≤ a) (h2 : a ≤ A) (h3 : 1 ≤ b) (h4 : b ≤ B) : 1 ≤ a * b ∧ a * b ≤ A * B := by
  constructor
  · have := Int.mul_le_mul h1 h3 (by omega) (by omega); omega
  · exact Int.mul_le_mul h2 h4 (by omega) (by omega)
theorem no_in {c : Cf} (h : Hp c) : 1 ≤ no c ∧ no c ≤ 64 := by have := mul_in h.r1 h.r8 h.o1 h.o8; unfold no; omega
theorem ns_in {c : Cf} (h : Hp c) : 1 ≤ ns c ∧ ns c ≤ 512 := by have := mul_in (no_in h).1 (no_in h).2 h.s1 h.s8; unfold ns; omega
theorem nw_in {c : Cf} (h : Hp c) : 1 ≤ nw c ∧ nw c ≤ 4096 := by have := mul_in (ns_in h).1 (ns_in h).2 h.d1 h.d8; unfold nw; omega
theorem kin {a : Int} (h1 : 0 ≤ a) (h2 : a ≤ 100000) : IntKind.i64.wrap a = a := by rw [IntKind.wrap_i64]; omega
theorem wrap_in {a : Int} (h1 : 0 ≤ a) (h2 : a ≤ 100000) : wrap64 a = a := by unfold wrap64; omega

theorem bx_new (c : Cf) (w : World) : Bx c w.heap.size (w.alloc (.cells #[.int .i64 c.r, .int .i64 c.o, .int .i64 c.s, .int .i64 c.d, .int .i64 c.t, .int .i64 c.l, .int .i64 c.g, .int .i64 c.k, .int .i64 c.u, .int .i64 c.e, .int .i64 c.i, .int .i64 c.p] 68)) := by
  show (w.heap.push _)[w.heap.size]? = _
  simp
/-- Of a call that was made behind the box. -/
theorem below_call {w w' : World} {o : Obj} (h : Below (w.alloc o).heap.size (w.alloc o) w') : Below w.heap.size w w' := bthen (below_new w o) h (Nat.le_refl _)
theorem below_drew {w w' : World} {o : Obj} (h : Below (w.alloc o).drew.heap.size (w.alloc o).drew w') : Below w.heap.size w w' := bthen (below_new w o).drew h (Nat.le_refl _)

set_option maxRecDepth 100000 in
theorem firstObject_any (c : Cf) (w : World) : Calls Tryz.prog 106 #[cv c] w fun e w' => e = .returned (.int .i64 c.r) ∧ Below w.heap.size w w' := by
  unfold cv
  go_enter Tryz.func106, Tryz.ntmps106
  go_wp2
  go_ret
  exact ⟨rfl, (Below.refl _ _).alloc (Nat.le_refl _) _⟩

set_option maxRecDepth 100000 in
theorem objects_any (c : Cf) (w : World) (h : Hp c) : Calls Tryz.prog 131 #[cv c] w fun e w' => e = .returned (.int .i64 (no c)) ∧ Below w.heap.size w w' := by
  have e1 : wrap64 (c.r * c.o) = no c := wrap_in (by have := no_in h; unfold no at this; omega) (by have := no_in h; unfold no at this; omega)
  unfold cv
  go_enter Tryz.func131, Tryz.ntmps131
  go_wp2
  go_ret
  exact ⟨ret_int e1, (Below.refl _ _).alloc (Nat.le_refl _) _⟩
set_option maxRecDepth 100000 in
theorem robjects_any (c : Cf) (w : World) (h : Hp c) : Calls Tryz.prog 59 #[cv c] w fun e w' => e = .returned (.int .i64 (no c)) ∧ Below w.heap.size w w' := by
  have e1 : wrap64 (c.r * c.o) = no c := wrap_in (by have := no_in h; unfold no at this; omega) (by have := no_in h; unfold no at this; omega)
  unfold cv
  go_enter Tryz.func59, Tryz.ntmps59
  go_wp2
  go_ret
  exact ⟨ret_int e1, (Below.refl _ _).alloc (Nat.le_refl _) _⟩

set_option maxRecDepth 100000 in
theorem stripes_any (c : Cf) (w : World) (h : Hp c) : Calls Tryz.prog 130 #[cv c] w fun e w' => e = .returned (.int .i64 (ns c)) ∧ Below w.heap.size w w' := by
  have e1 : IntKind.i64.wrap (no c * c.s) = ns c := kin (by have := ns_in h; unfold ns at this; omega) (by have := ns_in h; unfold ns at this; omega)
  unfold cv
  go_enter Tryz.func130, Tryz.ntmps130
  go_wp2_with fail
  have hx := bx_new c w
  go_region_held3 (fun wz => wz.cell? ⟨w.heap.size, 0, none⟩ = some (.int .i64 c.r) ∧ wz.cell? ⟨w.heap.size, 1, none⟩ = some (.int .i64 c.o) ∧ wz.cell? ⟨w.heap.size, 2, none⟩ = some (.int .i64 c.s) ∧ wz.cell? ⟨w.heap.size, 3, none⟩ = some (.int .i64 c.d) ∧ wz.cell? ⟨w.heap.size, 4, none⟩ = some (.int .i64 c.t) ∧ wz.cell? ⟨w.heap.size, 5, none⟩ = some (.int .i64 c.l) ∧ wz.cell? ⟨w.heap.size, 6, none⟩ = some (.int .i64 c.g) ∧ wz.cell? ⟨w.heap.size, 7, none⟩ = some (.int .i64 c.k) ∧ wz.cell? ⟨w.heap.size, 8, none⟩ = some (.int .i64 c.u) ∧ wz.cell? ⟨w.heap.size, 9, none⟩ = some (.int .i64 c.e) ∧ wz.cell? ⟨w.heap.size, 10, none⟩ = some (.int .i64 c.i) ∧ wz.cell? ⟨w.heap.size, 11, none⟩ = some (.int .i64 c.p)) (first | exact hx.drew.cells | exact hx1.cells)
    (first
      | (go_at_call 131; refine (objects_any c _ h).mono ?_; rintro e w1 ⟨rfl, hb⟩; have hx1 := hx.drew.next hb))
  go_wp2
  go_ret
  exact ⟨rfl, below_drew hb⟩
end Go.Proofs.YtgiklggnolbiiaaGreat

/- What Check of package shape answers. -/
namespace Go.Proofs.YtgiklggnolbiiaaGreat
open Go.RowKit

def heapB (c : Cf) : Bool := inB c.r 1 8 && (inB c.o 1 8 && (inB c.s 1 8 && (inB c.d 1 8)))
set_option maxRecDepth 100000 in
theorem heapFits_any (c : Cf) (w : World) : Calls Tryz.prog 142 #[cv c] w fun e w' => e = .returned (.bool (heapB c)) ∧ Below w.heap.size w w' := by
  cases h0 : inB c.r 1 8
  · have eb : heapB c = false := by simp only [heapB, h0]; rfl
    rw [eb]
    clear eb
    have H0' := hide h0
    clear h0
    unfold cv
    go_enter Tryz.func142, Tryz.ntmps142
    go_wp2_with fail
    refine (within_any _ _ _ _).mono ?_
    rw [unhide H0']
    rintro e w1 ⟨rfl, rfl⟩
    go_wp2
    go_ret
    exact ⟨rfl, below_new _ _⟩
  ·
    cases h1 : inB c.o 1 8
    · have eb : heapB c = false := by simp only [heapB, h0, h1]; rfl
      rw [eb]
      clear eb
      have H0' := hide h0
      have H1' := hide h1
      clear h0 h1
      unfold cv
      go_enter Tryz.func142, Tryz.ntmps142
      go_wp2_with fail
      refine (within_any _ _ _ _).mono ?_
      rw [unhide H0']
      rintro e w1 ⟨rfl, rfl⟩
      go_wp2_with fail
      refine (within_any _ _ _ _).mono ?_
      rw [unhide H1']
      rintro e w1 ⟨rfl, rfl⟩
      go_wp2
      go_ret
      exact ⟨rfl, below_new _ _⟩
    ·
      cases h2 : inB c.s 1 8
      · have eb : heapB c = false := by simp only [heapB, h0, h1, h2]; rfl
        rw [eb]
        clear eb
        have H0' := hide h0
        have H1' := hide h1
        have H2' := hide h2
        clear h0 h1 h2
        unfold cv
        go_enter Tryz.func142, Tryz.ntmps142
        go_wp2_with fail
        refine (within_any _ _ _ _).mono ?_
        rw [unhide H0']
        rintro e w1 ⟨rfl, rfl⟩
        go_wp2_with fail
        refine (within_any _ _ _ _).mono ?_
        rw [unhide H1']
        rintro e w1 ⟨rfl, rfl⟩
        go_wp2_with fail
        refine (within_any _ _ _ _).mono ?_
        rw [unhide H2']
        rintro e w1 ⟨rfl, rfl⟩
        go_wp2
        go_ret
        exact ⟨rfl, below_new _ _⟩
      ·
        cases h3 : inB c.d 1 8
        · have eb : heapB c = false := by simp only [heapB, h0, h1, h2, h3]; rfl
          rw [eb]
          clear eb
          have H0' := hide h0
          have H1' := hide h1
          have H2' := hide h2
          have H3' := hide h3
          clear h0 h1 h2 h3
          unfold cv
          go_enter Tryz.func142, Tryz.ntmps142
          go_wp2_with fail
          refine (within_any _ _ _ _).mono ?_
          rw [unhide H0']
          rintro e w1 ⟨rfl, rfl⟩
          go_wp2_with fail
          refine (within_any _ _ _ _).mono ?_
          rw [unhide H1']
          rintro e w1 ⟨rfl, rfl⟩
          go_wp2_with fail
          refine (within_any _ _ _ _).mono ?_
          rw [unhide H2']
          rintro e w1 ⟨rfl, rfl⟩
          go_wp2_with fail
          refine (within_any _ _ _ _).mono ?_
          rw [unhide H3']
          rintro e w1 ⟨rfl, rfl⟩
          go_wp2
          go_ret
          exact ⟨rfl, below_new _ _⟩
        ·
          have eb : heapB c = true := by simp only [heapB, h0, h1, h2, h3]; rfl
          rw [eb]
          clear eb
          have H0' := hide h0
          have H1' := hide h1
          have H2' := hide h2
          have H3' := hide h3
          clear h0 h1 h2 h3
          unfold cv
          go_enter Tryz.func142, Tryz.ntmps142
          go_wp2_with fail
          refine (within_any _ _ _ _).mono ?_
          rw [unhide H0']
          rintro e w1 ⟨rfl, rfl⟩
          go_wp2_with fail
          refine (within_any _ _ _ _).mono ?_
          rw [unhide H1']
          rintro e w1 ⟨rfl, rfl⟩
          go_wp2_with fail
          refine (within_any _ _ _ _).mono ?_
          rw [unhide H2']
          rintro e w1 ⟨rfl, rfl⟩
          go_wp2_with fail
          refine (within_any _ _ _ _).mono ?_
          rw [unhide H3']
          rintro e w1 ⟨rfl, rfl⟩
          go_wp2
          go_ret
          exact ⟨rfl, below_new _ _⟩

def roomB (c : Cf) : Bool := inB c.t 1 64 && (inB c.l 0 48 && (inB c.g 1 8 && (inB c.k 1 4096 && (inB c.u 1 1000 && (inB c.e 0 64 && (inB c.i 1 10000))))))
set_option maxRecDepth 100000 in
theorem roomFits_any (c : Cf) (w : World) : Calls Tryz.prog 143 #[cv c] w fun e w' => e = .returned (.bool (roomB c)) ∧ Below w.heap.size w w' := by
  cases h0 : inB c.t 1 64
  · have eb : roomB c = false := by simp only [roomB, h0]; rfl
    rw [eb]
    clear eb
    have H0' := hide h0
    clear h0
    unfold cv
    go_enter Tryz.func143, Tryz.ntmps143
    go_wp2_with fail
    refine (within_any _ _ _ _).mono ?_
    rw [unhide H0']
    rintro e w1 ⟨rfl, rfl⟩
    go_wp2
    go_ret
    exact ⟨rfl, below_new _ _⟩
  ·
    cases h1 : inB c.l 0 48
    · have eb : roomB c = false := by simp only [roomB, h0, h1]; rfl
      rw [eb]
      clear eb
      have H0' := hide h0
      have H1' := hide h1
      clear h0 h1
      unfold cv
      go_enter Tryz.func143, Tryz.ntmps143
      go_wp2_with fail
      refine (within_any _ _ _ _).mono ?_
      rw [unhide H0']
      rintro e w1 ⟨rfl, rfl⟩
      go_wp2_with fail
      refine (within_any _ _ _ _).mono ?_
      rw [unhide H1']
      rintro e w1 ⟨rfl, rfl⟩
      go_wp2
      go_ret
      exact ⟨rfl, below_new _ _⟩
    ·
      cases h2 : inB c.g 1 8
      · have eb : roomB c = false := by simp only [roomB, h0, h1, h2]; rfl
        rw [eb]
        clear eb
        have H0' := hide h0
        have H1' := hide h1
        have H2' := hide h2
        clear h0 h1 h2
        unfold cv
        go_enter Tryz.func143, Tryz.ntmps143
        go_wp2_with fail
        refine (within_any _ _ _ _).mono ?_
        rw [unhide H0']
        rintro e w1 ⟨rfl, rfl⟩
        go_wp2_with fail
        refine (within_any _ _ _ _).mono ?_
        rw [unhide H1']
        rintro e w1 ⟨rfl, rfl⟩
        go_wp2_with fail
        refine (within_any _ _ _ _).mono ?_
        rw [unhide H2']
        rintro e w1 ⟨rfl, rfl⟩
        go_wp2
        go_ret
        exact ⟨rfl, below_new _ _⟩
      ·
        cases h3 : inB c.k 1 4096
        · have eb : roomB c = false := by simp only [roomB, h0, h1, h2, h3]; rfl
          rw [eb]
          clear eb
          have H0' := hide h0
          have H1' := hide h1
          have H2' := hide h2
          have H3' := hide h3
          clear h0 h1 h2 h3
          unfold cv
          go_enter Tryz.func143, Tryz.ntmps143
          go_wp2_with fail
          refine (within_any _ _ _ _).mono ?_
          rw [unhide H0']
          rintro e w1 ⟨rfl, rfl⟩
          go_wp2_with fail
          refine (within_any _ _ _ _).mono ?_
          rw [unhide H1']
          rintro e w1 ⟨rfl, rfl⟩
          go_wp2_with fail
          refine (within_any _ _ _ _).mono ?_
          rw [unhide H2']
          rintro e w1 ⟨rfl, rfl⟩
          go_wp2_with fail
          refine (within_any _ _ _ _).mono ?_
          rw [unhide H3']
          rintro e w1 ⟨rfl, rfl⟩
          go_wp2
          go_ret
          exact ⟨rfl, below_new _ _⟩
        ·
          cases h4 : inB c.u 1 1000
          · have eb : roomB c = false := by simp only [roomB, h0, h1, h2, h3, h4]; rfl
            rw [eb]
            clear eb
            have H0' := hide h0
            have H1' := hide h1
            have H2' := hide h2
            have H3' := hide h3
            have H4' := hide h4
            clear h0 h1 h2 h3 h4
            unfold cv
            go_enter Tryz.func143, Tryz.ntmps143
            go_wp2_with fail
            refine (within_any _ _ _ _).mono ?_
            rw [unhide H0']
            rintro e w1 ⟨rfl, rfl⟩
            go_wp2_with fail
            refine (within_any _ _ _ _).mono ?_
            rw [unhide H1']
            rintro e w1 ⟨rfl, rfl⟩
            go_wp2_with fail
            refine (within_any _ _ _ _).mono ?_
            rw [unhide H2']
            rintro e w1 ⟨rfl, rfl⟩
            go_wp2_with fail
            refine (within_any _ _ _ _).mono ?_
            rw [unhide H3']
            rintro e w1 ⟨rfl, rfl⟩
            go_wp2_with fail
            refine (within_any _ _ _ _).mono ?_
            rw [unhide H4']
            rintro e w1 ⟨rfl, rfl⟩
            go_wp2
            go_ret
            exact ⟨rfl, below_new _ _⟩
          ·
            cases h5 : inB c.e 0 64
            · have eb : roomB c = false := by simp only [roomB, h0, h1, h2, h3, h4, h5]; rfl
              rw [eb]
              clear eb
              have H0' := hide h0
              have H1' := hide h1
              have H2' := hide h2
              have H3' := hide h3
              have H4' := hide h4
              have H5' := hide h5
              clear h0 h1 h2 h3 h4 h5
              unfold cv
              go_enter Tryz.func143, Tryz.ntmps143
              go_wp2_with fail
              refine (within_any _ _ _ _).mono ?_
              rw [unhide H0']
              rintro e w1 ⟨rfl, rfl⟩
              go_wp2_with fail
              refine (within_any _ _ _ _).mono ?_
              rw [unhide H1']
              rintro e w1 ⟨rfl, rfl⟩
              go_wp2_with fail
              refine (within_any _ _ _ _).mono ?_
              rw [unhide H2']
              rintro e w1 ⟨rfl, rfl⟩
              go_wp2_with fail
              refine (within_any _ _ _ _).mono ?_
              rw [unhide H3']
              rintro e w1 ⟨rfl, rfl⟩
              go_wp2_with fail
              refine (within_any _ _ _ _).mono ?_
              rw [unhide H4']
              rintro e w1 ⟨rfl, rfl⟩
              go_wp2_with fail
              refine (within_any _ _ _ _).mono ?_
              rw [unhide H5']
              rintro e w1 ⟨rfl, rfl⟩
              go_wp2
              go_ret
              exact ⟨rfl, below_new _ _⟩
            ·
              cases h6 : inB c.i 1 10000
              · have eb : roomB c = false := by simp only [roomB, h0, h1, h2, h3, h4, h5, h6]; rfl
                rw [eb]
                clear eb
                have H0' := hide h0
                have H1' := hide h1
                have H2' := hide h2
                have H3' := hide h3
                have H4' := hide h4
                have H5' := hide h5
                have H6' := hide h6
                clear h0 h1 h2 h3 h4 h5 h6
                unfold cv
                go_enter Tryz.func143, Tryz.ntmps143
                go_wp2_with fail
                refine (within_any _ _ _ _).mono ?_
                rw [unhide H0']
                rintro e w1 ⟨rfl, rfl⟩
                go_wp2_with fail
                refine (within_any _ _ _ _).mono ?_
                rw [unhide H1']
                rintro e w1 ⟨rfl, rfl⟩
                go_wp2_with fail
                refine (within_any _ _ _ _).mono ?_
                rw [unhide H2']
                rintro e w1 ⟨rfl, rfl⟩
                go_wp2_with fail
                refine (within_any _ _ _ _).mono ?_
                rw [unhide H3']
                rintro e w1 ⟨rfl, rfl⟩
                go_wp2_with fail
                refine (within_any _ _ _ _).mono ?_
                rw [unhide H4']
                rintro e w1 ⟨rfl, rfl⟩
                go_wp2_with fail
                refine (within_any _ _ _ _).mono ?_
                rw [unhide H5']
                rintro e w1 ⟨rfl, rfl⟩
                go_wp2_with fail
                refine (within_any _ _ _ _).mono ?_
                rw [unhide H6']
                rintro e w1 ⟨rfl, rfl⟩
                go_wp2
                go_ret
                exact ⟨rfl, below_new _ _⟩
              ·
                have eb : roomB c = true := by simp only [roomB, h0, h1, h2, h3, h4, h5, h6]; rfl
                rw [eb]
                clear eb
                have H0' := hide h0
                have H1' := hide h1
                have H2' := hide h2
                have H3' := hide h3
                have H4' := hide h4
                have H5' := hide h5
                have H6' := hide h6
                clear h0 h1 h2 h3 h4 h5 h6
                unfold cv
                go_enter Tryz.func143, Tryz.ntmps143
                go_wp2_with fail
                refine (within_any _ _ _ _).mono ?_
                rw [unhide H0']
                rintro e w1 ⟨rfl, rfl⟩
                go_wp2_with fail
                refine (within_any _ _ _ _).mono ?_
                rw [unhide H1']
                rintro e w1 ⟨rfl, rfl⟩
                go_wp2_with fail
                refine (within_any _ _ _ _).mono ?_
                rw [unhide H2']
                rintro e w1 ⟨rfl, rfl⟩
                go_wp2_with fail
                refine (within_any _ _ _ _).mono ?_
                rw [unhide H3']
                rintro e w1 ⟨rfl, rfl⟩
                go_wp2_with fail
                refine (within_any _ _ _ _).mono ?_
                rw [unhide H4']
                rintro e w1 ⟨rfl, rfl⟩
                go_wp2_with fail
                refine (within_any _ _ _ _).mono ?_
                rw [unhide H5']
                rintro e w1 ⟨rfl, rfl⟩
                go_wp2_with fail
                refine (within_any _ _ _ _).mono ?_
                rw [unhide H6']
                rintro e w1 ⟨rfl, rfl⟩
                go_wp2
                go_ret
                exact ⟨rfl, below_new _ _⟩

set_option maxRecDepth 100000 in
theorem isPolicy_any (n : Int) (w : World) : Calls Tryz.prog 144 #[.int .i64 n] w fun e w' => e = .returned (.bool (inB n 0 2)) ∧ w' = w := by
  unfold inB
  by_cases h0 : n = 0
  · subst h0
    go_enter Tryz.func144, Tryz.ntmps144
    go_wp2
    go_ret
    exact ⟨rfl, rfl⟩
  · by_cases h1 : n = 1
    · subst h1
      go_enter Tryz.func144, Tryz.ntmps144
      go_wp2
      go_ret
      exact ⟨rfl, rfl⟩
    · by_cases h2 : n = 2
      · subst h2
        go_enter Tryz.func144, Tryz.ntmps144
        go_wp2
        go_ret
        exact ⟨rfl, rfl⟩
      · have e0 : (n == 0) = false := by simpa using h0
        have e1 : (n == 1) = false := by simpa using h1
        have e2 : (n == 2) = false := by simpa using h2
        have e3 : (decide (0 ≤ n) && decide (n ≤ 2)) = false := by simp; omega
        rw [e3]
        clear e3
        go_enter Tryz.func144, Tryz.ntmps144
        go_wp2
        go_ret
        exact ⟨rfl, rfl⟩

/-- May it be? -/
def okB (c : Cf) : Bool := heapB c && (roomB c && inB c.p 0 2)
/-- 0 where it went well, 1 else. -/
def errOf (b : Bool) : Int := if b then 0 else 1
theorem okB_hp {c : Cf} (h : okB c = true) : Hp c := by
  simp only [okB, heapB, Bool.and_eq_true, inB_iff] at h
  obtain ⟨⟨⟨a1, a2⟩, ⟨a3, a4⟩, ⟨a5, a6⟩, ⟨a7, a8⟩⟩, _⟩ := h
  exact ⟨a1, a2, a3, a4, a5, a6, a7, a8⟩

set_option maxRecDepth 100000 in
theorem check_any (c : Cf) (w : World) : Calls Tryz.prog 129 #[cv c] w fun e w' => e = .returned (.int .i64 (errOf (okB c))) ∧ Below w.heap.size w w' := by
  cases h1 : heapB c
  · have eb : okB c = false := by simp only [okB, h1]; rfl
    rw [eb]
    have H1 := hide h1
    clear eb h1
    unfold cv
    go_enter Tryz.func129, Tryz.ntmps129
    go_wp2_with fail
    refine (heapFits_any c _).mono ?_
    rw [unhide H1]
    rintro e w1 ⟨rfl, hb⟩
    go_wp2
    go_ret
    exact ⟨rfl, below_call hb⟩
  · cases h2 : roomB c
    · have eb : okB c = false := by simp only [okB, h1, h2]; rfl
      rw [eb]
      have H1 := hide h1
      have H2 := hide h2
      clear eb h1 h2
      unfold cv
      go_enter Tryz.func129, Tryz.ntmps129
      go_wp2_with fail
      refine (heapFits_any c _).mono ?_
      rw [unhide H1]
      rintro e w1 ⟨rfl, hb⟩
      have hx := (bx_new c w).next hb
      obtain ⟨a0, a1, a2, a3, a4, a5, a6, a7, a8, a9, a10, a11⟩ := hx.cells
      go_wp2_with fail
      refine (roomFits_any c _).mono ?_
      rw [unhide H2]
      rintro e w2 ⟨rfl, hb2⟩
      go_wp2
      go_ret
      exact ⟨rfl, below_then (below_call hb) hb2⟩
    · have eb : okB c = inB c.p 0 2 := by simp only [okB, h1, h2]; rfl
      rw [eb]
      have H1 := hide h1
      have H2 := hide h2
      clear eb h1 h2
      cases h3 : inB c.p 0 2
      all_goals
        have H3 := hide h3
        clear h3
        unfold cv
        go_enter Tryz.func129, Tryz.ntmps129
        go_wp2_with fail
        refine (heapFits_any c _).mono ?_
        rw [unhide H1]
        rintro e w1 ⟨rfl, hb⟩
        have hx := (bx_new c w).next hb
        obtain ⟨a0, a1, a2, a3, a4, a5, a6, a7, a8, a9, a10, a11⟩ := hx.cells
        go_wp2_with fail
        refine (roomFits_any c _).mono ?_
        rw [unhide H2]
        rintro e w2 ⟨rfl, hb2⟩
        obtain ⟨b0, b1, b2, b3, b4, b5, b6, b7, b8, b9, b10, b11⟩ := (hx.next hb2).cells
        go_wp2_with fail
        refine (isPolicy_any c.p _).mono ?_
        rw [unhide H3]
        rintro e w3 ⟨rfl, hw⟩
        subst hw
        go_wp2
        go_ret
        exact ⟨rfl, below_then (below_call hb) hb2⟩
end Go.Proofs.YtgiklggnolbiiaaGreat

/- What firstStripe, Words, Nodes, Cells of package shape answer. -/
namespace Go.Proofs.YtgiklggnolbiiaaGreat
open Go.RowKit

theorem errOf_f : errOf false = 1 := rfl
theorem errOf_t : errOf true = 0 := rfl
def wordsD (c : Cf) : Int := if okB c then nw c else 0
def nodesD (c : Cf) : Int := if okB c then c.r + no c + ns c else 0
def cellsD (c : Cf) : Int := if okB c then nw c + ns c * 8 else 0

set_option maxRecDepth 100000 in
theorem firstStripe_any (c : Cf) (w : World) (h : Hp c) : Calls Tryz.prog 99 #[cv c] w fun e w' => e = .returned (.int .i64 (c.r + no c)) ∧ Below w.heap.size w w' := by
  have h1 := h.r1
  have h2 := h.r8
  obtain ⟨h3, h4⟩ := no_in h
  unfold cv
  go_enter Tryz.func99, Tryz.ntmps99
  go_wp2_with fail
  have hx := bx_new c w
  have hl := below_new w (.cells #[.int .i64 c.r, .int .i64 c.o, .int .i64 c.s, .int .i64 c.d, .int .i64 c.t, .int .i64 c.l, .int .i64 c.g, .int .i64 c.k, .int .i64 c.u, .int .i64 c.e, .int .i64 c.i, .int .i64 c.p] 68)
  go_region_held3 (fun wz => wz.cell? ⟨w.heap.size, 0, none⟩ = some (.int .i64 c.r) ∧ wz.cell? ⟨w.heap.size, 1, none⟩ = some (.int .i64 c.o) ∧ wz.cell? ⟨w.heap.size, 2, none⟩ = some (.int .i64 c.s) ∧ wz.cell? ⟨w.heap.size, 3, none⟩ = some (.int .i64 c.d) ∧ wz.cell? ⟨w.heap.size, 4, none⟩ = some (.int .i64 c.t) ∧ wz.cell? ⟨w.heap.size, 5, none⟩ = some (.int .i64 c.l) ∧ wz.cell? ⟨w.heap.size, 6, none⟩ = some (.int .i64 c.g) ∧ wz.cell? ⟨w.heap.size, 7, none⟩ = some (.int .i64 c.k) ∧ wz.cell? ⟨w.heap.size, 8, none⟩ = some (.int .i64 c.u) ∧ wz.cell? ⟨w.heap.size, 9, none⟩ = some (.int .i64 c.e) ∧ wz.cell? ⟨w.heap.size, 10, none⟩ = some (.int .i64 c.i) ∧ wz.cell? ⟨w.heap.size, 11, none⟩ = some (.int .i64 c.p)) (first | exact hx3.cells | exact hx2.cells | exact hx1.cells | exact hx.drew.cells)
    (first
      | (go_at_call 106; refine (firstObject_any c _).mono ?_; rintro e wz ⟨rfl, hbz⟩; first | (have hx3 := hx2.next hbz; have hl3 := below_then hl2 hbz) | (have hx2 := hx1.next hbz; have hl2 := below_then hl1 hbz) | (have hx1 := hx.drew.next hbz; have hl1 := below_then hl.drew hbz))
        | (go_at_call 131; refine (objects_any c _ h).mono ?_; rintro e wz ⟨rfl, hbz⟩; first | (have hx3 := hx2.next hbz; have hl3 := below_then hl2 hbz) | (have hx2 := hx1.next hbz; have hl2 := below_then hl1 hbz) | (have hx1 := hx.drew.next hbz; have hl1 := below_then hl.drew hbz)))
  all_goals
    go_wp2
    go_ret
    exact ⟨ret_int (by simp only [IntKind.wrap_i64]; omega), hl2⟩

set_option maxRecDepth 100000 in
theorem words_any (c : Cf) (w : World) : Calls Tryz.prog 98 #[cv c] w fun e w' => e = .returned (.int .i64 (wordsD c)) ∧ Below w.heap.size w w' := by
  cases h : okB c
  · have eb : wordsD c = 0 := by simp [wordsD, h]
    rw [eb]
    have H := hide h
    clear eb h
    unfold cv
    go_enter Tryz.func98, Tryz.ntmps98
    go_wp2_with fail
    refine (check_any c _).mono ?_
    rw [unhide H, errOf_f]
    rintro e w1 ⟨rfl, hb⟩
    go_wp2
    go_ret
    exact ⟨rfl, below_call hb⟩
  · have eb : wordsD c = nw c := by simp [wordsD, h]
    rw [eb]
    have hp := okB_hp h
    have H := hide h
    clear eb h
    have e1 : IntKind.i64.wrap (ns c * c.d) = nw c := kin (by have := nw_in hp; unfold nw at this; omega) (by have := nw_in hp; unfold nw at this; omega)
    unfold cv
    go_enter Tryz.func98, Tryz.ntmps98
    go_wp2_with fail
    refine (check_any c _).mono ?_
    rw [unhide H, errOf_t]
    rintro e w1 ⟨rfl, hb⟩
    have hx := (bx_new c w).next hb
    have hl := below_call hb
    obtain ⟨a0, a1, a2, a3, a4, a5, a6, a7, a8, a9, a10, a11⟩ := hx.cells
    go_wp2_with fail
    go_region_held3 (fun wz => wz.cell? ⟨w.heap.size, 0, none⟩ = some (.int .i64 c.r) ∧ wz.cell? ⟨w.heap.size, 1, none⟩ = some (.int .i64 c.o) ∧ wz.cell? ⟨w.heap.size, 2, none⟩ = some (.int .i64 c.s) ∧ wz.cell? ⟨w.heap.size, 3, none⟩ = some (.int .i64 c.d) ∧ wz.cell? ⟨w.heap.size, 4, none⟩ = some (.int .i64 c.t) ∧ wz.cell? ⟨w.heap.size, 5, none⟩ = some (.int .i64 c.l) ∧ wz.cell? ⟨w.heap.size, 6, none⟩ = some (.int .i64 c.g) ∧ wz.cell? ⟨w.heap.size, 7, none⟩ = some (.int .i64 c.k) ∧ wz.cell? ⟨w.heap.size, 8, none⟩ = some (.int .i64 c.u) ∧ wz.cell? ⟨w.heap.size, 9, none⟩ = some (.int .i64 c.e) ∧ wz.cell? ⟨w.heap.size, 10, none⟩ = some (.int .i64 c.i) ∧ wz.cell? ⟨w.heap.size, 11, none⟩ = some (.int .i64 c.p)) (first | exact hx3.cells | exact hx2.cells | exact hx1.cells | exact hx.drew.cells)
      (first
        | (go_at_call 130; refine (stripes_any c _ hp).mono ?_; rintro e wz ⟨rfl, hbz⟩; first | (have hx3 := hx2.next hbz; have hl3 := below_then hl2 hbz) | (have hx2 := hx1.next hbz; have hl2 := below_then hl1 hbz) | (have hx1 := hx.drew.next hbz; have hl1 := below_then hl.drew hbz)))
    all_goals
      go_wp2
      go_ret
      exact ⟨by first | rfl | exact ret_int (by simp only [IntKind.wrap_i64]; omega), hl1⟩

set_option maxRecDepth 100000 in
theorem nodes_any (c : Cf) (w : World) : Calls Tryz.prog 105 #[cv c] w fun e w' => e = .returned (.int .i64 (nodesD c)) ∧ Below w.heap.size w w' := by
  cases h : okB c
  · have eb : nodesD c = 0 := by simp [nodesD, h]
    rw [eb]
    have H := hide h
    clear eb h
    unfold cv
    go_enter Tryz.func105, Tryz.ntmps105
    go_wp2_with fail
    refine (check_any c _).mono ?_
    rw [unhide H, errOf_f]
    rintro e w1 ⟨rfl, hb⟩
    go_wp2
    go_ret
    exact ⟨rfl, below_call hb⟩
  · have eb : nodesD c = c.r + no c + ns c := by simp [nodesD, h]
    rw [eb]
    have hp := okB_hp h
    have H := hide h
    clear eb h
    have h1 := hp.r1
    have h2 := hp.r8
    obtain ⟨h3, h4⟩ := no_in hp
    obtain ⟨h5, h6⟩ := ns_in hp
    obtain ⟨h7, h8⟩ := nw_in hp
    unfold cv
    go_enter Tryz.func105, Tryz.ntmps105
    go_wp2_with fail
    refine (check_any c _).mono ?_
    rw [unhide H, errOf_t]
    rintro e w1 ⟨rfl, hb⟩
    have hx := (bx_new c w).next hb
    have hl := below_call hb
    obtain ⟨a0, a1, a2, a3, a4, a5, a6, a7, a8, a9, a10, a11⟩ := hx.cells
    go_wp2_with fail
    go_region_held3 (fun wz => wz.cell? ⟨w.heap.size, 0, none⟩ = some (.int .i64 c.r) ∧ wz.cell? ⟨w.heap.size, 1, none⟩ = some (.int .i64 c.o) ∧ wz.cell? ⟨w.heap.size, 2, none⟩ = some (.int .i64 c.s) ∧ wz.cell? ⟨w.heap.size, 3, none⟩ = some (.int .i64 c.d) ∧ wz.cell? ⟨w.heap.size, 4, none⟩ = some (.int .i64 c.t) ∧ wz.cell? ⟨w.heap.size, 5, none⟩ = some (.int .i64 c.l) ∧ wz.cell? ⟨w.heap.size, 6, none⟩ = some (.int .i64 c.g) ∧ wz.cell? ⟨w.heap.size, 7, none⟩ = some (.int .i64 c.k) ∧ wz.cell? ⟨w.heap.size, 8, none⟩ = some (.int .i64 c.u) ∧ wz.cell? ⟨w.heap.size, 9, none⟩ = some (.int .i64 c.e) ∧ wz.cell? ⟨w.heap.size, 10, none⟩ = some (.int .i64 c.i) ∧ wz.cell? ⟨w.heap.size, 11, none⟩ = some (.int .i64 c.p)) (first | exact hx3.cells | exact hx2.cells | exact hx1.cells | exact hx.drew.cells)
      (first
        | (go_at_call 99; refine (firstStripe_any c _ hp).mono ?_; rintro e wz ⟨rfl, hbz⟩; first | (have hx3 := hx2.next hbz; have hl3 := below_then hl2 hbz) | (have hx2 := hx1.next hbz; have hl2 := below_then hl1 hbz) | (have hx1 := hx.drew.next hbz; have hl1 := below_then hl.drew hbz))
          | (go_at_call 130; refine (stripes_any c _ hp).mono ?_; rintro e wz ⟨rfl, hbz⟩; first | (have hx3 := hx2.next hbz; have hl3 := below_then hl2 hbz) | (have hx2 := hx1.next hbz; have hl2 := below_then hl1 hbz) | (have hx1 := hx.drew.next hbz; have hl1 := below_then hl.drew hbz)))
    all_goals
      go_wp2
      go_ret
      exact ⟨by first | rfl | exact ret_int (by simp only [IntKind.wrap_i64]; omega), hl2⟩

theorem words_ok (c : Cf) (w : World) (h : okB c = true) : Calls Tryz.prog 98 #[cv c] w fun e w' => e = .returned (.int .i64 (nw c)) ∧ Below w.heap.size w w' := by
  have := words_any c w
  simp only [wordsD, h, if_true] at this
  exact this

end Go.Proofs.YtgiklggnolbiiaaGreat

/- What Level, Parent, Latch, Path of package shape answer. -/
namespace Go.Proofs.YtgiklggnolbiiaaGreat
open Go.RowKit

def levelD (c : Cf) (n : Int) : Int := if n < 0 ∨ nodesD c ≤ n then -1 else if n < c.r then 0 else if n < c.r + no c then 1 else 2
def parentD (c : Cf) (n : Int) : Int := if levelD c n = 1 then (n - c.r) / c.o else if levelD c n = 2 then c.r + (n - (c.r + no c)) / c.s else -1
def latchD (c : Cf) (n : Int) : Int := if levelD c n = 2 then nw c + (n - (c.r + no c)) * 8 else -1
theorem nodes_pos {c : Cf} {n : Int} (h0 : 0 ≤ n) (h : n < nodesD c) : okB c = true := by
  cases e : okB c
  · simp [nodesD, e] at h; omega
  · rfl
theorem nodes_ok {c : Cf} (h : okB c = true) : nodesD c = c.r + no c + ns c := by simp [nodesD, h]
theorem words_eq {c : Cf} (h : okB c = true) : wordsD c = nw c := by simp [wordsD, h]
theorem words_pos {c : Cf} {a : Int} (h0 : 0 ≤ a) (h : a < wordsD c) : okB c = true := by
  cases e : okB c
  · simp [wordsD, e] at h; omega
  · rfl
theorem level_m {c : Cf} {n : Int} (h : n < 0 ∨ nodesD c ≤ n) : levelD c n = -1 := by unfold levelD; rw [if_pos h]
theorem level_0 {c : Cf} {n : Int} (h0 : 0 ≤ n) (h1 : n < nodesD c) (h : n < c.r) : levelD c n = 0 := by unfold levelD; rw [if_neg (by omega), if_pos h]
theorem level_1 {c : Cf} {n : Int} (h0 : 0 ≤ n) (h1 : n < nodesD c) (h : c.r ≤ n) (h2 : n < c.r + no c) : levelD c n = 1 := by unfold levelD; rw [if_neg (by omega), if_neg (by omega), if_pos h2]
theorem level_2 {c : Cf} {n : Int} (h0 : 0 ≤ n) (h1 : n < nodesD c) (h : c.r ≤ n) (h2 : c.r + no c ≤ n) : levelD c n = 2 := by unfold levelD; rw [if_neg (by omega), if_neg (by omega), if_neg (by omega)]
/-- The four ways. -/
theorem level_ways (c : Cf) (n : Int) : (levelD c n = -1 ∧ (n < 0 ∨ nodesD c ≤ n)) ∨ (0 ≤ n ∧ n < nodesD c ∧ okB c = true ∧ ((levelD c n = 0 ∧ n < c.r) ∨ (levelD c n = 1 ∧ c.r ≤ n ∧ n < c.r + no c) ∨ (levelD c n = 2 ∧ c.r ≤ n ∧ c.r + no c ≤ n))) := by
  by_cases h : n < 0 ∨ nodesD c ≤ n
  · exact .inl ⟨level_m h, h⟩
  · have h0 : 0 ≤ n := by omega
    have h1 : n < nodesD c := by omega
    refine .inr ⟨h0, h1, nodes_pos h0 h1, ?_⟩
    by_cases h2 : n < c.r
    · exact .inl ⟨level_0 h0 h1 h2, h2⟩
    · by_cases h3 : n < c.r + no c
      · exact .inr (.inl ⟨level_1 h0 h1 (by omega) h3, by omega, h3⟩)
      · exact .inr (.inr ⟨level_2 h0 h1 (by omega) (by omega), by omega, by omega⟩)

set_option maxRecDepth 100000 in
theorem level_any (c : Cf) (n : Int) (w : World) : Calls Tryz.prog 72 #[cv c, .int .i64 n] w fun e w' => e = .returned (.int .i64 (levelD c n)) ∧ Below w.heap.size w w' := by
  rcases level_ways c n with ⟨e0, h⟩ | ⟨h0, hn, hk, h⟩
  · rw [e0]
    clear e0
    by_cases h0 : n < 0
    · unfold cv
      go_enter Tryz.func72, Tryz.ntmps72
      go_wp2
      go_ret
      exact ⟨rfl, below_new _ _⟩
    · have h1 : nodesD c ≤ n := by omega
      clear h
      unfold cv
      go_enter Tryz.func72, Tryz.ntmps72
      go_wp2_with fail
      refine (nodes_any c _).mono ?_
      rintro e w1 ⟨rfl, hb⟩
      have hl := below_call hb
      have hx := (bx_new c w).next hb
      go_wp2
      go_ret
      exact ⟨rfl, hl⟩
  · have hp := okB_hp hk
    have H := hide hk
    clear hk
    rcases h with ⟨e0, h⟩ | ⟨e0, h, h'⟩ | ⟨e0, h, h'⟩
    · rw [e0]
      clear e0
      unfold cv
      go_enter Tryz.func72, Tryz.ntmps72
      go_wp2_with fail
      refine (nodes_any c _).mono ?_
      rintro e w1 ⟨rfl, hb⟩
      have hl := below_call hb
      have hx := (bx_new c w).next hb
      obtain ⟨a0, a1, a2, a3, a4, a5, a6, a7, a8, a9, a10, a11⟩ := hx.cells
      go_wp2_with fail
      refine (firstObject_any c _).mono ?_
      rintro e w2 ⟨rfl, hb2⟩
      have hl := below_then hl hb2
      have hx := hx.next hb2
      go_wp2
      go_ret
      exact ⟨rfl, hl⟩
    · rw [e0]
      clear e0
      unfold cv
      go_enter Tryz.func72, Tryz.ntmps72
      go_wp2_with fail
      refine (nodes_any c _).mono ?_
      rintro e w1 ⟨rfl, hb⟩
      have hl := below_call hb
      have hx := (bx_new c w).next hb
      obtain ⟨a0, a1, a2, a3, a4, a5, a6, a7, a8, a9, a10, a11⟩ := hx.cells
      go_wp2_with fail
      refine (firstObject_any c _).mono ?_
      rintro e w2 ⟨rfl, hb2⟩
      have hl := below_then hl hb2
      have hx := hx.next hb2
      obtain ⟨b0, b1, b2, b3, b4, b5, b6, b7, b8, b9, b10, b11⟩ := hx.cells
      go_wp2_with fail
      refine (firstStripe_any c _ hp).mono ?_
      rintro e w3 ⟨rfl, hb3⟩
      have hl := below_then hl hb3
      have hx := hx.next hb3
      go_wp2
      go_ret
      exact ⟨rfl, hl⟩
    · rw [e0]
      clear e0
      unfold cv
      go_enter Tryz.func72, Tryz.ntmps72
      go_wp2_with fail
      refine (nodes_any c _).mono ?_
      rintro e w1 ⟨rfl, hb⟩
      have hl := below_call hb
      have hx := (bx_new c w).next hb
      obtain ⟨a0, a1, a2, a3, a4, a5, a6, a7, a8, a9, a10, a11⟩ := hx.cells
      go_wp2_with fail
      refine (firstObject_any c _).mono ?_
      rintro e w2 ⟨rfl, hb2⟩
      have hl := below_then hl hb2
      have hx := hx.next hb2
      obtain ⟨b0, b1, b2, b3, b4, b5, b6, b7, b8, b9, b10, b11⟩ := hx.cells
      go_wp2_with fail
      refine (firstStripe_any c _ hp).mono ?_
      rintro e w3 ⟨rfl, hb3⟩
      have hl := below_then hl hb3
      have hx := hx.next hb3
      go_wp2
      go_ret
      exact ⟨rfl, hl⟩

set_option maxRecDepth 100000 in
theorem parent_any (c : Cf) (n : Int) (w : World) : Calls Tryz.prog 100 #[cv c, .int .i64 n] w fun e w' => e = .returned (.int .i64 (parentD c n)) ∧ Below w.heap.size w w' := by
  rcases level_ways c n with ⟨e0, h⟩ | ⟨h0, hn, hk, h⟩
  · have e1 : parentD c n = -1 := by simp [parentD, e0]
    rw [e1]
    have E0 := hide e0
    clear e0 e1
    unfold cv
    go_enter Tryz.func100, Tryz.ntmps100
    go_wp2_with fail
    refine (level_any c n _).mono ?_
    rw [unhide E0]
    rintro e w1 ⟨rfl, hb⟩
    have hl := below_call hb
    go_wp2
    go_ret
    exact ⟨rfl, hl⟩
  · have hp := okB_hp hk
    have h1 := hp.r1
    have h2 := hp.r8
    have g1 := hp.o1
    have g2 := hp.o8
    have g3 := hp.s1
    have g4 := hp.s8
    obtain ⟨h3, h4⟩ := no_in hp
    obtain ⟨h5, h6⟩ := ns_in hp
    obtain ⟨h7, h8⟩ := nw_in hp
    rw [nodes_ok hk] at hn
    have H := hide hk
    clear hk
    rcases h with ⟨e0, h⟩ | ⟨e0, h, h'⟩ | ⟨e0, h, h'⟩
    · have e1 : parentD c n = -1 := by simp [parentD, e0]
      rw [e1]
      have E0 := hide e0
      clear e0 e1
      unfold cv
      go_enter Tryz.func100, Tryz.ntmps100
      go_wp2_with fail
      refine (level_any c n _).mono ?_
      rw [unhide E0]
      rintro e w1 ⟨rfl, hb⟩
      have hl := below_call hb
      go_wp2
      go_ret
      exact ⟨rfl, hl⟩
    · have e1 : parentD c n = (n - c.r) / c.o := by simp [parentD, e0]
      rw [e1]
      have E0 := hide e0
      clear e0 e1
      have q1 : IntKind.i64.wrap (n - c.r) = n - c.r := kin (by omega) (by omega)
      have q2 : IntKind.i64.wrap ((n - c.r).tdiv c.o) = (n - c.r) / c.o := IntWalk.i64_quo _ _ ⟨by omega, by omega, by omega⟩
      have q3 : c.o ≠ 0 := by omega
      unfold cv
      go_enter Tryz.func100, Tryz.ntmps100
      go_wp2_with fail
      refine (level_any c n _).mono ?_
      rw [unhide E0]
      rintro e w1 ⟨rfl, hb⟩
      have hl := below_call hb
      have hx := (bx_new c w).next hb
      obtain ⟨a0, a1, a2, a3, a4, a5, a6, a7, a8, a9, a10, a11⟩ := hx.cells
      go_wp2_with fail
      go_region_held3 (fun wz => wz.cell? ⟨w.heap.size, 0, none⟩ = some (.int .i64 c.r) ∧ wz.cell? ⟨w.heap.size, 1, none⟩ = some (.int .i64 c.o) ∧ wz.cell? ⟨w.heap.size, 2, none⟩ = some (.int .i64 c.s) ∧ wz.cell? ⟨w.heap.size, 3, none⟩ = some (.int .i64 c.d) ∧ wz.cell? ⟨w.heap.size, 4, none⟩ = some (.int .i64 c.t) ∧ wz.cell? ⟨w.heap.size, 5, none⟩ = some (.int .i64 c.l) ∧ wz.cell? ⟨w.heap.size, 6, none⟩ = some (.int .i64 c.g) ∧ wz.cell? ⟨w.heap.size, 7, none⟩ = some (.int .i64 c.k) ∧ wz.cell? ⟨w.heap.size, 8, none⟩ = some (.int .i64 c.u) ∧ wz.cell? ⟨w.heap.size, 9, none⟩ = some (.int .i64 c.e) ∧ wz.cell? ⟨w.heap.size, 10, none⟩ = some (.int .i64 c.i) ∧ wz.cell? ⟨w.heap.size, 11, none⟩ = some (.int .i64 c.p)) (first | exact hx3.cells | exact hx2.cells | exact hx1.cells | exact hx.drew.cells)
        (first
          | (go_at_call 106; refine (firstObject_any c _).mono ?_; rintro e wz ⟨rfl, hbz⟩; first | (have hx3 := hx2.next hbz; have hl3 := below_then hl2 hbz) | (have hx2 := hx1.next hbz; have hl2 := below_then hl1 hbz) | (have hx1 := hx.drew.next hbz; have hl1 := below_then hl.drew hbz)))
      all_goals
        go_wp2
        go_ret
        exact ⟨by first | rfl | exact ret_int (by simp only [q1, q2]), hl1⟩
    · have e1 : parentD c n = c.r + (n - (c.r + no c)) / c.s := by simp [parentD, e0]
      rw [e1]
      have E0 := hide e0
      clear e0 e1
      have q1 : IntKind.i64.wrap (n - (c.r + no c)) = n - (c.r + no c) := kin (by omega) (by omega)
      have q2 : IntKind.i64.wrap ((n - (c.r + no c)).tdiv c.s) = (n - (c.r + no c)) / c.s := IntWalk.i64_quo _ _ ⟨by omega, by omega, by omega⟩
      have q3 : c.s ≠ 0 := by omega
      have q4 : 0 ≤ (n - (c.r + no c)) / c.s := Int.ediv_nonneg (by omega) (by omega)
      have q5 : (n - (c.r + no c)) / c.s ≤ n - (c.r + no c) := Int.ediv_le_self _ (by omega)
      have q6 : IntKind.i64.wrap (c.r + (n - (c.r + no c)) / c.s) = c.r + (n - (c.r + no c)) / c.s := kin (by omega) (by omega)
      unfold cv
      go_enter Tryz.func100, Tryz.ntmps100
      go_wp2_with fail
      refine (level_any c n _).mono ?_
      rw [unhide E0]
      rintro e w1 ⟨rfl, hb⟩
      have hl := below_call hb
      have hx := (bx_new c w).next hb
      obtain ⟨a0, a1, a2, a3, a4, a5, a6, a7, a8, a9, a10, a11⟩ := hx.cells
      go_wp2_with fail
      go_region_held3 (fun wz => wz.cell? ⟨w.heap.size, 0, none⟩ = some (.int .i64 c.r) ∧ wz.cell? ⟨w.heap.size, 1, none⟩ = some (.int .i64 c.o) ∧ wz.cell? ⟨w.heap.size, 2, none⟩ = some (.int .i64 c.s) ∧ wz.cell? ⟨w.heap.size, 3, none⟩ = some (.int .i64 c.d) ∧ wz.cell? ⟨w.heap.size, 4, none⟩ = some (.int .i64 c.t) ∧ wz.cell? ⟨w.heap.size, 5, none⟩ = some (.int .i64 c.l) ∧ wz.cell? ⟨w.heap.size, 6, none⟩ = some (.int .i64 c.g) ∧ wz.cell? ⟨w.heap.size, 7, none⟩ = some (.int .i64 c.k) ∧ wz.cell? ⟨w.heap.size, 8, none⟩ = some (.int .i64 c.u) ∧ wz.cell? ⟨w.heap.size, 9, none⟩ = some (.int .i64 c.e) ∧ wz.cell? ⟨w.heap.size, 10, none⟩ = some (.int .i64 c.i) ∧ wz.cell? ⟨w.heap.size, 11, none⟩ = some (.int .i64 c.p)) (first | exact hx3.cells | exact hx2.cells | exact hx1.cells | exact hx.drew.cells)
        (first
          | (go_at_call 106; refine (firstObject_any c _).mono ?_; rintro e wz ⟨rfl, hbz⟩; first | (have hx3 := hx2.next hbz; have hl3 := below_then hl2 hbz) | (have hx2 := hx1.next hbz; have hl2 := below_then hl1 hbz) | (have hx1 := hx.drew.next hbz; have hl1 := below_then hl.drew hbz))
            | (go_at_call 99; refine (firstStripe_any c _ hp).mono ?_; rintro e wz ⟨rfl, hbz⟩; first | (have hx3 := hx2.next hbz; have hl3 := below_then hl2 hbz) | (have hx2 := hx1.next hbz; have hl2 := below_then hl1 hbz) | (have hx1 := hx.drew.next hbz; have hl1 := below_then hl.drew hbz)))
      all_goals
        go_wp2
        go_ret
        exact ⟨by first | rfl | exact ret_int (by simp only [q1, q2, q6]), hl2⟩

end Go.Proofs.YtgiklggnolbiiaaGreat

/- What Path of package shape answers, and what the law's own 'first'. -/
namespace Go.Proofs.YtgiklggnolbiiaaGreat
open Go.RowKit

/-- The word a's stripe, object and region, each counted from 0 on. -/
def sD (c : Cf) (a : Int) : Int := a / c.d
def oD (c : Cf) (a : Int) : Int := a / c.d / c.s
def rD (c : Cf) (a : Int) : Int := a / c.d / c.s / c.o
theorem div_in {a n m : Int} (h0 : 0 ≤ a) (h1 : a < n * m) (hm : 1 ≤ m) : 0 ≤ a / m ∧ a / m < n := ⟨Int.ediv_nonneg h0 (by omega), Int.ediv_lt_of_lt_mul (by omega) h1⟩
theorem s_in {c : Cf} (hp : Hp c) {a : Int} (h0 : 0 ≤ a) (h1 : a < nw c) : 0 ≤ sD c a ∧ sD c a < ns c := div_in h0 h1 hp.d1
theorem o_in {c : Cf} (hp : Hp c) {a : Int} (h0 : 0 ≤ a) (h1 : a < nw c) : 0 ≤ oD c a ∧ oD c a < no c := div_in (s_in hp h0 h1).1 (s_in hp h0 h1).2 hp.s1
theorem r_in {c : Cf} (hp : Hp c) {a : Int} (h0 : 0 ≤ a) (h1 : a < nw c) : 0 ≤ rD c a ∧ rD c a < c.r := div_in (o_in hp h0 h1).1 (o_in hp h0 h1).2 hp.o1
theorem level_s {c : Cf} (h : okB c = true) {n : Int} (h0 : 0 ≤ n) (h1 : n < ns c) : levelD c (c.r + no c + n) = 2 := by
  have hp := okB_hp h
  have := hp.r1; have := no_in hp
  exact level_2 (by omega) (by rw [nodes_ok h]; omega) (by omega) (by omega)
theorem level_o {c : Cf} (h : okB c = true) {n : Int} (h0 : 0 ≤ n) (h1 : n < no c) : levelD c (c.r + n) = 1 := by
  have hp := okB_hp h
  have := hp.r1; have := ns_in hp
  exact level_1 (by omega) (by rw [nodes_ok h]; omega) (by omega) (by omega)
theorem level_r {c : Cf} (h : okB c = true) {n : Int} (h0 : 0 ≤ n) (h1 : n < c.r) : levelD c n = 0 := by
  have hp := okB_hp h
  have := ns_in hp; have := no_in hp
  exact level_0 (by omega) (by rw [nodes_ok h]; omega) (by omega)
theorem parent_s {c : Cf} (h : okB c = true) {n : Int} (h0 : 0 ≤ n) (h1 : n < ns c) : parentD c (c.r + no c + n) = c.r + n / c.s := by
  have e : c.r + no c + n - (c.r + no c) = n := by omega
  simp [parentD, level_s h h0 h1, e]
theorem parent_o {c : Cf} (h : okB c = true) {n : Int} (h0 : 0 ≤ n) (h1 : n < no c) : parentD c (c.r + n) = n / c.o := by
  have e : c.r + n - c.r = n := by omega
  simp [parentD, level_o h h0 h1, e]
theorem parent_r {c : Cf} (h : okB c = true) {n : Int} (h0 : 0 ≤ n) (h1 : n < c.r) : parentD c n = -1 := by
  simp [parentD, level_r h h0 h1]
theorem latch_s {c : Cf} (h : okB c = true) {n : Int} (h0 : 0 ≤ n) (h1 : n < ns c) : latchD c (c.r + no c + n) = nw c + n * 8 := by
  have e : c.r + no c + n - (c.r + no c) = n := by omega
  simp [latchD, level_s h h0 h1, e]

set_option maxRecDepth 100000 in
theorem path_no (c : Cf) (a : Int) (w : World) (h : ¬ (0 ≤ a ∧ a < wordsD c)) : Calls Tryz.prog 61 #[cv c, .int .i64 a] w fun e w' => e = .returned (.tuple #[.int .i64 (0), .int .i64 (0), .int .i64 (0), .int .i64 (1)]) ∧ Below w.heap.size w w' := by
  by_cases h0 : a < 0
  · unfold cv
    go_enter Tryz.func61, Tryz.ntmps61
    go_wp2
    exact bodyPost_ret (v := .tuple #[.int .i64 (0), .int .i64 (0), .int .i64 (0), .int .i64 (1)]) (by simp [results, Tryz.results61, go_sem]) rfl ⟨rfl, below_new _ _⟩
  · have h1 : wordsD c ≤ a := by omega
    clear h
    unfold cv
    go_enter Tryz.func61, Tryz.ntmps61
    go_wp2_with fail
    refine (words_any c _).mono ?_
    rintro e w1 ⟨rfl, hb⟩
    have hl := below_call hb
    have hx := (bx_new c w).next hb
    go_wp2
    exact bodyPost_ret (v := .tuple #[.int .i64 (0), .int .i64 (0), .int .i64 (0), .int .i64 (1)]) (by simp [results, Tryz.results61, go_sem]) rfl ⟨rfl, hl⟩

set_option maxRecDepth 100000 in
theorem path_ok (c : Cf) (a : Int) (w : World) (h : okB c = true) (h0 : 0 ≤ a) (h1 : a < nw c) : Calls Tryz.prog 61 #[cv c, .int .i64 a] w fun e w' => e = .returned (.tuple #[.int .i64 (rD c a), .int .i64 (c.r + oD c a), .int .i64 (c.r + no c + sD c a), .int .i64 (0)]) ∧ Below w.heap.size w w' := by
  have hp := okB_hp h
  obtain ⟨s0, s1⟩ := s_in hp h0 h1
  obtain ⟨o0, o1⟩ := o_in hp h0 h1
  have h1 := hp.r1
  have h2 := hp.r8
  have g1 := hp.o1
  have g2 := hp.o8
  have g3 := hp.s1
  have g4 := hp.s8
  obtain ⟨h3, h4⟩ := no_in hp
  obtain ⟨h5, h6⟩ := ns_in hp
  obtain ⟨h7, h8⟩ := nw_in hp
  have d1 := hp.d1
  have f1 := parent_s h s0 s1
  have f2 := parent_o h o0 o1
  have E1 : Hid (parentD c (c.r + no c + sD c a) = c.r + oD c a) := f1
  have E2 : Hid (parentD c (c.r + oD c a) = rD c a) := f2
  have H := hide h
  clear f1 f2 h
  have q2 : IntKind.i64.wrap (a.tdiv c.d) = sD c a := IntWalk.i64_quo _ _ ⟨by omega, by omega, by omega⟩
  have q3 : c.d ≠ 0 := by omega
  have q6 : IntKind.i64.wrap (c.r + no c + sD c a) = c.r + no c + sD c a := kin (by omega) (by omega)
  unfold cv
  go_enter Tryz.func61, Tryz.ntmps61
  go_wp2_with fail
  refine (words_ok c _ (unhide H)).mono ?_
  rintro e w1 ⟨rfl, hb⟩
  have hl := below_call hb
  have hx := (bx_new c w).next hb
  obtain ⟨a0, a1, a2, a3, a4, a5, a6, a7, a8, a9, a10, a11⟩ := hx.cells
  go_wp2_with fail
  go_region_held3 (fun wz => wz.cell? ⟨w.heap.size, 0, none⟩ = some (.int .i64 c.r) ∧ wz.cell? ⟨w.heap.size, 1, none⟩ = some (.int .i64 c.o) ∧ wz.cell? ⟨w.heap.size, 2, none⟩ = some (.int .i64 c.s) ∧ wz.cell? ⟨w.heap.size, 3, none⟩ = some (.int .i64 c.d) ∧ wz.cell? ⟨w.heap.size, 4, none⟩ = some (.int .i64 c.t) ∧ wz.cell? ⟨w.heap.size, 5, none⟩ = some (.int .i64 c.l) ∧ wz.cell? ⟨w.heap.size, 6, none⟩ = some (.int .i64 c.g) ∧ wz.cell? ⟨w.heap.size, 7, none⟩ = some (.int .i64 c.k) ∧ wz.cell? ⟨w.heap.size, 8, none⟩ = some (.int .i64 c.u) ∧ wz.cell? ⟨w.heap.size, 9, none⟩ = some (.int .i64 c.e) ∧ wz.cell? ⟨w.heap.size, 10, none⟩ = some (.int .i64 c.i) ∧ wz.cell? ⟨w.heap.size, 11, none⟩ = some (.int .i64 c.p)) (first | exact hx3.cells | exact hx2.cells | exact hx1.cells | exact hx.drew.cells)
    (first
      | (go_at_call 99; refine (firstStripe_any c _ hp).mono ?_; rintro e wz ⟨rfl, hbz⟩; first | (have hx3 := hx2.next hbz; have hl3 := below_then hl2 hbz) | (have hx2 := hx1.next hbz; have hl2 := below_then hl1 hbz) | (have hx1 := hx.drew.next hbz; have hl1 := below_then hl.drew hbz)))
  obtain ⟨b0, b1, b2, b3, b4, b5, b6, b7, b8, b9, b10, b11⟩ := hx1.cells
  go_wp2_with fail
  refine (parent_any c (c.r + no c + sD c a) _).mono ?_
  rw [unhide E1]
  rintro e w3 ⟨rfl, hb3⟩
  have hl3 := below_then hl1 hb3
  have hx3 := hx1.next hb3
  obtain ⟨d0, d1, d2, d3, d4, d5, d6, d7, d8, d9, d10, d11⟩ := hx3.cells
  go_wp2_with fail
  refine (parent_any c (c.r + oD c a) _).mono ?_
  rw [unhide E2]
  rintro e w4 ⟨rfl, hb4⟩
  go_wp2
  exact bodyPost_ret (v := .tuple #[.int .i64 (rD c a), .int .i64 (c.r + oD c a), .int .i64 (c.r + no c + sD c a), .int .i64 (0)]) (by simp [results, Tryz.results61, go_sem]) rfl ⟨rfl, below_then hl3 hb4⟩

/-- One of each. -/
def one : Cf := ⟨1, 1, 1, 1, 1, 0, 1, 1, 1, 0, 1, 0⟩
end Go.Proofs.YtgiklggnolbiiaaGreat

/- A struct of whole numbers that came in by value: it is a configuration. -/
namespace Go.Proofs.YtgiklggnolbiiaaGreat
open Go.RowKit Go.Deep Go.WideShapes

/-- Such a struct's cells. -/
theorem open_rec {H : Type} {enc : TypeId × Value → H} {P : Program} {w : World} {base : Nat} {spare : Nat → Bool} {held : Bool} {e : TypeId} {N fuel : Nat} {cs : List Value} {x : DataW H × List MemPlace} (hp : plainInts P e N = true)
    (h : DataW.trod enc P w base spare held fuel e cs = some x) : cs.length = N ∧ ∃ Z : Nat → Int, ∀ j, j < N → cs[j]? = some (.int .i64 (Z j)) ∧ (Lit.int .i64 (Z j)).wf = true := by
  obtain ⟨fs, he, hN, ce, hall⟩ := plainInts_out hp
  obtain ⟨xs, k, hk, hxy, hlen, hxl, hf⟩ := DataW.trod_struct he h
  refine ⟨by omega, choose_lt (p := fun j z => cs[j]? = some (.int .i64 z) ∧ (Lit.int .i64 z).wf = true) ?_⟩
  intro j hj
  have hj' : j < fs.size := by omega
  obtain ⟨o1, o2, o3⟩ := hall j fs[j] (Array.getElem?_eq_getElem hj')
  have g := hf j fs[j] (Array.getElem?_eq_getElem hj')
  rw [o1, o2] at g
  have hjc : j < cs.length := by omega
  rw [List.drop_eq_getElem_cons hjc, List.take_succ_cons, List.take_zero, List.getElem?_eq_getElem (by omega)] at g
  obtain ⟨z, hz, _, hw⟩ := DataW.trod_int o3 g
  refine ⟨z, ?_, hw⟩
  rw [List.getElem?_eq_getElem hjc]
  simpa using hz

theorem conf_plain : plainInts Tryz.prog 68 12 = true := by kernel_rfl
theorem list12 {l : List Value} (h : l.length = 12) {Z : Nat → Int} (hz : ∀ j, j < 12 → l[j]? = some (.int .i64 (Z j))) :
    l = [.int .i64 (Z 0), .int .i64 (Z 1), .int .i64 (Z 2), .int .i64 (Z 3), .int .i64 (Z 4), .int .i64 (Z 5), .int .i64 (Z 6), .int .i64 (Z 7), .int .i64 (Z 8), .int .i64 (Z 9), .int .i64 (Z 10), .int .i64 (Z 11)] := by
  apply List.ext_getElem?
  intro j
  by_cases hj : j < 12
  · rw [hz j hj]
    have : j = 0 ∨ j = 1 ∨ j = 2 ∨ j = 3 ∨ j = 4 ∨ j = 5 ∨ j = 6 ∨ j = 7 ∨ j = 8 ∨ j = 9 ∨ j = 10 ∨ j = 11 := by omega
    rcases this with rfl | rfl | rfl | rfl | rfl | rfl | rfl | rfl | rfl | rfl | rfl | rfl <;> rfl
  · rw [List.getElem?_eq_none (by omega), List.getElem?_eq_none (by simp; omega)]

set_option maxRecDepth 100000 in
theorem open_conf {H : Type} {enc : TypeId × Value → H} {w : World} {r : Reach} {b0 base : Nat} {spare : Nat → Bool} {held : Bool} {fuel : Nat} {v : Value} {x : DataW H × List MemPlace}
    (hv : Value.okWide Tryz.prog w r b0 68 v) (h : DataW.trod enc Tryz.prog w base spare held fuel 68 v.cells.toList = some x) : ∃ c : Cf, v = cv c := by
  obtain ⟨fs, he, _⟩ := plainInts_out conf_plain
  obtain ⟨cs, rfl, _⟩ := okWide_struct he hv
  obtain ⟨h1, Z, h2⟩ := open_rec conf_plain h
  have h3 := list12 h1 fun j hj => (h2 j hj).1
  refine ⟨⟨Z 0, Z 1, Z 2, Z 3, Z 4, Z 5, Z 6, Z 7, Z 8, Z 9, Z 10, Z 11⟩, ?_⟩
  unfold cv
  congr 1
  apply Array.toList_inj.1
  simpa [Value.cells] using h3
end Go.Proofs.YtgiklggnolbiiaaGreat

/- What Path of package shape answers, in one. -/
namespace Go.Proofs.YtgiklggnolbiiaaGreat
open Go.RowKit

/-- What Path answers, whatever the word. -/
def isB (c : Cf) (a : Int) : Bool := decide (0 ≤ a) && decide (a < wordsD c)
def pr (c : Cf) (a : Int) : Int := if isB c a then rD c a else 0
def po (c : Cf) (a : Int) : Int := if isB c a then c.r + oD c a else 0
def ps (c : Cf) (a : Int) : Int := if isB c a then c.r + no c + sD c a else 0
theorem isB_iff {c : Cf} {a : Int} : isB c a = true ↔ 0 ≤ a ∧ a < wordsD c := by simp [isB]
theorem isB_no {c : Cf} {a : Int} : isB c a = false ↔ ¬ (0 ≤ a ∧ a < wordsD c) := by rw [← isB_iff]; simp

theorem path_any (c : Cf) (a : Int) (w : World) : Calls Tryz.prog 61 #[cv c, .int .i64 a] w fun e w' => e = .returned (.tuple #[.int .i64 (pr c a), .int .i64 (po c a), .int .i64 (ps c a), .int .i64 (errOf (isB c a))]) ∧ Below w.heap.size w w' := by
  unfold pr po ps
  cases h : isB c a
  · exact path_no c a w (isB_no.1 h)
  · obtain ⟨h0, h1⟩ := isB_iff.1 h
    have hk := words_pos h0 h1
    rw [words_eq hk] at h1
    exact path_ok c a w hk h0 h1

end Go.Proofs.YtgiklggnolbiiaaGreat

/- Package path, plainly: what Stripes and Next answer. -/
namespace Go.Proofs.YtgiklggnolbiiaaGreat
open Go.RowKit

/-- What who holds at a node, be it one or none. -/
def holdT (n : Nat) (T : Nat → Lv) (who node : Int) : Int := if decide (0 ≤ node) && decide (node < n) then lookD who (T node.toNat).1 else 0
theorem holdT_in {n : Nat} {T : Nat → Lv} {who : Int} {k : Nat} (h : k < n) : holdT n T who (k : Int) = lookD who (T k).1 := by
  unfold holdT
  rw [if_pos (by simp; omega)]; rfl
/-- Of the first k stripes from f on, how many who holds. -/
def strK (n : Nat) (T : Nat → Lv) (who f : Int) : Nat → Nat
  | 0 => 0
  | k + 1 => strK n T who f k + (if holdT n T who (f + k) = 0 then 0 else 1)
theorem strK_le (n : Nat) (T : Nat → Lv) (who f : Int) : ∀ k, strK n T who f k ≤ k
  | 0 => Nat.le_refl _
  | k + 1 => by
    have := strK_le n T who f k
    unfold strK
    split <;> omega
theorem strK_congr {n : Nat} {T S : Nat → Lv} {who f : Int} : ∀ k : Nat, (∀ j : Nat, j < k → holdT n T who (f + j) = holdT n S who (f + j)) → strK n T who f k = strK n S who f k
  | 0, _ => rfl
  | k + 1, h => by
    unfold strK
    rw [strK_congr k (fun j hj => h j (by omega)), h k (by omega)]
/-- The first stripe of an object. -/
def fstS (c : Cf) (o : Int) : Int := c.r + no c + (o - c.r) * c.s
/-- How many stripes of the object o who holds. -/
def strD (c : Cf) (n : Nat) (T : Nat → Lv) (who o : Int) : Nat := if levelD c o = 1 then strK n T who (fstS c o) c.s.toNat else 0
/-- Does who hold so many that it takes the object? -/
def escB (c : Cf) (n : Nat) (T : Nat → Lv) (who o : Int) : Bool := decide (0 < c.e) && decide (c.e ≤ (strD c n T who o : Int))
def wantD (w : Bool) : Int := if w then 5 else 3
def inD (w : Bool) : Int := if w then 2 else 1
def wholeB (w : Bool) (m : Int) : Bool := if w then writesB m else readsB m
/-- The next lock, out of what is held at the region, the object and the stripe. -/
def nextK (hr ho hs : Int) (esc write : Bool) (r o s : Int) : (Int × Int) × Bool :=
  if coversB hr (inD write) = false then ((r, inD write), true)
  else if wholeB write ho = true then ((0, 0), false)
  else if coversB hs (wantD write) = false ∧ esc = true then ((o, wantD write), true)
  else if coversB ho (inD write) = false then ((o, inD write), true)
  else if coversB hs (wantD write) = false then ((s, wantD write), true)
  else ((0, 0), false)
/-- .. of the word a. -/
def nextD (c : Cf) (n : Nat) (T : Nat → Lv) (who a : Int) (write : Bool) : (Int × Int) × Bool :=
  nextK (holdT n T who (rD c a)) (holdT n T who (c.r + oD c a)) (holdT n T who (c.r + no c + sD c a)) (escB c n T who (c.r + oD c a)) write (rD c a) (c.r + oD c a) (c.r + no c + sD c a)
end Go.Proofs.YtgiklggnolbiiaaGreat

/- A region that draws its order, whose callees make memory but turn nothing that lies: ONE walk in the order of the text, over the class of the worlds in which the struct lies where it lay and all that was is as it was. -/
namespace Go.Proofs.YtgiklggnolbiiaaGreat
open Go.RowKit

/-- The worlds behind w0 in which c lies in block b. -/
structure Wd (c : Cf) (b : Nat) (w0 : World) where
  w : World
  bx : Bx c b w
  bel : Below w0.heap.size w0 w

theorem Wd.cells {c : Cf} {b : Nat} {w0 : World} :
    (∀ x : Wd c b w0, x.w.cell? ⟨b, 0, none⟩ = some (.int .i64 c.r)) ∧ (∀ x : Wd c b w0, x.w.cell? ⟨b, 1, none⟩ = some (.int .i64 c.o)) ∧ (∀ x : Wd c b w0, x.w.cell? ⟨b, 2, none⟩ = some (.int .i64 c.s)) ∧
    (∀ x : Wd c b w0, x.w.cell? ⟨b, 3, none⟩ = some (.int .i64 c.d)) ∧ (∀ x : Wd c b w0, x.w.cell? ⟨b, 4, none⟩ = some (.int .i64 c.t)) ∧ (∀ x : Wd c b w0, x.w.cell? ⟨b, 5, none⟩ = some (.int .i64 c.l)) ∧
    (∀ x : Wd c b w0, x.w.cell? ⟨b, 6, none⟩ = some (.int .i64 c.g)) ∧ (∀ x : Wd c b w0, x.w.cell? ⟨b, 7, none⟩ = some (.int .i64 c.k)) ∧ (∀ x : Wd c b w0, x.w.cell? ⟨b, 8, none⟩ = some (.int .i64 c.u)) ∧
    (∀ x : Wd c b w0, x.w.cell? ⟨b, 9, none⟩ = some (.int .i64 c.e)) ∧ (∀ x : Wd c b w0, x.w.cell? ⟨b, 10, none⟩ = some (.int .i64 c.i)) ∧ (∀ x : Wd c b w0, x.w.cell? ⟨b, 11, none⟩ = some (.int .i64 c.p)) := by
  refine ⟨?_, ?_, ?_, ?_, ?_, ?_, ?_, ?_, ?_, ?_, ?_, ?_⟩
  all_goals
    intro x
    obtain ⟨a0, a1, a2, a3, a4, a5, a6, a7, a8, a9, a10, a11⟩ := x.bx.cells
    assumption

theorem Wd.call {c : Cf} {b : Nat} {w0 : World} {x : Wd c b w0} {f : FuncId} {args : Array Value} {v : Value}
    (h : Calls Tryz.prog f args x.w fun e w' => e = .returned v ∧ Below x.w.heap.size x.w w') : Calls Tryz.prog f args x.w fun e w'' => e = .returned v ∧ ∃ y : Wd c b w0, w'' = y.w :=
  h.mono fun _ w' ⟨he, hb⟩ => ⟨he, ⟨w', x.bx.next hb, below_then x.bel hb⟩, rfl⟩

theorem wp_region_wd {c : Cf} {b : Nat} {w0 : World} {id : Nat} {Q : Exit → Act → World → Prop} {a : Act} {w : World} {l : List Oper} (hx : Bx c b w) (hl : Below w0.heap.size w0 w) (hm : Tryz.prog.follows .mixedOrders = true) (hB : Region.lexB .any l.toArray = true)
    (h : wpQuiet Tryz.prog l.toArray (fun w' => ∃ x : Wd c b w0, w' = x.w) (fun a' => ∀ w', (∃ x : Wd c b w0, w' = x.w) → Q .normal a' w') l a) : (Code.region id l.toArray true).wp Tryz.prog Q a w :=
  wp_region_quiet (C := fun w' => ∃ x : Wd c b w0, w' = x.w) hm hB ⟨⟨w.drew, hx.drew, hl.drew⟩, rfl⟩ (by simpa using h)
end Go.Proofs.YtgiklggnolbiiaaGreat
