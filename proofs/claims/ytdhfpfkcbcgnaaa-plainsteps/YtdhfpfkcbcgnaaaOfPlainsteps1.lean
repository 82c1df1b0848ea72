/- Texts of this claim, put together in their order. -/
import Derived.Test.YtdhfpfkcbcgnaaaRows
import Derived.WalkKit
import Derived.WalkSpells
import Derived.WalkLawsBesides
import Derived.Deep.QuietTactic
import Derived.BigQuiet
import Derived.BigRegion
import Derived.Deep.RegionHeld3
import Derived.Below
import Derived.Outline
import Derived.Deep.Cut
/- A configuration (twelve whole numbers), how a copy of it lies in memory, and what the leaves of package shape answer. -/
namespace Go.Proofs.Ytdhfpfkcbcgnaaa
open Go.RowKit

theorem hide {p : Prop} (h : p) : Hid p := h
theorem unhide {p : Prop} (h : Hid p) : p := h
theorem bthen {B : Nat} {w w' w'' : World} (h : Below B w w') (k : Below w'.heap.size w' w'') (hB : B ≤ w.heap.size) : Below B w w'' := h.trans (k.mono (Nat.le_trans hB h.size))

/-- A configuration. -/
structure Cf where
  r : Int
  o : Int
  s : Int
  d : Int
  t : Int
  l : Int
  g : Int
  k : Int
  u : Int
  e : Int
  i : Int
  p : Int
/-- .. as a value. -/
def cv (c : Cf) : Value := .agg #[.int .i64 c.r, .int .i64 c.o, .int .i64 c.s, .int .i64 c.d, .int .i64 c.t, .int .i64 c.l, .int .i64 c.g, .int .i64 c.k, .int .i64 c.u, .int .i64 c.e, .int .i64 c.i, .int .i64 c.p]
/-- .. as it lies in block b. -/
def Bx (c : Cf) (b : Nat) (w : World) : Prop := w.heap[b]? = some (.cells #[.int .i64 c.r, .int .i64 c.o, .int .i64 c.s, .int .i64 c.d, .int .i64 c.t, .int .i64 c.l, .int .i64 c.g, .int .i64 c.k, .int .i64 c.u, .int .i64 c.e, .int .i64 c.i, .int .i64 c.p] 23 (0, 0))
theorem Bx.later {c : Cf} {b B : Nat} {w w' : World} (h : Bx c b w) (hb : Below B w w') (hB : b < B) : Bx c b w' := (hb.block b hB).trans h
theorem Bx.lt {c : Cf} {b : Nat} {w : World} (h : Bx c b w) : b < w.heap.size := by
  unfold Bx at h
  by_cases hb : b < w.heap.size
  · exact hb
  · rw [Array.getElem?_eq_none (by omega)] at h; cases h
theorem Bx.next {c : Cf} {b : Nat} {w w' : World} (h : Bx c b w) (hb : Below w.heap.size w w') : Bx c b w' := h.later hb h.lt
theorem Bx.drew {c : Cf} {b : Nat} {w : World} (h : Bx c b w) : Bx c b w.drew := h
theorem Bx.cells {c : Cf} {b : Nat} {w : World} (h : Bx c b w) :
    w.cell? ⟨b, 0, none⟩ = some (.int .i64 c.r) ∧ w.cell? ⟨b, 1, none⟩ = some (.int .i64 c.o) ∧ w.cell? ⟨b, 2, none⟩ = some (.int .i64 c.s) ∧ w.cell? ⟨b, 3, none⟩ = some (.int .i64 c.d) ∧
    w.cell? ⟨b, 4, none⟩ = some (.int .i64 c.t) ∧ w.cell? ⟨b, 5, none⟩ = some (.int .i64 c.l) ∧ w.cell? ⟨b, 6, none⟩ = some (.int .i64 c.g) ∧ w.cell? ⟨b, 7, none⟩ = some (.int .i64 c.k) ∧
    w.cell? ⟨b, 8, none⟩ = some (.int .i64 c.u) ∧ w.cell? ⟨b, 9, none⟩ = some (.int .i64 c.e) ∧ w.cell? ⟨b, 10, none⟩ = some (.int .i64 c.i) ∧ w.cell? ⟨b, 11, none⟩ = some (.int .i64 c.p) := by
  unfold Bx at h
  simp [World.cell?, h]

/-- Is n from l to m? -/
def inB (n l m : Int) : Bool := decide (l ≤ n) && decide (n ≤ m)
theorem inB_iff {n l m : Int} : inB n l m = true ↔ l ≤ n ∧ n ≤ m := by simp [inB]
theorem inB_no {n l m : Int} : inB n l m = false ↔ ¬ (l ≤ n ∧ n ≤ m) := by rw [← inB_iff]; simp

theorem within_any (n l m : Int) (w : World) : Calls Try.prog 50 #[.int .i64 n, .int .i64 l, .int .i64 m] w fun e w' => e = .returned (.bool (inB n l m)) ∧ w' = w := by
  unfold inB
  by_cases h1 : l ≤ n <;> by_cases h2 : n ≤ m
  all_goals
    go_enter Try.func50, Try.ntmps50
    go_wp2
    go_ret
    exact ⟨by simp [h1, h2], rfl⟩

/-- The parts of the heap are within their bounds. -/
structure Hp (c : Cf) : Prop where
  r1 : 1 ≤ c.r
  r8 : c.r ≤ 8
  o1 : 1 ≤ c.o
  o8 : c.o ≤ 8
  s1 : 1 ≤ c.s
  s8 : c.s ≤ 8
  d1 : 1 ≤ c.d
  d8 : c.d ≤ 8
/-- How many objects, stripes, words. -/
def no (c : Cf) : Int := c.r * c.o
def ns (c : Cf) : Int := no c * c.s
def nw (c : Cf) : Int := ns c * c.d
theorem mul_in {a b A B : Int} (h1 : 1 ≤ a) (h2 : a ≤ A) (h3 : 1 ≤ b) (h4 : b ≤ B) : 1 ≤ a * b ∧ a * b ≤ A * B := by
  constructor
  · have := Int.mul_le_mul h1 h3 (by omega) (by omega); omega
  · exact Int.mul_le_mul h2 h4 (by omega) (by omega)
theorem no_in {c : Cf} (h : Hp c) : 1 ≤ no c ∧ no c ≤ 64 := by have := mul_in h.r1 h.r8 h.o1 h.o8; unfold no; omega
theorem ns_in {c : Cf} (h : Hp c) : 1 ≤ ns c ∧ ns c ≤ 512 := by have := mul_in (no_in h).1 (no_in h).2 h.s1 h.s8; unfold ns; omega
theorem nw_in {c : Cf} (h : Hp c) : 1 ≤ nw c ∧ nw c ≤ 4096 := by have := mul_in (ns_in h).1 (ns_in h).2 h.d1 h.d8; unfold nw; omega
theorem ret_int {a b : Int} (h : a = b) : Ending.returned (.int .i64 a) = .returned (.int .i64 b) := by rw [h]
theorem kin {a : Int} (h1 : 0 ≤ a) (h2 : a ≤ 100000) : IntKind.i64.wrap a = a := by rw [IntKind.wrap_i64]; omega
theorem wrap_in {a : Int} (h1 : 0 ≤ a) (h2 : a ≤ 100000) : wrap64 a = a := by unfold wrap64; omega

theorem bx_new (c : Cf) (w : World) : Bx c w.heap.size (w.alloc (.cells #[.int .i64 c.r, .int .i64 c.o, .int .i64 c.s, .int .i64 c.d, .int .i64 c.t, .int .i64 c.l, .int .i64 c.g, .int .i64 c.k, .int .i64 c.u, .int .i64 c.e, .int .i64 c.i, .int .i64 c.p] 23)) := by
  show (w.heap.push _)[w.heap.size]? = _
  simp
theorem below_new (w : World) (o : Obj) : Below w.heap.size w (w.alloc o) := (Below.refl _ _).alloc (Nat.le_refl _) _
/-- Of a call that was made behind the box. -/
theorem below_call {w w' : World} {o : Obj} (h : Below (w.alloc o).heap.size (w.alloc o) w') : Below w.heap.size w w' := bthen (below_new w o) h (Nat.le_refl _)
theorem below_drew {w w' : World} {o : Obj} (h : Below (w.alloc o).drew.heap.size (w.alloc o).drew w') : Below w.heap.size w w' := bthen (below_new w o).drew h (Nat.le_refl _)
theorem below_then {w w' w'' : World} (h : Below w.heap.size w w') (k : Below w'.heap.size w' w'') : Below w.heap.size w w'' := bthen h k (Nat.le_refl _)

theorem objects_any (c : Cf) (w : World) (h : Hp c) : Calls Try.prog 42 #[cv c] w fun e w' => e = .returned (.int .i64 (no c)) ∧ Below w.heap.size w w' := by
  have e1 : wrap64 (c.r * c.o) = no c := wrap_in (by have := no_in h; unfold no at this; omega) (by have := no_in h; unfold no at this; omega)
  unfold cv
  go_enter Try.func42, Try.ntmps42
  go_wp2
  go_ret
  exact ⟨ret_int e1, (Below.refl _ _).alloc (Nat.le_refl _) _⟩
theorem stripes_any (c : Cf) (w : World) (h : Hp c) : Calls Try.prog 30 #[cv c] w fun e w' => e = .returned (.int .i64 (ns c)) ∧ Below w.heap.size w w' := by
  have e1 : IntKind.i64.wrap (no c * c.s) = ns c := kin (by have := ns_in h; unfold ns at this; omega) (by have := ns_in h; unfold ns at this; omega)
  unfold cv
  go_enter Try.func30, Try.ntmps30
  go_wp2_with fail
  have hx := bx_new c w
  go_region_held3 (fun wz => wz.cell? ⟨w.heap.size, 0, none⟩ = some (.int .i64 c.r) ∧ wz.cell? ⟨w.heap.size, 1, none⟩ = some (.int .i64 c.o) ∧ wz.cell? ⟨w.heap.size, 2, none⟩ = some (.int .i64 c.s) ∧ wz.cell? ⟨w.heap.size, 3, none⟩ = some (.int .i64 c.d) ∧ wz.cell? ⟨w.heap.size, 4, none⟩ = some (.int .i64 c.t) ∧ wz.cell? ⟨w.heap.size, 5, none⟩ = some (.int .i64 c.l) ∧ wz.cell? ⟨w.heap.size, 6, none⟩ = some (.int .i64 c.g) ∧ wz.cell? ⟨w.heap.size, 7, none⟩ = some (.int .i64 c.k) ∧ wz.cell? ⟨w.heap.size, 8, none⟩ = some (.int .i64 c.u) ∧ wz.cell? ⟨w.heap.size, 9, none⟩ = some (.int .i64 c.e) ∧ wz.cell? ⟨w.heap.size, 10, none⟩ = some (.int .i64 c.i) ∧ wz.cell? ⟨w.heap.size, 11, none⟩ = some (.int .i64 c.p)) (first | exact hx.drew.cells | exact hx1.cells)
    (first
      | (go_at_call 42; refine (objects_any c _ h).mono ?_; rintro e w1 ⟨rfl, hb⟩; have hx1 := hx.drew.next hb))
  go_wp2
  go_ret
  exact ⟨rfl, below_drew hb⟩
end Go.Proofs.Ytdhfpfkcbcgnaaa

/- What Check of package shape answers. -/
namespace Go.Proofs.Ytdhfpfkcbcgnaaa
open Go.RowKit

def heapB (c : Cf) : Bool := inB c.r 1 8 && (inB c.o 1 8 && (inB c.s 1 8 && (inB c.d 1 8)))
theorem heapFits_any (c : Cf) (w : World) : Calls Try.prog 39 #[cv c] w fun e w' => e = .returned (.bool (heapB c)) ∧ Below w.heap.size w w' := by
  cases h0 : inB c.r 1 8
  · have eb : heapB c = false := by simp only [heapB, h0]; rfl
    rw [eb]
    clear eb
    have H0' := hide h0
    clear h0
    unfold cv
    go_enter Try.func39, Try.ntmps39
    go_wp2_with fail
    refine (within_any _ _ _ _).mono ?_
    rw [unhide H0']
    rintro e w1 ⟨rfl, rfl⟩
    go_wp2
    go_ret
    exact ⟨rfl, below_new _ _⟩
  ·
    cases h1 : inB c.o 1 8
    · have eb : heapB c = false := by simp only [heapB, h0, h1]; rfl
      rw [eb]
      clear eb
      have H0' := hide h0
      have H1' := hide h1
      clear h0 h1
      unfold cv
      go_enter Try.func39, Try.ntmps39
      go_wp2_with fail
      refine (within_any _ _ _ _).mono ?_
      rw [unhide H0']
      rintro e w1 ⟨rfl, rfl⟩
      go_wp2_with fail
      refine (within_any _ _ _ _).mono ?_
      rw [unhide H1']
      rintro e w1 ⟨rfl, rfl⟩
      go_wp2
      go_ret
      exact ⟨rfl, below_new _ _⟩
    ·
      cases h2 : inB c.s 1 8
      · have eb : heapB c = false := by simp only [heapB, h0, h1, h2]; rfl
        rw [eb]
        clear eb
        have H0' := hide h0
        have H1' := hide h1
        have H2' := hide h2
        clear h0 h1 h2
        unfold cv
        go_enter Try.func39, Try.ntmps39
        go_wp2_with fail
        refine (within_any _ _ _ _).mono ?_
        rw [unhide H0']
        rintro e w1 ⟨rfl, rfl⟩
        go_wp2_with fail
        refine (within_any _ _ _ _).mono ?_
        rw [unhide H1']
        rintro e w1 ⟨rfl, rfl⟩
        go_wp2_with fail
        refine (within_any _ _ _ _).mono ?_
        rw [unhide H2']
        rintro e w1 ⟨rfl, rfl⟩
        go_wp2
        go_ret
        exact ⟨rfl, below_new _ _⟩
      ·
        cases h3 : inB c.d 1 8
        · have eb : heapB c = false := by simp only [heapB, h0, h1, h2, h3]; rfl
          rw [eb]
          clear eb
          have H0' := hide h0
          have H1' := hide h1
          have H2' := hide h2
          have H3' := hide h3
          clear h0 h1 h2 h3
          unfold cv
          go_enter Try.func39, Try.ntmps39
          go_wp2_with fail
          refine (within_any _ _ _ _).mono ?_
          rw [unhide H0']
          rintro e w1 ⟨rfl, rfl⟩
          go_wp2_with fail
          refine (within_any _ _ _ _).mono ?_
          rw [unhide H1']
          rintro e w1 ⟨rfl, rfl⟩
          go_wp2_with fail
          refine (within_any _ _ _ _).mono ?_
          rw [unhide H2']
          rintro e w1 ⟨rfl, rfl⟩
          go_wp2_with fail
          refine (within_any _ _ _ _).mono ?_
          rw [unhide H3']
          rintro e w1 ⟨rfl, rfl⟩
          go_wp2
          go_ret
          exact ⟨rfl, below_new _ _⟩
        ·
          have eb : heapB c = true := by simp only [heapB, h0, h1, h2, h3]; rfl
          rw [eb]
          clear eb
          have H0' := hide h0
          have H1' := hide h1
          have H2' := hide h2
          have H3' := hide h3
          clear h0 h1 h2 h3
          unfold cv
          go_enter Try.func39, Try.ntmps39
          go_wp2_with fail
          refine (within_any _ _ _ _).mono ?_
          rw [unhide H0']
          rintro e w1 ⟨rfl, rfl⟩
          go_wp2_with fail
          refine (within_any _ _ _ _).mono ?_
          rw [unhide H1']
          rintro e w1 ⟨rfl, rfl⟩
          go_wp2_with fail
          refine (within_any _ _ _ _).mono ?_
          rw [unhide H2']
          rintro e w1 ⟨rfl, rfl⟩
          go_wp2_with fail
          refine (within_any _ _ _ _).mono ?_
          rw [unhide H3']
          rintro e w1 ⟨rfl, rfl⟩
          go_wp2
          go_ret
          exact ⟨rfl, below_new _ _⟩

def roomB (c : Cf) : Bool := inB c.t 1 64 && (inB c.l 0 48 && (inB c.g 1 8 && (inB c.k 1 4096 && (inB c.u 1 1000 && (inB c.e 0 64 && (inB c.i 1 10000))))))
theorem roomFits_any (c : Cf) (w : World) : Calls Try.prog 40 #[cv c] w fun e w' => e = .returned (.bool (roomB c)) ∧ Below w.heap.size w w' := by
  cases h0 : inB c.t 1 64
  · have eb : roomB c = false := by simp only [roomB, h0]; rfl
    rw [eb]
    clear eb
    have H0' := hide h0
    clear h0
    unfold cv
    go_enter Try.func40, Try.ntmps40
    go_wp2_with fail
    refine (within_any _ _ _ _).mono ?_
    rw [unhide H0']
    rintro e w1 ⟨rfl, rfl⟩
    go_wp2
    go_ret
    exact ⟨rfl, below_new _ _⟩
  ·
    cases h1 : inB c.l 0 48
    · have eb : roomB c = false := by simp only [roomB, h0, h1]; rfl
      rw [eb]
      clear eb
      have H0' := hide h0
      have H1' := hide h1
      clear h0 h1
      unfold cv
      go_enter Try.func40, Try.ntmps40
      go_wp2_with fail
      refine (within_any _ _ _ _).mono ?_
      rw [unhide H0']
      rintro e w1 ⟨rfl, rfl⟩
      go_wp2_with fail
      refine (within_any _ _ _ _).mono ?_
      rw [unhide H1']
      rintro e w1 ⟨rfl, rfl⟩
      go_wp2
      go_ret
      exact ⟨rfl, below_new _ _⟩
    ·
      cases h2 : inB c.g 1 8
      · have eb : roomB c = false := by simp only [roomB, h0, h1, h2]; rfl
        rw [eb]
        clear eb
        have H0' := hide h0
        have H1' := hide h1
        have H2' := hide h2
        clear h0 h1 h2
        unfold cv
        go_enter Try.func40, Try.ntmps40
        go_wp2_with fail
        refine (within_any _ _ _ _).mono ?_
        rw [unhide H0']
        rintro e w1 ⟨rfl, rfl⟩
        go_wp2_with fail
        refine (within_any _ _ _ _).mono ?_
        rw [unhide H1']
        rintro e w1 ⟨rfl, rfl⟩
        go_wp2_with fail
        refine (within_any _ _ _ _).mono ?_
        rw [unhide H2']
        rintro e w1 ⟨rfl, rfl⟩
        go_wp2
        go_ret
        exact ⟨rfl, below_new _ _⟩
      ·
        cases h3 : inB c.k 1 4096
        · have eb : roomB c = false := by simp only [roomB, h0, h1, h2, h3]; rfl
          rw [eb]
          clear eb
          have H0' := hide h0
          have H1' := hide h1
          have H2' := hide h2
          have H3' := hide h3
          clear h0 h1 h2 h3
          unfold cv
          go_enter Try.func40, Try.ntmps40
          go_wp2_with fail
          refine (within_any _ _ _ _).mono ?_
          rw [unhide H0']
          rintro e w1 ⟨rfl, rfl⟩
          go_wp2_with fail
          refine (within_any _ _ _ _).mono ?_
          rw [unhide H1']
          rintro e w1 ⟨rfl, rfl⟩
          go_wp2_with fail
          refine (within_any _ _ _ _).mono ?_
          rw [unhide H2']
          rintro e w1 ⟨rfl, rfl⟩
          go_wp2_with fail
          refine (within_any _ _ _ _).mono ?_
          rw [unhide H3']
          rintro e w1 ⟨rfl, rfl⟩
          go_wp2
          go_ret
          exact ⟨rfl, below_new _ _⟩
        ·
          cases h4 : inB c.u 1 1000
          · have eb : roomB c = false := by simp only [roomB, h0, h1, h2, h3, h4]; rfl
            rw [eb]
            clear eb
            have H0' := hide h0
            have H1' := hide h1
            have H2' := hide h2
            have H3' := hide h3
            have H4' := hide h4
            clear h0 h1 h2 h3 h4
            unfold cv
            go_enter Try.func40, Try.ntmps40
            go_wp2_with fail
            refine (within_any _ _ _ _).mono ?_
            rw [unhide H0']
            rintro e w1 ⟨rfl, rfl⟩
            go_wp2_with fail
            refine (within_any _ _ _ _).mono ?_
            rw [unhide H1']
            rintro e w1 ⟨rfl, rfl⟩
            go_wp2_with fail
            refine (within_any _ _ _ _).mono ?_
            rw [unhide H2']
            rintro e w1 ⟨rfl, rfl⟩
            go_wp2_with fail
            refine (within_any _ _ _ _).mono ?_
            rw [unhide H3']
            rintro e w1 ⟨rfl, rfl⟩
            go_wp2_with fail
            refine (within_any _ _ _ _).mono ?_
            rw [unhide H4']
            rintro e w1 ⟨rfl, rfl⟩
            go_wp2
            go_ret
            exact ⟨rfl, below_new _ _⟩
          ·
            cases h5 : inB c.e 0 64
            · have eb : roomB c = false := by simp only [roomB, h0, h1, h2, h3, h4, h5]; rfl
              rw [eb]
              clear eb
              have H0' := hide h0
              have H1' := hide h1
              have H2' := hide h2
              have H3' := hide h3
              have H4' := hide h4
              have H5' := hide h5
              clear h0 h1 h2 h3 h4 h5
              unfold cv
              go_enter Try.func40, Try.ntmps40
              go_wp2_with fail
              refine (within_any _ _ _ _).mono ?_
              rw [unhide H0']
              rintro e w1 ⟨rfl, rfl⟩
              go_wp2_with fail
              refine (within_any _ _ _ _).mono ?_
              rw [unhide H1']
              rintro e w1 ⟨rfl, rfl⟩
              go_wp2_with fail
              refine (within_any _ _ _ _).mono ?_
              rw [unhide H2']
              rintro e w1 ⟨rfl, rfl⟩
              go_wp2_with fail
              refine (within_any _ _ _ _).mono ?_
              rw [unhide H3']
              rintro e w1 ⟨rfl, rfl⟩
              go_wp2_with fail
              refine (within_any _ _ _ _).mono ?_
              rw [unhide H4']
              rintro e w1 ⟨rfl, rfl⟩
              go_wp2_with fail
              refine (within_any _ _ _ _).mono ?_
              rw [unhide H5']
              rintro e w1 ⟨rfl, rfl⟩
              go_wp2
              go_ret
              exact ⟨rfl, below_new _ _⟩
            ·
              cases h6 : inB c.i 1 10000
              · have eb : roomB c = false := by simp only [roomB, h0, h1, h2, h3, h4, h5, h6]; rfl
                rw [eb]
                clear eb
                have H0' := hide h0
                have H1' := hide h1
                have H2' := hide h2
                have H3' := hide h3
                have H4' := hide h4
                have H5' := hide h5
                have H6' := hide h6
                clear h0 h1 h2 h3 h4 h5 h6
                unfold cv
                go_enter Try.func40, Try.ntmps40
                go_wp2_with fail
                refine (within_any _ _ _ _).mono ?_
                rw [unhide H0']
                rintro e w1 ⟨rfl, rfl⟩
                go_wp2_with fail
                refine (within_any _ _ _ _).mono ?_
                rw [unhide H1']
                rintro e w1 ⟨rfl, rfl⟩
                go_wp2_with fail
                refine (within_any _ _ _ _).mono ?_
                rw [unhide H2']
                rintro e w1 ⟨rfl, rfl⟩
                go_wp2_with fail
                refine (within_any _ _ _ _).mono ?_
                rw [unhide H3']
                rintro e w1 ⟨rfl, rfl⟩
                go_wp2_with fail
                refine (within_any _ _ _ _).mono ?_
                rw [unhide H4']
                rintro e w1 ⟨rfl, rfl⟩
                go_wp2_with fail
                refine (within_any _ _ _ _).mono ?_
                rw [unhide H5']
                rintro e w1 ⟨rfl, rfl⟩
                go_wp2_with fail
                refine (within_any _ _ _ _).mono ?_
                rw [unhide H6']
                rintro e w1 ⟨rfl, rfl⟩
                go_wp2
                go_ret
                exact ⟨rfl, below_new _ _⟩
              ·
                have eb : roomB c = true := by simp only [roomB, h0, h1, h2, h3, h4, h5, h6]; rfl
                rw [eb]
                clear eb
                have H0' := hide h0
                have H1' := hide h1
                have H2' := hide h2
                have H3' := hide h3
                have H4' := hide h4
                have H5' := hide h5
                have H6' := hide h6
                clear h0 h1 h2 h3 h4 h5 h6
                unfold cv
                go_enter Try.func40, Try.ntmps40
                go_wp2_with fail
                refine (within_any _ _ _ _).mono ?_
                rw [unhide H0']
                rintro e w1 ⟨rfl, rfl⟩
                go_wp2_with fail
                refine (within_any _ _ _ _).mono ?_
                rw [unhide H1']
                rintro e w1 ⟨rfl, rfl⟩
                go_wp2_with fail
                refine (within_any _ _ _ _).mono ?_
                rw [unhide H2']
                rintro e w1 ⟨rfl, rfl⟩
                go_wp2_with fail
                refine (within_any _ _ _ _).mono ?_
                rw [unhide H3']
                rintro e w1 ⟨rfl, rfl⟩
                go_wp2_with fail
                refine (within_any _ _ _ _).mono ?_
                rw [unhide H4']
                rintro e w1 ⟨rfl, rfl⟩
                go_wp2_with fail
                refine (within_any _ _ _ _).mono ?_
                rw [unhide H5']
                rintro e w1 ⟨rfl, rfl⟩
                go_wp2_with fail
                refine (within_any _ _ _ _).mono ?_
                rw [unhide H6']
                rintro e w1 ⟨rfl, rfl⟩
                go_wp2
                go_ret
                exact ⟨rfl, below_new _ _⟩

theorem isPolicy_any (n : Int) (w : World) : Calls Try.prog 41 #[.int .i64 n] w fun e w' => e = .returned (.bool (inB n 0 2)) ∧ w' = w := by
  unfold inB
  by_cases h0 : n = 0
  · subst h0
    go_enter Try.func41, Try.ntmps41
    go_wp2
    go_ret
    exact ⟨rfl, rfl⟩
  · by_cases h1 : n = 1
    · subst h1
      go_enter Try.func41, Try.ntmps41
      go_wp2
      go_ret
      exact ⟨rfl, rfl⟩
    · by_cases h2 : n = 2
      · subst h2
        go_enter Try.func41, Try.ntmps41
        go_wp2
        go_ret
        exact ⟨rfl, rfl⟩
      · have e0 : (n == 0) = false := by simpa using h0
        have e1 : (n == 1) = false := by simpa using h1
        have e2 : (n == 2) = false := by simpa using h2
        have e3 : (decide (0 ≤ n) && decide (n ≤ 2)) = false := by simp; omega
        rw [e3]
        clear e3
        go_enter Try.func41, Try.ntmps41
        go_wp2
        go_ret
        exact ⟨rfl, rfl⟩

/-- May it be? -/
def okB (c : Cf) : Bool := heapB c && (roomB c && inB c.p 0 2)
/-- 0 where it went well, 1 else. -/
def errOf (b : Bool) : Int := if b then 0 else 1
theorem okB_hp {c : Cf} (h : okB c = true) : Hp c := by
  simp only [okB, heapB, Bool.and_eq_true, inB_iff] at h
  obtain ⟨⟨⟨a1, a2⟩, ⟨a3, a4⟩, ⟨a5, a6⟩, ⟨a7, a8⟩⟩, _⟩ := h
  exact ⟨a1, a2, a3, a4, a5, a6, a7, a8⟩

theorem check_any (c : Cf) (w : World) : Calls Try.prog 29 #[cv c] w fun e w' => e = .returned (.int .i64 (errOf (okB c))) ∧ Below w.heap.size w w' := by
  cases h1 : heapB c
  · have eb : okB c = false := by simp only [okB, h1]; rfl
    rw [eb]
    have H1 := hide h1
    clear eb h1
    unfold cv
    go_enter Try.func29, Try.ntmps29
    go_wp2_with fail
    refine (heapFits_any c _).mono ?_
    rw [unhide H1]
    rintro e w1 ⟨rfl, hb⟩
    go_wp2
    go_ret
    exact ⟨rfl, below_call hb⟩
  · cases h2 : roomB c
    · have eb : okB c = false := by simp only [okB, h1, h2]; rfl
      rw [eb]
      have H1 := hide h1
      have H2 := hide h2
      clear eb h1 h2
      unfold cv
      go_enter Try.func29, Try.ntmps29
      go_wp2_with fail
      refine (heapFits_any c _).mono ?_
      rw [unhide H1]
      rintro e w1 ⟨rfl, hb⟩
      have hx := (bx_new c w).next hb
      obtain ⟨a0, a1, a2, a3, a4, a5, a6, a7, a8, a9, a10, a11⟩ := hx.cells
      go_wp2_with fail
      refine (roomFits_any c _).mono ?_
      rw [unhide H2]
      rintro e w2 ⟨rfl, hb2⟩
      go_wp2
      go_ret
      exact ⟨rfl, below_then (below_call hb) hb2⟩
    · have eb : okB c = inB c.p 0 2 := by simp only [okB, h1, h2]; rfl
      rw [eb]
      have H1 := hide h1
      have H2 := hide h2
      clear eb h1 h2
      cases h3 : inB c.p 0 2
      all_goals
        have H3 := hide h3
        clear h3
        unfold cv
        go_enter Try.func29, Try.ntmps29
        go_wp2_with fail
        refine (heapFits_any c _).mono ?_
        rw [unhide H1]
        rintro e w1 ⟨rfl, hb⟩
        have hx := (bx_new c w).next hb
        obtain ⟨a0, a1, a2, a3, a4, a5, a6, a7, a8, a9, a10, a11⟩ := hx.cells
        go_wp2_with fail
        refine (roomFits_any c _).mono ?_
        rw [unhide H2]
        rintro e w2 ⟨rfl, hb2⟩
        obtain ⟨b0, b1, b2, b3, b4, b5, b6, b7, b8, b9, b10, b11⟩ := (hx.next hb2).cells
        go_wp2_with fail
        refine (isPolicy_any c.p _).mono ?_
        rw [unhide H3]
        rintro e w3 ⟨rfl, hw⟩
        subst hw
        go_wp2
        go_ret
        exact ⟨rfl, below_then (below_call hb) hb2⟩
end Go.Proofs.Ytdhfpfkcbcgnaaa

/- What firstStripe, Words, Nodes, Cells of package shape answer. -/
namespace Go.Proofs.Ytdhfpfkcbcgnaaa
open Go.RowKit

theorem errOf_f : errOf false = 1 := rfl
theorem errOf_t : errOf true = 0 := rfl
def wordsD (c : Cf) : Int := if okB c then nw c else 0
def nodesD (c : Cf) : Int := if okB c then c.r + no c + ns c else 0
def cellsD (c : Cf) : Int := if okB c then nw c + ns c * 8 else 0

theorem words_any (c : Cf) (w : World) : Calls Try.prog 16 #[cv c] w fun e w' => e = .returned (.int .i64 (wordsD c)) ∧ Below w.heap.size w w' := by
  cases h : okB c
  · have eb : wordsD c = 0 := by simp [wordsD, h]
    rw [eb]
    have H := hide h
    clear eb h
    unfold cv
    go_enter Try.func16, Try.ntmps16
    go_wp2_with fail
    refine (check_any c _).mono ?_
    rw [unhide H, errOf_f]
    rintro e w1 ⟨rfl, hb⟩
    go_wp2
    go_ret
    exact ⟨rfl, below_call hb⟩
  · have eb : wordsD c = nw c := by simp [wordsD, h]
    rw [eb]
    have hp := okB_hp h
    have H := hide h
    clear eb h
    have e1 : IntKind.i64.wrap (ns c * c.d) = nw c := kin (by have := nw_in hp; unfold nw at this; omega) (by have := nw_in hp; unfold nw at this; omega)
    unfold cv
    go_enter Try.func16, Try.ntmps16
    go_wp2_with fail
    refine (check_any c _).mono ?_
    rw [unhide H, errOf_t]
    rintro e w1 ⟨rfl, hb⟩
    have hx := (bx_new c w).next hb
    have hl := below_call hb
    obtain ⟨a0, a1, a2, a3, a4, a5, a6, a7, a8, a9, a10, a11⟩ := hx.cells
    go_wp2_with fail
    go_region_held3 (fun wz => wz.cell? ⟨w.heap.size, 0, none⟩ = some (.int .i64 c.r) ∧ wz.cell? ⟨w.heap.size, 1, none⟩ = some (.int .i64 c.o) ∧ wz.cell? ⟨w.heap.size, 2, none⟩ = some (.int .i64 c.s) ∧ wz.cell? ⟨w.heap.size, 3, none⟩ = some (.int .i64 c.d) ∧ wz.cell? ⟨w.heap.size, 4, none⟩ = some (.int .i64 c.t) ∧ wz.cell? ⟨w.heap.size, 5, none⟩ = some (.int .i64 c.l) ∧ wz.cell? ⟨w.heap.size, 6, none⟩ = some (.int .i64 c.g) ∧ wz.cell? ⟨w.heap.size, 7, none⟩ = some (.int .i64 c.k) ∧ wz.cell? ⟨w.heap.size, 8, none⟩ = some (.int .i64 c.u) ∧ wz.cell? ⟨w.heap.size, 9, none⟩ = some (.int .i64 c.e) ∧ wz.cell? ⟨w.heap.size, 10, none⟩ = some (.int .i64 c.i) ∧ wz.cell? ⟨w.heap.size, 11, none⟩ = some (.int .i64 c.p)) (first | exact hx3.cells | exact hx2.cells | exact hx1.cells | exact hx.drew.cells)
      (first
        | (go_at_call 30; refine (stripes_any c _ hp).mono ?_; rintro e wz ⟨rfl, hbz⟩; first | (have hx3 := hx2.next hbz; have hl3 := below_then hl2 hbz) | (have hx2 := hx1.next hbz; have hl2 := below_then hl1 hbz) | (have hx1 := hx.drew.next hbz; have hl1 := below_then hl.drew hbz)))
    all_goals
      go_wp2
      go_ret
      exact ⟨by first | rfl | exact ret_int (by simp only [IntKind.wrap_i64]; omega), hl1⟩

theorem words_ok (c : Cf) (w : World) (h : okB c = true) : Calls Try.prog 16 #[cv c] w fun e w' => e = .returned (.int .i64 (nw c)) ∧ Below w.heap.size w w' := by
  have := words_any c w
  simp only [wordsD, h, if_true] at this
  exact this

end Go.Proofs.Ytdhfpfkcbcgnaaa

/- A slice of integers that comes in, as the walks read it. -/
namespace Go.Proofs.Ytdhfpfkcbcgnaaa
open Go.RowKit

/-- A slice of integers that is read: 'len' cells from 'a' on hold the numbers 'l'. -/
def SegK (k : IntKind) (w : World) (a : Option Addr) (len : Nat) (l : List Int) : Prop :=
  l.length = len ∧ (len = 0 ∨ ∃ b off, a = some ⟨b, off, none⟩ ∧ ∀ i, i < len → w.cell? ⟨b, off + i, none⟩ = some (.int k (l.getD i 0)))
/-- .. as it lies below B. -/
def SegB (k : IntKind) (B : Nat) (w : World) (a : Option Addr) (len : Nat) (l : List Int) : Prop :=
  l.length = len ∧ (len = 0 ∨ ∃ b off, a = some ⟨b, off, none⟩ ∧ b < B ∧ ∀ i, i < len → w.cell? ⟨b, off + i, none⟩ = some (.int k (l.getD i 0)))
theorem SegK.low {k : IntKind} {w : World} {a : Option Addr} {len : Nat} {l : List Int} (h : SegK k w a len l) : SegB k w.heap.size w a len l := by
  refine ⟨h.1, ?_⟩
  rcases h.2 with h0 | ⟨b, off, rfl, hc⟩
  · exact .inl h0
  · by_cases e : len = 0
    · exact .inl e
    · refine .inr ⟨b, off, rfl, ?_, hc⟩
      have := hc 0 (by omega)
      simp only [World.cell?] at this
      by_cases hb : b < w.heap.size
      · exact hb
      · simp [Array.getElem?_eq_none (show w.heap.size ≤ b by omega)] at this
theorem SegB.later {k : IntKind} {B : Nat} {w w' : World} {a : Option Addr} {len : Nat} {l : List Int} (h : SegB k B w a len l) (hb : Below B w w') : SegB k B w' a len l := by
  rcases h.2 with h0 | ⟨b, off, rfl, hlt, hc⟩
  · exact ⟨h.1, .inl h0⟩
  · exact ⟨h.1, .inr ⟨b, off, rfl, hlt, fun i hi => (hb.cell hlt).trans (hc i hi)⟩⟩
theorem SegB.at {k : IntKind} {B : Nat} {w : World} {a : Option Addr} {len : Nat} {l : List Int} (h : SegB k B w a len l) {i : Nat} (hi : i < len) :
    ∃ b off, a = some ⟨b, off, none⟩ ∧ b < B ∧ w.cell? ⟨b, off + i, none⟩ = some (.int k (l.getD i 0)) := by
  rcases h.2 with h0 | ⟨b, off, rfl, hlt, hc⟩
  · omega
  · exact ⟨b, off, rfl, hlt, hc i hi⟩

/-- A slice of integers that came in: nil, or 'cap' cells that hold the numbers 'zs', of which the first 'len' are its elements. -/
def IsRow (k : IntKind) (w : World) (a : Option Addr) (len cap : Nat) (zs : List Int) : Prop :=
  (a = none ∧ len = 0 ∧ cap = 0 ∧ zs = []) ∨
  ∃ x, a = some x ∧ len ≤ cap ∧ cap ≤ maxLen ∧ zs.length = cap ∧ (∀ i, i < zs.length → w.cell? (x.add i) = some (.int k (zs.getD i 0))) ∧ ∀ n ∈ zs, (Lit.int k n).wf = true

theorem isRow_seg {k : IntKind} {w : World} {a : Option Addr} {len cap : Nat} {zs : List Int} (h : IsRow k w a len cap zs) :
    SegK k w a len (zs.take len) ∧ len ≤ cap ∧ cap ≤ maxLen ∧ ∀ n ∈ zs.take len, (Lit.int k n).wf = true := by
  rcases h with ⟨rfl, rfl, rfl, rfl⟩ | ⟨x, rfl, hl, hm, hz, hcell, hwz⟩
  · exact ⟨⟨rfl, .inl rfl⟩, Nat.le_refl _, Nat.zero_le _, by simp⟩
  · refine ⟨⟨by simp; omega, ?_⟩, hl, hm, fun n hn => hwz n (List.mem_of_mem_take hn)⟩
    by_cases h0 : len = 0
    · exact .inl h0
    · obtain ⟨b, off, spot⟩ := x
      have hc := hcell 0 (by omega)
      have hspot : spot = none := by simpa [Addr.add] using World.cell?_spot hc
      subst hspot
      refine .inr ⟨b, off, rfl, fun i hi => ?_⟩
      have := hcell i (by omega)
      simp [Addr.add] at this
      have e : (if i = 0 then (⟨b, off, none⟩ : Addr) else ⟨b, off + i, none⟩) = ⟨b, off + i, none⟩ := by
        by_cases h : i = 0 <;> simp [h]
      rw [e] at this
      rw [this]
      simp [hi]

end Go.Proofs.Ytdhfpfkcbcgnaaa

/- An instruction, as a value and in memory; the leaves of packages calc and prog. -/
namespace Go.Proofs.Ytdhfpfkcbcgnaaa
open Go.RowKit

/-- n modulo m, 0 to m - 1; 0 if m is below 1. -/
def wrapD (n m : Int) : Int := if m < 1 then 0 else n % m
theorem wrapD_in {n m : Int} (h : 1 ≤ m) : 0 ≤ wrapD n m ∧ wrapD n m < m := by
  unfold wrapD
  rw [if_neg (by omega)]
  exact ⟨Int.emod_nonneg _ (by omega), Int.emod_lt_of_pos _ (by omega)⟩
theorem calcWrap_any (n m : Int) (hm : m ≤ 100000) (w : World) : Calls Try.prog 52 #[.int .i64 n, .int .i64 m] w fun e w' => e = .returned (.int .i64 (wrapD n m)) ∧ w' = w := by
  by_cases h : m < 1
  · have e1 : wrapD n m = 0 := by unfold wrapD; rw [if_pos h]
    rw [e1]
    go_enter Try.func52, Try.ntmps52
    go_wp2
    go_ret
    exact ⟨rfl, rfl⟩
  · have e1 : wrapD n m = n % m := by unfold wrapD; rw [if_neg h]
    rw [e1]
    have h0 : (m == 0) = false := by simp; omega
    have h0p : ¬ m = 0 := by omega
    have hmod : Int.tmod n m = if 0 ≤ n then n % m else -((-n) % m) := by
      split
      · exact Int.tmod_eq_emod_of_nonneg (by omega)
      · have := Int.neg_tmod (-n) m
        rw [Int.neg_neg] at this
        rw [this, Int.tmod_eq_emod_of_nonneg (by omega)]
    have b1 := Int.emod_nonneg n (show m ≠ 0 by omega)
    have b2 := Int.emod_lt_of_pos n (show 0 < m by omega)
    have b3 := Int.emod_nonneg (-n) (show m ≠ 0 by omega)
    have b4 := Int.emod_lt_of_pos (-n) (show 0 < m by omega)
    have hrel : Int.tmod n m < 0 → Int.tmod n m + m = n % m := by
      intro hlt
      have hE := Int.emod_add_mul_ediv n m
      have hT := Int.tmod_add_mul_tdiv n m
      have d : m ∣ (n % m - Int.tmod n m) := ⟨Int.tdiv n m - n / m, by rw [Int.mul_sub]; omega⟩
      obtain ⟨q, hq⟩ := d
      have l1 : -m < Int.tmod n m := by rw [hmod]; split <;> omega
      have q1 : q = 1 := by
        have p1 : 0 < m * q := by omega
        have p2 : m * q < m * 2 := by omega
        have p3 : 0 < q := Int.pos_of_mul_pos_right p1 (by omega)
        have p4 : q < 2 := Int.lt_of_mul_lt_mul_left p2 (by omega)
        omega
      rw [q1] at hq
      omega
    have hpos : ¬ Int.tmod n m < 0 → Int.tmod n m = n % m := by
      intro hlt
      rw [hmod] at hlt ⊢
      split at hlt
      · rename_i h1; rw [if_pos h1]
      · rename_i h1
        rw [if_neg h1]
        have z : (-n) % m = 0 := by omega
        have : n % m = 0 := by
          have d1 : m ∣ -n := Int.dvd_of_emod_eq_zero z
          exact Int.emod_eq_zero_of_dvd (Int.dvd_neg.1 d1)
        omega
    clear hmod
    obtain ⟨q, hq⟩ : ∃ q, Int.tmod n m = q := ⟨_, rfl⟩
    rw [hq] at hrel hpos
    by_cases hlt : q < 0
    · have e2 := hrel hlt
      have e3 : IntKind.i64.wrap (q + m) = n % m := by rw [e2]; exact kin b1 (by omega)
      have e4 : wrap64 (q + m) = n % m := by rw [e2]; exact wrap_in b1 (by omega)
      clear hrel hpos b1 b2 b3 b4 e2
      go_enter Try.func52, Try.ntmps52
      go_wp2
      go_ret
      exact ⟨ret_int (by first | rfl | exact e4 | exact e3), rfl⟩
    · have e2 := hpos hlt
      clear hrel hpos b1 b2 b3 b4
      go_enter Try.func52, Try.ntmps52
      go_wp2
      go_ret
      exact ⟨ret_int (by first | rfl | exact e2), rfl⟩

def knownB (k : Int) : Bool := decide (0 ≤ k) && decide (k ≤ 8)
theorem known_any (k : Int) (w : World) : Calls Try.prog 51 #[.int .i64 k] w fun e w' => e = .returned (.bool (knownB k)) ∧ w' = w := by
  unfold knownB
  by_cases h1 : 0 ≤ k <;> by_cases h2 : k ≤ 8
  all_goals
    go_enter Try.func51, Try.ntmps51
    go_wp2
    go_ret
    exact ⟨by simp [h1, h2], rfl⟩

/-- Is each of l an index of a list of n? -/
def wiB (n : Int) (l : List Int) : Bool := l.all fun x => decide (0 ≤ x) && decide (x < n)
theorem wi_one (n x : Int) : wiB n [x] = (decide (0 ≤ x) && decide (x < n)) := by simp [wiB]
theorem wi_snoc {n : Int} {l : List Int} {k : Nat} (h : k < l.length) (hr : wiB n (l.take k) = true) (h1 : 0 ≤ l.getD k 0) (h2 : l.getD k 0 < n) : wiB n (l.take (k + 1)) = true := by
  rw [List.take_add_one, List.getElem?_eq_getElem h]
  have e : l.getD k 0 = l[k] := by simp [h]
  rw [e] at h1 h2
  simp only [wiB, List.all_append, Bool.and_eq_true, Option.toList, List.all_cons, List.all_nil, Bool.and_true, decide_eq_true_eq]
  exact ⟨hr, h1, h2⟩
theorem wi_no {n : Int} {l : List Int} {k : Nat} (h : k < l.length) (hx : l.getD k 0 < 0 ∨ n ≤ l.getD k 0) : wiB n l = false := by
  have e : l.getD k 0 = l[k] := by simp [h]
  rw [e] at hx
  unfold wiB
  rw [List.all_eq_false]
  exact ⟨l[k], List.getElem_mem h, by simp; omega⟩
theorem pwithin_any (n : Int) (a : Option Addr) (len cap : Nat) (l : List Int) (w : World) (hs : SegK .i64 w a len l) (hlen : len ≤ maxLen) :
    Calls Try.prog 43 #[.int .i64 n, .slice a len cap] w fun e w' => e = .returned (.bool (wiB n l)) ∧ w' = w := by
  have hmax : maxLen = 9223372036854775807 := rfl
  have hl : (len : Int) ≤ 9223372036854775807 := by omega
  obtain ⟨h1, h2⟩ := hs
  replace h2 := hide h2
  go_enter Try.func43, Try.ntmps43
  go_wp2_with fail
  go_loopw [9] (fun i wr => ∃ k : Nat, k ≤ len ∧ i = .int .i64 k ∧ wr = w ∧ wiB n (l.take k) = true) (fun i _ => len - (intOf i).toNat)
  case atStart => exact ⟨0, Nat.zero_le _, rfl, rfl, by simp [wiB]⟩
  case round =>
    obtain ⟨k, hk, rfl, rfl, hr⟩ := hrel
    by_cases hlt : k < len
    · rcases unhide h2 with h0 | ⟨b, off, rfl, hc⟩
      · omega
      · have hcell := hc k hlt
        obtain ⟨y, hy⟩ : ∃ y, l.getD k 0 = y := ⟨_, rfl⟩
        rw [hy] at hcell
        replace hc := hide hc
        have kd : decide ((k : Int) < (len : Int)) = true := decide_eq_true (by omega)
        have kl : (k : Int) < (len : Int) := by omega
        by_cases y0 : y < 0
        · have e1 := hide (wi_no (n := n) (l := l) (k := k) (by omega) (.inl (by rw [hy]; exact y0)))
          clear hr hy
          go_wp2
          go_ret
          exact ⟨by rw [unhide e1]; rfl, rfl⟩
        · by_cases y1 : n ≤ y
          · have e1 := hide (wi_no (n := n) (l := l) (k := k) (by omega) (.inr (by rw [hy]; exact y1)))
            clear hr hy
            go_wp2
            go_ret
            exact ⟨by rw [unhide e1]; rfl, rfl⟩
          · have e1 := hide (wi_snoc (n := n) (l := l) (k := k) (by omega) hr (by rw [hy]; omega) (by rw [hy]; omega))
            clear hr hy
            go_wp2
            go_roundw
            case rel => exact ⟨k + 1, by omega, by go_num, (by trivial), unhide e1⟩
            case measure => first | omega | (simp; omega) | (simp [intOf]; omega)
    · have e1 : wiB n l = true := by rw [← List.take_of_length_le (show l.length ≤ k by omega)]; exact hr
      replace e1 := hide e1
      have kd : decide ((k : Int) < (len : Int)) = false := decide_eq_false (by omega)
      clear hr
      go_wp2
      go_ret
      exact ⟨by rw [unhide e1]; rfl, rfl⟩
/-- A slice of one number, newly made. -/
theorem seg_one (w : World) (a : Int) (t : TypeId) (N : Nat) (hN : N = w.heap.size) : SegK .i64 (w.alloc (.cells #[.int .i64 a] t)) (some ⟨N, 0, none⟩) 1 [a] := by
  subst hN
  refine ⟨rfl, .inr ⟨w.heap.size, 0, rfl, fun i hi => ?_⟩⟩
  have : i = 0 := by omega
  subst this
  have h : (w.alloc (.cells #[.int .i64 a] t)).heap[w.heap.size]? = some (.cells #[.int .i64 a] t) := heap_alloc_new w _
  unfold World.cell?
  rw [h]
  rfl
end Go.Proofs.Ytdhfpfkcbcgnaaa

/- mayReckon, mayStand, Check, Addr of package prog. -/
namespace Go.Proofs.Ytdhfpfkcbcgnaaa
open Go.RowKit

/-- An instruction. -/
structure In where
  k : Int
  a : Int
  b : Int
  c : Int
  l : List Int
/-- .. as a value; its L is v. -/
def iv (x : In) (v : Value) : Value := .agg #[.int .i64 x.k, .int .i64 x.a, .int .i64 x.b, .int .i64 x.c, v]
/-- .. as it lies in block b. -/
def Ix (x : In) (v : Value) (b : Nat) (w : World) : Prop := w.heap[b]? = some (.cells #[.int .i64 x.k, .int .i64 x.a, .int .i64 x.b, .int .i64 x.c, v] 44 (0, 0))
theorem Ix.lt {x : In} {v : Value} {b : Nat} {w : World} (h : Ix x v b w) : b < w.heap.size := by
  unfold Ix at h
  by_cases hb : b < w.heap.size
  · exact hb
  · rw [Array.getElem?_eq_none (by omega)] at h; cases h
theorem Ix.next {x : In} {v : Value} {b : Nat} {w w' : World} (h : Ix x v b w) (hb : Below w.heap.size w w') : Ix x v b w' := (hb.block b h.lt).trans h
theorem Ix.cells {x : In} {v : Value} {b : Nat} {w : World} (h : Ix x v b w) :
    w.cell? ⟨b, 0, none⟩ = some (.int .i64 x.k) ∧ w.cell? ⟨b, 1, none⟩ = some (.int .i64 x.a) ∧ w.cell? ⟨b, 2, none⟩ = some (.int .i64 x.b) ∧ w.cell? ⟨b, 3, none⟩ = some (.int .i64 x.c) ∧ w.cell? ⟨b, 4, none⟩ = some v := by
  unfold Ix at h
  simp [World.cell?, h]
theorem ix_new (x : In) (v : Value) (w : World) : Ix x v w.heap.size (w.alloc (.cells #[.int .i64 x.k, .int .i64 x.a, .int .i64 x.b, .int .i64 x.c, v] 44)) := by
  show (w.heap.push _)[w.heap.size]? = _
  simp
/-- The slice v holds the numbers l, and lies below B. -/
def Ls (B : Nat) (w : World) (v : Value) (l : List Int) : Prop := ∃ a len cap, v = .slice a len cap ∧ len ≤ cap ∧ cap ≤ maxLen ∧ (a = none → cap = 0) ∧ SegB .i64 B w a len l
theorem Ls.later {B : Nat} {w w' : World} {v : Value} {l : List Int} (h : Ls B w v l) (hb : Below B w w') : Ls B w' v l := by
  obtain ⟨a, len, cap, h1, h2, h3, h5, h4⟩ := h
  exact ⟨a, len, cap, h1, h2, h3, h5, h4.later hb⟩
theorem SegB.up {k : IntKind} {B C : Nat} {w : World} {a : Option Addr} {len : Nat} {l : List Int} (h : SegB k B w a len l) (hB : B ≤ C) : SegB k C w a len l := by
  rcases h.2 with h0 | ⟨b, off, rfl, hlt, hc⟩
  · exact ⟨h.1, .inl h0⟩
  · exact ⟨h.1, .inr ⟨b, off, rfl, by omega, hc⟩⟩
theorem SegB.seg {k : IntKind} {B : Nat} {w : World} {a : Option Addr} {len : Nat} {l : List Int} (h : SegB k B w a len l) : SegK k w a len l := by
  rcases h.2 with h0 | ⟨b, off, rfl, hlt, hc⟩
  · exact ⟨h.1, .inl h0⟩
  · exact ⟨h.1, .inr ⟨b, off, rfl, hc⟩⟩
theorem Ls.up {B C : Nat} {w : World} {v : Value} {l : List Int} (h : Ls B w v l) (hB : B ≤ C) : Ls C w v l := by
  obtain ⟨a, len, cap, h1, h2, h3, h5, h4⟩ := h
  exact ⟨a, len, cap, h1, h2, h3, h5, h4.up hB⟩

def reB (g : Int) (x : In) : Bool := wiB g [x.a] && (knownB x.b && (decide (0 < x.l.length) && (decide (x.l.length ≤ 8) && wiB g x.l)))
set_option maxRecDepth 100000 in
theorem mayReckon_any (c : Cf) (x : In) (v : Value) (w : World) (hl : Ls w.heap.size w v x.l) :
    Calls Try.prog 44 #[cv c, iv x v] w fun e w' => e = .returned (.bool (reB c.g x)) ∧ Below w.heap.size w w' := by
  obtain ⟨a, len, cap, rfl, h1, h2, _, h3⟩ := hl
  have hmax : maxLen = 9223372036854775807 := rfl
  have hlen : len ≤ maxLen := by omega
  have hll : x.l.length = len := h3.1
  unfold cv iv
  have b1 := below_new w (.cells #[.int .i64 c.r, .int .i64 c.o, .int .i64 c.s, .int .i64 c.d, .int .i64 c.t, .int .i64 c.l, .int .i64 c.g, .int .i64 c.k, .int .i64 c.u, .int .i64 c.e, .int .i64 c.i, .int .i64 c.p] 23)
  have b2 := below_then b1 (below_new _ (.cells #[.int .i64 x.k, .int .i64 x.a, .int .i64 x.b, .int .i64 x.c, .slice a len cap] 44))
  have b3 := below_then b2 (below_new _ (.cells #[.int .i64 x.a] 3))
  have s3 := (h3.later b3).seg
  have s1 := seg_one ((w.alloc (.cells #[.int .i64 c.r, .int .i64 c.o, .int .i64 c.s, .int .i64 c.d, .int .i64 c.t, .int .i64 c.l, .int .i64 c.g, .int .i64 c.k, .int .i64 c.u, .int .i64 c.e, .int .i64 c.i, .int .i64 c.p] 23)).alloc (.cells #[.int .i64 x.k, .int .i64 x.a, .int .i64 x.b, .int .i64 x.c, .slice a len cap] 44)) x.a 3 (w.heap.size + 1 + 1) (by simp)
  replace s3 := hide s3
  replace s1 := hide s1
  replace b3 := hide b3
  replace h3 := hide h3
  clear b1 b2
  have fin : ∀ y : Bool, reB c.g x = y → Hid (reB c.g x = y) := fun _ h => h
  cases e1 : wiB c.g [x.a]
  · have r : reB c.g x = false := by simp [reB, e1]
    replace r := fin _ r
    go_enter Try.func44, Try.ntmps44
    go_wp2_with fail
    refine (pwithin_any c.g _ 1 1 [x.a] _ (unhide s1) (by decide)).mono ?_
    rw [e1]
    rintro e _ ⟨rfl, rfl⟩
    go_wp2
    go_ret
    exact ⟨by rw [unhide r]; rfl, unhide b3⟩
  · cases e2 : knownB x.b
    · have r : reB c.g x = false := by simp [reB, e1, e2]
      replace r := fin _ r
      go_enter Try.func44, Try.ntmps44
      go_wp2_with fail
      refine (pwithin_any c.g _ 1 1 [x.a] _ (unhide s1) (by decide)).mono ?_
      rw [e1]
      rintro e _ ⟨rfl, rfl⟩
      go_wp2_with fail
      refine (known_any x.b _).mono ?_
      rw [e2]
      rintro e _ ⟨rfl, rfl⟩
      go_wp2
      go_ret
      exact ⟨by rw [unhide r]; rfl, unhide b3⟩
    · by_cases e3 : 0 < len
      · have d3 : decide (0 < (len : Int)) = true := decide_eq_true (by omega)
        by_cases e4 : len ≤ 8
        · have d4 : decide ((len : Int) ≤ 8) = true := decide_eq_true (by omega)
          have r : reB c.g x = wiB c.g x.l := by simp [reB, e1, e2, hll, e3, e4]
          replace r := fin _ r
          go_enter Try.func44, Try.ntmps44
          go_wp2_with fail
          refine (pwithin_any c.g _ 1 1 [x.a] _ (unhide s1) (by decide)).mono ?_
          rw [e1]
          rintro e _ ⟨rfl, rfl⟩
          go_wp2_with fail
          refine (known_any x.b _).mono ?_
          rw [e2]
          rintro e _ ⟨rfl, rfl⟩
          go_wp2_with fail
          refine (pwithin_any c.g a len cap x.l _ (unhide s3) hlen).mono ?_
          rintro e _ ⟨rfl, rfl⟩
          go_wp2
          go_ret
          exact ⟨by rw [unhide r]; rfl, unhide b3⟩
        · have d4 : decide ((len : Int) ≤ 8) = false := decide_eq_false (by omega)
          have r : reB c.g x = false := by simp [reB, e1, e2, hll, e3, e4]
          replace r := fin _ r
          go_enter Try.func44, Try.ntmps44
          go_wp2_with fail
          refine (pwithin_any c.g _ 1 1 [x.a] _ (unhide s1) (by decide)).mono ?_
          rw [e1]
          rintro e _ ⟨rfl, rfl⟩
          go_wp2_with fail
          refine (known_any x.b _).mono ?_
          rw [e2]
          rintro e _ ⟨rfl, rfl⟩
          go_wp2
          go_ret
          exact ⟨by rw [unhide r]; rfl, unhide b3⟩
      · have d3 : decide (0 < (len : Int)) = false := decide_eq_false (by omega)
        have r : reB c.g x = false := by simp [reB, e1, e2, hll, e3]
        replace r := fin _ r
        go_enter Try.func44, Try.ntmps44
        go_wp2_with fail
        refine (pwithin_any c.g _ 1 1 [x.a] _ (unhide s1) (by decide)).mono ?_
        rw [e1]
        rintro e _ ⟨rfl, rfl⟩
        go_wp2_with fail
        refine (known_any x.b _).mono ?_
        rw [e2]
        rintro e _ ⟨rfl, rfl⟩
        go_wp2
        go_ret
        exact ⟨by rw [unhide r]; rfl, unhide b3⟩
def stB (g : Int) (x : In) (i n : Int) : Bool :=
  if x.k ≠ 4 ∧ 0 < x.l.length then false else
  if x.k = 1 ∨ x.k = 2 then wiB g [x.a] && (decide (x.c = -1) || wiB g [x.c]) else
  if x.k = 3 then wiB g [x.a] else
  if x.k = 4 then reB g x else
  if x.k = 5 then wiB g [x.a] && (decide (i < x.b) && decide (x.b ≤ n)) else
  decide (x.k = 6 ∨ x.k = 7)
set_option maxRecDepth 100000 in
set_option maxHeartbeats 2000000 in
theorem mayStand_any (c : Cf) (x : In) (v : Value) (i n : Int) (w : World) (hl : Ls w.heap.size w v x.l) :
    Calls Try.prog 31 #[cv c, iv x v, .int .i64 i, .int .i64 n] w fun e w' => e = .returned (.bool (stB c.g x i n)) ∧ Below w.heap.size w w' := by
  have hl0 := hl
  obtain ⟨p, len, cap, rfl, h1, h2, _, h3⟩ := hl
  have hmax : maxLen = 9223372036854775807 := rfl
  have hll : x.l.length = len := h3.1
  obtain ⟨k, a, b, d, l⟩ := x
  replace hll : l.length = len := hll
  have b2 := below_then (below_new w (.cells #[.int .i64 c.r, .int .i64 c.o, .int .i64 c.s, .int .i64 c.d, .int .i64 c.t, .int .i64 c.l, .int .i64 c.g, .int .i64 c.k, .int .i64 c.u, .int .i64 c.e, .int .i64 c.i, .int .i64 c.p] 23)) (below_new _ (.cells #[.int .i64 k, .int .i64 a, .int .i64 b, .int .i64 d, .slice p len cap] 44))
  have b3 := below_then b2 (below_new _ (.cells #[.int .i64 a] 3))
  have b4 := below_then b3 (below_new _ (.cells #[.int .i64 d] 3))
  have s1 := seg_one ((w.alloc (.cells #[.int .i64 c.r, .int .i64 c.o, .int .i64 c.s, .int .i64 c.d, .int .i64 c.t, .int .i64 c.l, .int .i64 c.g, .int .i64 c.k, .int .i64 c.u, .int .i64 c.e, .int .i64 c.i, .int .i64 c.p] 23)).alloc (.cells #[.int .i64 k, .int .i64 a, .int .i64 b, .int .i64 d, .slice p len cap] 44)) a 3 (w.heap.size + 1 + 1) (by simp)
  have s2 := seg_one (((w.alloc (.cells #[.int .i64 c.r, .int .i64 c.o, .int .i64 c.s, .int .i64 c.d, .int .i64 c.t, .int .i64 c.l, .int .i64 c.g, .int .i64 c.k, .int .i64 c.u, .int .i64 c.e, .int .i64 c.i, .int .i64 c.p] 23)).alloc (.cells #[.int .i64 k, .int .i64 a, .int .i64 b, .int .i64 d, .slice p len cap] 44)).alloc (.cells #[.int .i64 a] 3)) d 3 (w.heap.size + 1 + 1 + 1) (by simp)
  have hl2 : Ls ((w.alloc (.cells #[.int .i64 c.r, .int .i64 c.o, .int .i64 c.s, .int .i64 c.d, .int .i64 c.t, .int .i64 c.l, .int .i64 c.g, .int .i64 c.k, .int .i64 c.u, .int .i64 c.e, .int .i64 c.i, .int .i64 c.p] 23)).alloc (.cells #[.int .i64 k, .int .i64 a, .int .i64 b, .int .i64 d, .slice p len cap] 44)).heap.size ((w.alloc (.cells #[.int .i64 c.r, .int .i64 c.o, .int .i64 c.s, .int .i64 c.d, .int .i64 c.t, .int .i64 c.l, .int .i64 c.g, .int .i64 c.k, .int .i64 c.u, .int .i64 c.e, .int .i64 c.i, .int .i64 c.p] 23)).alloc (.cells #[.int .i64 k, .int .i64 a, .int .i64 b, .int .i64 d, .slice p len cap] 44)) (.slice p len cap) l := (hl0.later b2).up b2.size
  have kR := mayReckon_any c ⟨k, a, b, d, l⟩ (.slice p len cap) _ hl2
  unfold cv iv at kR
  unfold cv iv
  clear h3 hl0 hl2
  replace b2 := hide b2
  replace b3 := hide b3
  replace b4 := hide b4
  replace s1 := hide s1
  replace s2 := hide s2
  replace kR := hide kR
  by_cases hk4 : k = 4
  · subst hk4
    have r : Hid (stB c.g ⟨4, a, b, d, l⟩ i n = reB c.g ⟨4, a, b, d, l⟩) := hide (by simp [stB])
    go_enter Try.func31, Try.ntmps31
    go_wp2_with fail
    refine (unhide kR).mono ?_
    rintro e w9 ⟨rfl, hb9⟩
    have b9 := hide (below_then (unhide b2) hb9)
    clear hb9
    go_wp2
    go_ret
    exact ⟨by rw [unhide r]; rfl, unhide b9⟩
  · have n4 : (k == 4) = false := by simpa using hk4
    have m4 : (k != 4) = true := by simpa using hk4
    by_cases hlen0 : 0 < len
    · have dl : decide (0 < (len : Int)) = true := decide_eq_true (by omega)
      have r : Hid (stB c.g ⟨k, a, b, d, l⟩ i n = false) := hide (by simp [stB, hk4, hll, hlen0])
      go_enter Try.func31, Try.ntmps31
      go_wp2
      go_ret
      exact ⟨by rw [unhide r]; rfl, unhide b2⟩
    · have z : len = 0 := by omega
      have zl : l = [] := List.length_eq_zero_iff.1 (by omega)
      subst z
      subst zl
      clear kR
      by_cases hk1 : k = 1
      · subst hk1
        cases e1 : wiB c.g [a]
        · skip
          have r : Hid (stB c.g ⟨1, a, b, d, []⟩ i n = false) := hide (by simp [stB, e1])
          go_enter Try.func31, Try.ntmps31
          go_wp2_with fail
          refine (pwithin_any c.g _ 1 1 [a] _ (unhide s1) (by decide)).mono ?_
          rw [e1]
          rintro e _ ⟨rfl, rfl⟩
          go_wp2
          go_ret
          exact ⟨by rw [unhide r]; rfl, unhide b3⟩
        · by_cases hd : d = -1
          · subst hd
            have r : Hid (stB c.g ⟨1, a, b, (-1), []⟩ i n = true) := hide (by simp [stB, e1])
            go_enter Try.func31, Try.ntmps31
            go_wp2_with fail
            refine (pwithin_any c.g _ 1 1 [a] _ (unhide s1) (by decide)).mono ?_
            rw [e1]
            rintro e _ ⟨rfl, rfl⟩
            go_wp2
            go_ret
            exact ⟨by rw [unhide r]; rfl, unhide b3⟩
          · have nd : (d == -1) = false := by simpa using hd
            cases e2 : wiB c.g [d]
            · skip
              have r : Hid (stB c.g ⟨1, a, b, d, []⟩ i n = false) := hide (by simp [stB, e1, e2, hd])
              go_enter Try.func31, Try.ntmps31
              go_wp2_with fail
              refine (pwithin_any c.g _ 1 1 [a] _ (unhide s1) (by decide)).mono ?_
              rw [e1]
              rintro e _ ⟨rfl, rfl⟩
              go_wp2_with fail
              refine (pwithin_any c.g _ 1 1 [d] _ (unhide s2) (by decide)).mono ?_
              rw [e2]
              rintro e _ ⟨rfl, rfl⟩
              go_wp2
              go_ret
              exact ⟨by rw [unhide r]; rfl, unhide b4⟩
            · skip
              have r : Hid (stB c.g ⟨1, a, b, d, []⟩ i n = true) := hide (by simp [stB, e1, e2, hd])
              go_enter Try.func31, Try.ntmps31
              go_wp2_with fail
              refine (pwithin_any c.g _ 1 1 [a] _ (unhide s1) (by decide)).mono ?_
              rw [e1]
              rintro e _ ⟨rfl, rfl⟩
              go_wp2_with fail
              refine (pwithin_any c.g _ 1 1 [d] _ (unhide s2) (by decide)).mono ?_
              rw [e2]
              rintro e _ ⟨rfl, rfl⟩
              go_wp2
              go_ret
              exact ⟨by rw [unhide r]; rfl, unhide b4⟩
      · have n1 : (k == 1) = false := by simpa using hk1
        by_cases hk2 : k = 2
        · subst hk2
          cases e1 : wiB c.g [a]
          · skip
            have r : Hid (stB c.g ⟨2, a, b, d, []⟩ i n = false) := hide (by simp [stB, e1])
            go_enter Try.func31, Try.ntmps31
            go_wp2_with fail
            refine (pwithin_any c.g _ 1 1 [a] _ (unhide s1) (by decide)).mono ?_
            rw [e1]
            rintro e _ ⟨rfl, rfl⟩
            go_wp2
            go_ret
            exact ⟨by rw [unhide r]; rfl, unhide b3⟩
          · by_cases hd : d = -1
            · subst hd
              have r : Hid (stB c.g ⟨2, a, b, (-1), []⟩ i n = true) := hide (by simp [stB, e1])
              go_enter Try.func31, Try.ntmps31
              go_wp2_with fail
              refine (pwithin_any c.g _ 1 1 [a] _ (unhide s1) (by decide)).mono ?_
              rw [e1]
              rintro e _ ⟨rfl, rfl⟩
              go_wp2
              go_ret
              exact ⟨by rw [unhide r]; rfl, unhide b3⟩
            · have nd : (d == -1) = false := by simpa using hd
              cases e2 : wiB c.g [d]
              · skip
                have r : Hid (stB c.g ⟨2, a, b, d, []⟩ i n = false) := hide (by simp [stB, e1, e2, hd])
                go_enter Try.func31, Try.ntmps31
                go_wp2_with fail
                refine (pwithin_any c.g _ 1 1 [a] _ (unhide s1) (by decide)).mono ?_
                rw [e1]
                rintro e _ ⟨rfl, rfl⟩
                go_wp2_with fail
                refine (pwithin_any c.g _ 1 1 [d] _ (unhide s2) (by decide)).mono ?_
                rw [e2]
                rintro e _ ⟨rfl, rfl⟩
                go_wp2
                go_ret
                exact ⟨by rw [unhide r]; rfl, unhide b4⟩
              · skip
                have r : Hid (stB c.g ⟨2, a, b, d, []⟩ i n = true) := hide (by simp [stB, e1, e2, hd])
                go_enter Try.func31, Try.ntmps31
                go_wp2_with fail
                refine (pwithin_any c.g _ 1 1 [a] _ (unhide s1) (by decide)).mono ?_
                rw [e1]
                rintro e _ ⟨rfl, rfl⟩
                go_wp2_with fail
                refine (pwithin_any c.g _ 1 1 [d] _ (unhide s2) (by decide)).mono ?_
                rw [e2]
                rintro e _ ⟨rfl, rfl⟩
                go_wp2
                go_ret
                exact ⟨by rw [unhide r]; rfl, unhide b4⟩
        · have n2 : (k == 2) = false := by simpa using hk2
          by_cases hk3 : k = 3
          · subst hk3
            cases e1 : wiB c.g [a]
            · skip
              have r : Hid (stB c.g ⟨3, a, b, d, []⟩ i n = false) := hide (by simp [stB, e1])
              go_enter Try.func31, Try.ntmps31
              go_wp2_with fail
              refine (pwithin_any c.g _ 1 1 [a] _ (unhide s1) (by decide)).mono ?_
              rw [e1]
              rintro e _ ⟨rfl, rfl⟩
              go_wp2
              go_ret
              exact ⟨by rw [unhide r]; rfl, unhide b3⟩
            · skip
              have r : Hid (stB c.g ⟨3, a, b, d, []⟩ i n = true) := hide (by simp [stB, e1])
              go_enter Try.func31, Try.ntmps31
              go_wp2_with fail
              refine (pwithin_any c.g _ 1 1 [a] _ (unhide s1) (by decide)).mono ?_
              rw [e1]
              rintro e _ ⟨rfl, rfl⟩
              go_wp2
              go_ret
              exact ⟨by rw [unhide r]; rfl, unhide b3⟩
          · have n3 : (k == 3) = false := by simpa using hk3
            by_cases hk5 : k = 5
            · subst hk5
              cases e1 : wiB c.g [a]
              · skip
                have r : Hid (stB c.g ⟨5, a, b, d, []⟩ i n = false) := hide (by simp [stB, e1])
                go_enter Try.func31, Try.ntmps31
                go_wp2_with fail
                refine (pwithin_any c.g _ 1 1 [a] _ (unhide s1) (by decide)).mono ?_
                rw [e1]
                rintro e _ ⟨rfl, rfl⟩
                go_wp2
                go_ret
                exact ⟨by rw [unhide r]; rfl, unhide b3⟩
              · by_cases h5 : i < b
                · have d5 : decide (i < b) = true := decide_eq_true h5
                  by_cases h6 : b ≤ n
                  · have d6 : decide (b ≤ n) = true := decide_eq_true h6
                    have r : Hid (stB c.g ⟨5, a, b, d, []⟩ i n = true) := hide (by simp [stB, e1, h5, h6])
                    go_enter Try.func31, Try.ntmps31
                    go_wp2_with fail
                    refine (pwithin_any c.g _ 1 1 [a] _ (unhide s1) (by decide)).mono ?_
                    rw [e1]
                    rintro e _ ⟨rfl, rfl⟩
                    go_wp2
                    go_ret
                    exact ⟨by rw [unhide r]; rfl, unhide b3⟩
                  · have d6 : decide (b ≤ n) = false := decide_eq_false h6
                    have r : Hid (stB c.g ⟨5, a, b, d, []⟩ i n = false) := hide (by simp [stB, e1, h5, h6])
                    go_enter Try.func31, Try.ntmps31
                    go_wp2_with fail
                    refine (pwithin_any c.g _ 1 1 [a] _ (unhide s1) (by decide)).mono ?_
                    rw [e1]
                    rintro e _ ⟨rfl, rfl⟩
                    go_wp2
                    go_ret
                    exact ⟨by rw [unhide r]; rfl, unhide b3⟩
                · have d5 : decide (i < b) = false := decide_eq_false h5
                  have r : Hid (stB c.g ⟨5, a, b, d, []⟩ i n = false) := hide (by simp [stB, e1, h5])
                  go_enter Try.func31, Try.ntmps31
                  go_wp2_with fail
                  refine (pwithin_any c.g _ 1 1 [a] _ (unhide s1) (by decide)).mono ?_
                  rw [e1]
                  rintro e _ ⟨rfl, rfl⟩
                  go_wp2
                  go_ret
                  exact ⟨by rw [unhide r]; rfl, unhide b3⟩
            · have n5 : (k == 5) = false := by simpa using hk5
              by_cases hk6 : k = 6
              · subst hk6
                have r : Hid (stB c.g ⟨6, a, b, d, []⟩ i n = true) := hide (by simp [stB])
                go_enter Try.func31, Try.ntmps31
                go_wp2
                go_ret
                exact ⟨by rw [unhide r]; rfl, unhide b2⟩
              · have n6 : (k == 6) = false := by simpa using hk6
                by_cases hk7 : k = 7
                · subst hk7
                  have r : Hid (stB c.g ⟨7, a, b, d, []⟩ i n = true) := hide (by simp [stB])
                  go_enter Try.func31, Try.ntmps31
                  go_wp2
                  go_ret
                  exact ⟨by rw [unhide r]; rfl, unhide b2⟩
                · have n7 : (k == 7) = false := by simpa using hk7
                  have r : Hid (stB c.g ⟨k, a, b, d, []⟩ i n = false) := hide (by simp [stB, hk1, hk2, hk3, hk4, hk5, hk6, hk7])
                  go_enter Try.func31, Try.ntmps31
                  go_wp2
                  go_ret
                  exact ⟨by rw [unhide r]; rfl, unhide b2⟩
end Go.Proofs.Ytdhfpfkcbcgnaaa
