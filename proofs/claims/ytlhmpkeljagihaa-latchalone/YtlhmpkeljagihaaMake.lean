/- What the makers of latches answer: begin, Read, Write, EndRead, EndWrite. -/
import Derived.Test.YtlhmpkeljagihaaStep
namespace Go.Proofs.Ytlhmpkeljagihaa
open Go.RowKit

/-- A new latch. -/
def newL (p : Int) (c : Cf) (node thread : Int) (rd : Bool) (wd : Int) : LS :=
  ⟨p, if 0 ≤ thread ∧ thread < c.t then latchD c node else -1, thread, decide (thread < c.l), rd, wd, 0⟩
/-- A call that makes the latch L. -/
def Made (L : LS) (w : World) (e : Ending) (w' : World) : Prop := ∃ b, e = .returned (.pointer (some ⟨b, 0, none⟩)) ∧ w.heap.size ≤ b ∧ Lat w' b L ∧ Below w.heap.size w w'
theorem lat_new (L : LS) (w : World) : Lat (w.alloc (.cells #[.int .i64 L.p, .int .i64 L.o, .int .i64 L.t, .bool L.sl, .bool L.rd, .int .i64 L.wd, .int .i64 L.st] 73)) w.heap.size L := by
  show (w.heap.push _)[w.heap.size]? = _
  simp
theorem set_below {B b k : Nat} {w w' : World} (h : Below B w w') (hb : B ≤ b) (v : Value) : Below B w (w'.setCell ⟨b, k, none⟩ v) := h.trans ((touch_set b k w' v).below hb hb)

set_option maxRecDepth 100000 in
theorem begin_any (p : Int) (c : Cf) (node thread : Int) (w : World) :
    Calls Try.prog 51 #[.int .i64 p, cv c, .int .i64 node, .int .i64 thread] w (Made (newL p c node thread false 0) w) := by
  unfold newL
  by_cases h0 : thread < 0
  · rw [if_neg (by omega)]
    unfold cv
    go_enter Try.func51, Try.ntmps51
    go_wp2_with fail
    have hx := bx_new c w
    go_region_held3 (fun wz => wz.cell? ⟨w.heap.size, 0, none⟩ = some (.int .i64 c.r) ∧ wz.cell? ⟨w.heap.size, 1, none⟩ = some (.int .i64 c.o) ∧ wz.cell? ⟨w.heap.size, 2, none⟩ = some (.int .i64 c.s) ∧ wz.cell? ⟨w.heap.size, 3, none⟩ = some (.int .i64 c.d) ∧ wz.cell? ⟨w.heap.size, 4, none⟩ = some (.int .i64 c.t) ∧ wz.cell? ⟨w.heap.size, 5, none⟩ = some (.int .i64 c.l) ∧ wz.cell? ⟨w.heap.size, 6, none⟩ = some (.int .i64 c.g) ∧ wz.cell? ⟨w.heap.size, 7, none⟩ = some (.int .i64 c.k) ∧ wz.cell? ⟨w.heap.size, 8, none⟩ = some (.int .i64 c.u) ∧ wz.cell? ⟨w.heap.size, 9, none⟩ = some (.int .i64 c.e) ∧ wz.cell? ⟨w.heap.size, 10, none⟩ = some (.int .i64 c.i) ∧ wz.cell? ⟨w.heap.size, 11, none⟩ = some (.int .i64 c.p)) (first | exact hx.drew.cells | exact hx1.cells | exact (hx1.next (below_new _ _)).cells)
      (first
        | (go_at_call 33; refine (latch_any c node _).mono ?_; rintro e w1 ⟨rfl, hb⟩; have hx1 := hx.drew.next hb))
    have hbw := below_drew hb
    have hl := lat_new ⟨p, latchD c node, thread, decide (thread < c.l), false, 0, 0⟩ w1
    have hb2 := (below_then hbw (below_new w1 (.cells #[.int .i64 p, .int .i64 (latchD c node), .int .i64 thread, .bool (decide (thread < c.l)), .bool false, .int .i64 0, .int .i64 0] 73)))
    have hx2 := hx1.next (below_new w1 (.cells #[.int .i64 p, .int .i64 (latchD c node), .int .i64 thread, .bool (decide (thread < c.l)), .bool false, .int .i64 0, .int .i64 0] 73))
    have x4 := hx2.cells.2.2.2.2.1
    have f1 := hl.free 1
    have k1 := hl.c1
    have hs := hbw.size
    go_wp2
    go_ret
    exact ⟨_, rfl, hs, lat_new ⟨p, -1, thread, decide (thread < c.l), false, 0, 0⟩ w1, below_then hbw (below_new w1 _)⟩
  · by_cases h1 : thread < c.t
    · rw [if_pos (by omega)]
      have q0 : decide (thread < 0) = false := decide_eq_false h0
      have q1 : decide (c.t ≤ thread) = false := decide_eq_false (by omega)
      clear h0 h1
      unfold cv
      go_enter Try.func51, Try.ntmps51
      go_wp2_with fail
      have hx := bx_new c w
      go_region_held3 (fun wz => wz.cell? ⟨w.heap.size, 0, none⟩ = some (.int .i64 c.r) ∧ wz.cell? ⟨w.heap.size, 1, none⟩ = some (.int .i64 c.o) ∧ wz.cell? ⟨w.heap.size, 2, none⟩ = some (.int .i64 c.s) ∧ wz.cell? ⟨w.heap.size, 3, none⟩ = some (.int .i64 c.d) ∧ wz.cell? ⟨w.heap.size, 4, none⟩ = some (.int .i64 c.t) ∧ wz.cell? ⟨w.heap.size, 5, none⟩ = some (.int .i64 c.l) ∧ wz.cell? ⟨w.heap.size, 6, none⟩ = some (.int .i64 c.g) ∧ wz.cell? ⟨w.heap.size, 7, none⟩ = some (.int .i64 c.k) ∧ wz.cell? ⟨w.heap.size, 8, none⟩ = some (.int .i64 c.u) ∧ wz.cell? ⟨w.heap.size, 9, none⟩ = some (.int .i64 c.e) ∧ wz.cell? ⟨w.heap.size, 10, none⟩ = some (.int .i64 c.i) ∧ wz.cell? ⟨w.heap.size, 11, none⟩ = some (.int .i64 c.p)) (first | exact hx.drew.cells | exact hx1.cells | exact (hx1.next (below_new _ _)).cells)
        (first
          | (go_at_call 33; refine (latch_any c node _).mono ?_; rintro e w1 ⟨rfl, hb⟩; have hx1 := hx.drew.next hb))
      have hbw := below_drew hb
      have hl := lat_new ⟨p, latchD c node, thread, decide (thread < c.l), false, 0, 0⟩ w1
      have hb2 := (below_then hbw (below_new w1 (.cells #[.int .i64 p, .int .i64 (latchD c node), .int .i64 thread, .bool (decide (thread < c.l)), .bool false, .int .i64 0, .int .i64 0] 73)))
      have hx2 := hx1.next (below_new w1 (.cells #[.int .i64 p, .int .i64 (latchD c node), .int .i64 thread, .bool (decide (thread < c.l)), .bool false, .int .i64 0, .int .i64 0] 73))
      have x4 := hx2.cells.2.2.2.2.1
      have f1 := hl.free 1
      have k1 := hl.c1
      have hs := hbw.size
      go_wp2
      go_ret
      exact ⟨_, rfl, hs, hl, hb2⟩
    · rw [if_neg (by omega)]
      have q0 : decide (thread < 0) = false := decide_eq_false h0
      have q1 : decide (c.t ≤ thread) = true := decide_eq_true (by omega)
      clear h0 h1
      unfold cv
      go_enter Try.func51, Try.ntmps51
      go_wp2_with fail
      have hx := bx_new c w
      go_region_held3 (fun wz => wz.cell? ⟨w.heap.size, 0, none⟩ = some (.int .i64 c.r) ∧ wz.cell? ⟨w.heap.size, 1, none⟩ = some (.int .i64 c.o) ∧ wz.cell? ⟨w.heap.size, 2, none⟩ = some (.int .i64 c.s) ∧ wz.cell? ⟨w.heap.size, 3, none⟩ = some (.int .i64 c.d) ∧ wz.cell? ⟨w.heap.size, 4, none⟩ = some (.int .i64 c.t) ∧ wz.cell? ⟨w.heap.size, 5, none⟩ = some (.int .i64 c.l) ∧ wz.cell? ⟨w.heap.size, 6, none⟩ = some (.int .i64 c.g) ∧ wz.cell? ⟨w.heap.size, 7, none⟩ = some (.int .i64 c.k) ∧ wz.cell? ⟨w.heap.size, 8, none⟩ = some (.int .i64 c.u) ∧ wz.cell? ⟨w.heap.size, 9, none⟩ = some (.int .i64 c.e) ∧ wz.cell? ⟨w.heap.size, 10, none⟩ = some (.int .i64 c.i) ∧ wz.cell? ⟨w.heap.size, 11, none⟩ = some (.int .i64 c.p)) (first | exact hx.drew.cells | exact hx1.cells | exact (hx1.next (below_new _ _)).cells)
        (first
          | (go_at_call 33; refine (latch_any c node _).mono ?_; rintro e w1 ⟨rfl, hb⟩; have hx1 := hx.drew.next hb))
      have hbw := below_drew hb
      have hl := lat_new ⟨p, latchD c node, thread, decide (thread < c.l), false, 0, 0⟩ w1
      have hb2 := (below_then hbw (below_new w1 (.cells #[.int .i64 p, .int .i64 (latchD c node), .int .i64 thread, .bool (decide (thread < c.l)), .bool false, .int .i64 0, .int .i64 0] 73)))
      have hx2 := hx1.next (below_new w1 (.cells #[.int .i64 p, .int .i64 (latchD c node), .int .i64 thread, .bool (decide (thread < c.l)), .bool false, .int .i64 0, .int .i64 0] 73))
      have x4 := hx2.cells.2.2.2.2.1
      have f1 := hl.free 1
      have k1 := hl.c1
      have hs := hbw.size
      go_wp2
      go_ret
      exact ⟨_, rfl, hs, lat_new ⟨p, -1, thread, decide (thread < c.l), false, 0, 0⟩ w1, below_then hbw (below_new w1 _)⟩

set_option maxRecDepth 100000 in
theorem read_any (c : Cf) (node thread : Int) (w : World) :
    Calls Try.prog 30 #[cv c, .int .i64 node, .int .i64 thread] w (Made (newL 0 c node thread false 0) w) := by
  unfold cv
  go_enter Try.func30, Try.ntmps30
  have hx := bx_new c w
  obtain ⟨x0, x1, x2, x3, x4, x5, x6, x7, x8, x9, x10, x11⟩ := hx.cells
  go_wp2_with fail
  refine (begin_any 0 c node thread _).mono ?_
  rintro e w1 ⟨b, rfl, hs, hl, hb⟩
  go_wp2
  go_ret
  exact ⟨b, rfl, by simp at hs; omega, hl, below_call hb⟩

set_option maxRecDepth 100000 in
theorem endRead_any (c : Cf) (node thread : Int) (w : World) :
    Calls Try.prog 32 #[cv c, .int .i64 node, .int .i64 thread] w (Made (newL 6 c node thread false 0) w) := by
  unfold cv
  go_enter Try.func32, Try.ntmps32
  have hx := bx_new c w
  obtain ⟨x0, x1, x2, x3, x4, x5, x6, x7, x8, x9, x10, x11⟩ := hx.cells
  go_wp2_with fail
  refine (begin_any 6 c node thread _).mono ?_
  rintro e w1 ⟨b, rfl, hs, hl, hb⟩
  go_wp2
  go_ret
  exact ⟨b, rfl, by simp at hs; omega, hl, below_call hb⟩

set_option maxRecDepth 100000 in
theorem endWrite_any (c : Cf) (node thread : Int) (w : World) :
    Calls Try.prog 35 #[cv c, .int .i64 node, .int .i64 thread] w (Made (newL 7 c node thread false 0) w) := by
  unfold cv
  go_enter Try.func35, Try.ntmps35
  have hx := bx_new c w
  obtain ⟨x0, x1, x2, x3, x4, x5, x6, x7, x8, x9, x10, x11⟩ := hx.cells
  go_wp2_with fail
  refine (begin_any 7 c node thread _).mono ?_
  rintro e w1 ⟨b, rfl, hs, hl, hb⟩
  go_wp2
  go_ret
  exact ⟨b, rfl, by simp at hs; omega, hl, below_call hb⟩

set_option maxRecDepth 100000 in
theorem write_any (c : Cf) (node thread : Int) (rd : Bool) (w : World) :
    Calls Try.prog 31 #[cv c, .int .i64 node, .int .i64 thread, .bool rd] w (Made (newL 3 c node thread rd 1) w) := by
  unfold cv
  go_enter Try.func31, Try.ntmps31
  have hx := bx_new c w
  obtain ⟨x0, x1, x2, x3, x4, x5, x6, x7, x8, x9, x10, x11⟩ := hx.cells
  go_wp2_with fail
  refine (begin_any 3 c node thread _).mono ?_
  rintro e w1 ⟨b, rfl, hs, hl, hb⟩
  have k4 := hl.c4
  have f4 := hl.free 4
  have hl4 := hl.set4 rd
  have k5 := hl4.c5
  have f5 := hl4.free 5
  have hl5 := hl4.set5 1
  have hs' : w.heap.size ≤ b := by simp at hs; omega
  go_wp2
  go_ret
  exact ⟨b, rfl, hs', hl5, set_below (set_below (below_call hb) hs' _) hs' _⟩
end Go.Proofs.Ytlhmpkeljagihaa
