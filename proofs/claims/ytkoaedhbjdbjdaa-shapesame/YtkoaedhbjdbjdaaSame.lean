/- ShapeSame: two configurations whose heaps are alike. -/
import Derived.Test.YtkoaedhbjdbjdaaPaths
import Derived.Test.YtkoaedhbjdbjdaaPut
namespace Go.Proofs.Ytkoaedhbjdbjdaa
open Go.RowKit

/-- d with c's heap. -/
def mix (c d : Cf) : Cf := { d with r := c.r, o := c.o, s := c.s, d := c.d }
theorem mix_ok {c d : Cf} (h : okB c = true) (h' : okB d = true) : okB (mix c d) = true := by
  simp only [okB, Bool.and_eq_true] at h h' ⊢
  exact ⟨h.1, h'.2⟩
theorem mix_words {c d : Cf} (h : okB c = true) (h' : okB d = true) : wordsD (mix c d) = wordsD c := by rw [words_eq h, words_eq (mix_ok h h')]; rfl
theorem mix_nodes {c d : Cf} (h : okB c = true) (h' : okB d = true) : nodesD (mix c d) = nodesD c := by rw [nodes_ok h, nodes_ok (mix_ok h h')]; rfl
theorem mix_cells {c d : Cf} (h : okB c = true) (h' : okB d = true) : cellsD (mix c d) = cellsD c := by simp only [cellsD, h, mix_ok h h', if_true]; rfl
theorem mix_is {c d : Cf} (h : okB c = true) (h' : okB d = true) (a : Int) : isB (mix c d) a = isB c a := by unfold isB; rw [mix_words h h']
theorem mix_pr {c d : Cf} (h : okB c = true) (h' : okB d = true) (a : Int) : pr (mix c d) a = pr c a := by unfold pr; rw [mix_is h h']; rfl
theorem mix_po {c d : Cf} (h : okB c = true) (h' : okB d = true) (a : Int) : po (mix c d) a = po c a := by unfold po; rw [mix_is h h']; rfl
theorem mix_ps {c d : Cf} (h : okB c = true) (h' : okB d = true) (a : Int) : ps (mix c d) a = ps c a := by unfold ps; rw [mix_is h h']; rfl
theorem mix_level {c d : Cf} (h : okB c = true) (h' : okB d = true) (n : Int) : levelD (mix c d) n = levelD c n := by unfold levelD; rw [mix_nodes h h']; rfl
theorem mix_latch {c d : Cf} (h : okB c = true) (h' : okB d = true) (n : Int) : latchD (mix c d) n = latchD c n := by unfold latchD; rw [mix_level h h']; rfl
theorem pathS (c d : Cf) (a : Int) (w : World) (h : okB c = true) (h' : okB d = true) : Calls Try.prog 9 #[cv (mix c d), .int .i64 a] w fun e w' => e = .returned (.tuple #[.int .i64 (pr c a), .int .i64 (po c a), .int .i64 (ps c a), .int .i64 (errOf (isB c a))]) ∧ Below w.heap.size w w' := by
  have := path_any (mix c d) a w
  rwa [mix_pr h h', mix_po h h', mix_ps h h', mix_is h h'] at this
theorem wordsS (c d : Cf) (w : World) (h : okB c = true) (h' : okB d = true) : Calls Try.prog 13 #[cv (mix c d)] w fun e w' => e = .returned (.int .i64 (wordsD c)) ∧ Below w.heap.size w w' := by
  have := words_any (mix c d) w
  rwa [mix_words h h'] at this
theorem nodesS (c d : Cf) (w : World) (h : okB c = true) (h' : okB d = true) : Calls Try.prog 15 #[cv (mix c d)] w fun e w' => e = .returned (.int .i64 (nodesD c)) ∧ Below w.heap.size w w' := by
  have := nodes_any (mix c d) w
  rwa [mix_nodes h h'] at this
theorem cellsS (c d : Cf) (w : World) (h : okB c = true) (h' : okB d = true) : Calls Try.prog 17 #[cv (mix c d)] w fun e w' => e = .returned (.int .i64 (cellsD c)) ∧ Below w.heap.size w w' := by
  have := cells_any (mix c d) w
  rwa [mix_cells h h'] at this
theorem latchS (c d : Cf) (n : Int) (w : World) (h : okB c = true) (h' : okB d = true) : Calls Try.prog 23 #[cv (mix c d), .int .i64 n] w fun e w' => e = .returned (.int .i64 (latchD c n)) ∧ Below w.heap.size w w' := by
  have := latch_any (mix c d) n w
  rwa [mix_latch h h'] at this

theorem two_new (c d : Cf) (w : World) : Two c d w.heap.size (w.heap.size + 1) ((w.alloc (.cells #[.int .i64 c.r, .int .i64 c.o, .int .i64 c.s, .int .i64 c.d, .int .i64 c.t, .int .i64 c.l, .int .i64 c.g, .int .i64 c.k, .int .i64 c.u, .int .i64 c.e, .int .i64 c.i, .int .i64 c.p] 23)).alloc (.cells #[.int .i64 d.r, .int .i64 d.o, .int .i64 d.s, .int .i64 d.d, .int .i64 d.t, .int .i64 d.l, .int .i64 d.g, .int .i64 d.k, .int .i64 d.u, .int .i64 d.e, .int .i64 d.i, .int .i64 d.p] 23)) := by
  refine ⟨(bx_new c w).later (below_new _ _) (by simp), ?_⟩
  have := bx_new d (w.alloc (.cells #[.int .i64 c.r, .int .i64 c.o, .int .i64 c.s, .int .i64 c.d, .int .i64 c.t, .int .i64 c.l, .int .i64 c.g, .int .i64 c.k, .int .i64 c.u, .int .i64 c.e, .int .i64 c.i, .int .i64 c.p] 23))
  simpa using this
theorem below_two (w : World) (o o' : Obj) : Below w.heap.size w ((w.alloc o).alloc o') := (below_new w o).alloc (by simp) _
theorem Two.four {c d : Cf} {b b' : Nat} {w : World} (h : Two c d b b' w) (hb : b ≠ b') : Two c (mix c d) b b' ((((w.setCell ⟨b', 0, none⟩ (.int .i64 c.r)).setCell ⟨b', 1, none⟩ (.int .i64 c.o)).setCell ⟨b', 2, none⟩ (.int .i64 c.s)).setCell ⟨b', 3, none⟩ (.int .i64 c.d)) :=
  ⟨(((h.1.other hb _).other hb _).other hb _).other hb _, (((h.2.set0 c.r).set1 c.o).set2 c.s).set3 c.d⟩
theorem below_four {B b' : Nat} {w w' : World} (h : Below B w w') (hb : B ≤ b') (v1 v2 v3 v4 : Value) : Below B w ((((w'.setCell ⟨b', 0, none⟩ v1).setCell ⟨b', 1, none⟩ v2).setCell ⟨b', 2, none⟩ v3).setCell ⟨b', 3, none⟩ v4) :=
  (((h.setCell (p := ⟨b', 0, none⟩) hb _).setCell (p := ⟨b', 1, none⟩) hb _).setCell (p := ⟨b', 2, none⟩) hb _).setCell (p := ⟨b', 3, none⟩) hb _

theorem wordsC (c : Cf) (w : World) : Calls Try.prog 13 #[.agg #[.int .i64 c.r, .int .i64 c.o, .int .i64 c.s, .int .i64 c.d, .int .i64 c.t, .int .i64 c.l, .int .i64 c.g, .int .i64 c.k, .int .i64 c.u, .int .i64 c.e, .int .i64 c.i, .int .i64 c.p]] w fun e w' => e = .returned (.int .i64 (wordsD c)) ∧ Below w.heap.size w w' := words_any c w
theorem wordsT (c d : Cf) (w : World) (h : okB c = true) (h' : okB d = true) : Calls Try.prog 13 #[.agg #[.int .i64 (mix c d).r, .int .i64 (mix c d).o, .int .i64 (mix c d).s, .int .i64 (mix c d).d, .int .i64 (mix c d).t, .int .i64 (mix c d).l, .int .i64 (mix c d).g, .int .i64 (mix c d).k, .int .i64 (mix c d).u, .int .i64 (mix c d).e, .int .i64 (mix c d).i, .int .i64 (mix c d).p]] w fun e w' => e = .returned (.int .i64 (wordsD c)) ∧ Below w.heap.size w w' := wordsS c d w h h'
theorem nodesC (c : Cf) (w : World) : Calls Try.prog 15 #[.agg #[.int .i64 c.r, .int .i64 c.o, .int .i64 c.s, .int .i64 c.d, .int .i64 c.t, .int .i64 c.l, .int .i64 c.g, .int .i64 c.k, .int .i64 c.u, .int .i64 c.e, .int .i64 c.i, .int .i64 c.p]] w fun e w' => e = .returned (.int .i64 (nodesD c)) ∧ Below w.heap.size w w' := nodes_any c w
theorem nodesT (c d : Cf) (w : World) (h : okB c = true) (h' : okB d = true) : Calls Try.prog 15 #[.agg #[.int .i64 (mix c d).r, .int .i64 (mix c d).o, .int .i64 (mix c d).s, .int .i64 (mix c d).d, .int .i64 (mix c d).t, .int .i64 (mix c d).l, .int .i64 (mix c d).g, .int .i64 (mix c d).k, .int .i64 (mix c d).u, .int .i64 (mix c d).e, .int .i64 (mix c d).i, .int .i64 (mix c d).p]] w fun e w' => e = .returned (.int .i64 (nodesD c)) ∧ Below w.heap.size w w' := nodesS c d w h h'
theorem cellsC (c : Cf) (w : World) : Calls Try.prog 17 #[.agg #[.int .i64 c.r, .int .i64 c.o, .int .i64 c.s, .int .i64 c.d, .int .i64 c.t, .int .i64 c.l, .int .i64 c.g, .int .i64 c.k, .int .i64 c.u, .int .i64 c.e, .int .i64 c.i, .int .i64 c.p]] w fun e w' => e = .returned (.int .i64 (cellsD c)) ∧ Below w.heap.size w w' := cells_any c w
theorem cellsT (c d : Cf) (w : World) (h : okB c = true) (h' : okB d = true) : Calls Try.prog 17 #[.agg #[.int .i64 (mix c d).r, .int .i64 (mix c d).o, .int .i64 (mix c d).s, .int .i64 (mix c d).d, .int .i64 (mix c d).t, .int .i64 (mix c d).l, .int .i64 (mix c d).g, .int .i64 (mix c d).k, .int .i64 (mix c d).u, .int .i64 (mix c d).e, .int .i64 (mix c d).i, .int .i64 (mix c d).p]] w fun e w' => e = .returned (.int .i64 (cellsD c)) ∧ Below w.heap.size w w' := cellsS c d w h h'
theorem latchC (c : Cf) (n : Int) (w : World) : Calls Try.prog 23 #[.agg #[.int .i64 c.r, .int .i64 c.o, .int .i64 c.s, .int .i64 c.d, .int .i64 c.t, .int .i64 c.l, .int .i64 c.g, .int .i64 c.k, .int .i64 c.u, .int .i64 c.e, .int .i64 c.i, .int .i64 c.p], .int .i64 n] w fun e w' => e = .returned (.int .i64 (latchD c n)) ∧ Below w.heap.size w w' := latch_any c n w
theorem latchT (c d : Cf) (n : Int) (w : World) (h : okB c = true) (h' : okB d = true) : Calls Try.prog 23 #[.agg #[.int .i64 (mix c d).r, .int .i64 (mix c d).o, .int .i64 (mix c d).s, .int .i64 (mix c d).d, .int .i64 (mix c d).t, .int .i64 (mix c d).l, .int .i64 (mix c d).g, .int .i64 (mix c d).k, .int .i64 (mix c d).u, .int .i64 (mix c d).e, .int .i64 (mix c d).i, .int .i64 (mix c d).p], .int .i64 n] w fun e w' => e = .returned (.int .i64 (latchD c n)) ∧ Below w.heap.size w w' := latchS c d n w h h'

theorem Two.drew {c d : Cf} {b b' : Nat} {w : World} (h : Two c d b b' w) : Two c d b b' w.drew := h

set_option maxHeartbeats 1000000 in
theorem shapeSame_walk (c d : Cf) (a : Int) (w : World) (_ : (Lit.int .i64 a).wf = true) : Calls Try.prog 7 #[cv c, cv d, .int .i64 a] w fun e w' => e = .returned (.bool true) ∧ Below w.heap.size w w' := by
  cases h : okB c
  · have H := hide h
    clear h
    unfold cv
    go_enter Try.func7, Try.ntmps7
    go_wp2_with fail
    refine (first_any _).mono ?_
    rintro e w1 ⟨rfl, hb⟩
    have hl := bthen (below_two w _ _) hb (Nat.le_refl _)
    have hx := Two.next _ _ (two_new c d w) hb
    clear hb
    obtain ⟨a0, a1, a2, a3, a4, a5, a6, a7, a8, a9, a10, a11⟩ := hx.1.cells
    obtain ⟨b0, b1, b2, b3, b4, b5, b6, b7, b8, b9, b10, b11⟩ := hx.2.cells
    go_wp2_with fail
    refine (check_any c _).mono ?_
    rw [unhide H, errOf_f]
    rintro e w1 ⟨rfl, hb⟩
    replace hl := below_then hl hb
    replace hx := Two.next _ _ hx hb
    clear a0 b0 a1 b1 a2 b2 a3 b3 a4 b4 a5 b5 a6 b6 a7 b7 a8 b8 a9 b9 a10 b10 a11 b11
    clear hb
    obtain ⟨a0, a1, a2, a3, a4, a5, a6, a7, a8, a9, a10, a11⟩ := hx.1.cells
    obtain ⟨b0, b1, b2, b3, b4, b5, b6, b7, b8, b9, b10, b11⟩ := hx.2.cells
    go_wp2_with fail
    refine (first_any _).mono ?_
    rintro e w1 ⟨rfl, hb⟩
    replace hl := below_then hl hb
    replace hx := Two.next _ _ hx hb
    clear a0 b0 a1 b1 a2 b2 a3 b3 a4 b4 a5 b5 a6 b6 a7 b7 a8 b8 a9 b9 a10 b10 a11 b11
    clear hb
    go_wp2
    go_ret
    exact ⟨rfl, hl⟩
  · cases h' : okB d
    · have H := hide h
      have H' := hide h'
      clear h h'
      unfold cv
      go_enter Try.func7, Try.ntmps7
      go_wp2_with fail
      refine (first_any _).mono ?_
      rintro e w1 ⟨rfl, hb⟩
      have hl := bthen (below_two w _ _) hb (Nat.le_refl _)
      have hx := Two.next _ _ (two_new c d w) hb
      clear hb
      obtain ⟨a0, a1, a2, a3, a4, a5, a6, a7, a8, a9, a10, a11⟩ := hx.1.cells
      obtain ⟨b0, b1, b2, b3, b4, b5, b6, b7, b8, b9, b10, b11⟩ := hx.2.cells
      go_wp2_with fail
      refine (check_any c _).mono ?_
      rw [unhide H, errOf_t]
      rintro e w1 ⟨rfl, hb⟩
      replace hl := below_then hl hb
      replace hx := Two.next _ _ hx hb
      clear a0 b0 a1 b1 a2 b2 a3 b3 a4 b4 a5 b5 a6 b6 a7 b7 a8 b8 a9 b9 a10 b10 a11 b11
      clear hb
      obtain ⟨a0, a1, a2, a3, a4, a5, a6, a7, a8, a9, a10, a11⟩ := hx.1.cells
      obtain ⟨b0, b1, b2, b3, b4, b5, b6, b7, b8, b9, b10, b11⟩ := hx.2.cells
      go_wp2_with fail
      refine (check_any d _).mono ?_
      rw [unhide H', errOf_f]
      rintro e w1 ⟨rfl, hb⟩
      replace hl := below_then hl hb
      replace hx := Two.next _ _ hx hb
      clear a0 b0 a1 b1 a2 b2 a3 b3 a4 b4 a5 b5 a6 b6 a7 b7 a8 b8 a9 b9 a10 b10 a11 b11
      clear hb
      obtain ⟨a0, a1, a2, a3, a4, a5, a6, a7, a8, a9, a10, a11⟩ := hx.1.cells
      obtain ⟨b0, b1, b2, b3, b4, b5, b6, b7, b8, b9, b10, b11⟩ := hx.2.cells
      go_wp2_with fail
      refine (first_any _).mono ?_
      rintro e w1 ⟨rfl, hb⟩
      replace hl := below_then hl hb
      replace hx := Two.next _ _ hx hb
      clear a0 b0 a1 b1 a2 b2 a3 b3 a4 b4 a5 b5 a6 b6 a7 b7 a8 b8 a9 b9 a10 b10 a11 b11
      clear hb
      go_wp2
      go_ret
      exact ⟨rfl, hl⟩
    · have H := hide h
      have H' := hide h'
      clear h h'
      unfold cv
      go_enter Try.func7, Try.ntmps7
      go_wp2_with fail
      refine (first_any _).mono ?_
      rintro e w1 ⟨rfl, hb⟩
      have hl := bthen (below_two w _ _) hb (Nat.le_refl _)
      have hx := Two.next _ _ (two_new c d w) hb
      clear hb
      obtain ⟨a0, a1, a2, a3, a4, a5, a6, a7, a8, a9, a10, a11⟩ := hx.1.cells
      obtain ⟨b0, b1, b2, b3, b4, b5, b6, b7, b8, b9, b10, b11⟩ := hx.2.cells
      go_wp2_with fail
      refine (check_any c _).mono ?_
      rw [unhide H, errOf_t]
      rintro e w1 ⟨rfl, hb⟩
      replace hl := below_then hl hb
      replace hx := Two.next _ _ hx hb
      clear a0 b0 a1 b1 a2 b2 a3 b3 a4 b4 a5 b5 a6 b6 a7 b7 a8 b8 a9 b9 a10 b10 a11 b11
      clear hb
      obtain ⟨a0, a1, a2, a3, a4, a5, a6, a7, a8, a9, a10, a11⟩ := hx.1.cells
      obtain ⟨b0, b1, b2, b3, b4, b5, b6, b7, b8, b9, b10, b11⟩ := hx.2.cells
      go_wp2_with fail
      refine (check_any d _).mono ?_
      rw [unhide H', errOf_t]
      rintro e w1 ⟨rfl, hb⟩
      replace hl := below_then hl hb
      replace hx := Two.next _ _ hx hb
      clear a0 b0 a1 b1 a2 b2 a3 b3 a4 b4 a5 b5 a6 b6 a7 b7 a8 b8 a9 b9 a10 b10 a11 b11
      clear hb
      obtain ⟨a0, a1, a2, a3, a4, a5, a6, a7, a8, a9, a10, a11⟩ := hx.1.cells
      obtain ⟨b0, b1, b2, b3, b4, b5, b6, b7, b8, b9, b10, b11⟩ := hx.2.cells
      have f0 := hx.2.free 0
      have f1 := hx.2.free 1
      have f2 := hx.2.free 2
      have f3 := hx.2.free 3
      go_wp2_with fail
      go_region
      have hx4 := (hx.four (by omega)).drew
      have hl4 := (below_four hl (Nat.le_succ _) (.int .i64 c.r) (.int .i64 c.o) (.int .i64 c.s) (.int .i64 c.d)).drew
      generalize ((((w1.setCell ⟨w.heap.size + 1, 0, none⟩ (.int .i64 c.r)).setCell ⟨w.heap.size + 1, 1, none⟩ (.int .i64 c.o)).setCell ⟨w.heap.size + 1, 2, none⟩ (.int .i64 c.s)).setCell ⟨w.heap.size + 1, 3, none⟩ (.int .i64 c.d)).drew = w5 at hx4 hl4 ⊢
      clear hx hl f0 f1 f2 f3
      clear a0 b0 a1 b1 a2 b2 a3 b3 a4 b4 a5 b5 a6 b6 a7 b7 a8 b8 a9 b9 a10 b10 a11 b11
      obtain ⟨a0, a1, a2, a3, a4, a5, a6, a7, a8, a9, a10, a11⟩ := hx4.1.cells
      obtain ⟨b0, b1, b2, b3, b4, b5, b6, b7, b8, b9, b10, b11⟩ := hx4.2.cells
      go_wp2_with fail
      refine (path_any c a _).mono ?_
      rintro e w6 ⟨rfl, hb⟩
      have hl := below_then hl4 hb
      have hx := Two.next _ _ hx4 hb
      clear hl4 hx4 hb
      clear a0 b0 a1 b1 a2 b2 a3 b3 a4 b4 a5 b5 a6 b6 a7 b7 a8 b8 a9 b9 a10 b10 a11 b11
      obtain ⟨a0, a1, a2, a3, a4, a5, a6, a7, a8, a9, a10, a11⟩ := hx.1.cells
      obtain ⟨b0, b1, b2, b3, b4, b5, b6, b7, b8, b9, b10, b11⟩ := hx.2.cells
      go_wp2_with fail
      refine (pathS c d a _ (unhide H) (unhide H')).mono ?_
      rintro e w7 ⟨rfl, hb⟩
      replace hl := below_then hl hb
      replace hx := Two.next _ _ hx hb
      clear hb
      clear a0 b0 a1 b1 a2 b2 a3 b3 a4 b4 a5 b5 a6 b6 a7 b7 a8 b8 a9 b9 a10 b10 a11 b11
      go_wp2_with fail
      obtain ⟨⟨p0, p1, p2, p3, p4, p5, p6, p7, p8, p9, p10, p11⟩, ⟨q0, q1, q2, q3, q4, q5, q6, q7, q8, q9, q10, q11⟩⟩ := Two.cells (c := c) (d := mix c d) (b := w.heap.size) (b' := w.heap.size + 1) (w0 := w)
      have hne : Nonempty (Wc (Two c (mix c d) w.heap.size (w.heap.size + 1)) w) := ⟨⟨_, hx, hl⟩⟩
      refine wp_region_wc (S := Two c (mix c d) w.heap.size (w.heap.size + 1)) hx.drew hl (by kernel_rfl) (by kernel_rfl) ?_
      try simp only [List.append]
      repeat (go_big_quiet_step (first | (go_at_call 8; with_reducible exact Wc.call Two.next (first_any _)) | (go_at_call 13; with_reducible exact Wc.call Two.next (wordsC c _)) | (go_at_call 13; with_reducible exact Wc.call Two.next (wordsT c d _ (unhide H) (unhide H'))) | (go_at_call 15; with_reducible exact Wc.call Two.next (nodesC c _)) | (go_at_call 15; with_reducible exact Wc.call Two.next (nodesT c d _ (unhide H) (unhide H'))) | (go_at_call 17; with_reducible exact Wc.call Two.next (cellsC c _)) | (go_at_call 17; with_reducible exact Wc.call Two.next (cellsT c d _ (unhide H) (unhide H'))) | (go_at_call 23; with_reducible exact Wc.call Two.next (latchC c _ _)) | (go_at_call 23; with_reducible exact Wc.call Two.next (latchT c d _ _ (unhide H) (unhide H')))))
      refine wpQuiet_nil ?_
      intro _ hw'
      obtain ⟨⟨wz, hxz, hlz⟩, hw''⟩ := hw'
      subst hw''
      go_wp2
      go_ret
      exact ⟨rfl, hlz⟩

end Go.Proofs.Ytkoaedhbjdbjdaa
