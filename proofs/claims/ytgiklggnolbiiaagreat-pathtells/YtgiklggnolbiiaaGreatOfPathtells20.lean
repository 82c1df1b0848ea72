/- Texts of this claim, put together in their order. -/
import Derived.Test.YtgiklggnolbiiaaGreatBase1
import Derived.Test.YtgiklggnolbiiaaGreatBase2
import Derived.Test.YtgiklggnolbiiaaGreatBase3
import Derived.Test.YtgiklggnolbiiaaGreatBase4
import Derived.Test.YtgiklggnolbiiaaGreatBase5
import Derived.Test.YtgiklggnolbiiaaGreatBase6
import Derived.Test.YtgiklggnolbiiaaGreatBase7
import Derived.Test.YtgiklggnolbiiaaGreatBase8
import Derived.Test.YtgiklggnolbiiaaGreatBase9
import Derived.Test.YtgiklggnolbiiaaGreatBase10
import Derived.Test.YtgiklggnolbiiaaGreatBase11
import Derived.Test.YtgiklggnolbiiaaGreatBase12
import Derived.Test.YtgiklggnolbiiaaGreatBase13
import Derived.Test.YtgiklggnolbiiaaGreatBase14
import Derived.Test.YtgiklggnolbiiaaGreatBase15
import Derived.Test.YtgiklggnolbiiaaGreatBase16
import Derived.Test.YtgiklggnolbiiaaGreatBase17
import Derived.Test.YtgiklggnolbiiaaGreatOfPathtells18
import Derived.Test.YtgiklggnolbiiaaGreatOfPathtells19
/- What the reference's Words, Nodes, Size, Level, Parent, Latch, Path answer: the same as the code's. -/
namespace Go.Proofs.YtgiklggnolbiiaaGreat
open Go.RowKit

set_option maxRecDepth 100000 in
theorem rstripes_any (c : Cf) (w : World) (h : Hp c) : Calls Tryz.prog 60 #[cv c] w fun e w' => e = .returned (.int .i64 (ns c)) ∧ Below w.heap.size w w' := by
  have e1 : IntKind.i64.wrap (no c * c.s) = ns c := kin (by have := ns_in h; unfold ns at this; omega) (by have := ns_in h; unfold ns at this; omega)
  unfold cv
  go_enter Tryz.func60, Tryz.ntmps60
  go_wp2_with fail
  have hx := bx_new c w
  have hl := below_new w (.cells #[.int .i64 c.r, .int .i64 c.o, .int .i64 c.s, .int .i64 c.d, .int .i64 c.t, .int .i64 c.l, .int .i64 c.g, .int .i64 c.k, .int .i64 c.u, .int .i64 c.e, .int .i64 c.i, .int .i64 c.p] 68)
  go_region_held3 (fun wz => wz.cell? ⟨w.heap.size, 0, none⟩ = some (.int .i64 c.r) ∧ wz.cell? ⟨w.heap.size, 1, none⟩ = some (.int .i64 c.o) ∧ wz.cell? ⟨w.heap.size, 2, none⟩ = some (.int .i64 c.s) ∧ wz.cell? ⟨w.heap.size, 3, none⟩ = some (.int .i64 c.d) ∧ wz.cell? ⟨w.heap.size, 4, none⟩ = some (.int .i64 c.t) ∧ wz.cell? ⟨w.heap.size, 5, none⟩ = some (.int .i64 c.l) ∧ wz.cell? ⟨w.heap.size, 6, none⟩ = some (.int .i64 c.g) ∧ wz.cell? ⟨w.heap.size, 7, none⟩ = some (.int .i64 c.k) ∧ wz.cell? ⟨w.heap.size, 8, none⟩ = some (.int .i64 c.u) ∧ wz.cell? ⟨w.heap.size, 9, none⟩ = some (.int .i64 c.e) ∧ wz.cell? ⟨w.heap.size, 10, none⟩ = some (.int .i64 c.i) ∧ wz.cell? ⟨w.heap.size, 11, none⟩ = some (.int .i64 c.p)) (first | exact hx3.cells | exact hx2.cells | exact hx1.cells | exact hx.drew.cells)
    (first
      | (go_at_call 59; refine (robjects_any c _ h).mono ?_; rintro e wz ⟨rfl, hbz⟩; first | (have hx3 := hx2.next hbz; have hl3 := below_then hl2 hbz) | (have hx2 := hx1.next hbz; have hl2 := below_then hl1 hbz) | (have hx1 := hx.drew.next hbz; have hl1 := below_then hl.drew hbz)))
  go_wp2
  go_ret
  exact ⟨rfl, hl1⟩

set_option maxRecDepth 100000 in
theorem rwords_any (c : Cf) (w : World) : Calls Tryz.prog 104 #[cv c] w fun e w' => e = .returned (.int .i64 (wordsD c)) ∧ Below w.heap.size w w' := by
  cases h : okB c
  · have eb : wordsD c = 0 := by simp [wordsD, h]
    rw [eb]
    have H := hide h
    clear eb h
    unfold cv
    go_enter Tryz.func104, Tryz.ntmps104
    go_wp2_with fail
    refine (rcheck_any c _).mono ?_
    rw [unhide H, errOf_f]
    rintro e w1 ⟨rfl, hb⟩
    go_wp2
    go_ret
    exact ⟨rfl, below_call hb⟩
  · have eb : wordsD c = nw c := by simp [wordsD, h]
    rw [eb]
    have hp := okB_hp h
    have H := hide h
    clear eb h
    have e1 : IntKind.i64.wrap (ns c * c.d) = nw c := kin (by have := nw_in hp; unfold nw at this; omega) (by have := nw_in hp; unfold nw at this; omega)
    unfold cv
    go_enter Tryz.func104, Tryz.ntmps104
    go_wp2_with fail
    refine (rcheck_any c _).mono ?_
    rw [unhide H, errOf_t]
    rintro e w1 ⟨rfl, hb⟩
    have hx := (bx_new c w).next hb
    have hl := below_call hb
    obtain ⟨a0, a1, a2, a3, a4, a5, a6, a7, a8, a9, a10, a11⟩ := hx.cells
    go_wp2_with fail
    go_region_held3 (fun wz => wz.cell? ⟨w.heap.size, 0, none⟩ = some (.int .i64 c.r) ∧ wz.cell? ⟨w.heap.size, 1, none⟩ = some (.int .i64 c.o) ∧ wz.cell? ⟨w.heap.size, 2, none⟩ = some (.int .i64 c.s) ∧ wz.cell? ⟨w.heap.size, 3, none⟩ = some (.int .i64 c.d) ∧ wz.cell? ⟨w.heap.size, 4, none⟩ = some (.int .i64 c.t) ∧ wz.cell? ⟨w.heap.size, 5, none⟩ = some (.int .i64 c.l) ∧ wz.cell? ⟨w.heap.size, 6, none⟩ = some (.int .i64 c.g) ∧ wz.cell? ⟨w.heap.size, 7, none⟩ = some (.int .i64 c.k) ∧ wz.cell? ⟨w.heap.size, 8, none⟩ = some (.int .i64 c.u) ∧ wz.cell? ⟨w.heap.size, 9, none⟩ = some (.int .i64 c.e) ∧ wz.cell? ⟨w.heap.size, 10, none⟩ = some (.int .i64 c.i) ∧ wz.cell? ⟨w.heap.size, 11, none⟩ = some (.int .i64 c.p)) (first | exact hx3.cells | exact hx2.cells | exact hx1.cells | exact hx.drew.cells)
      (first
        | (go_at_call 60; refine (rstripes_any c _ hp).mono ?_; rintro e wz ⟨rfl, hbz⟩; first | (have hx3 := hx2.next hbz; have hl3 := below_then hl2 hbz) | (have hx2 := hx1.next hbz; have hl2 := below_then hl1 hbz) | (have hx1 := hx.drew.next hbz; have hl1 := below_then hl.drew hbz)))
    all_goals
      go_wp2
      go_ret
      exact ⟨by first | rfl | exact ret_int (by simp only [IntKind.wrap_i64]; omega), hl1⟩

set_option maxRecDepth 100000 in
theorem rnodes_any (c : Cf) (w : World) : Calls Tryz.prog 29 #[cv c] w fun e w' => e = .returned (.int .i64 (nodesD c)) ∧ Below w.heap.size w w' := by
  cases h : okB c
  · have eb : nodesD c = 0 := by simp [nodesD, h]
    rw [eb]
    have H := hide h
    clear eb h
    unfold cv
    go_enter Tryz.func29, Tryz.ntmps29
    go_wp2_with fail
    refine (rcheck_any c _).mono ?_
    rw [unhide H, errOf_f]
    rintro e w1 ⟨rfl, hb⟩
    go_wp2
    go_ret
    exact ⟨rfl, below_call hb⟩
  · have eb : nodesD c = c.r + no c + ns c := by simp [nodesD, h]
    rw [eb]
    have hp := okB_hp h
    have H := hide h
    clear eb h
    have h1 := hp.r1
    have h2 := hp.r8
    have g1 := hp.o1
    have g2 := hp.o8
    have g3 := hp.s1
    have g4 := hp.s8
    obtain ⟨h3, h4⟩ := no_in hp
    obtain ⟨h5, h6⟩ := ns_in hp
    obtain ⟨h7, h8⟩ := nw_in hp
    unfold cv
    go_enter Tryz.func29, Tryz.ntmps29
    go_wp2_with fail
    refine (rcheck_any c _).mono ?_
    rw [unhide H, errOf_t]
    rintro e w1 ⟨rfl, hb⟩
    have hx := (bx_new c w).next hb
    have hl := below_call hb
    obtain ⟨a0, a1, a2, a3, a4, a5, a6, a7, a8, a9, a10, a11⟩ := hx.cells
    go_wp2_with fail
    go_region_held3 (fun wz => wz.cell? ⟨w.heap.size, 0, none⟩ = some (.int .i64 c.r) ∧ wz.cell? ⟨w.heap.size, 1, none⟩ = some (.int .i64 c.o) ∧ wz.cell? ⟨w.heap.size, 2, none⟩ = some (.int .i64 c.s) ∧ wz.cell? ⟨w.heap.size, 3, none⟩ = some (.int .i64 c.d) ∧ wz.cell? ⟨w.heap.size, 4, none⟩ = some (.int .i64 c.t) ∧ wz.cell? ⟨w.heap.size, 5, none⟩ = some (.int .i64 c.l) ∧ wz.cell? ⟨w.heap.size, 6, none⟩ = some (.int .i64 c.g) ∧ wz.cell? ⟨w.heap.size, 7, none⟩ = some (.int .i64 c.k) ∧ wz.cell? ⟨w.heap.size, 8, none⟩ = some (.int .i64 c.u) ∧ wz.cell? ⟨w.heap.size, 9, none⟩ = some (.int .i64 c.e) ∧ wz.cell? ⟨w.heap.size, 10, none⟩ = some (.int .i64 c.i) ∧ wz.cell? ⟨w.heap.size, 11, none⟩ = some (.int .i64 c.p)) (first | exact hx3.cells | exact hx2.cells | exact hx1.cells | exact hx.drew.cells)
      (first
        | (go_at_call 59; refine (robjects_any c _ hp).mono ?_; rintro e wz ⟨rfl, hbz⟩; first | (have hx3 := hx2.next hbz; have hl3 := below_then hl2 hbz) | (have hx2 := hx1.next hbz; have hl2 := below_then hl1 hbz) | (have hx1 := hx.drew.next hbz; have hl1 := below_then hl.drew hbz))
          | (go_at_call 60; refine (rstripes_any c _ hp).mono ?_; rintro e wz ⟨rfl, hbz⟩; first | (have hx3 := hx2.next hbz; have hl3 := below_then hl2 hbz) | (have hx2 := hx1.next hbz; have hl2 := below_then hl1 hbz) | (have hx1 := hx.drew.next hbz; have hl1 := below_then hl.drew hbz)))
    all_goals
      go_wp2
      go_ret
      exact ⟨by first | rfl | exact ret_int (by simp only [IntKind.wrap_i64]; omega), hl2⟩

theorem rwords_ok (c : Cf) (w : World) (h : okB c = true) : Calls Tryz.prog 104 #[cv c] w fun e w' => e = .returned (.int .i64 (nw c)) ∧ Below w.heap.size w w' := by
  have := rwords_any c w
  simp only [wordsD, h, if_true] at this
  exact this

set_option maxRecDepth 100000 in
theorem rlevel_any (c : Cf) (n : Int) (w : World) : Calls Tryz.prog 74 #[cv c, .int .i64 n] w fun e w' => e = .returned (.int .i64 (levelD c n)) ∧ Below w.heap.size w w' := by
  rcases level_ways c n with ⟨e0, h⟩ | ⟨h0, hn, hk, h⟩
  · rw [e0]
    clear e0
    by_cases h0 : n < 0
    · unfold cv
      go_enter Tryz.func74, Tryz.ntmps74
      go_wp2
      go_ret
      exact ⟨rfl, below_new _ _⟩
    · have h1 : nodesD c ≤ n := by omega
      clear h
      unfold cv
      go_enter Tryz.func74, Tryz.ntmps74
      go_wp2_with fail
      refine (rnodes_any c _).mono ?_
      rintro e w1 ⟨rfl, hb⟩
      have hl := below_call hb
      have hx := (bx_new c w).next hb
      go_wp2
      go_ret
      exact ⟨rfl, hl⟩
  · have hp := okB_hp hk
    have H := hide hk
    clear hk
    have h1 := hp.r1
    have h2 := hp.r8
    have g1 := hp.o1
    have g2 := hp.o8
    have g3 := hp.s1
    have g4 := hp.s8
    obtain ⟨h3, h4⟩ := no_in hp
    obtain ⟨h5, h6⟩ := ns_in hp
    obtain ⟨h7, h8⟩ := nw_in hp
    rcases h with ⟨e0, h⟩ | ⟨e0, h, h'⟩ | ⟨e0, h, h'⟩
    · rw [e0]
      clear e0
      unfold cv
      go_enter Tryz.func74, Tryz.ntmps74
      go_wp2_with fail
      refine (rnodes_any c _).mono ?_
      rintro e w1 ⟨rfl, hb⟩
      have hl := below_call hb
      have hx := (bx_new c w).next hb
      obtain ⟨a0, a1, a2, a3, a4, a5, a6, a7, a8, a9, a10, a11⟩ := hx.cells
      go_wp2
      go_ret
      exact ⟨rfl, hl⟩
    · rw [e0]
      clear e0
      have q1 : IntKind.i64.wrap (c.r + no c) = c.r + no c := kin (by omega) (by omega)
      unfold cv
      go_enter Tryz.func74, Tryz.ntmps74
      go_wp2_with fail
      refine (rnodes_any c _).mono ?_
      rintro e w1 ⟨rfl, hb⟩
      have hl := below_call hb
      have hx := (bx_new c w).next hb
      obtain ⟨a0, a1, a2, a3, a4, a5, a6, a7, a8, a9, a10, a11⟩ := hx.cells
      go_wp2_with fail
      go_region_held3 (fun wz => wz.cell? ⟨w.heap.size, 0, none⟩ = some (.int .i64 c.r) ∧ wz.cell? ⟨w.heap.size, 1, none⟩ = some (.int .i64 c.o) ∧ wz.cell? ⟨w.heap.size, 2, none⟩ = some (.int .i64 c.s) ∧ wz.cell? ⟨w.heap.size, 3, none⟩ = some (.int .i64 c.d) ∧ wz.cell? ⟨w.heap.size, 4, none⟩ = some (.int .i64 c.t) ∧ wz.cell? ⟨w.heap.size, 5, none⟩ = some (.int .i64 c.l) ∧ wz.cell? ⟨w.heap.size, 6, none⟩ = some (.int .i64 c.g) ∧ wz.cell? ⟨w.heap.size, 7, none⟩ = some (.int .i64 c.k) ∧ wz.cell? ⟨w.heap.size, 8, none⟩ = some (.int .i64 c.u) ∧ wz.cell? ⟨w.heap.size, 9, none⟩ = some (.int .i64 c.e) ∧ wz.cell? ⟨w.heap.size, 10, none⟩ = some (.int .i64 c.i) ∧ wz.cell? ⟨w.heap.size, 11, none⟩ = some (.int .i64 c.p)) (first | exact hx3.cells | exact hx2.cells | exact hx1.cells | exact hx.drew.cells)
        (first
          | (go_at_call 59; refine (robjects_any c _ hp).mono ?_; rintro e wz ⟨rfl, hbz⟩; first | (have hx3 := hx2.next hbz; have hl3 := below_then hl2 hbz) | (have hx2 := hx1.next hbz; have hl2 := below_then hl1 hbz) | (have hx1 := hx.drew.next hbz; have hl1 := below_then hl.drew hbz)))
      go_wp2
      go_ret
      exact ⟨rfl, hl1⟩
    · rw [e0]
      clear e0
      have q1 : IntKind.i64.wrap (c.r + no c) = c.r + no c := kin (by omega) (by omega)
      unfold cv
      go_enter Tryz.func74, Tryz.ntmps74
      go_wp2_with fail
      refine (rnodes_any c _).mono ?_
      rintro e w1 ⟨rfl, hb⟩
      have hl := below_call hb
      have hx := (bx_new c w).next hb
      obtain ⟨a0, a1, a2, a3, a4, a5, a6, a7, a8, a9, a10, a11⟩ := hx.cells
      go_wp2_with fail
      go_region_held3 (fun wz => wz.cell? ⟨w.heap.size, 0, none⟩ = some (.int .i64 c.r) ∧ wz.cell? ⟨w.heap.size, 1, none⟩ = some (.int .i64 c.o) ∧ wz.cell? ⟨w.heap.size, 2, none⟩ = some (.int .i64 c.s) ∧ wz.cell? ⟨w.heap.size, 3, none⟩ = some (.int .i64 c.d) ∧ wz.cell? ⟨w.heap.size, 4, none⟩ = some (.int .i64 c.t) ∧ wz.cell? ⟨w.heap.size, 5, none⟩ = some (.int .i64 c.l) ∧ wz.cell? ⟨w.heap.size, 6, none⟩ = some (.int .i64 c.g) ∧ wz.cell? ⟨w.heap.size, 7, none⟩ = some (.int .i64 c.k) ∧ wz.cell? ⟨w.heap.size, 8, none⟩ = some (.int .i64 c.u) ∧ wz.cell? ⟨w.heap.size, 9, none⟩ = some (.int .i64 c.e) ∧ wz.cell? ⟨w.heap.size, 10, none⟩ = some (.int .i64 c.i) ∧ wz.cell? ⟨w.heap.size, 11, none⟩ = some (.int .i64 c.p)) (first | exact hx3.cells | exact hx2.cells | exact hx1.cells | exact hx.drew.cells)
        (first
          | (go_at_call 59; refine (robjects_any c _ hp).mono ?_; rintro e wz ⟨rfl, hbz⟩; first | (have hx3 := hx2.next hbz; have hl3 := below_then hl2 hbz) | (have hx2 := hx1.next hbz; have hl2 := below_then hl1 hbz) | (have hx1 := hx.drew.next hbz; have hl1 := below_then hl.drew hbz)))
      go_wp2
      go_ret
      exact ⟨rfl, hl1⟩

set_option maxRecDepth 100000 in
theorem rparent_any (c : Cf) (n : Int) (w : World) : Calls Tryz.prog 75 #[cv c, .int .i64 n] w fun e w' => e = .returned (.int .i64 (parentD c n)) ∧ Below w.heap.size w w' := by
  rcases level_ways c n with ⟨e0, h⟩ | ⟨h0, hn, hk, h⟩
  · have e1 : parentD c n = -1 := by simp [parentD, e0]
    rw [e1]
    have E0 := hide e0
    clear e0 e1
    unfold cv
    go_enter Tryz.func75, Tryz.ntmps75
    go_wp2_with fail
    refine (rlevel_any c n _).mono ?_
    rw [unhide E0]
    rintro e w1 ⟨rfl, hb⟩
    have hl := below_call hb
    go_wp2
    go_ret
    exact ⟨rfl, hl⟩
  · have hp := okB_hp hk
    have h1 := hp.r1
    have h2 := hp.r8
    have g1 := hp.o1
    have g2 := hp.o8
    have g3 := hp.s1
    have g4 := hp.s8
    obtain ⟨h3, h4⟩ := no_in hp
    obtain ⟨h5, h6⟩ := ns_in hp
    obtain ⟨h7, h8⟩ := nw_in hp
    rw [nodes_ok hk] at hn
    have H := hide hk
    clear hk
    rcases h with ⟨e0, h⟩ | ⟨e0, h, h'⟩ | ⟨e0, h, h'⟩
    · have e1 : parentD c n = -1 := by simp [parentD, e0]
      rw [e1]
      have E0 := hide e0
      clear e0 e1
      unfold cv
      go_enter Tryz.func75, Tryz.ntmps75
      go_wp2_with fail
      refine (rlevel_any c n _).mono ?_
      rw [unhide E0]
      rintro e w1 ⟨rfl, hb⟩
      have hl := below_call hb
      go_wp2
      go_ret
      exact ⟨rfl, hl⟩
    · have e1 : parentD c n = (n - c.r) / c.o := by simp [parentD, e0]
      rw [e1]
      have E0 := hide e0
      clear e0 e1
      have q3 : c.o ≠ 0 := by omega
      unfold cv
      go_enter Tryz.func75, Tryz.ntmps75
      go_wp2_with fail
      refine (rlevel_any c n _).mono ?_
      rw [unhide E0]
      rintro e w1 ⟨rfl, hb⟩
      have hl := below_call hb
      have hx := (bx_new c w).next hb
      obtain ⟨a0, a1, a2, a3, a4, a5, a6, a7, a8, a9, a10, a11⟩ := hx.cells
      go_wp2
      go_ret
      exact ⟨rfl, hl⟩
    · have e1 : parentD c n = c.r + (n - (c.r + no c)) / c.s := by simp [parentD, e0]
      rw [e1]
      have E0 := hide e0
      clear e0 e1
      have q0 : IntKind.i64.wrap (n - c.r) = n - c.r := kin (by omega) (by omega)
      have q1 : IntKind.i64.wrap (n - c.r - no c) = n - (c.r + no c) := by rw [kin (by omega) (by omega)]; omega
      have q2 : IntKind.i64.wrap ((n - (c.r + no c)).tdiv c.s) = (n - (c.r + no c)) / c.s := IntWalk.i64_quo _ _ ⟨by omega, by omega, by omega⟩
      have q3 : c.s ≠ 0 := by omega
      have q4 : 0 ≤ (n - (c.r + no c)) / c.s := Int.ediv_nonneg (by omega) (by omega)
      have q5 : (n - (c.r + no c)) / c.s ≤ n - (c.r + no c) := Int.ediv_le_self _ (by omega)
      have q6 : IntKind.i64.wrap (c.r + (n - (c.r + no c)) / c.s) = c.r + (n - (c.r + no c)) / c.s := kin (by omega) (by omega)
      unfold cv
      go_enter Tryz.func75, Tryz.ntmps75
      go_wp2_with fail
      refine (rlevel_any c n _).mono ?_
      rw [unhide E0]
      rintro e w1 ⟨rfl, hb⟩
      have hl := below_call hb
      have hx := (bx_new c w).next hb
      obtain ⟨a0, a1, a2, a3, a4, a5, a6, a7, a8, a9, a10, a11⟩ := hx.cells
      go_wp2_with fail
      go_region_held3 (fun wz => wz.cell? ⟨w.heap.size, 0, none⟩ = some (.int .i64 c.r) ∧ wz.cell? ⟨w.heap.size, 1, none⟩ = some (.int .i64 c.o) ∧ wz.cell? ⟨w.heap.size, 2, none⟩ = some (.int .i64 c.s) ∧ wz.cell? ⟨w.heap.size, 3, none⟩ = some (.int .i64 c.d) ∧ wz.cell? ⟨w.heap.size, 4, none⟩ = some (.int .i64 c.t) ∧ wz.cell? ⟨w.heap.size, 5, none⟩ = some (.int .i64 c.l) ∧ wz.cell? ⟨w.heap.size, 6, none⟩ = some (.int .i64 c.g) ∧ wz.cell? ⟨w.heap.size, 7, none⟩ = some (.int .i64 c.k) ∧ wz.cell? ⟨w.heap.size, 8, none⟩ = some (.int .i64 c.u) ∧ wz.cell? ⟨w.heap.size, 9, none⟩ = some (.int .i64 c.e) ∧ wz.cell? ⟨w.heap.size, 10, none⟩ = some (.int .i64 c.i) ∧ wz.cell? ⟨w.heap.size, 11, none⟩ = some (.int .i64 c.p)) (first | exact hx3.cells | exact hx2.cells | exact hx1.cells | exact hx.drew.cells)
        (first
          | (go_at_call 59; refine (robjects_any c _ hp).mono ?_; rintro e wz ⟨rfl, hbz⟩; first | (have hx3 := hx2.next hbz; have hl3 := below_then hl2 hbz) | (have hx2 := hx1.next hbz; have hl2 := below_then hl1 hbz) | (have hx1 := hx.drew.next hbz; have hl1 := below_then hl.drew hbz)))
      all_goals
        go_wp2
        go_ret
        exact ⟨by first | rfl | exact ret_int (by simp only [q0, q1, q2, q6]), hl1⟩

set_option maxRecDepth 100000 in
theorem rpath_no (c : Cf) (a : Int) (w : World) (h : ¬ (0 ≤ a ∧ a < wordsD c)) : Calls Tryz.prog 67 #[cv c, .int .i64 a] w fun e w' => e = .returned (.tuple #[.int .i64 (0), .int .i64 (0), .int .i64 (0), .int .i64 (1)]) ∧ Below w.heap.size w w' := by
  by_cases h0 : a < 0
  · unfold cv
    go_enter Tryz.func67, Tryz.ntmps67
    go_wp2
    exact bodyPost_ret (v := .tuple #[.int .i64 (0), .int .i64 (0), .int .i64 (0), .int .i64 (1)]) (by simp [results, Tryz.results67, go_sem]) rfl ⟨rfl, below_new _ _⟩
  · have h1 : wordsD c ≤ a := by omega
    clear h
    unfold cv
    go_enter Tryz.func67, Tryz.ntmps67
    go_wp2_with fail
    refine (rwords_any c _).mono ?_
    rintro e w1 ⟨rfl, hb⟩
    have hl := below_call hb
    have hx := (bx_new c w).next hb
    go_wp2
    exact bodyPost_ret (v := .tuple #[.int .i64 (0), .int .i64 (0), .int .i64 (0), .int .i64 (1)]) (by simp [results, Tryz.results67, go_sem]) rfl ⟨rfl, hl⟩

set_option maxRecDepth 100000 in
theorem rpath_ok (c : Cf) (a : Int) (w : World) (h : okB c = true) (h0 : 0 ≤ a) (h1 : a < nw c) : Calls Tryz.prog 67 #[cv c, .int .i64 a] w fun e w' => e = .returned (.tuple #[.int .i64 (rD c a), .int .i64 (c.r + oD c a), .int .i64 (c.r + no c + sD c a), .int .i64 (0)]) ∧ Below w.heap.size w w' := by
  have hp := okB_hp h
  obtain ⟨s0, s1⟩ := s_in hp h0 h1
  obtain ⟨o0, o1⟩ := o_in hp h0 h1
  obtain ⟨r0, r1⟩ := r_in hp h0 h1
  have h1 := hp.r1
  have h2 := hp.r8
  have g1 := hp.o1
  have g2 := hp.o8
  have g3 := hp.s1
  have g4 := hp.s8
  obtain ⟨h3, h4⟩ := no_in hp
  obtain ⟨h5, h6⟩ := ns_in hp
  obtain ⟨h7, h8⟩ := nw_in hp
  have d1 := hp.d1
  have H := hide h
  clear h
  have y2 : a / c.d = sD c a := rfl
  have y3 : sD c a / c.s = oD c a := rfl
  have q2 : IntKind.i64.wrap (a.tdiv c.d) = sD c a := IntWalk.i64_quo _ _ ⟨by omega, by omega, by omega⟩
  have q3 : c.d ≠ 0 := by omega
  have z2 : IntKind.i64.wrap ((sD c a).tdiv c.s) = oD c a := IntWalk.i64_quo _ _ ⟨by omega, by omega, by omega⟩
  have z3 : c.s ≠ 0 := by omega
  have x2 : IntKind.i64.wrap ((oD c a).tdiv c.o) = rD c a := IntWalk.i64_quo _ _ ⟨by omega, by omega, by omega⟩
  have x3 : c.o ≠ 0 := by omega
  have q4 : IntKind.i64.wrap (c.r + oD c a) = c.r + oD c a := kin (by omega) (by omega)
  have q5 : IntKind.i64.wrap (c.r + no c) = c.r + no c := kin (by omega) (by omega)
  have q6 : IntKind.i64.wrap (c.r + no c + sD c a) = c.r + no c + sD c a := kin (by omega) (by omega)
  unfold cv
  go_enter Tryz.func67, Tryz.ntmps67
  go_wp2_with fail
  refine (rwords_ok c _ (unhide H)).mono ?_
  rintro e w1 ⟨rfl, hb⟩
  have hl := below_call hb
  have hx := (bx_new c w).next hb
  obtain ⟨a0, a1, a2, a3, a4, a5, a6, a7, a8, a9, a10, a11⟩ := hx.cells
  go_wp2_with fail
  go_region_held3 (fun wz => wz.cell? ⟨w.heap.size, 0, none⟩ = some (.int .i64 c.r) ∧ wz.cell? ⟨w.heap.size, 1, none⟩ = some (.int .i64 c.o) ∧ wz.cell? ⟨w.heap.size, 2, none⟩ = some (.int .i64 c.s) ∧ wz.cell? ⟨w.heap.size, 3, none⟩ = some (.int .i64 c.d) ∧ wz.cell? ⟨w.heap.size, 4, none⟩ = some (.int .i64 c.t) ∧ wz.cell? ⟨w.heap.size, 5, none⟩ = some (.int .i64 c.l) ∧ wz.cell? ⟨w.heap.size, 6, none⟩ = some (.int .i64 c.g) ∧ wz.cell? ⟨w.heap.size, 7, none⟩ = some (.int .i64 c.k) ∧ wz.cell? ⟨w.heap.size, 8, none⟩ = some (.int .i64 c.u) ∧ wz.cell? ⟨w.heap.size, 9, none⟩ = some (.int .i64 c.e) ∧ wz.cell? ⟨w.heap.size, 10, none⟩ = some (.int .i64 c.i) ∧ wz.cell? ⟨w.heap.size, 11, none⟩ = some (.int .i64 c.p)) (first | exact hx3.cells | exact hx2.cells | exact hx1.cells | exact hx.drew.cells)
    (first
      | (go_at_call 59; refine (robjects_any c _ hp).mono ?_; rintro e wz ⟨rfl, hbz⟩; first | (have hx3 := hx2.next hbz; have hl3 := below_then hl2 hbz) | (have hx2 := hx1.next hbz; have hl2 := below_then hl1 hbz) | (have hx1 := hx.drew.next hbz; have hl1 := below_then hl.drew hbz)))
  go_wp2
  exact bodyPost_ret (v := .tuple #[.int .i64 (rD c a), .int .i64 (c.r + oD c a), .int .i64 (c.r + no c + sD c a), .int .i64 (0)]) (by simp [results, Tryz.results67, go_sem]) rfl ⟨rfl, hl1⟩

end Go.Proofs.YtgiklggnolbiiaaGreat

/- The reference's Stripes. -/
namespace Go.Proofs.YtgiklggnolbiiaaGreat
open Go.RowKit
variable {B n : Nat} {most : Int} {T : Nat → Lv} {b rb c2 : Nat} {lb : Nat → Nat} {hv qv : Nat → Value}

/-- The configuration's box, and one number. -/
def Sb (c : Cf) (q g i : Nat) (x : Int) (w : World) : Prop := Bx c q w ∧ w.cell? ⟨g, i, none⟩ = some (.int .i64 x) ∧ g < w.heap.size
theorem Sb.next {c : Cf} {q g i : Nat} {x : Int} {w w' : World} (h : Sb c q g i x w) (k : Below w.heap.size w w') : Sb c q g i x w' := ⟨h.1.next k, (k.cell (p := ⟨g, i, none⟩) h.2.2).trans h.2.1, Nat.lt_of_lt_of_le h.2.2 k.size⟩
set_option maxRecDepth 100000 in
set_option maxHeartbeats 8000000 in
theorem rstripes_t (c : Cf) (w : World) (h : Rt B n most T b rb c2 lb hv qv w) (hf : Few n 1000 T) (hn : n ≤ 10000) (who o : Int) {r : Nat} (hr : cntL c o (heldD who T n) = r) :
    Calls Tryz.prog 33 #[cv c, .pointer (some ⟨b, 0, none⟩), .int .i64 who, .int .i64 o] w fun e w' => e = .returned (.int .i64 (r : Nat)) ∧ Below w.heap.size w w' := by
  obtain ⟨q, hq⟩ : ∃ q, q = w.heap.size := ⟨_, rfl⟩
  obtain ⟨w1, hw1⟩ : ∃ w1, w1 = w.alloc (.cells #[.int .i64 c.r, .int .i64 c.o, .int .i64 c.s, .int .i64 c.d, .int .i64 c.t, .int .i64 c.l, .int .i64 c.g, .int .i64 c.k, .int .i64 c.u, .int .i64 c.e, .int .i64 c.i, .int .i64 c.p] 68) := ⟨_, rfl⟩
  have X1 : Hid (Bx c q w1) := by rw [hw1, hq]; exact bx_new c w
  have b1 : Hid (Below w.heap.size w w1) := by rw [hw1]; exact below_new w _
  have HT := hide h
  have hle := held_len who T n
  obtain ⟨l, hl⟩ : ∃ l, l = heldD who T n := ⟨_, rfl⟩
  rw [← hl] at hr hle
  have C := hide (rheld_t w1 ((unhide HT).next (unhide b1)) hf hn who)
  rw [← hl] at C
  replace hl := hide hl
  replace hr := hide hr
  clear h
  unfold cv
  go_enter Tryz.func33, Tryz.ntmps33
  go_wp2_with fail
  rw [← hq, ← hw1]
  replace hq := hide hq
  replace hw1 := hide hw1
  refine (unhide C).mono ?_
  rintro e w2 ⟨v, rfl, P2, b2⟩
  obtain ⟨a2, cc, rfl⟩ := P2.form
  have X2 := hide ((unhide X1).next b2)
  replace b2 := hide (below_then (unhide b1) b2)
  replace P2 := hide P2
  clear C
  go_wp2_with fail
  go_loopw [9, 11] (fun s9 s11 wr => ∃ (i : Nat) (wz : World), i ≤ l.length ∧ s9 = .int .i64 (cntL c o (l.take i) : Nat) ∧ s11 = .int .i64 i ∧ wz = wr ∧ Hid (Below w2.heap.size w2 wz)) (fun _ s11 _ => l.length - (intOf s11).toNat)
  case atStart => exact ⟨0, _, Nat.zero_le _, rfl, rfl, rfl, Below.refl _ _⟩
  case round =>
    obtain ⟨i, wr, hi, rfl, rfl, hwz, b3⟩ := hrel
    subst hwz
    by_cases hlt : i < l.length
    · obtain ⟨g, rfl, d1, _, hg⟩ := ((unhide P2).next (unhide b3)).elem hlt
      have hct := cnt_take c o l i hlt
      have hcl := cnt_le c o (l.take i)
      have hll : (l.take i).length ≤ 10000 := by rw [List.length_take]; omega
      obtain ⟨x, hx⟩ : ∃ x, x = (l.getD i (0, 0)).1 := ⟨_, rfl⟩
      rw [← hx] at d1 hct
      have S0 : Sb c q g (i * 2) x wr.drew := ⟨((unhide X2).next (unhide b3)).drew, d1, hg⟩
      have Bd := hide (Below.refl wr.heap.size wr)
      have cL := hide (fun y : Wc (Sb c q g (i * 2) x) wr => rlevel_any c x y.w)
      have cP := hide (fun y : Wc (Sb c q g (i * 2) x) wr => rparent_any c x y.w)
      unfold ofB at hct
      obtain ⟨lv, hlv⟩ : ∃ lv, lv = levelD c x := ⟨_, rfl⟩
      obtain ⟨pr, hpr⟩ : ∃ pr, pr = parentD c x := ⟨_, rfl⟩
      rw [← hlv] at cL hct
      rw [← hpr] at cP hct
      unfold cv at cL cP
      obtain ⟨ct, hcte⟩ : ∃ ct, ct = cntL c o (l.take i) := ⟨_, rfl⟩
      rw [← hcte] at hct hcl ⊢
      have hct9 : ct ≤ 10000 := by omega
      replace hcte := hide hcte
      replace hx := hide hx
      replace hlv := hide hlv
      replace hpr := hide hpr
      clear hcl hll d1
      go_wp2_with fail
      have hne : Nonempty (Wc (Sb c q g (i * 2) x) wr) := ⟨⟨_, S0, (unhide Bd).drew⟩⟩
      have q0 := fun y : Wc (Sb c q g (i * 2) x) wr => y.ok.1.cells
      have q1 : ∀ y : Wc (Sb c q g (i * 2) x) wr, y.w.cell? ⟨g, i * 2, none⟩ = some (.int .i64 x) := fun y => y.ok.2.1
      have a0 := fun y => (q0 y).1
      have a1 := fun y => (q0 y).2.1
      have a2 := fun y => (q0 y).2.2.1
      have a3 := fun y => (q0 y).2.2.2.1
      have a4 := fun y => (q0 y).2.2.2.2.1
      have a5 := fun y => (q0 y).2.2.2.2.2.1
      have a6 := fun y => (q0 y).2.2.2.2.2.2.1
      have a7 := fun y => (q0 y).2.2.2.2.2.2.2.1
      have a8 := fun y => (q0 y).2.2.2.2.2.2.2.2.1
      have a9 := fun y => (q0 y).2.2.2.2.2.2.2.2.2.1
      have a10 := fun y => (q0 y).2.2.2.2.2.2.2.2.2.2.1
      have a11 := fun y => (q0 y).2.2.2.2.2.2.2.2.2.2.2
      clear q0
      by_cases h2 : lv = 2
      · by_cases ho : pr = o
        · subst h2 ho
          have hst := hide hct
          clear hct
          refine wp_region_wc (S := Sb c q g (i * 2) x) S0 (unhide Bd) (by kernel_rfl) (by kernel_rfl) ?_
          try simp only [List.append]
          repeat (go_big_quiet_step (first | (go_at_call 74; with_reducible exact Wc.call (fun _ _ h k => h.next k) (unhide cL _)) | (go_at_call 75; with_reducible exact Wc.call (fun _ _ h k => h.next k) (unhide cP _))))
          refine wpQuiet_nil ?_
          intro w6 hw'
          have b6 : Hid (Below wr.heap.size wr w6) := by
            obtain ⟨y, hy⟩ := hw'
            rw [hy]
            exact y.bel
          clear hw' q1 hne cL cP S0 a0 a1 a2 a3 a4 a5 a6 a7 a8 a9 a10 a11
          have b7 := hide (below_then (unhide b3) (unhide b6))
          go_wp2
          go_roundw
          case rel => exact ⟨i + 1, _, by omega, by rw [unhide hst]; simp, by go_num, rfl, unhide b7⟩
          case measure => simp [intOf]; omega
        · subst h2
          have hpo : (pr == o) = false := beq_eq_false_iff_ne.2 ho
          have e9 : (((2 : Int) == 2) && (pr == o)) = false := by rw [hpo]; rfl
          rw [e9] at hct
          have hst := hide (show cntL c o (l.take (i + 1)) = ct from hct)
          clear hct e9 ho
          refine wp_region_wc (S := Sb c q g (i * 2) x) S0 (unhide Bd) (by kernel_rfl) (by kernel_rfl) ?_
          try simp only [List.append]
          repeat (go_big_quiet_step (first | (go_at_call 74; with_reducible exact Wc.call (fun _ _ h k => h.next k) (unhide cL _)) | (go_at_call 75; with_reducible exact Wc.call (fun _ _ h k => h.next k) (unhide cP _))))
          refine wpQuiet_nil ?_
          intro w6 hw'
          have b6 : Hid (Below wr.heap.size wr w6) := by
            obtain ⟨y, hy⟩ := hw'
            rw [hy]
            exact y.bel
          clear hw' q1 hne cL cP S0 a0 a1 a2 a3 a4 a5 a6 a7 a8 a9 a10 a11
          have b7 := hide (below_then (unhide b3) (unhide b6))
          go_wp2
          go_roundw
          case rel => exact ⟨i + 1, _, by omega, by rw [unhide hst], by go_num, rfl, unhide b7⟩
          case measure => simp [intOf]; omega
      · have hlv2 : (lv == 2) = false := beq_eq_false_iff_ne.2 h2
        have e9 : ((lv == 2) && (pr == o)) = false := by rw [hlv2]; rfl
        rw [e9] at hct
        have hst := hide (show cntL c o (l.take (i + 1)) = ct from hct)
        clear hct e9 h2
        refine wp_region_wc (S := Sb c q g (i * 2) x) S0 (unhide Bd) (by kernel_rfl) (by kernel_rfl) ?_
        try simp only [List.append]
        repeat (go_big_quiet_step (first | (go_at_call 74; with_reducible exact Wc.call (fun _ _ h k => h.next k) (unhide cL _)) | (go_at_call 75; with_reducible exact Wc.call (fun _ _ h k => h.next k) (unhide cP _))))
        refine wpQuiet_nil ?_
        intro w6 hw'
        have b6 : Hid (Below wr.heap.size wr w6) := by
          obtain ⟨y, hy⟩ := hw'
          rw [hy]
          exact y.bel
        clear hw' q1 hne cL cP S0 a0 a1 a2 a3 a4 a5 a6 a7 a8 a9 a10 a11
        have b7 := hide (below_then (unhide b3) (unhide b6))
        go_wp2
        go_roundw
        case rel => exact ⟨i + 1, _, by omega, by rw [unhide hst], by go_num, rfl, unhide b7⟩
        case measure => simp [intOf]; omega
    · obtain rfl : i = l.length := by omega
      rw [List.take_length, unhide hr]
      have b7 := hide (bt (unhide b2) (unhide b3) (unhide b2).size)
      go_wp2
      go_ret
      exact ⟨rfl, unhide b7⟩
end Go.Proofs.YtgiklggnolbiiaaGreat

/- Next of package path; able. -/
namespace Go.Proofs.YtgiklggnolbiiaaGreat
open Go.RowKit
variable {B n : Nat} {most : Int} {T : Nat → Lv} {b : Nat}

theorem results_cell_two {fn : Func} {p u v : Tmp} {ty : TypeId} (h : fn.results = #[.cell p ty, .tmp u, .tmp v]) (tmps : Array Value) (P : Program) (w : World) :
    (results fn tmps).run P w =
      ((asAddr (tmps.getD p undef)).run P w).andThen fun a w₁ => ((loadVar ty a).run P w₁).andThen fun x w₂ => .ok (.tuple #[x, tmps.getD u undef, tmps.getD v undef]) w₂ := by
  simp only [results, h]
  simp [Sem.run_bind, Result.andThen]
/-- What Next walks over: the configuration's box, the answer's block, the table. -/
structure Nx (c : Cf) (q p B n : Nat) (most : Int) (T : Nat → Lv) (b : Nat) (w0 w : World) : Prop where
  bx : Bx c q w
  pl : w.heap[p]? = some (.cells #[.int .i64 0, .int .i64 0] 39 (0, 0))
  tn : Tn B n most T b w
  bel : Below w0.heap.size w0 w
theorem Nx.next {c : Cf} {q p : Nat} {w0 w w' : World} (h : Nx c q p B n most T b w0 w) (k : Below w.heap.size w w') : Nx c q p B n most T b w0 w' :=
  ⟨h.bx.next k, (k.block p (heap_lt h.pl)).trans h.pl, h.tn.next k, below_then h.bel k⟩
/-- The answer of Next. -/
def nxV (x : (Int × Int) × Bool) (e : Int) : Value := .tuple #[.agg #[.int .i64 x.1.1, .int .i64 x.1.2], .bool x.2, .int .i64 e]
theorem set2_below {w0 w : World} {p : Nat} (h : Below w0.heap.size w0 w) (hp : w0.heap.size ≤ p) (u v : Value) : Below w0.heap.size w0 ((w.setCell ⟨p, 0, none⟩ u).setCell ⟨p, 1, none⟩ v) :=
  (h.setCell (p := ⟨p, 0, none⟩) hp u).setCell (p := ⟨p, 1, none⟩) hp v
set_option maxRecDepth 100000 in
set_option maxHeartbeats 8000000 in
theorem next_in (c : Cf) (w : World) (h : Tn B n most T b w) (hf : Few n 1000 T) (who a : Int) (write : Bool) (hok : okB c = true) (h0 : 0 ≤ a) (h1 : a < nw c) {x : (Int × Int) × Bool} (hx : nextD c n T who a write = x) :
    Calls Tryz.prog 30 #[cv c, .pointer (some ⟨b, 0, none⟩), .int .i64 who, .int .i64 a, .bool write] w fun e w' => e = .returned (nxV x 0) ∧ Below w.heap.size w w' := by
  unfold nextD at hx
  obtain ⟨r, hr⟩ : ∃ r, r = rD c a := ⟨_, rfl⟩
  obtain ⟨o, ho⟩ : ∃ o, o = c.r + oD c a := ⟨_, rfl⟩
  obtain ⟨s, hs⟩ : ∃ s, s = c.r + no c + sD c a := ⟨_, rfl⟩
  rw [← hr, ← ho, ← hs] at hx
  have P := hide (fun w0 : World => path_ok c a w0 hok h0 h1)
  rw [← hr, ← ho, ← hs] at P
  obtain ⟨N, hN⟩ : ∃ N, N = w.heap.size := ⟨_, rfl⟩
  obtain ⟨w1, hw1⟩ : ∃ w1, w1 = (w.alloc (.cells #[.int .i64 c.r, .int .i64 c.o, .int .i64 c.s, .int .i64 c.d, .int .i64 c.t, .int .i64 c.l, .int .i64 c.g, .int .i64 c.k, .int .i64 c.u, .int .i64 c.e, .int .i64 c.i, .int .i64 c.p] 68)).alloc (.cells #[.int .i64 0, .int .i64 0] 39) := ⟨_, rfl⟩
  have X1 : Nx c N (N + 1) B n most T b w w1 := by
    have b0 := below_new w (.cells #[.int .i64 c.r, .int .i64 c.o, .int .i64 c.s, .int .i64 c.d, .int .i64 c.t, .int .i64 c.l, .int .i64 c.g, .int .i64 c.k, .int .i64 c.u, .int .i64 c.e, .int .i64 c.i, .int .i64 c.p] 68)
    have b1 := below_new (w.alloc (.cells #[.int .i64 c.r, .int .i64 c.o, .int .i64 c.s, .int .i64 c.d, .int .i64 c.t, .int .i64 c.l, .int .i64 c.g, .int .i64 c.k, .int .i64 c.u, .int .i64 c.e, .int .i64 c.i, .int .i64 c.p] 68)) (.cells #[.int .i64 0, .int .i64 0] 39)
    rw [hw1, hN]
    refine ⟨(bx_new c w).next b1, ?_, (h.next b0).next b1, below_then b0 b1⟩
    have := heap_alloc_new (w.alloc (.cells #[.int .i64 c.r, .int .i64 c.o, .int .i64 c.s, .int .i64 c.d, .int .i64 c.t, .int .i64 c.l, .int .i64 c.g, .int .i64 c.k, .int .i64 c.u, .int .i64 c.e, .int .i64 c.i, .int .i64 c.p] 68)) (.cells #[.int .i64 0, .int .i64 0] 39)
    rw [World.size_alloc] at this
    exact this
  obtain ⟨a0, a1, a2, a3, a4, a5, a6, a7, a8, a9, a10, a11⟩ := X1.bx.cells
  have hNw : Hid (w.heap.size ≤ N + 1) := by show _ ≤ _; omega
  replace X1 := hide X1
  have HT := hide h
  clear h hr ho hs hok h0 h1
  unfold cv
  go_enter Tryz.func30, Tryz.ntmps30
  go_wp2_with fail
  rw [← hN, ← hw1]
  replace hw1 := hide hw1
  replace hN := hide hN
  refine (unhide P w1).mono ?_
  rintro e w2 ⟨rfl, b2⟩
  have X2 := hide ((unhide X1).next b2)
  clear a0 a1 a2 a3 a4 a5 a6 a7 a8 a9 a10 a11 b2
  go_wp2_with fail
  refine (wanted_any write _).mono ?_
  rintro e w3 ⟨rfl, rfl⟩
  go_wp2_with fail
  refine (intent_want write _).mono ?_
  rintro e w2 ⟨rfl, rfl⟩
  unfold nextK at hx
  cases k1 : coversB (holdT n T who r) (inD write)
  · rw [if_pos k1] at hx
    subst hx
    have K1 := hide k1
    clear k1
    go_wp2_with fail
    refine (covers_p w2 (unhide X2).tn hf who r (inD write) (unhide K1)).mono ?_
    rintro e w4 ⟨rfl, b4⟩
    have X4 := hide ((unhide X2).next b4)
    obtain ⟨y0, y1, y2, y3⟩ := lock_cells (unhide X4).pl
    have BE := hide (set2_below (unhide X4).bel (unhide hNw) (.int .i64 r) (.int .i64 (inD write)))
    clear b4
    go_wp2
    refine bodyPost_ret (v := nxV ((r, inD write), true) 0) ?_ rfl ⟨rfl, unhide BE⟩
    rw [results_cell_two rfl]
    unfold nxV
    go_simp
  rw [if_neg (by rw [k1]; decide)] at hx
  have K1 := hide k1
  clear k1
  go_wp2_with fail
  refine (covers_p w2 (unhide X2).tn hf who r (inD write) (unhide K1)).mono ?_
  rintro e w4 ⟨rfl, b4⟩
  have X4 := hide ((unhide X2).next b4)
  clear b4
  cases k2 : wholeB write (holdT n T who o)
  · rw [if_neg (by rw [k2]; decide)] at hx
    have K2 := hide k2
    clear k2
    go_wp2_with fail
    refine (whole_p w4 (unhide X4).tn hf who o write (unhide K2)).mono ?_
    rintro e w5 ⟨rfl, b5⟩
    have X5 := hide ((unhide X4).next b5)
    clear b5
    cases k3 : coversB (holdT n T who s) (wantD write)
    · cases k4 : escB c n T who o
      · rw [k3, k4, if_neg (by decide)] at hx
        replace hx := hide hx
        have K3 := hide k3
        have K4 := hide k4
        clear k3 k4
        go_wp2_with fail
        refine (covers_p w5 (unhide X5).tn hf who s (wantD write) (unhide K3)).mono ?_
        rintro e w6 ⟨rfl, b6⟩
        have X6 := hide ((unhide X5).next b6)
        clear b6
        obtain ⟨a0, a1, a2, a3, a4, a5, a6, a7, a8, a9, a10, a11⟩ := (unhide X6).bx.cells
        go_wp2_with fail
        refine (esc_p c w6 (unhide X6).tn hf who o (unhide K4)).mono ?_
        rintro e w7 ⟨rfl, b7⟩
        have X7 := hide ((unhide X6).next b7)
        clear b7 a0 a1 a2 a3 a4 a5 a6 a7 a8 a9 a10 a11
        cases k5 : coversB (holdT n T who o) (inD write)
        · replace hx := unhide hx
          rw [if_pos k5] at hx
          subst hx
          have K5 := hide k5
          clear k5
          go_wp2_with fail
          refine (covers_p w7 (unhide X7).tn hf who o (inD write) (unhide K5)).mono ?_
          rintro e w8 ⟨rfl, b8⟩
          have X8 := hide ((unhide X7).next b8)
          obtain ⟨y0, y1, y2, y3⟩ := lock_cells (unhide X8).pl
          have BE := hide (set2_below (unhide X8).bel (unhide hNw) (.int .i64 o) (.int .i64 (inD write)))
          clear b8
          go_wp2
          refine bodyPost_ret (v := nxV ((o, inD write), true) 0) ?_ rfl ⟨rfl, unhide BE⟩
          rw [results_cell_two rfl]
          unfold nxV
          go_simp
        · replace hx := unhide hx
          rw [k5, if_neg (by decide), if_pos trivial] at hx
          subst hx
          have K5 := hide k5
          clear k5
          go_wp2_with fail
          refine (covers_p w7 (unhide X7).tn hf who o (inD write) (unhide K5)).mono ?_
          rintro e w8 ⟨rfl, b8⟩
          have X8 := hide ((unhide X7).next b8)
          obtain ⟨y0, y1, y2, y3⟩ := lock_cells (unhide X8).pl
          have BE := hide (set2_below (unhide X8).bel (unhide hNw) (.int .i64 s) (.int .i64 (wantD write)))
          clear b8
          go_wp2
          refine bodyPost_ret (v := nxV ((s, wantD write), true) 0) ?_ rfl ⟨rfl, unhide BE⟩
          rw [results_cell_two rfl]
          unfold nxV
          go_simp
      · rw [k3, k4, if_pos ⟨rfl, rfl⟩] at hx
        subst hx
        have K3 := hide k3
        have K4 := hide k4
        clear k3 k4
        go_wp2_with fail
        refine (covers_p w5 (unhide X5).tn hf who s (wantD write) (unhide K3)).mono ?_
        rintro e w6 ⟨rfl, b6⟩
        have X6 := hide ((unhide X5).next b6)
        clear b6
        obtain ⟨a0, a1, a2, a3, a4, a5, a6, a7, a8, a9, a10, a11⟩ := (unhide X6).bx.cells
        go_wp2_with fail
        refine (esc_p c w6 (unhide X6).tn hf who o (unhide K4)).mono ?_
        rintro e w7 ⟨rfl, b7⟩
        have X7 := hide ((unhide X6).next b7)
        obtain ⟨y0, y1, y2, y3⟩ := lock_cells (unhide X7).pl
        have BE := hide (set2_below (unhide X7).bel (unhide hNw) (.int .i64 o) (.int .i64 (wantD write)))
        clear b7 a0 a1 a2 a3 a4 a5 a6 a7 a8 a9 a10 a11
        go_wp2
        refine bodyPost_ret (v := nxV ((o, wantD write), true) 0) ?_ rfl ⟨rfl, unhide BE⟩
        rw [results_cell_two rfl]
        unfold nxV
        go_simp
    · rw [if_neg (by rw [k3]; exact fun e => absurd e.1 (by decide))] at hx
      replace hx := hide hx
      have K3 := hide k3
      clear k3
      go_wp2_with fail
      refine (covers_p w5 (unhide X5).tn hf who s (wantD write) (unhide K3)).mono ?_
      rintro e w6 ⟨rfl, b6⟩
      have X6 := hide ((unhide X5).next b6)
      clear b6
      cases k5 : coversB (holdT n T who o) (inD write)
      · replace hx := unhide hx
        rw [if_pos k5] at hx
        subst hx
        have K5 := hide k5
        clear k5
        go_wp2_with fail
        refine (covers_p w6 (unhide X6).tn hf who o (inD write) (unhide K5)).mono ?_
        rintro e w8 ⟨rfl, b8⟩
        have X8 := hide ((unhide X6).next b8)
        obtain ⟨y0, y1, y2, y3⟩ := lock_cells (unhide X8).pl
        have BE := hide (set2_below (unhide X8).bel (unhide hNw) (.int .i64 o) (.int .i64 (inD write)))
        clear b8
        go_wp2
        refine bodyPost_ret (v := nxV ((o, inD write), true) 0) ?_ rfl ⟨rfl, unhide BE⟩
        rw [results_cell_two rfl]
        unfold nxV
        go_simp
      · replace hx := unhide hx
        rw [k5, if_neg (by decide), if_neg (by rw [unhide K3]; decide)] at hx
        subst hx
        have K5 := hide k5
        clear k5
        go_wp2_with fail
        refine (covers_p w6 (unhide X6).tn hf who o (inD write) (unhide K5)).mono ?_
        rintro e w8 ⟨rfl, b8⟩
        have X8 := hide ((unhide X6).next b8)
        obtain ⟨y0, y1, y2, y3⟩ := lock_cells (unhide X8).pl
        have BE := hide (set2_below (unhide X8).bel (unhide hNw) (.int .i64 0) (.int .i64 0))
        clear b8
        go_wp2
        refine bodyPost_ret (v := nxV ((0, 0), false) 0) ?_ rfl ⟨rfl, unhide BE⟩
        rw [results_cell_two rfl]
        unfold nxV
        go_simp
  · rw [if_pos k2] at hx
    subst hx
    have K2 := hide k2
    clear k2
    go_wp2_with fail
    refine (whole_p w4 (unhide X4).tn hf who o write (unhide K2)).mono ?_
    rintro e w5 ⟨rfl, b5⟩
    have X5 := hide ((unhide X4).next b5)
    obtain ⟨y0, y1, y2, y3⟩ := lock_cells (unhide X5).pl
    have BE := hide (set2_below (unhide X5).bel (unhide hNw) (.int .i64 0) (.int .i64 0))
    clear b5
    go_wp2
    refine bodyPost_ret (v := nxV ((0, 0), false) 0) ?_ rfl ⟨rfl, unhide BE⟩
    rw [results_cell_two rfl]
    unfold nxV
    go_simp
end Go.Proofs.YtgiklggnolbiiaaGreat

/- The reference's Next. -/
namespace Go.Proofs.YtgiklggnolbiiaaGreat
open Go.RowKit
variable {B n : Nat} {most : Int} {T : Nat → Lv} {b rb c2 : Nat} {lb : Nat → Nat} {hv qv : Nat → Value}

/-- What it walks over. -/
structure Nxr (c : Cf) (q p B n : Nat) (most : Int) (T : Nat → Lv) (b rb c2 : Nat) (lb : Nat → Nat) (hv qv : Nat → Value) (w0 w : World) : Prop where
  bx : Bx c q w
  pl : w.heap[p]? = some (.cells #[.int .i64 0, .int .i64 0] 39 (0, 0))
  rt : Rt B n most T b rb c2 lb hv qv w
  bel : Below w0.heap.size w0 w
theorem Nxr.next {c : Cf} {q p : Nat} {w0 w w' : World} (h : Nxr c q p B n most T b rb c2 lb hv qv w0 w) (k : Below w.heap.size w w') : Nxr c q p B n most T b rb c2 lb hv qv w0 w' :=
  ⟨h.bx.next k, (k.block p (heap_lt h.pl)).trans h.pl, h.rt.next k, below_then h.bel k⟩
theorem drew_bel (w : World) : Below w.heap.size w w.drew := ⟨rfl, rfl, rfl, Nat.le_refl _, fun _ _ => rfl⟩
theorem rcov_at (h t : Int) (w : World) {r : Bool} (hr : coversB h t = r) : Calls Tryz.prog 69 #[.int .i64 h, .int .i64 t] w fun e w' => e = .returned (.bool r) ∧ Below w.heap.size w w' := by
  subst hr
  exact rcovers_any h t w
theorem rhold_at (w : World) (h : Rt B n most T b rb c2 lb hv qv w) (hf : Few n 1000 T) (who node : Int) {r : Int} (hr : holdT n T who node = r) :
    Calls Tryz.prog 16 #[.pointer (some ⟨b, 0, none⟩), .int .i64 who, .int .i64 node] w fun e w' => e = .returned (.int .i64 r) ∧ w' = w := by
  subst hr
  rw [← holdN_T]
  exact rholds_t w h hf who node
theorem rreads_at (m : Int) (w : World) {r : Bool} (hr : readsB m = r) : Calls Tryz.prog 70 #[.int .i64 m] w fun e w' => e = .returned (.bool r) ∧ w' = w := by
  subst hr
  exact rreads_any m w
theorem rwrites_at (m : Int) (w : World) {r : Bool} (hr : writesB m = r) : Calls Tryz.prog 71 #[.int .i64 m] w fun e w' => e = .returned (.bool r) ∧ w' = w := by
  subst hr
  exact rwrites_any m w
theorem rint3 (w : World) : Calls Tryz.prog 68 #[.int .i64 3] w fun e w' => e = .returned (.int .i64 1) ∧ w' = w := rintent_any 3 w
theorem rint5 (w : World) : Calls Tryz.prog 68 #[.int .i64 5] w fun e w' => e = .returned (.int .i64 2) ∧ w' = w := rintent_any 5 w
theorem no_writes {m : Int} (h : readsB m = false) : writesB m = false := by
  cases e : writesB m
  · rfl
  · exfalso
    have : m = 5 := by simpa [writesB] using e
    subst this
    exact absurd h (by decide)
end Go.Proofs.YtgiklggnolbiiaaGreat
