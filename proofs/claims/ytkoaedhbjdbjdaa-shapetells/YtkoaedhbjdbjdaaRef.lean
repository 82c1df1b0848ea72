/- What the reference's Words, Nodes, Size, Level, Parent, Latch, Path answer: the same as the code's. -/
import Derived.Test.YtkoaedhbjdbjdaaRefCheck
import Derived.Test.YtkoaedhbjdbjdaaPath
namespace Go.Proofs.Ytkoaedhbjdbjdaa
open Go.RowKit

theorem rstripes_any (c : Cf) (w : World) (h : Hp c) : Calls Try.prog 31 #[cv c] w fun e w' => e = .returned (.int .i64 (ns c)) ∧ Below w.heap.size w w' := by
  have e1 : IntKind.i64.wrap (no c * c.s) = ns c := kin (by have := ns_in h; unfold ns at this; omega) (by have := ns_in h; unfold ns at this; omega)
  unfold cv
  go_enter Try.func31, Try.ntmps31
  go_wp2_with fail
  have hx := bx_new c w
  have hl := below_new w (.cells #[.int .i64 c.r, .int .i64 c.o, .int .i64 c.s, .int .i64 c.d, .int .i64 c.t, .int .i64 c.l, .int .i64 c.g, .int .i64 c.k, .int .i64 c.u, .int .i64 c.e, .int .i64 c.i, .int .i64 c.p] 23)
  go_region_held3 (fun wz => wz.cell? ⟨w.heap.size, 0, none⟩ = some (.int .i64 c.r) ∧ wz.cell? ⟨w.heap.size, 1, none⟩ = some (.int .i64 c.o) ∧ wz.cell? ⟨w.heap.size, 2, none⟩ = some (.int .i64 c.s) ∧ wz.cell? ⟨w.heap.size, 3, none⟩ = some (.int .i64 c.d) ∧ wz.cell? ⟨w.heap.size, 4, none⟩ = some (.int .i64 c.t) ∧ wz.cell? ⟨w.heap.size, 5, none⟩ = some (.int .i64 c.l) ∧ wz.cell? ⟨w.heap.size, 6, none⟩ = some (.int .i64 c.g) ∧ wz.cell? ⟨w.heap.size, 7, none⟩ = some (.int .i64 c.k) ∧ wz.cell? ⟨w.heap.size, 8, none⟩ = some (.int .i64 c.u) ∧ wz.cell? ⟨w.heap.size, 9, none⟩ = some (.int .i64 c.e) ∧ wz.cell? ⟨w.heap.size, 10, none⟩ = some (.int .i64 c.i) ∧ wz.cell? ⟨w.heap.size, 11, none⟩ = some (.int .i64 c.p)) (first | exact hx3.cells | exact hx2.cells | exact hx1.cells | exact hx.drew.cells)
    (first
      | (go_at_call 26; refine (robjects_any c _ h).mono ?_; rintro e wz ⟨rfl, hbz⟩; first | (have hx3 := hx2.next hbz; have hl3 := below_then hl2 hbz) | (have hx2 := hx1.next hbz; have hl2 := below_then hl1 hbz) | (have hx1 := hx.drew.next hbz; have hl1 := below_then hl.drew hbz)))
  go_wp2
  go_ret
  exact ⟨rfl, hl1⟩

theorem rwords_any (c : Cf) (w : World) : Calls Try.prog 14 #[cv c] w fun e w' => e = .returned (.int .i64 (wordsD c)) ∧ Below w.heap.size w w' := by
  cases h : okB c
  · have eb : wordsD c = 0 := by simp [wordsD, h]
    rw [eb]
    have H := hide h
    clear eb h
    unfold cv
    go_enter Try.func14, Try.ntmps14
    go_wp2_with fail
    refine (rcheck_any c _).mono ?_
    rw [unhide H, errOf_f]
    rintro e w1 ⟨rfl, hb⟩
    go_wp2
    go_ret
    exact ⟨rfl, below_call hb⟩
  · have eb : wordsD c = nw c := by simp [wordsD, h]
    rw [eb]
    have hp := okB_hp h
    have H := hide h
    clear eb h
    have e1 : IntKind.i64.wrap (ns c * c.d) = nw c := kin (by have := nw_in hp; unfold nw at this; omega) (by have := nw_in hp; unfold nw at this; omega)
    unfold cv
    go_enter Try.func14, Try.ntmps14
    go_wp2_with fail
    refine (rcheck_any c _).mono ?_
    rw [unhide H, errOf_t]
    rintro e w1 ⟨rfl, hb⟩
    have hx := (bx_new c w).next hb
    have hl := below_call hb
    obtain ⟨a0, a1, a2, a3, a4, a5, a6, a7, a8, a9, a10, a11⟩ := hx.cells
    go_wp2_with fail
    go_region_held3 (fun wz => wz.cell? ⟨w.heap.size, 0, none⟩ = some (.int .i64 c.r) ∧ wz.cell? ⟨w.heap.size, 1, none⟩ = some (.int .i64 c.o) ∧ wz.cell? ⟨w.heap.size, 2, none⟩ = some (.int .i64 c.s) ∧ wz.cell? ⟨w.heap.size, 3, none⟩ = some (.int .i64 c.d) ∧ wz.cell? ⟨w.heap.size, 4, none⟩ = some (.int .i64 c.t) ∧ wz.cell? ⟨w.heap.size, 5, none⟩ = some (.int .i64 c.l) ∧ wz.cell? ⟨w.heap.size, 6, none⟩ = some (.int .i64 c.g) ∧ wz.cell? ⟨w.heap.size, 7, none⟩ = some (.int .i64 c.k) ∧ wz.cell? ⟨w.heap.size, 8, none⟩ = some (.int .i64 c.u) ∧ wz.cell? ⟨w.heap.size, 9, none⟩ = some (.int .i64 c.e) ∧ wz.cell? ⟨w.heap.size, 10, none⟩ = some (.int .i64 c.i) ∧ wz.cell? ⟨w.heap.size, 11, none⟩ = some (.int .i64 c.p)) (first | exact hx3.cells | exact hx2.cells | exact hx1.cells | exact hx.drew.cells)
      (first
        | (go_at_call 31; refine (rstripes_any c _ hp).mono ?_; rintro e wz ⟨rfl, hbz⟩; first | (have hx3 := hx2.next hbz; have hl3 := below_then hl2 hbz) | (have hx2 := hx1.next hbz; have hl2 := below_then hl1 hbz) | (have hx1 := hx.drew.next hbz; have hl1 := below_then hl.drew hbz)))
    all_goals
      go_wp2
      go_ret
      exact ⟨by first | rfl | exact ret_int (by simp only [IntKind.wrap_i64]; omega), hl1⟩

theorem rnodes_any (c : Cf) (w : World) : Calls Try.prog 16 #[cv c] w fun e w' => e = .returned (.int .i64 (nodesD c)) ∧ Below w.heap.size w w' := by
  cases h : okB c
  · have eb : nodesD c = 0 := by simp [nodesD, h]
    rw [eb]
    have H := hide h
    clear eb h
    unfold cv
    go_enter Try.func16, Try.ntmps16
    go_wp2_with fail
    refine (rcheck_any c _).mono ?_
    rw [unhide H, errOf_f]
    rintro e w1 ⟨rfl, hb⟩
    go_wp2
    go_ret
    exact ⟨rfl, below_call hb⟩
  · have eb : nodesD c = c.r + no c + ns c := by simp [nodesD, h]
    rw [eb]
    have hp := okB_hp h
    have H := hide h
    clear eb h
    have h1 := hp.r1
    have h2 := hp.r8
    have g1 := hp.o1
    have g2 := hp.o8
    have g3 := hp.s1
    have g4 := hp.s8
    obtain ⟨h3, h4⟩ := no_in hp
    obtain ⟨h5, h6⟩ := ns_in hp
    obtain ⟨h7, h8⟩ := nw_in hp
    unfold cv
    go_enter Try.func16, Try.ntmps16
    go_wp2_with fail
    refine (rcheck_any c _).mono ?_
    rw [unhide H, errOf_t]
    rintro e w1 ⟨rfl, hb⟩
    have hx := (bx_new c w).next hb
    have hl := below_call hb
    obtain ⟨a0, a1, a2, a3, a4, a5, a6, a7, a8, a9, a10, a11⟩ := hx.cells
    go_wp2_with fail
    go_region_held3 (fun wz => wz.cell? ⟨w.heap.size, 0, none⟩ = some (.int .i64 c.r) ∧ wz.cell? ⟨w.heap.size, 1, none⟩ = some (.int .i64 c.o) ∧ wz.cell? ⟨w.heap.size, 2, none⟩ = some (.int .i64 c.s) ∧ wz.cell? ⟨w.heap.size, 3, none⟩ = some (.int .i64 c.d) ∧ wz.cell? ⟨w.heap.size, 4, none⟩ = some (.int .i64 c.t) ∧ wz.cell? ⟨w.heap.size, 5, none⟩ = some (.int .i64 c.l) ∧ wz.cell? ⟨w.heap.size, 6, none⟩ = some (.int .i64 c.g) ∧ wz.cell? ⟨w.heap.size, 7, none⟩ = some (.int .i64 c.k) ∧ wz.cell? ⟨w.heap.size, 8, none⟩ = some (.int .i64 c.u) ∧ wz.cell? ⟨w.heap.size, 9, none⟩ = some (.int .i64 c.e) ∧ wz.cell? ⟨w.heap.size, 10, none⟩ = some (.int .i64 c.i) ∧ wz.cell? ⟨w.heap.size, 11, none⟩ = some (.int .i64 c.p)) (first | exact hx3.cells | exact hx2.cells | exact hx1.cells | exact hx.drew.cells)
      (first
        | (go_at_call 26; refine (robjects_any c _ hp).mono ?_; rintro e wz ⟨rfl, hbz⟩; first | (have hx3 := hx2.next hbz; have hl3 := below_then hl2 hbz) | (have hx2 := hx1.next hbz; have hl2 := below_then hl1 hbz) | (have hx1 := hx.drew.next hbz; have hl1 := below_then hl.drew hbz))
          | (go_at_call 31; refine (rstripes_any c _ hp).mono ?_; rintro e wz ⟨rfl, hbz⟩; first | (have hx3 := hx2.next hbz; have hl3 := below_then hl2 hbz) | (have hx2 := hx1.next hbz; have hl2 := below_then hl1 hbz) | (have hx1 := hx.drew.next hbz; have hl1 := below_then hl.drew hbz)))
    all_goals
      go_wp2
      go_ret
      exact ⟨by first | rfl | exact ret_int (by simp only [IntKind.wrap_i64]; omega), hl2⟩

theorem rwords_ok (c : Cf) (w : World) (h : okB c = true) : Calls Try.prog 14 #[cv c] w fun e w' => e = .returned (.int .i64 (nw c)) ∧ Below w.heap.size w w' := by
  have := rwords_any c w
  simp only [wordsD, h, if_true] at this
  exact this

theorem rsize_any (c : Cf) (w : World) : Calls Try.prog 18 #[cv c] w fun e w' => e = .returned (.int .i64 (cellsD c)) ∧ Below w.heap.size w w' := by
  cases h : okB c
  · have eb : cellsD c = 0 := by simp [cellsD, h]
    rw [eb]
    have H := hide h
    clear eb h
    unfold cv
    go_enter Try.func18, Try.ntmps18
    go_wp2_with fail
    refine (rcheck_any c _).mono ?_
    rw [unhide H, errOf_f]
    rintro e w1 ⟨rfl, hb⟩
    go_wp2
    go_ret
    exact ⟨rfl, below_call hb⟩
  · have eb : cellsD c = nw c + ns c * 8 := by simp [cellsD, h]
    rw [eb]
    have hp := okB_hp h
    have H := hide h
    clear eb h
    have h1 := hp.r1
    have h2 := hp.r8
    have g1 := hp.o1
    have g2 := hp.o8
    have g3 := hp.s1
    have g4 := hp.s8
    obtain ⟨h3, h4⟩ := no_in hp
    obtain ⟨h5, h6⟩ := ns_in hp
    obtain ⟨h7, h8⟩ := nw_in hp
    unfold cv
    go_enter Try.func18, Try.ntmps18
    go_wp2_with fail
    refine (rcheck_any c _).mono ?_
    rw [unhide H, errOf_t]
    rintro e w1 ⟨rfl, hb⟩
    have hx := (bx_new c w).next hb
    have hl := below_call hb
    obtain ⟨a0, a1, a2, a3, a4, a5, a6, a7, a8, a9, a10, a11⟩ := hx.cells
    go_wp2_with fail
    go_region_held3 (fun wz => wz.cell? ⟨w.heap.size, 0, none⟩ = some (.int .i64 c.r) ∧ wz.cell? ⟨w.heap.size, 1, none⟩ = some (.int .i64 c.o) ∧ wz.cell? ⟨w.heap.size, 2, none⟩ = some (.int .i64 c.s) ∧ wz.cell? ⟨w.heap.size, 3, none⟩ = some (.int .i64 c.d) ∧ wz.cell? ⟨w.heap.size, 4, none⟩ = some (.int .i64 c.t) ∧ wz.cell? ⟨w.heap.size, 5, none⟩ = some (.int .i64 c.l) ∧ wz.cell? ⟨w.heap.size, 6, none⟩ = some (.int .i64 c.g) ∧ wz.cell? ⟨w.heap.size, 7, none⟩ = some (.int .i64 c.k) ∧ wz.cell? ⟨w.heap.size, 8, none⟩ = some (.int .i64 c.u) ∧ wz.cell? ⟨w.heap.size, 9, none⟩ = some (.int .i64 c.e) ∧ wz.cell? ⟨w.heap.size, 10, none⟩ = some (.int .i64 c.i) ∧ wz.cell? ⟨w.heap.size, 11, none⟩ = some (.int .i64 c.p)) (first | exact hx3.cells | exact hx2.cells | exact hx1.cells | exact hx.drew.cells)
      (first
        | (go_at_call 14; refine (rwords_ok c _ (unhide H)).mono ?_; rintro e wz ⟨rfl, hbz⟩; first | (have hx3 := hx2.next hbz; have hl3 := below_then hl2 hbz) | (have hx2 := hx1.next hbz; have hl2 := below_then hl1 hbz) | (have hx1 := hx.drew.next hbz; have hl1 := below_then hl.drew hbz))
          | (go_at_call 31; refine (rstripes_any c _ hp).mono ?_; rintro e wz ⟨rfl, hbz⟩; first | (have hx3 := hx2.next hbz; have hl3 := below_then hl2 hbz) | (have hx2 := hx1.next hbz; have hl2 := below_then hl1 hbz) | (have hx1 := hx.drew.next hbz; have hl1 := below_then hl.drew hbz)))
    all_goals
      go_wp2
      go_ret
      exact ⟨by first | rfl | exact ret_int (by simp only [IntKind.wrap_i64]; omega), hl2⟩

theorem rlevel_any (c : Cf) (n : Int) (w : World) : Calls Try.prog 20 #[cv c, .int .i64 n] w fun e w' => e = .returned (.int .i64 (levelD c n)) ∧ Below w.heap.size w w' := by
  rcases level_ways c n with ⟨e0, h⟩ | ⟨h0, hn, hk, h⟩
  · rw [e0]
    clear e0
    by_cases h0 : n < 0
    · unfold cv
      go_enter Try.func20, Try.ntmps20
      go_wp2
      go_ret
      exact ⟨rfl, below_new _ _⟩
    · have h1 : nodesD c ≤ n := by omega
      clear h
      unfold cv
      go_enter Try.func20, Try.ntmps20
      go_wp2_with fail
      refine (rnodes_any c _).mono ?_
      rintro e w1 ⟨rfl, hb⟩
      have hl := below_call hb
      have hx := (bx_new c w).next hb
      go_wp2
      go_ret
      exact ⟨rfl, hl⟩
  · have hp := okB_hp hk
    have H := hide hk
    clear hk
    have h1 := hp.r1
    have h2 := hp.r8
    have g1 := hp.o1
    have g2 := hp.o8
    have g3 := hp.s1
    have g4 := hp.s8
    obtain ⟨h3, h4⟩ := no_in hp
    obtain ⟨h5, h6⟩ := ns_in hp
    obtain ⟨h7, h8⟩ := nw_in hp
    rcases h with ⟨e0, h⟩ | ⟨e0, h, h'⟩ | ⟨e0, h, h'⟩
    · rw [e0]
      clear e0
      unfold cv
      go_enter Try.func20, Try.ntmps20
      go_wp2_with fail
      refine (rnodes_any c _).mono ?_
      rintro e w1 ⟨rfl, hb⟩
      have hl := below_call hb
      have hx := (bx_new c w).next hb
      obtain ⟨a0, a1, a2, a3, a4, a5, a6, a7, a8, a9, a10, a11⟩ := hx.cells
      go_wp2
      go_ret
      exact ⟨rfl, hl⟩
    · rw [e0]
      clear e0
      have q1 : IntKind.i64.wrap (c.r + no c) = c.r + no c := kin (by omega) (by omega)
      unfold cv
      go_enter Try.func20, Try.ntmps20
      go_wp2_with fail
      refine (rnodes_any c _).mono ?_
      rintro e w1 ⟨rfl, hb⟩
      have hl := below_call hb
      have hx := (bx_new c w).next hb
      obtain ⟨a0, a1, a2, a3, a4, a5, a6, a7, a8, a9, a10, a11⟩ := hx.cells
      go_wp2_with fail
      go_region_held3 (fun wz => wz.cell? ⟨w.heap.size, 0, none⟩ = some (.int .i64 c.r) ∧ wz.cell? ⟨w.heap.size, 1, none⟩ = some (.int .i64 c.o) ∧ wz.cell? ⟨w.heap.size, 2, none⟩ = some (.int .i64 c.s) ∧ wz.cell? ⟨w.heap.size, 3, none⟩ = some (.int .i64 c.d) ∧ wz.cell? ⟨w.heap.size, 4, none⟩ = some (.int .i64 c.t) ∧ wz.cell? ⟨w.heap.size, 5, none⟩ = some (.int .i64 c.l) ∧ wz.cell? ⟨w.heap.size, 6, none⟩ = some (.int .i64 c.g) ∧ wz.cell? ⟨w.heap.size, 7, none⟩ = some (.int .i64 c.k) ∧ wz.cell? ⟨w.heap.size, 8, none⟩ = some (.int .i64 c.u) ∧ wz.cell? ⟨w.heap.size, 9, none⟩ = some (.int .i64 c.e) ∧ wz.cell? ⟨w.heap.size, 10, none⟩ = some (.int .i64 c.i) ∧ wz.cell? ⟨w.heap.size, 11, none⟩ = some (.int .i64 c.p)) (first | exact hx3.cells | exact hx2.cells | exact hx1.cells | exact hx.drew.cells)
        (first
          | (go_at_call 26; refine (robjects_any c _ hp).mono ?_; rintro e wz ⟨rfl, hbz⟩; first | (have hx3 := hx2.next hbz; have hl3 := below_then hl2 hbz) | (have hx2 := hx1.next hbz; have hl2 := below_then hl1 hbz) | (have hx1 := hx.drew.next hbz; have hl1 := below_then hl.drew hbz)))
      go_wp2
      go_ret
      exact ⟨rfl, hl1⟩
    · rw [e0]
      clear e0
      have q1 : IntKind.i64.wrap (c.r + no c) = c.r + no c := kin (by omega) (by omega)
      unfold cv
      go_enter Try.func20, Try.ntmps20
      go_wp2_with fail
      refine (rnodes_any c _).mono ?_
      rintro e w1 ⟨rfl, hb⟩
      have hl := below_call hb
      have hx := (bx_new c w).next hb
      obtain ⟨a0, a1, a2, a3, a4, a5, a6, a7, a8, a9, a10, a11⟩ := hx.cells
      go_wp2_with fail
      go_region_held3 (fun wz => wz.cell? ⟨w.heap.size, 0, none⟩ = some (.int .i64 c.r) ∧ wz.cell? ⟨w.heap.size, 1, none⟩ = some (.int .i64 c.o) ∧ wz.cell? ⟨w.heap.size, 2, none⟩ = some (.int .i64 c.s) ∧ wz.cell? ⟨w.heap.size, 3, none⟩ = some (.int .i64 c.d) ∧ wz.cell? ⟨w.heap.size, 4, none⟩ = some (.int .i64 c.t) ∧ wz.cell? ⟨w.heap.size, 5, none⟩ = some (.int .i64 c.l) ∧ wz.cell? ⟨w.heap.size, 6, none⟩ = some (.int .i64 c.g) ∧ wz.cell? ⟨w.heap.size, 7, none⟩ = some (.int .i64 c.k) ∧ wz.cell? ⟨w.heap.size, 8, none⟩ = some (.int .i64 c.u) ∧ wz.cell? ⟨w.heap.size, 9, none⟩ = some (.int .i64 c.e) ∧ wz.cell? ⟨w.heap.size, 10, none⟩ = some (.int .i64 c.i) ∧ wz.cell? ⟨w.heap.size, 11, none⟩ = some (.int .i64 c.p)) (first | exact hx3.cells | exact hx2.cells | exact hx1.cells | exact hx.drew.cells)
        (first
          | (go_at_call 26; refine (robjects_any c _ hp).mono ?_; rintro e wz ⟨rfl, hbz⟩; first | (have hx3 := hx2.next hbz; have hl3 := below_then hl2 hbz) | (have hx2 := hx1.next hbz; have hl2 := below_then hl1 hbz) | (have hx1 := hx.drew.next hbz; have hl1 := below_then hl.drew hbz)))
      go_wp2
      go_ret
      exact ⟨rfl, hl1⟩

theorem rparent_any (c : Cf) (n : Int) (w : World) : Calls Try.prog 22 #[cv c, .int .i64 n] w fun e w' => e = .returned (.int .i64 (parentD c n)) ∧ Below w.heap.size w w' := by
  rcases level_ways c n with ⟨e0, h⟩ | ⟨h0, hn, hk, h⟩
  · have e1 : parentD c n = -1 := by simp [parentD, e0]
    rw [e1]
    have E0 := hide e0
    clear e0 e1
    unfold cv
    go_enter Try.func22, Try.ntmps22
    go_wp2_with fail
    refine (rlevel_any c n _).mono ?_
    rw [unhide E0]
    rintro e w1 ⟨rfl, hb⟩
    have hl := below_call hb
    go_wp2
    go_ret
    exact ⟨rfl, hl⟩
  · have hp := okB_hp hk
    have h1 := hp.r1
    have h2 := hp.r8
    have g1 := hp.o1
    have g2 := hp.o8
    have g3 := hp.s1
    have g4 := hp.s8
    obtain ⟨h3, h4⟩ := no_in hp
    obtain ⟨h5, h6⟩ := ns_in hp
    obtain ⟨h7, h8⟩ := nw_in hp
    rw [nodes_ok hk] at hn
    have H := hide hk
    clear hk
    rcases h with ⟨e0, h⟩ | ⟨e0, h, h'⟩ | ⟨e0, h, h'⟩
    · have e1 : parentD c n = -1 := by simp [parentD, e0]
      rw [e1]
      have E0 := hide e0
      clear e0 e1
      unfold cv
      go_enter Try.func22, Try.ntmps22
      go_wp2_with fail
      refine (rlevel_any c n _).mono ?_
      rw [unhide E0]
      rintro e w1 ⟨rfl, hb⟩
      have hl := below_call hb
      go_wp2
      go_ret
      exact ⟨rfl, hl⟩
    · have e1 : parentD c n = (n - c.r) / c.o := by simp [parentD, e0]
      rw [e1]
      have E0 := hide e0
      clear e0 e1
      have q3 : c.o ≠ 0 := by omega
      unfold cv
      go_enter Try.func22, Try.ntmps22
      go_wp2_with fail
      refine (rlevel_any c n _).mono ?_
      rw [unhide E0]
      rintro e w1 ⟨rfl, hb⟩
      have hl := below_call hb
      have hx := (bx_new c w).next hb
      obtain ⟨a0, a1, a2, a3, a4, a5, a6, a7, a8, a9, a10, a11⟩ := hx.cells
      go_wp2
      go_ret
      exact ⟨rfl, hl⟩
    · have e1 : parentD c n = c.r + (n - (c.r + no c)) / c.s := by simp [parentD, e0]
      rw [e1]
      have E0 := hide e0
      clear e0 e1
      have q0 : IntKind.i64.wrap (n - c.r) = n - c.r := kin (by omega) (by omega)
      have q1 : IntKind.i64.wrap (n - c.r - no c) = n - (c.r + no c) := by rw [kin (by omega) (by omega)]; omega
      have q2 : IntKind.i64.wrap ((n - (c.r + no c)).tdiv c.s) = (n - (c.r + no c)) / c.s := IntWalk.i64_quo _ _ ⟨by omega, by omega, by omega⟩
      have q3 : c.s ≠ 0 := by omega
      have q4 : 0 ≤ (n - (c.r + no c)) / c.s := Int.ediv_nonneg (by omega) (by omega)
      have q5 : (n - (c.r + no c)) / c.s ≤ n - (c.r + no c) := Int.ediv_le_self _ (by omega)
      have q6 : IntKind.i64.wrap (c.r + (n - (c.r + no c)) / c.s) = c.r + (n - (c.r + no c)) / c.s := kin (by omega) (by omega)
      unfold cv
      go_enter Try.func22, Try.ntmps22
      go_wp2_with fail
      refine (rlevel_any c n _).mono ?_
      rw [unhide E0]
      rintro e w1 ⟨rfl, hb⟩
      have hl := below_call hb
      have hx := (bx_new c w).next hb
      obtain ⟨a0, a1, a2, a3, a4, a5, a6, a7, a8, a9, a10, a11⟩ := hx.cells
      go_wp2_with fail
      go_region_held3 (fun wz => wz.cell? ⟨w.heap.size, 0, none⟩ = some (.int .i64 c.r) ∧ wz.cell? ⟨w.heap.size, 1, none⟩ = some (.int .i64 c.o) ∧ wz.cell? ⟨w.heap.size, 2, none⟩ = some (.int .i64 c.s) ∧ wz.cell? ⟨w.heap.size, 3, none⟩ = some (.int .i64 c.d) ∧ wz.cell? ⟨w.heap.size, 4, none⟩ = some (.int .i64 c.t) ∧ wz.cell? ⟨w.heap.size, 5, none⟩ = some (.int .i64 c.l) ∧ wz.cell? ⟨w.heap.size, 6, none⟩ = some (.int .i64 c.g) ∧ wz.cell? ⟨w.heap.size, 7, none⟩ = some (.int .i64 c.k) ∧ wz.cell? ⟨w.heap.size, 8, none⟩ = some (.int .i64 c.u) ∧ wz.cell? ⟨w.heap.size, 9, none⟩ = some (.int .i64 c.e) ∧ wz.cell? ⟨w.heap.size, 10, none⟩ = some (.int .i64 c.i) ∧ wz.cell? ⟨w.heap.size, 11, none⟩ = some (.int .i64 c.p)) (first | exact hx3.cells | exact hx2.cells | exact hx1.cells | exact hx.drew.cells)
        (first
          | (go_at_call 26; refine (robjects_any c _ hp).mono ?_; rintro e wz ⟨rfl, hbz⟩; first | (have hx3 := hx2.next hbz; have hl3 := below_then hl2 hbz) | (have hx2 := hx1.next hbz; have hl2 := below_then hl1 hbz) | (have hx1 := hx.drew.next hbz; have hl1 := below_then hl.drew hbz)))
      all_goals
        go_wp2
        go_ret
        exact ⟨by first | rfl | exact ret_int (by simp only [q0, q1, q2, q6]), hl1⟩

theorem rlatch_any (c : Cf) (n : Int) (w : World) : Calls Try.prog 24 #[cv c, .int .i64 n] w fun e w' => e = .returned (.int .i64 (latchD c n)) ∧ Below w.heap.size w w' := by
  rcases level_ways c n with ⟨e0, h⟩ | ⟨h0, hn, hk, h⟩
  · have e1 : latchD c n = -1 := by simp [latchD, e0]
    rw [e1]
    have E0 := hide e0
    clear e0 e1
    unfold cv
    go_enter Try.func24, Try.ntmps24
    go_wp2_with fail
    refine (rlevel_any c n _).mono ?_
    rw [unhide E0]
    rintro e w1 ⟨rfl, hb⟩
    have hl := below_call hb
    go_wp2
    go_ret
    exact ⟨rfl, hl⟩
  · have hp := okB_hp hk
    have h1 := hp.r1
    have h2 := hp.r8
    have g1 := hp.o1
    have g2 := hp.o8
    have g3 := hp.s1
    have g4 := hp.s8
    obtain ⟨h3, h4⟩ := no_in hp
    obtain ⟨h5, h6⟩ := ns_in hp
    obtain ⟨h7, h8⟩ := nw_in hp
    rw [nodes_ok hk] at hn
    have H := hide hk
    clear hk
    rcases h with ⟨e0, h⟩ | ⟨e0, h, h'⟩ | ⟨e0, h, h'⟩
    · have e1 : latchD c n = -1 := by simp [latchD, e0]
      rw [e1]
      have E0 := hide e0
      clear e0 e1
      unfold cv
      go_enter Try.func24, Try.ntmps24
      go_wp2_with fail
      refine (rlevel_any c n _).mono ?_
      rw [unhide E0]
      rintro e w1 ⟨rfl, hb⟩
      have hl := below_call hb
      go_wp2
      go_ret
      exact ⟨rfl, hl⟩
    · have e1 : latchD c n = -1 := by simp [latchD, e0]
      rw [e1]
      have E0 := hide e0
      clear e0 e1
      unfold cv
      go_enter Try.func24, Try.ntmps24
      go_wp2_with fail
      refine (rlevel_any c n _).mono ?_
      rw [unhide E0]
      rintro e w1 ⟨rfl, hb⟩
      have hl := below_call hb
      go_wp2
      go_ret
      exact ⟨rfl, hl⟩
    · have e1 : latchD c n = nw c + (n - (c.r + no c)) * 8 := by simp [latchD, e0]
      rw [e1]
      have E0 := hide e0
      clear e0 e1
      unfold cv
      go_enter Try.func24, Try.ntmps24
      go_wp2_with fail
      refine (rlevel_any c n _).mono ?_
      rw [unhide E0]
      rintro e w1 ⟨rfl, hb⟩
      have hl := below_call hb
      have hx := (bx_new c w).next hb
      obtain ⟨a0, a1, a2, a3, a4, a5, a6, a7, a8, a9, a10, a11⟩ := hx.cells
      go_wp2_with fail
      go_region_held3 (fun wz => wz.cell? ⟨w.heap.size, 0, none⟩ = some (.int .i64 c.r) ∧ wz.cell? ⟨w.heap.size, 1, none⟩ = some (.int .i64 c.o) ∧ wz.cell? ⟨w.heap.size, 2, none⟩ = some (.int .i64 c.s) ∧ wz.cell? ⟨w.heap.size, 3, none⟩ = some (.int .i64 c.d) ∧ wz.cell? ⟨w.heap.size, 4, none⟩ = some (.int .i64 c.t) ∧ wz.cell? ⟨w.heap.size, 5, none⟩ = some (.int .i64 c.l) ∧ wz.cell? ⟨w.heap.size, 6, none⟩ = some (.int .i64 c.g) ∧ wz.cell? ⟨w.heap.size, 7, none⟩ = some (.int .i64 c.k) ∧ wz.cell? ⟨w.heap.size, 8, none⟩ = some (.int .i64 c.u) ∧ wz.cell? ⟨w.heap.size, 9, none⟩ = some (.int .i64 c.e) ∧ wz.cell? ⟨w.heap.size, 10, none⟩ = some (.int .i64 c.i) ∧ wz.cell? ⟨w.heap.size, 11, none⟩ = some (.int .i64 c.p)) (first | exact hx3.cells | exact hx2.cells | exact hx1.cells | exact hx.drew.cells)
        (first
          | (go_at_call 14; refine (rwords_ok c _ (unhide H)).mono ?_; rintro e wz ⟨rfl, hbz⟩; first | (have hx3 := hx2.next hbz; have hl3 := below_then hl2 hbz) | (have hx2 := hx1.next hbz; have hl2 := below_then hl1 hbz) | (have hx1 := hx.drew.next hbz; have hl1 := below_then hl.drew hbz))
            | (go_at_call 26; refine (robjects_any c _ hp).mono ?_; rintro e wz ⟨rfl, hbz⟩; first | (have hx3 := hx2.next hbz; have hl3 := below_then hl2 hbz) | (have hx2 := hx1.next hbz; have hl2 := below_then hl1 hbz) | (have hx1 := hx.drew.next hbz; have hl1 := below_then hl.drew hbz)))
      all_goals
        go_wp2
        go_ret
        exact ⟨ret_int (by simp only [IntKind.wrap_i64]; omega), hl2⟩

theorem rpath_no (c : Cf) (a : Int) (w : World) (h : ¬ (0 ≤ a ∧ a < wordsD c)) : Calls Try.prog 10 #[cv c, .int .i64 a] w fun e w' => e = .returned (.tuple #[.int .i64 (0), .int .i64 (0), .int .i64 (0), .int .i64 (1)]) ∧ Below w.heap.size w w' := by
  by_cases h0 : a < 0
  · unfold cv
    go_enter Try.func10, Try.ntmps10
    go_wp2
    exact bodyPost_ret (v := .tuple #[.int .i64 (0), .int .i64 (0), .int .i64 (0), .int .i64 (1)]) (by simp [results, Try.results10, go_sem]) rfl ⟨rfl, below_new _ _⟩
  · have h1 : wordsD c ≤ a := by omega
    clear h
    unfold cv
    go_enter Try.func10, Try.ntmps10
    go_wp2_with fail
    refine (rwords_any c _).mono ?_
    rintro e w1 ⟨rfl, hb⟩
    have hl := below_call hb
    have hx := (bx_new c w).next hb
    go_wp2
    exact bodyPost_ret (v := .tuple #[.int .i64 (0), .int .i64 (0), .int .i64 (0), .int .i64 (1)]) (by simp [results, Try.results10, go_sem]) rfl ⟨rfl, hl⟩

theorem rpath_ok (c : Cf) (a : Int) (w : World) (h : okB c = true) (h0 : 0 ≤ a) (h1 : a < nw c) : Calls Try.prog 10 #[cv c, .int .i64 a] w fun e w' => e = .returned (.tuple #[.int .i64 (rD c a), .int .i64 (c.r + oD c a), .int .i64 (c.r + no c + sD c a), .int .i64 (0)]) ∧ Below w.heap.size w w' := by
  have hp := okB_hp h
  obtain ⟨s0, s1⟩ := s_in hp h0 h1
  obtain ⟨o0, o1⟩ := o_in hp h0 h1
  obtain ⟨r0, r1⟩ := r_in hp h0 h1
  have h1 := hp.r1
  have h2 := hp.r8
  have g1 := hp.o1
  have g2 := hp.o8
  have g3 := hp.s1
  have g4 := hp.s8
  obtain ⟨h3, h4⟩ := no_in hp
  obtain ⟨h5, h6⟩ := ns_in hp
  obtain ⟨h7, h8⟩ := nw_in hp
  have d1 := hp.d1
  have H := hide h
  clear h
  have y2 : a / c.d = sD c a := rfl
  have y3 : sD c a / c.s = oD c a := rfl
  have q2 : IntKind.i64.wrap (a.tdiv c.d) = sD c a := IntWalk.i64_quo _ _ ⟨by omega, by omega, by omega⟩
  have q3 : c.d ≠ 0 := by omega
  have z2 : IntKind.i64.wrap ((sD c a).tdiv c.s) = oD c a := IntWalk.i64_quo _ _ ⟨by omega, by omega, by omega⟩
  have z3 : c.s ≠ 0 := by omega
  have x2 : IntKind.i64.wrap ((oD c a).tdiv c.o) = rD c a := IntWalk.i64_quo _ _ ⟨by omega, by omega, by omega⟩
  have x3 : c.o ≠ 0 := by omega
  have q4 : IntKind.i64.wrap (c.r + oD c a) = c.r + oD c a := kin (by omega) (by omega)
  have q5 : IntKind.i64.wrap (c.r + no c) = c.r + no c := kin (by omega) (by omega)
  have q6 : IntKind.i64.wrap (c.r + no c + sD c a) = c.r + no c + sD c a := kin (by omega) (by omega)
  unfold cv
  go_enter Try.func10, Try.ntmps10
  go_wp2_with fail
  refine (rwords_ok c _ (unhide H)).mono ?_
  rintro e w1 ⟨rfl, hb⟩
  have hl := below_call hb
  have hx := (bx_new c w).next hb
  obtain ⟨a0, a1, a2, a3, a4, a5, a6, a7, a8, a9, a10, a11⟩ := hx.cells
  go_wp2_with fail
  go_region_held3 (fun wz => wz.cell? ⟨w.heap.size, 0, none⟩ = some (.int .i64 c.r) ∧ wz.cell? ⟨w.heap.size, 1, none⟩ = some (.int .i64 c.o) ∧ wz.cell? ⟨w.heap.size, 2, none⟩ = some (.int .i64 c.s) ∧ wz.cell? ⟨w.heap.size, 3, none⟩ = some (.int .i64 c.d) ∧ wz.cell? ⟨w.heap.size, 4, none⟩ = some (.int .i64 c.t) ∧ wz.cell? ⟨w.heap.size, 5, none⟩ = some (.int .i64 c.l) ∧ wz.cell? ⟨w.heap.size, 6, none⟩ = some (.int .i64 c.g) ∧ wz.cell? ⟨w.heap.size, 7, none⟩ = some (.int .i64 c.k) ∧ wz.cell? ⟨w.heap.size, 8, none⟩ = some (.int .i64 c.u) ∧ wz.cell? ⟨w.heap.size, 9, none⟩ = some (.int .i64 c.e) ∧ wz.cell? ⟨w.heap.size, 10, none⟩ = some (.int .i64 c.i) ∧ wz.cell? ⟨w.heap.size, 11, none⟩ = some (.int .i64 c.p)) (first | exact hx3.cells | exact hx2.cells | exact hx1.cells | exact hx.drew.cells)
    (first
      | (go_at_call 26; refine (robjects_any c _ hp).mono ?_; rintro e wz ⟨rfl, hbz⟩; first | (have hx3 := hx2.next hbz; have hl3 := below_then hl2 hbz) | (have hx2 := hx1.next hbz; have hl2 := below_then hl1 hbz) | (have hx1 := hx.drew.next hbz; have hl1 := below_then hl.drew hbz)))
  go_wp2
  exact bodyPost_ret (v := .tuple #[.int .i64 (rD c a), .int .i64 (c.r + oD c a), .int .i64 (c.r + no c + sD c a), .int .i64 (0)]) (by simp [results, Try.results10, go_sem]) rfl ⟨rfl, hl1⟩

end Go.Proofs.Ytkoaedhbjdbjdaa
