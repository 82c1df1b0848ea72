/- Texts of this claim, put together in their order. -/
import Derived.Deep.RegionHeld3
import Derived.Test.YtgiklggnolbiiaaGreatBase1
import Derived.Test.YtgiklggnolbiiaaGreatBase2
import Derived.Test.YtgiklggnolbiiaaGreatBase3
import Derived.Test.YtgiklggnolbiiaaGreatBase4
import Derived.Test.YtgiklggnolbiiaaGreatBase5
import Derived.Test.YtgiklggnolbiiaaGreatBase6
import Derived.Test.YtgiklggnolbiiaaGreatBase7
import Derived.Test.YtgiklggnolbiiaaGreatBase8
import Derived.Test.YtgiklggnolbiiaaGreatBase9
import Derived.Test.YtgiklggnolbiiaaGreatBase10
import Derived.Test.YtgiklggnolbiiaaGreatBase11
import Derived.Test.YtgiklggnolbiiaaGreatBase12
import Derived.Test.YtgiklggnolbiiaaGreatBase13
import Derived.Test.YtgiklggnolbiiaaGreatBase14
import Derived.Test.YtgiklggnolbiiaaGreatBase15
import Derived.Test.YtgiklggnolbiiaaGreatBase16
import Derived.Test.YtgiklggnolbiiaaGreatBase17
import Derived.Test.YtgiklggnolbiiaaGreatOfPathtells18
import Derived.Test.YtgiklggnolbiiaaGreatOfPathtells19
import Derived.Test.YtgiklggnolbiiaaGreatOfPathtells20
import Derived.Test.YtgiklggnolbiiaaGreatOfPathtells21
/- The reference's Next, true. -/
namespace Go.Proofs.YtgiklggnolbiiaaGreat
open Go.RowKit
set_option linter.unusedSimpArgs false
set_option linter.unusedVariables false
variable {B n : Nat} {most : Int} {T : Nat → Lv} {b rb c2 : Nat} {lb : Nat → Nat} {hv qv : Nat → Value}
set_option maxRecDepth 100000 in
set_option maxHeartbeats 8000000 in
theorem rnext_true (c : Cf) (w : World) (h : Rt B n most T b rb c2 lb hv qv w) (hf : Few n 1000 T) (hn : n ≤ 10000) (hm : (n : Int) = max (nodesD c) 1) (who a : Int) (hok : okB c = true) (h0 : 0 ≤ a) (h1 : a < nw c) {x : (Int × Int) × Bool} (hx : nextD c n T who a true = x) :
    Calls Tryz.prog 31 #[cv c, .pointer (some ⟨b, 0, none⟩), .int .i64 who, .int .i64 a, .bool true] w fun e w' => e = .returned (nxV x 0) ∧ Below w.heap.size w w' := by
  obtain ⟨r, hr⟩ : ∃ r, r = rD c a := ⟨_, rfl⟩
  obtain ⟨o, ho⟩ : ∃ o, o = c.r + oD c a := ⟨_, rfl⟩
  obtain ⟨s, hs⟩ : ∃ s, s = c.r + no c + sD c a := ⟨_, rfl⟩
  unfold nextD escB at hx
  rw [← hr, ← ho, ← hs] at hx
  obtain ⟨vr, hvr⟩ : ∃ v, v = holdT n T who r := ⟨_, rfl⟩
  obtain ⟨vo, hvo⟩ : ∃ v, v = holdT n T who o := ⟨_, rfl⟩
  obtain ⟨vs, hvs⟩ : ∃ v, v = holdT n T who s := ⟨_, rfl⟩
  obtain ⟨m, hst⟩ : ∃ m, m = strD c n T who o := ⟨_, rfl⟩
  rw [← hvr, ← hvo, ← hvs, ← hst] at hx
  have HX := hide hx
  have P := hide (fun w0 : World => rpath_ok c a w0 hok h0 h1)
  rw [← hr, ← ho, ← hs] at P
  obtain ⟨N, hN⟩ : ∃ N, N = w.heap.size := ⟨_, rfl⟩
  obtain ⟨w1, hw1⟩ : ∃ w1, w1 = (w.alloc (.cells #[.int .i64 c.r, .int .i64 c.o, .int .i64 c.s, .int .i64 c.d, .int .i64 c.t, .int .i64 c.l, .int .i64 c.g, .int .i64 c.k, .int .i64 c.u, .int .i64 c.e, .int .i64 c.i, .int .i64 c.p] 68)).alloc (.cells #[.int .i64 0, .int .i64 0] 39) := ⟨_, rfl⟩
  have X1 : Nxr c N (N + 1) B n most T b rb c2 lb hv qv w w1 := by
    have b0 := below_new w (.cells #[.int .i64 c.r, .int .i64 c.o, .int .i64 c.s, .int .i64 c.d, .int .i64 c.t, .int .i64 c.l, .int .i64 c.g, .int .i64 c.k, .int .i64 c.u, .int .i64 c.e, .int .i64 c.i, .int .i64 c.p] 68)
    have b1 := below_new (w.alloc (.cells #[.int .i64 c.r, .int .i64 c.o, .int .i64 c.s, .int .i64 c.d, .int .i64 c.t, .int .i64 c.l, .int .i64 c.g, .int .i64 c.k, .int .i64 c.u, .int .i64 c.e, .int .i64 c.i, .int .i64 c.p] 68)) (.cells #[.int .i64 0, .int .i64 0] 39)
    rw [hw1, hN]
    refine ⟨(bx_new c w).next b1, ?_, (h.next b0).next b1, below_then b0 b1⟩
    have := heap_alloc_new (w.alloc (.cells #[.int .i64 c.r, .int .i64 c.o, .int .i64 c.s, .int .i64 c.d, .int .i64 c.t, .int .i64 c.l, .int .i64 c.g, .int .i64 c.k, .int .i64 c.u, .int .i64 c.e, .int .i64 c.i, .int .i64 c.p] 68)) (.cells #[.int .i64 0, .int .i64 0] 39)
    rw [World.size_alloc] at this
    exact this
  obtain ⟨a0, a1, a2, a3, a4, a5, a6, a7, a8, a9, a10, a11⟩ := X1.bx.cells
  have hNw : Hid (w.heap.size ≤ N + 1) := by show _ ≤ _; omega
  replace X1 := hide X1
  replace hst := hide hst
  replace hvr := hide hvr
  replace hvo := hide hvo
  replace hvs := hide hvs
  replace hm := hide hm
  clear h hr ho hs hok h0 h1 hx
  unfold cv
  go_enter Tryz.func31, Tryz.ntmps31
  go_wp2_with fail
  rw [← hN, ← hw1]
  replace hw1 := hide hw1
  replace hN := hide hN
  refine (unhide P w1).mono ?_
  rintro e w2 ⟨rfl, b2⟩
  have X2 := hide ((unhide X1).next b2)
  clear a0 a1 a2 a3 a4 a5 a6 a7 a8 a9 a10 a11 b2
  go_wp2_with fail
  refine (rint5 _).mono ?_
  rintro e w3 ⟨rfl, rfl⟩
  clear X1 P
  go_wp2_with fail
  refine (rhold_at _ (unhide X2).rt hf who r (unhide hvr).symm).mono ?_
  rintro e w3q ⟨rfl, hwq⟩
  subst hwq
  cases k1 : coversB vr 2
  · have K1 := hide k1
    clear k1
    go_wp2_with fail
    refine (rcov_at vr 2 w3q (unhide K1)).mono ?_
    rintro e w3q' ⟨rfl, bb⟩
    have X4 := hide ((unhide X2).next bb)
    clear bb
    obtain rfl : x = ((r, 2), true) := by rw [← unhide HX]; simp [nextK, wholeB, wantD, inD, unhide K1]
    obtain ⟨y0, y1, y2, y3⟩ := lock_cells (unhide X4).pl
    have BE := hide (set2_below (unhide X4).bel (unhide hNw) (.int .i64 r) (.int .i64 2))
    go_wp2
    refine bodyPost_ret (v := nxV ((r, 2), true) 0) ?_ rfl ⟨rfl, unhide BE⟩
    rw [results_cell_two rfl]
    unfold nxV
    go_simp
  have K1 := hide k1
  clear k1
  go_wp2_with fail
  refine (rcov_at vr 2 w3q (unhide K1)).mono ?_
  rintro e w3q' ⟨rfl, bb⟩
  have X4 := hide ((unhide X2).next bb)
  clear bb
  go_wp2_with fail
  refine (rhold_at _ (unhide X4).rt hf who o (unhide hvo).symm).mono ?_
  rintro e w4q ⟨rfl, hwq⟩
  subst hwq
  cases k2 : writesB vo
  · have K2 := hide k2
    clear k2
    go_wp2_with fail
    refine (rwrites_at vo _ (unhide K2)).mono ?_
    rintro e w6 ⟨rfl, hw6⟩
    subst hw6
    go_wp2_with fail
    refine (rhold_at _ (unhide X4).rt hf who s (unhide hvs).symm).mono ?_
    rintro e w6q ⟨rfl, hwq⟩
    subst hwq
    cases k3 : coversB vs 5
    · have K3 := hide k3
      clear k3
      go_wp2_with fail
      refine (rcov_at vs 5 w6q (unhide K3)).mono ?_
      rintro e w6q' ⟨rfl, bb⟩
      have X6 := hide ((unhide X4).next bb)
      clear bb
      obtain ⟨w6', hw6'⟩ : ∃ w6', w6' = w6q' := ⟨_, rfl⟩
      subst hw6'
      by_cases he : 0 < c.e
      · have hd : decide (0 < c.e) = true := decide_eq_true he
        have S := rstripes_t c w6'.drew ((unhide X6).rt.next (drew_bel w6')) hf hn who o (cnt_str c who o (unhide hm))
        rw [← unhide hst] at S
        unfold cv at S
        replace S := hide S
        have hx6 := (unhide X6).bx
        cases hq : decide (c.e ≤ (m : Int))
        · have hge : decide ((m : Int) ≥ c.e) = _ := hq
          go_wp2_with fail
          refine wp_region_held_drew (S := fun wz => wz.cell? ⟨N, 0, none⟩ = some (.int .i64 c.r) ∧ wz.cell? ⟨N, 1, none⟩ = some (.int .i64 c.o) ∧ wz.cell? ⟨N, 2, none⟩ = some (.int .i64 c.s) ∧ wz.cell? ⟨N, 3, none⟩ = some (.int .i64 c.d) ∧ wz.cell? ⟨N, 4, none⟩ = some (.int .i64 c.t) ∧ wz.cell? ⟨N, 5, none⟩ = some (.int .i64 c.l) ∧ wz.cell? ⟨N, 6, none⟩ = some (.int .i64 c.g) ∧ wz.cell? ⟨N, 7, none⟩ = some (.int .i64 c.k) ∧ wz.cell? ⟨N, 8, none⟩ = some (.int .i64 c.u) ∧ wz.cell? ⟨N, 9, none⟩ = some (.int .i64 c.e) ∧ wz.cell? ⟨N, 10, none⟩ = some (.int .i64 c.i) ∧ wz.cell? ⟨N, 11, none⟩ = some (.int .i64 c.p)) (by kernel_rfl) ?hS9 (fun hHeld => ?_)
          case hS9 => exact hx6.drew.cells
          refine wpAnyH_take (i := 0) (v := ?_) rfl (by kernel_rfl) (by kernel_rfl) (by kernel_rfl) (fun _ _ _ h => h) (Or.inl ⟨by rfl, ?_⟩) (by assumption) ?_
          rotate_left
          · (intro w hSw; (try dsimp only at hSw); go_simp; first | done | with_reducible rfl)
          try simp only [Act.put, List.setIfInBounds_toArray, List.set_cons_zero, List.set_cons_succ, List.getElem_toArray, List.getElem_cons_succ, List.getElem_cons_zero]
          refine wpAnyH_take (i := 1) (v := ?_) rfl (by kernel_rfl) (by kernel_rfl) (by kernel_rfl) (fun _ _ _ h => h) (Or.inl ⟨by rfl, ?_⟩) (by assumption) ?_
          rotate_left
          · (intro w hSw; (try dsimp only at hSw); go_simp; first | done | with_reducible rfl)
          try simp only [Act.put, List.setIfInBounds_toArray, List.set_cons_zero, List.set_cons_succ, List.getElem_toArray, List.getElem_cons_succ, List.getElem_cons_zero]
          refine wpAnyH_take (i := 2) (v := ?_) rfl (by kernel_rfl) (by kernel_rfl) (by kernel_rfl) (fun _ _ _ h => h) (Or.inl ⟨by rfl, ?_⟩) (by assumption) ?_
          rotate_left
          · (intro w hSw; (try dsimp only at hSw); go_simp; first | done | with_reducible rfl)
          try simp only [Act.put, List.setIfInBounds_toArray, List.set_cons_zero, List.set_cons_succ, List.getElem_toArray, List.getElem_cons_succ, List.getElem_cons_zero]
          refine wpAnyH_take (i := 3) (v := ?_) rfl (by kernel_rfl) (by kernel_rfl) (by kernel_rfl) (fun _ _ _ h => h) (Or.inl ⟨by rfl, ?_⟩) (by assumption) ?_
          rotate_left
          · (intro w hSw; (try dsimp only at hSw); go_simp; first | done | with_reducible rfl)
          try simp only [Act.put, List.setIfInBounds_toArray, List.set_cons_zero, List.set_cons_succ, List.getElem_toArray, List.getElem_cons_succ, List.getElem_cons_zero]
          refine wpAnyH_take (i := 4) (v := ?_) rfl (by kernel_rfl) (by kernel_rfl) (by kernel_rfl) (fun _ _ _ h => h) (Or.inl ⟨by rfl, ?_⟩) (by assumption) ?_
          rotate_left
          · (intro w hSw; (try dsimp only at hSw); go_simp; first | done | with_reducible rfl)
          try simp only [Act.put, List.setIfInBounds_toArray, List.set_cons_zero, List.set_cons_succ, List.getElem_toArray, List.getElem_cons_succ, List.getElem_cons_zero]
          refine wpAnyH_take (i := 5) (v := ?_) rfl (by kernel_rfl) (by kernel_rfl) (by kernel_rfl) (fun _ _ _ h => h) (Or.inl ⟨by rfl, ?_⟩) (by assumption) ?_
          rotate_left
          · (intro w hSw; (try dsimp only at hSw); go_simp; first | done | with_reducible rfl)
          try simp only [Act.put, List.setIfInBounds_toArray, List.set_cons_zero, List.set_cons_succ, List.getElem_toArray, List.getElem_cons_succ, List.getElem_cons_zero]
          refine wpAnyH_take (i := 6) (v := ?_) rfl (by kernel_rfl) (by kernel_rfl) (by kernel_rfl) (fun _ _ _ h => h) (Or.inl ⟨by rfl, ?_⟩) (by assumption) ?_
          rotate_left
          · (intro w hSw; (try dsimp only at hSw); go_simp; first | done | with_reducible rfl)
          try simp only [Act.put, List.setIfInBounds_toArray, List.set_cons_zero, List.set_cons_succ, List.getElem_toArray, List.getElem_cons_succ, List.getElem_cons_zero]
          refine wpAnyH_take (i := 7) (v := ?_) rfl (by kernel_rfl) (by kernel_rfl) (by kernel_rfl) (fun _ _ _ h => h) (Or.inl ⟨by rfl, ?_⟩) (by assumption) ?_
          rotate_left
          · (intro w hSw; (try dsimp only at hSw); go_simp; first | done | with_reducible rfl)
          try simp only [Act.put, List.setIfInBounds_toArray, List.set_cons_zero, List.set_cons_succ, List.getElem_toArray, List.getElem_cons_succ, List.getElem_cons_zero]
          refine wpAnyH_take (i := 9) (v := ?_) rfl (by kernel_rfl) (by kernel_rfl) (by kernel_rfl) (fun _ _ _ h => h) (Or.inl ⟨by rfl, ?_⟩) (by assumption) ?_
          rotate_left
          · (intro w hSw; (try dsimp only at hSw); go_simp; first | done | with_reducible rfl)
          try simp only [Act.put, List.setIfInBounds_toArray, List.set_cons_zero, List.set_cons_succ, List.getElem_toArray, List.getElem_cons_succ, List.getElem_cons_zero]
          refine wpAnyH_take (i := 10) (v := ?_) rfl (by kernel_rfl) (by kernel_rfl) (by kernel_rfl) (fun _ _ _ h => h) (Or.inl ⟨by rfl, ?_⟩) (by assumption) ?_
          rotate_left
          · (intro w hSw; (try dsimp only at hSw); go_simp; first | done | with_reducible rfl)
          try simp only [Act.put, List.setIfInBounds_toArray, List.set_cons_zero, List.set_cons_succ, List.getElem_toArray, List.getElem_cons_succ, List.getElem_cons_zero]
          refine wpAnyH_ready (rs := [8]) (by kernel_rfl) (by simp) ?_
          refine AllReadyH.cons rfl (fun K hK => ?_) AllReadyH.nil
          have C := unhide S
          go_simp
          go_wp2_with (go_at_call 33; (with_reducible refine Calls.mono C ?_); rintro e w7 ⟨rfl, hb⟩; clear C; have hx1 := hx6.drew.next hb; have hbb := bt (drew_bel w6') hb (Nat.le_refl _))
          refine hK.out _ _ (hx1.cells) (fun hHeld => ?_)
          clear hK K
          try simp only [Act.put, List.setIfInBounds_toArray, List.set_cons_zero, List.set_cons_succ, List.getElem_toArray, List.getElem_cons_succ, List.getElem_cons_zero]
          refine wpAnyH_take (i := 11) (v := ?_) rfl (by kernel_rfl) (by kernel_rfl) (by kernel_rfl) (fun _ _ _ h => h) (Or.inl ⟨by rfl, ?_⟩) (by assumption) ?_
          rotate_left
          · (intro w hSw; (try dsimp only at hSw); go_simp; first | done | with_reducible rfl)
          try simp only [Act.put, List.setIfInBounds_toArray, List.set_cons_zero, List.set_cons_succ, List.getElem_toArray, List.getElem_cons_succ, List.getElem_cons_zero]
          refine wpAnyH_take (i := 12) (v := ?_) rfl (by kernel_rfl) (by kernel_rfl) (by kernel_rfl) (fun _ _ _ h => h) (Or.inl ⟨by rfl, ?_⟩) (by assumption) ?_
          rotate_left
          · (intro w hSw; (try dsimp only at hSw); go_simp; first | done | with_reducible rfl)
          try simp only [Act.put, List.setIfInBounds_toArray, List.set_cons_zero, List.set_cons_succ, List.getElem_toArray, List.getElem_cons_succ, List.getElem_cons_zero]
          refine wpAnyH_take (i := 13) (v := ?_) rfl (by kernel_rfl) (by kernel_rfl) (by kernel_rfl) (fun _ _ _ h => h) (Or.inl ⟨by rfl, ?_⟩) (by assumption) ?_
          rotate_left
          · (intro w hSw; (try dsimp only at hSw); go_simp; first | done | with_reducible rfl)
          try simp only [Act.put, List.setIfInBounds_toArray, List.set_cons_zero, List.set_cons_succ, List.getElem_toArray, List.getElem_cons_succ, List.getElem_cons_zero]
          refine wpAnyH_take (i := 14) (v := undef) rfl (by kernel_rfl) (by kernel_rfl) (by kernel_rfl) (fun _ _ _ h => h) (Or.inr ⟨by rfl, rfl⟩) (by assumption) ?_
          try simp only [Act.put, List.setIfInBounds_toArray, List.set_cons_zero, List.set_cons_succ, List.getElem_toArray, List.getElem_cons_succ, List.getElem_cons_zero]
          refine wpAnyH_take (i := 15) (v := undef) rfl (by kernel_rfl) (by kernel_rfl) (by kernel_rfl) (fun _ _ _ h => h) (Or.inr ⟨by rfl, rfl⟩) (by assumption) ?_
          try simp only [Act.put, List.setIfInBounds_toArray, List.set_cons_zero, List.set_cons_succ, List.getElem_toArray, List.getElem_cons_succ, List.getElem_cons_zero]
          refine wpAnyH_take (i := 16) (v := ?_) rfl (by kernel_rfl) (by kernel_rfl) (by kernel_rfl) (fun _ _ _ h => h) (Or.inl ⟨by rfl, ?_⟩) (by assumption) ?_
          rotate_left
          · (intro w hSw; (try dsimp only at hSw); go_simp; first | done | with_reducible rfl)
          try simp only [Act.put, List.setIfInBounds_toArray, List.set_cons_zero, List.set_cons_succ, List.getElem_toArray, List.getElem_cons_succ, List.getElem_cons_zero]
          refine wpAnyH_done (by kernel_rfl) ?_ _
          have X7 := hide ((unhide X6).next hbb)
          have HD := hide (And.intro hd hq)
          clear hHeld hx6 hbb hd hq he hge S hx1
          cases k5 : coversB vo 2
          · have K5 := hide k5
            clear k5
            go_wp2_with fail
            refine (rcov_at vo 2 w7 (unhide K5)).mono ?_
            rintro e w7' ⟨rfl, bb⟩
            have X8 := hide ((unhide X7).next bb)
            clear bb
            obtain rfl : x = ((o, 2), true) := by rw [← unhide HX]; simp [nextK, wholeB, wantD, inD, unhide K1, unhide K2, unhide K3, (unhide HD).1, (unhide HD).2, unhide K5]
            obtain ⟨y0, y1, y2, y3⟩ := lock_cells (unhide X8).pl
            have BE := hide (set2_below (unhide X8).bel (unhide hNw) (.int .i64 o) (.int .i64 2))
            go_wp2
            refine bodyPost_ret (v := nxV ((o, 2), true) 0) ?_ rfl ⟨rfl, unhide BE⟩
            rw [results_cell_two rfl]
            unfold nxV
            go_simp
          · have K5 := hide k5
            clear k5
            go_wp2_with fail
            refine (rcov_at vo 2 w7 (unhide K5)).mono ?_
            rintro e w7' ⟨rfl, bb⟩
            have X8 := hide ((unhide X7).next bb)
            clear bb
            obtain rfl : x = ((s, 5), true) := by rw [← unhide HX]; simp [nextK, wholeB, wantD, inD, unhide K1, unhide K2, unhide K3, (unhide HD).1, (unhide HD).2, unhide K5]
            obtain ⟨y0, y1, y2, y3⟩ := lock_cells (unhide X8).pl
            have BE := hide (set2_below (unhide X8).bel (unhide hNw) (.int .i64 s) (.int .i64 5))
            go_wp2
            refine bodyPost_ret (v := nxV ((s, 5), true) 0) ?_ rfl ⟨rfl, unhide BE⟩
            rw [results_cell_two rfl]
            unfold nxV
            go_simp
        · have hge : decide ((m : Int) ≥ c.e) = _ := hq
          go_wp2_with fail
          refine wp_region_held_drew (S := fun wz => wz.cell? ⟨N, 0, none⟩ = some (.int .i64 c.r) ∧ wz.cell? ⟨N, 1, none⟩ = some (.int .i64 c.o) ∧ wz.cell? ⟨N, 2, none⟩ = some (.int .i64 c.s) ∧ wz.cell? ⟨N, 3, none⟩ = some (.int .i64 c.d) ∧ wz.cell? ⟨N, 4, none⟩ = some (.int .i64 c.t) ∧ wz.cell? ⟨N, 5, none⟩ = some (.int .i64 c.l) ∧ wz.cell? ⟨N, 6, none⟩ = some (.int .i64 c.g) ∧ wz.cell? ⟨N, 7, none⟩ = some (.int .i64 c.k) ∧ wz.cell? ⟨N, 8, none⟩ = some (.int .i64 c.u) ∧ wz.cell? ⟨N, 9, none⟩ = some (.int .i64 c.e) ∧ wz.cell? ⟨N, 10, none⟩ = some (.int .i64 c.i) ∧ wz.cell? ⟨N, 11, none⟩ = some (.int .i64 c.p)) (by kernel_rfl) ?hS9 (fun hHeld => ?_)
          case hS9 => exact hx6.drew.cells
          refine wpAnyH_take (i := 0) (v := ?_) rfl (by kernel_rfl) (by kernel_rfl) (by kernel_rfl) (fun _ _ _ h => h) (Or.inl ⟨by rfl, ?_⟩) (by assumption) ?_
          rotate_left
          · (intro w hSw; (try dsimp only at hSw); go_simp; first | done | with_reducible rfl)
          try simp only [Act.put, List.setIfInBounds_toArray, List.set_cons_zero, List.set_cons_succ, List.getElem_toArray, List.getElem_cons_succ, List.getElem_cons_zero]
          refine wpAnyH_take (i := 1) (v := ?_) rfl (by kernel_rfl) (by kernel_rfl) (by kernel_rfl) (fun _ _ _ h => h) (Or.inl ⟨by rfl, ?_⟩) (by assumption) ?_
          rotate_left
          · (intro w hSw; (try dsimp only at hSw); go_simp; first | done | with_reducible rfl)
          try simp only [Act.put, List.setIfInBounds_toArray, List.set_cons_zero, List.set_cons_succ, List.getElem_toArray, List.getElem_cons_succ, List.getElem_cons_zero]
          refine wpAnyH_take (i := 2) (v := ?_) rfl (by kernel_rfl) (by kernel_rfl) (by kernel_rfl) (fun _ _ _ h => h) (Or.inl ⟨by rfl, ?_⟩) (by assumption) ?_
          rotate_left
          · (intro w hSw; (try dsimp only at hSw); go_simp; first | done | with_reducible rfl)
          try simp only [Act.put, List.setIfInBounds_toArray, List.set_cons_zero, List.set_cons_succ, List.getElem_toArray, List.getElem_cons_succ, List.getElem_cons_zero]
          refine wpAnyH_take (i := 3) (v := ?_) rfl (by kernel_rfl) (by kernel_rfl) (by kernel_rfl) (fun _ _ _ h => h) (Or.inl ⟨by rfl, ?_⟩) (by assumption) ?_
          rotate_left
          · (intro w hSw; (try dsimp only at hSw); go_simp; first | done | with_reducible rfl)
          try simp only [Act.put, List.setIfInBounds_toArray, List.set_cons_zero, List.set_cons_succ, List.getElem_toArray, List.getElem_cons_succ, List.getElem_cons_zero]
          refine wpAnyH_take (i := 4) (v := ?_) rfl (by kernel_rfl) (by kernel_rfl) (by kernel_rfl) (fun _ _ _ h => h) (Or.inl ⟨by rfl, ?_⟩) (by assumption) ?_
          rotate_left
          · (intro w hSw; (try dsimp only at hSw); go_simp; first | done | with_reducible rfl)
          try simp only [Act.put, List.setIfInBounds_toArray, List.set_cons_zero, List.set_cons_succ, List.getElem_toArray, List.getElem_cons_succ, List.getElem_cons_zero]
          refine wpAnyH_take (i := 5) (v := ?_) rfl (by kernel_rfl) (by kernel_rfl) (by kernel_rfl) (fun _ _ _ h => h) (Or.inl ⟨by rfl, ?_⟩) (by assumption) ?_
          rotate_left
          · (intro w hSw; (try dsimp only at hSw); go_simp; first | done | with_reducible rfl)
          try simp only [Act.put, List.setIfInBounds_toArray, List.set_cons_zero, List.set_cons_succ, List.getElem_toArray, List.getElem_cons_succ, List.getElem_cons_zero]
          refine wpAnyH_take (i := 6) (v := ?_) rfl (by kernel_rfl) (by kernel_rfl) (by kernel_rfl) (fun _ _ _ h => h) (Or.inl ⟨by rfl, ?_⟩) (by assumption) ?_
          rotate_left
          · (intro w hSw; (try dsimp only at hSw); go_simp; first | done | with_reducible rfl)
          try simp only [Act.put, List.setIfInBounds_toArray, List.set_cons_zero, List.set_cons_succ, List.getElem_toArray, List.getElem_cons_succ, List.getElem_cons_zero]
          refine wpAnyH_take (i := 7) (v := ?_) rfl (by kernel_rfl) (by kernel_rfl) (by kernel_rfl) (fun _ _ _ h => h) (Or.inl ⟨by rfl, ?_⟩) (by assumption) ?_
          rotate_left
          · (intro w hSw; (try dsimp only at hSw); go_simp; first | done | with_reducible rfl)
          try simp only [Act.put, List.setIfInBounds_toArray, List.set_cons_zero, List.set_cons_succ, List.getElem_toArray, List.getElem_cons_succ, List.getElem_cons_zero]
          refine wpAnyH_take (i := 9) (v := ?_) rfl (by kernel_rfl) (by kernel_rfl) (by kernel_rfl) (fun _ _ _ h => h) (Or.inl ⟨by rfl, ?_⟩) (by assumption) ?_
          rotate_left
          · (intro w hSw; (try dsimp only at hSw); go_simp; first | done | with_reducible rfl)
          try simp only [Act.put, List.setIfInBounds_toArray, List.set_cons_zero, List.set_cons_succ, List.getElem_toArray, List.getElem_cons_succ, List.getElem_cons_zero]
          refine wpAnyH_take (i := 10) (v := ?_) rfl (by kernel_rfl) (by kernel_rfl) (by kernel_rfl) (fun _ _ _ h => h) (Or.inl ⟨by rfl, ?_⟩) (by assumption) ?_
          rotate_left
          · (intro w hSw; (try dsimp only at hSw); go_simp; first | done | with_reducible rfl)
          try simp only [Act.put, List.setIfInBounds_toArray, List.set_cons_zero, List.set_cons_succ, List.getElem_toArray, List.getElem_cons_succ, List.getElem_cons_zero]
          refine wpAnyH_ready (rs := [8]) (by kernel_rfl) (by simp) ?_
          refine AllReadyH.cons rfl (fun K hK => ?_) AllReadyH.nil
          have C := unhide S
          go_simp
          go_wp2_with (go_at_call 33; (with_reducible refine Calls.mono C ?_); rintro e w7 ⟨rfl, hb⟩; clear C; have hx1 := hx6.drew.next hb; have hbb := bt (drew_bel w6') hb (Nat.le_refl _))
          refine hK.out _ _ (hx1.cells) (fun hHeld => ?_)
          clear hK K
          try simp only [Act.put, List.setIfInBounds_toArray, List.set_cons_zero, List.set_cons_succ, List.getElem_toArray, List.getElem_cons_succ, List.getElem_cons_zero]
          refine wpAnyH_take (i := 11) (v := ?_) rfl (by kernel_rfl) (by kernel_rfl) (by kernel_rfl) (fun _ _ _ h => h) (Or.inl ⟨by rfl, ?_⟩) (by assumption) ?_
          rotate_left
          · (intro w hSw; (try dsimp only at hSw); go_simp; first | done | with_reducible rfl)
          try simp only [Act.put, List.setIfInBounds_toArray, List.set_cons_zero, List.set_cons_succ, List.getElem_toArray, List.getElem_cons_succ, List.getElem_cons_zero]
          refine wpAnyH_take (i := 12) (v := ?_) rfl (by kernel_rfl) (by kernel_rfl) (by kernel_rfl) (fun _ _ _ h => h) (Or.inl ⟨by rfl, ?_⟩) (by assumption) ?_
          rotate_left
          · (intro w hSw; (try dsimp only at hSw); go_simp; first | done | with_reducible rfl)
          try simp only [Act.put, List.setIfInBounds_toArray, List.set_cons_zero, List.set_cons_succ, List.getElem_toArray, List.getElem_cons_succ, List.getElem_cons_zero]
          refine wpAnyH_take (i := 13) (v := ?_) rfl (by kernel_rfl) (by kernel_rfl) (by kernel_rfl) (fun _ _ _ h => h) (Or.inl ⟨by rfl, ?_⟩) (by assumption) ?_
          rotate_left
          · (intro w hSw; (try dsimp only at hSw); go_simp; first | done | with_reducible rfl)
          try simp only [Act.put, List.setIfInBounds_toArray, List.set_cons_zero, List.set_cons_succ, List.getElem_toArray, List.getElem_cons_succ, List.getElem_cons_zero]
          refine wpAnyH_take (i := 14) (v := ?_) rfl (by kernel_rfl) (by kernel_rfl) (by kernel_rfl) (fun _ _ _ h => h) (Or.inl ⟨by rfl, ?_⟩) (by assumption) ?_
          rotate_left
          · (intro w hSw; (try dsimp only at hSw); go_simp; first | done | with_reducible rfl)
          try simp only [Act.put, List.setIfInBounds_toArray, List.set_cons_zero, List.set_cons_succ, List.getElem_toArray, List.getElem_cons_succ, List.getElem_cons_zero]
          refine wpAnyH_take (i := 15) (v := ?_) rfl (by kernel_rfl) (by kernel_rfl) (by kernel_rfl) (fun _ _ _ h => h) (Or.inl ⟨by rfl, ?_⟩) (by assumption) ?_
          rotate_left
          · (intro w hSw; (try dsimp only at hSw); go_simp; first | done | with_reducible rfl)
          try simp only [Act.put, List.setIfInBounds_toArray, List.set_cons_zero, List.set_cons_succ, List.getElem_toArray, List.getElem_cons_succ, List.getElem_cons_zero]
          refine wpAnyH_take (i := 16) (v := ?_) rfl (by kernel_rfl) (by kernel_rfl) (by kernel_rfl) (fun _ _ _ h => h) (Or.inl ⟨by rfl, ?_⟩) (by assumption) ?_
          rotate_left
          · (intro w hSw; (try dsimp only at hSw); go_simp; first | done | with_reducible rfl)
          try simp only [Act.put, List.setIfInBounds_toArray, List.set_cons_zero, List.set_cons_succ, List.getElem_toArray, List.getElem_cons_succ, List.getElem_cons_zero]
          refine wpAnyH_done (by kernel_rfl) ?_ _
          have X7 := hide ((unhide X6).next hbb)
          have HD := hide (And.intro hd hq)
          clear hHeld hx6 hbb hd hq he hge S hx1
          obtain rfl : x = ((o, 5), true) := by rw [← unhide HX]; simp [nextK, wholeB, wantD, inD, unhide K1, unhide K2, unhide K3, (unhide HD).1, (unhide HD).2]
          obtain ⟨y0, y1, y2, y3⟩ := lock_cells (unhide X7).pl
          have BE := hide (set2_below (unhide X7).bel (unhide hNw) (.int .i64 o) (.int .i64 5))
          go_wp2
          refine bodyPost_ret (v := nxV ((o, 5), true) 0) ?_ rfl ⟨rfl, unhide BE⟩
          rw [results_cell_two rfl]
          unfold nxV
          go_simp
      · have hd : decide (0 < c.e) = false := decide_eq_false he
        have hg : decide (c.e > 0) = false := hd
        have hx6 := (unhide X6).bx
        go_wp2_with fail
        refine wp_region_held_drew (S := fun wz => wz.cell? ⟨N, 0, none⟩ = some (.int .i64 c.r) ∧ wz.cell? ⟨N, 1, none⟩ = some (.int .i64 c.o) ∧ wz.cell? ⟨N, 2, none⟩ = some (.int .i64 c.s) ∧ wz.cell? ⟨N, 3, none⟩ = some (.int .i64 c.d) ∧ wz.cell? ⟨N, 4, none⟩ = some (.int .i64 c.t) ∧ wz.cell? ⟨N, 5, none⟩ = some (.int .i64 c.l) ∧ wz.cell? ⟨N, 6, none⟩ = some (.int .i64 c.g) ∧ wz.cell? ⟨N, 7, none⟩ = some (.int .i64 c.k) ∧ wz.cell? ⟨N, 8, none⟩ = some (.int .i64 c.u) ∧ wz.cell? ⟨N, 9, none⟩ = some (.int .i64 c.e) ∧ wz.cell? ⟨N, 10, none⟩ = some (.int .i64 c.i) ∧ wz.cell? ⟨N, 11, none⟩ = some (.int .i64 c.p)) (by kernel_rfl) ?hS9 (fun hHeld => ?_)
        case hS9 => exact hx6.drew.cells
        refine wpAnyH_take (i := 0) (v := ?_) rfl (by kernel_rfl) (by kernel_rfl) (by kernel_rfl) (fun _ _ _ h => h) (Or.inl ⟨by rfl, ?_⟩) (by assumption) ?_
        rotate_left
        · (intro w hSw; (try dsimp only at hSw); go_simp; first | done | with_reducible rfl)
        try simp only [Act.put, List.setIfInBounds_toArray, List.set_cons_zero, List.set_cons_succ, List.getElem_toArray, List.getElem_cons_succ, List.getElem_cons_zero]
        refine wpAnyH_take (i := 1) (v := ?_) rfl (by kernel_rfl) (by kernel_rfl) (by kernel_rfl) (fun _ _ _ h => h) (Or.inl ⟨by rfl, ?_⟩) (by assumption) ?_
        rotate_left
        · (intro w hSw; (try dsimp only at hSw); go_simp; first | done | with_reducible rfl)
        try simp only [Act.put, List.setIfInBounds_toArray, List.set_cons_zero, List.set_cons_succ, List.getElem_toArray, List.getElem_cons_succ, List.getElem_cons_zero]
        refine wpAnyH_take (i := 2) (v := ?_) rfl (by kernel_rfl) (by kernel_rfl) (by kernel_rfl) (fun _ _ _ h => h) (Or.inl ⟨by rfl, ?_⟩) (by assumption) ?_
        rotate_left
        · (intro w hSw; (try dsimp only at hSw); go_simp; first | done | with_reducible rfl)
        try simp only [Act.put, List.setIfInBounds_toArray, List.set_cons_zero, List.set_cons_succ, List.getElem_toArray, List.getElem_cons_succ, List.getElem_cons_zero]
        refine wpAnyH_take (i := 3) (v := ?_) rfl (by kernel_rfl) (by kernel_rfl) (by kernel_rfl) (fun _ _ _ h => h) (Or.inl ⟨by rfl, ?_⟩) (by assumption) ?_
        rotate_left
        · (intro w hSw; (try dsimp only at hSw); go_simp; first | done | with_reducible rfl)
        try simp only [Act.put, List.setIfInBounds_toArray, List.set_cons_zero, List.set_cons_succ, List.getElem_toArray, List.getElem_cons_succ, List.getElem_cons_zero]
        refine wpAnyH_take (i := 4) (v := undef) rfl (by kernel_rfl) (by kernel_rfl) (by kernel_rfl) (fun _ _ _ h => h) (Or.inr ⟨by rfl, rfl⟩) (by assumption) ?_
        try simp only [Act.put, List.setIfInBounds_toArray, List.set_cons_zero, List.set_cons_succ, List.getElem_toArray, List.getElem_cons_succ, List.getElem_cons_zero]
        refine wpAnyH_take (i := 5) (v := undef) rfl (by kernel_rfl) (by kernel_rfl) (by kernel_rfl) (fun _ _ _ h => h) (Or.inr ⟨by rfl, rfl⟩) (by assumption) ?_
        try simp only [Act.put, List.setIfInBounds_toArray, List.set_cons_zero, List.set_cons_succ, List.getElem_toArray, List.getElem_cons_succ, List.getElem_cons_zero]
        refine wpAnyH_take (i := 6) (v := undef) rfl (by kernel_rfl) (by kernel_rfl) (by kernel_rfl) (fun _ _ _ h => h) (Or.inr ⟨by rfl, rfl⟩) (by assumption) ?_
        try simp only [Act.put, List.setIfInBounds_toArray, List.set_cons_zero, List.set_cons_succ, List.getElem_toArray, List.getElem_cons_succ, List.getElem_cons_zero]
        refine wpAnyH_take (i := 7) (v := undef) rfl (by kernel_rfl) (by kernel_rfl) (by kernel_rfl) (fun _ _ _ h => h) (Or.inr ⟨by rfl, rfl⟩) (by assumption) ?_
        try simp only [Act.put, List.setIfInBounds_toArray, List.set_cons_zero, List.set_cons_succ, List.getElem_toArray, List.getElem_cons_succ, List.getElem_cons_zero]
        refine wpAnyH_take (i := 8) (v := undef) rfl (by kernel_rfl) (by kernel_rfl) (by kernel_rfl) (fun _ _ _ h => h) (Or.inr ⟨by rfl, rfl⟩) (by assumption) ?_
        try simp only [Act.put, List.setIfInBounds_toArray, List.set_cons_zero, List.set_cons_succ, List.getElem_toArray, List.getElem_cons_succ, List.getElem_cons_zero]
        refine wpAnyH_take (i := 9) (v := undef) rfl (by kernel_rfl) (by kernel_rfl) (by kernel_rfl) (fun _ _ _ h => h) (Or.inr ⟨by rfl, rfl⟩) (by assumption) ?_
        try simp only [Act.put, List.setIfInBounds_toArray, List.set_cons_zero, List.set_cons_succ, List.getElem_toArray, List.getElem_cons_succ, List.getElem_cons_zero]
        refine wpAnyH_take (i := 10) (v := undef) rfl (by kernel_rfl) (by kernel_rfl) (by kernel_rfl) (fun _ _ _ h => h) (Or.inr ⟨by rfl, rfl⟩) (by assumption) ?_
        try simp only [Act.put, List.setIfInBounds_toArray, List.set_cons_zero, List.set_cons_succ, List.getElem_toArray, List.getElem_cons_succ, List.getElem_cons_zero]
        refine wpAnyH_take (i := 11) (v := undef) rfl (by kernel_rfl) (by kernel_rfl) (by kernel_rfl) (fun _ _ _ h => h) (Or.inr ⟨by rfl, rfl⟩) (by assumption) ?_
        try simp only [Act.put, List.setIfInBounds_toArray, List.set_cons_zero, List.set_cons_succ, List.getElem_toArray, List.getElem_cons_succ, List.getElem_cons_zero]
        refine wpAnyH_take (i := 12) (v := ?_) rfl (by kernel_rfl) (by kernel_rfl) (by kernel_rfl) (fun _ _ _ h => h) (Or.inl ⟨by rfl, ?_⟩) (by assumption) ?_
        rotate_left
        · (intro w hSw; (try dsimp only at hSw); go_simp; first | done | with_reducible rfl)
        try simp only [Act.put, List.setIfInBounds_toArray, List.set_cons_zero, List.set_cons_succ, List.getElem_toArray, List.getElem_cons_succ, List.getElem_cons_zero]
        refine wpAnyH_take (i := 13) (v := ?_) rfl (by kernel_rfl) (by kernel_rfl) (by kernel_rfl) (fun _ _ _ h => h) (Or.inl ⟨by rfl, ?_⟩) (by assumption) ?_
        rotate_left
        · (intro w hSw; (try dsimp only at hSw); go_simp; first | done | with_reducible rfl)
        try simp only [Act.put, List.setIfInBounds_toArray, List.set_cons_zero, List.set_cons_succ, List.getElem_toArray, List.getElem_cons_succ, List.getElem_cons_zero]
        refine wpAnyH_take (i := 14) (v := undef) rfl (by kernel_rfl) (by kernel_rfl) (by kernel_rfl) (fun _ _ _ h => h) (Or.inr ⟨by rfl, rfl⟩) (by assumption) ?_
        try simp only [Act.put, List.setIfInBounds_toArray, List.set_cons_zero, List.set_cons_succ, List.getElem_toArray, List.getElem_cons_succ, List.getElem_cons_zero]
        refine wpAnyH_take (i := 15) (v := undef) rfl (by kernel_rfl) (by kernel_rfl) (by kernel_rfl) (fun _ _ _ h => h) (Or.inr ⟨by rfl, rfl⟩) (by assumption) ?_
        try simp only [Act.put, List.setIfInBounds_toArray, List.set_cons_zero, List.set_cons_succ, List.getElem_toArray, List.getElem_cons_succ, List.getElem_cons_zero]
        refine wpAnyH_take (i := 16) (v := ?_) rfl (by kernel_rfl) (by kernel_rfl) (by kernel_rfl) (fun _ _ _ h => h) (Or.inl ⟨by rfl, ?_⟩) (by assumption) ?_
        rotate_left
        · (intro w hSw; (try dsimp only at hSw); go_simp; first | done | with_reducible rfl)
        try simp only [Act.put, List.setIfInBounds_toArray, List.set_cons_zero, List.set_cons_succ, List.getElem_toArray, List.getElem_cons_succ, List.getElem_cons_zero]
        refine wpAnyH_done (by kernel_rfl) ?_ _
        have X7 := hide ((unhide X6).next (drew_bel w6'))
        have HD := hide hd
        clear hHeld hx6 hd hg he
        cases k5 : coversB vo 2
        · have K5 := hide k5
          clear k5
          go_wp2_with fail
          refine (rcov_at vo 2 w6'.drew (unhide K5)).mono ?_
          rintro e w9 ⟨rfl, bb⟩
          have X8 := hide ((unhide X7).next bb)
          clear bb
          obtain rfl : x = ((o, 2), true) := by rw [← unhide HX]; simp [nextK, wholeB, wantD, inD, unhide K1, unhide K2, unhide K3, unhide HD, unhide K5]
          obtain ⟨y0, y1, y2, y3⟩ := lock_cells (unhide X8).pl
          have BE := hide (set2_below (unhide X8).bel (unhide hNw) (.int .i64 o) (.int .i64 2))
          go_wp2
          refine bodyPost_ret (v := nxV ((o, 2), true) 0) ?_ rfl ⟨rfl, unhide BE⟩
          rw [results_cell_two rfl]
          unfold nxV
          go_simp
        · have K5 := hide k5
          clear k5
          go_wp2_with fail
          refine (rcov_at vo 2 w6'.drew (unhide K5)).mono ?_
          rintro e w9 ⟨rfl, bb⟩
          have X8 := hide ((unhide X7).next bb)
          clear bb
          obtain rfl : x = ((s, 5), true) := by rw [← unhide HX]; simp [nextK, wholeB, wantD, inD, unhide K1, unhide K2, unhide K3, unhide HD, unhide K5]
          obtain ⟨y0, y1, y2, y3⟩ := lock_cells (unhide X8).pl
          have BE := hide (set2_below (unhide X8).bel (unhide hNw) (.int .i64 s) (.int .i64 5))
          go_wp2
          refine bodyPost_ret (v := nxV ((s, 5), true) 0) ?_ rfl ⟨rfl, unhide BE⟩
          rw [results_cell_two rfl]
          unfold nxV
          go_simp
    · have K3 := hide k3
      clear k3
      go_wp2_with fail
      refine (rcov_at vs 5 w6q (unhide K3)).mono ?_
      rintro e w6q' ⟨rfl, bb⟩
      have X6 := hide ((unhide X4).next bb)
      clear bb
      obtain ⟨w6', hw6'⟩ : ∃ w6', w6' = w6q' := ⟨_, rfl⟩
      subst hw6'
      by_cases he : 0 < c.e
      · have hd : decide (0 < c.e) = true := decide_eq_true he
        have S := rstripes_t c w6'.drew ((unhide X6).rt.next (drew_bel w6')) hf hn who o (cnt_str c who o (unhide hm))
        rw [← unhide hst] at S
        unfold cv at S
        replace S := hide S
        have hx6 := (unhide X6).bx
        cases hq : decide (c.e ≤ (m : Int))
        · have hge : decide ((m : Int) ≥ c.e) = _ := hq
          go_wp2_with fail
          refine wp_region_held_drew (S := fun wz => wz.cell? ⟨N, 0, none⟩ = some (.int .i64 c.r) ∧ wz.cell? ⟨N, 1, none⟩ = some (.int .i64 c.o) ∧ wz.cell? ⟨N, 2, none⟩ = some (.int .i64 c.s) ∧ wz.cell? ⟨N, 3, none⟩ = some (.int .i64 c.d) ∧ wz.cell? ⟨N, 4, none⟩ = some (.int .i64 c.t) ∧ wz.cell? ⟨N, 5, none⟩ = some (.int .i64 c.l) ∧ wz.cell? ⟨N, 6, none⟩ = some (.int .i64 c.g) ∧ wz.cell? ⟨N, 7, none⟩ = some (.int .i64 c.k) ∧ wz.cell? ⟨N, 8, none⟩ = some (.int .i64 c.u) ∧ wz.cell? ⟨N, 9, none⟩ = some (.int .i64 c.e) ∧ wz.cell? ⟨N, 10, none⟩ = some (.int .i64 c.i) ∧ wz.cell? ⟨N, 11, none⟩ = some (.int .i64 c.p)) (by kernel_rfl) ?hS9 (fun hHeld => ?_)
          case hS9 => exact hx6.drew.cells
          refine wpAnyH_take (i := 0) (v := ?_) rfl (by kernel_rfl) (by kernel_rfl) (by kernel_rfl) (fun _ _ _ h => h) (Or.inl ⟨by rfl, ?_⟩) (by assumption) ?_
          rotate_left
          · (intro w hSw; (try dsimp only at hSw); go_simp; first | done | with_reducible rfl)
          try simp only [Act.put, List.setIfInBounds_toArray, List.set_cons_zero, List.set_cons_succ, List.getElem_toArray, List.getElem_cons_succ, List.getElem_cons_zero]
          refine wpAnyH_take (i := 1) (v := ?_) rfl (by kernel_rfl) (by kernel_rfl) (by kernel_rfl) (fun _ _ _ h => h) (Or.inl ⟨by rfl, ?_⟩) (by assumption) ?_
          rotate_left
          · (intro w hSw; (try dsimp only at hSw); go_simp; first | done | with_reducible rfl)
          try simp only [Act.put, List.setIfInBounds_toArray, List.set_cons_zero, List.set_cons_succ, List.getElem_toArray, List.getElem_cons_succ, List.getElem_cons_zero]
          refine wpAnyH_take (i := 2) (v := ?_) rfl (by kernel_rfl) (by kernel_rfl) (by kernel_rfl) (fun _ _ _ h => h) (Or.inl ⟨by rfl, ?_⟩) (by assumption) ?_
          rotate_left
          · (intro w hSw; (try dsimp only at hSw); go_simp; first | done | with_reducible rfl)
          try simp only [Act.put, List.setIfInBounds_toArray, List.set_cons_zero, List.set_cons_succ, List.getElem_toArray, List.getElem_cons_succ, List.getElem_cons_zero]
          refine wpAnyH_take (i := 3) (v := ?_) rfl (by kernel_rfl) (by kernel_rfl) (by kernel_rfl) (fun _ _ _ h => h) (Or.inl ⟨by rfl, ?_⟩) (by assumption) ?_
          rotate_left
          · (intro w hSw; (try dsimp only at hSw); go_simp; first | done | with_reducible rfl)
          try simp only [Act.put, List.setIfInBounds_toArray, List.set_cons_zero, List.set_cons_succ, List.getElem_toArray, List.getElem_cons_succ, List.getElem_cons_zero]
          refine wpAnyH_take (i := 4) (v := ?_) rfl (by kernel_rfl) (by kernel_rfl) (by kernel_rfl) (fun _ _ _ h => h) (Or.inl ⟨by rfl, ?_⟩) (by assumption) ?_
          rotate_left
          · (intro w hSw; (try dsimp only at hSw); go_simp; first | done | with_reducible rfl)
          try simp only [Act.put, List.setIfInBounds_toArray, List.set_cons_zero, List.set_cons_succ, List.getElem_toArray, List.getElem_cons_succ, List.getElem_cons_zero]
          refine wpAnyH_take (i := 5) (v := ?_) rfl (by kernel_rfl) (by kernel_rfl) (by kernel_rfl) (fun _ _ _ h => h) (Or.inl ⟨by rfl, ?_⟩) (by assumption) ?_
          rotate_left
          · (intro w hSw; (try dsimp only at hSw); go_simp; first | done | with_reducible rfl)
          try simp only [Act.put, List.setIfInBounds_toArray, List.set_cons_zero, List.set_cons_succ, List.getElem_toArray, List.getElem_cons_succ, List.getElem_cons_zero]
          refine wpAnyH_take (i := 6) (v := ?_) rfl (by kernel_rfl) (by kernel_rfl) (by kernel_rfl) (fun _ _ _ h => h) (Or.inl ⟨by rfl, ?_⟩) (by assumption) ?_
          rotate_left
          · (intro w hSw; (try dsimp only at hSw); go_simp; first | done | with_reducible rfl)
          try simp only [Act.put, List.setIfInBounds_toArray, List.set_cons_zero, List.set_cons_succ, List.getElem_toArray, List.getElem_cons_succ, List.getElem_cons_zero]
          refine wpAnyH_take (i := 7) (v := ?_) rfl (by kernel_rfl) (by kernel_rfl) (by kernel_rfl) (fun _ _ _ h => h) (Or.inl ⟨by rfl, ?_⟩) (by assumption) ?_
          rotate_left
          · (intro w hSw; (try dsimp only at hSw); go_simp; first | done | with_reducible rfl)
          try simp only [Act.put, List.setIfInBounds_toArray, List.set_cons_zero, List.set_cons_succ, List.getElem_toArray, List.getElem_cons_succ, List.getElem_cons_zero]
          refine wpAnyH_take (i := 9) (v := ?_) rfl (by kernel_rfl) (by kernel_rfl) (by kernel_rfl) (fun _ _ _ h => h) (Or.inl ⟨by rfl, ?_⟩) (by assumption) ?_
          rotate_left
          · (intro w hSw; (try dsimp only at hSw); go_simp; first | done | with_reducible rfl)
          try simp only [Act.put, List.setIfInBounds_toArray, List.set_cons_zero, List.set_cons_succ, List.getElem_toArray, List.getElem_cons_succ, List.getElem_cons_zero]
          refine wpAnyH_take (i := 10) (v := ?_) rfl (by kernel_rfl) (by kernel_rfl) (by kernel_rfl) (fun _ _ _ h => h) (Or.inl ⟨by rfl, ?_⟩) (by assumption) ?_
          rotate_left
          · (intro w hSw; (try dsimp only at hSw); go_simp; first | done | with_reducible rfl)
          try simp only [Act.put, List.setIfInBounds_toArray, List.set_cons_zero, List.set_cons_succ, List.getElem_toArray, List.getElem_cons_succ, List.getElem_cons_zero]
          refine wpAnyH_ready (rs := [8]) (by kernel_rfl) (by simp) ?_
          refine AllReadyH.cons rfl (fun K hK => ?_) AllReadyH.nil
          have C := unhide S
          go_simp
          go_wp2_with (go_at_call 33; (with_reducible refine Calls.mono C ?_); rintro e w7 ⟨rfl, hb⟩; clear C; have hx1 := hx6.drew.next hb; have hbb := bt (drew_bel w6') hb (Nat.le_refl _))
          refine hK.out _ _ (hx1.cells) (fun hHeld => ?_)
          clear hK K
          try simp only [Act.put, List.setIfInBounds_toArray, List.set_cons_zero, List.set_cons_succ, List.getElem_toArray, List.getElem_cons_succ, List.getElem_cons_zero]
          refine wpAnyH_take (i := 11) (v := ?_) rfl (by kernel_rfl) (by kernel_rfl) (by kernel_rfl) (fun _ _ _ h => h) (Or.inl ⟨by rfl, ?_⟩) (by assumption) ?_
          rotate_left
          · (intro w hSw; (try dsimp only at hSw); go_simp; first | done | with_reducible rfl)
          try simp only [Act.put, List.setIfInBounds_toArray, List.set_cons_zero, List.set_cons_succ, List.getElem_toArray, List.getElem_cons_succ, List.getElem_cons_zero]
          refine wpAnyH_take (i := 12) (v := ?_) rfl (by kernel_rfl) (by kernel_rfl) (by kernel_rfl) (fun _ _ _ h => h) (Or.inl ⟨by rfl, ?_⟩) (by assumption) ?_
          rotate_left
          · (intro w hSw; (try dsimp only at hSw); go_simp; first | done | with_reducible rfl)
          try simp only [Act.put, List.setIfInBounds_toArray, List.set_cons_zero, List.set_cons_succ, List.getElem_toArray, List.getElem_cons_succ, List.getElem_cons_zero]
          refine wpAnyH_take (i := 13) (v := ?_) rfl (by kernel_rfl) (by kernel_rfl) (by kernel_rfl) (fun _ _ _ h => h) (Or.inl ⟨by rfl, ?_⟩) (by assumption) ?_
          rotate_left
          · (intro w hSw; (try dsimp only at hSw); go_simp; first | done | with_reducible rfl)
          try simp only [Act.put, List.setIfInBounds_toArray, List.set_cons_zero, List.set_cons_succ, List.getElem_toArray, List.getElem_cons_succ, List.getElem_cons_zero]
          refine wpAnyH_take (i := 14) (v := undef) rfl (by kernel_rfl) (by kernel_rfl) (by kernel_rfl) (fun _ _ _ h => h) (Or.inr ⟨by rfl, rfl⟩) (by assumption) ?_
          try simp only [Act.put, List.setIfInBounds_toArray, List.set_cons_zero, List.set_cons_succ, List.getElem_toArray, List.getElem_cons_succ, List.getElem_cons_zero]
          refine wpAnyH_take (i := 15) (v := undef) rfl (by kernel_rfl) (by kernel_rfl) (by kernel_rfl) (fun _ _ _ h => h) (Or.inr ⟨by rfl, rfl⟩) (by assumption) ?_
          try simp only [Act.put, List.setIfInBounds_toArray, List.set_cons_zero, List.set_cons_succ, List.getElem_toArray, List.getElem_cons_succ, List.getElem_cons_zero]
          refine wpAnyH_take (i := 16) (v := ?_) rfl (by kernel_rfl) (by kernel_rfl) (by kernel_rfl) (fun _ _ _ h => h) (Or.inl ⟨by rfl, ?_⟩) (by assumption) ?_
          rotate_left
          · (intro w hSw; (try dsimp only at hSw); go_simp; first | done | with_reducible rfl)
          try simp only [Act.put, List.setIfInBounds_toArray, List.set_cons_zero, List.set_cons_succ, List.getElem_toArray, List.getElem_cons_succ, List.getElem_cons_zero]
          refine wpAnyH_done (by kernel_rfl) ?_ _
          have X7 := hide ((unhide X6).next hbb)
          have HD := hide (And.intro hd hq)
          clear hHeld hx6 hbb hd hq he hge S hx1
          cases k5 : coversB vo 2
          · have K5 := hide k5
            clear k5
            go_wp2_with fail
            refine (rcov_at vo 2 w7 (unhide K5)).mono ?_
            rintro e w7' ⟨rfl, bb⟩
            have X8 := hide ((unhide X7).next bb)
            clear bb
            obtain rfl : x = ((o, 2), true) := by rw [← unhide HX]; simp [nextK, wholeB, wantD, inD, unhide K1, unhide K2, unhide K3, (unhide HD).1, (unhide HD).2, unhide K5]
            obtain ⟨y0, y1, y2, y3⟩ := lock_cells (unhide X8).pl
            have BE := hide (set2_below (unhide X8).bel (unhide hNw) (.int .i64 o) (.int .i64 2))
            go_wp2
            refine bodyPost_ret (v := nxV ((o, 2), true) 0) ?_ rfl ⟨rfl, unhide BE⟩
            rw [results_cell_two rfl]
            unfold nxV
            go_simp
          · have K5 := hide k5
            clear k5
            go_wp2_with fail
            refine (rcov_at vo 2 w7 (unhide K5)).mono ?_
            rintro e w7' ⟨rfl, bb⟩
            have X8 := hide ((unhide X7).next bb)
            clear bb
            obtain rfl : x = ((0, 0), false) := by rw [← unhide HX]; simp [nextK, wholeB, wantD, inD, unhide K1, unhide K2, unhide K3, (unhide HD).1, (unhide HD).2, unhide K5]
            obtain ⟨y0, y1, y2, y3⟩ := lock_cells (unhide X8).pl
            have BE := hide (set2_below (unhide X8).bel (unhide hNw) (.int .i64 0) (.int .i64 0))
            go_wp2
            refine bodyPost_ret (v := nxV ((0, 0), false) 0) ?_ rfl ⟨rfl, unhide BE⟩
            rw [results_cell_two rfl]
            unfold nxV
            go_simp
        · have hge : decide ((m : Int) ≥ c.e) = _ := hq
          go_wp2_with fail
          refine wp_region_held_drew (S := fun wz => wz.cell? ⟨N, 0, none⟩ = some (.int .i64 c.r) ∧ wz.cell? ⟨N, 1, none⟩ = some (.int .i64 c.o) ∧ wz.cell? ⟨N, 2, none⟩ = some (.int .i64 c.s) ∧ wz.cell? ⟨N, 3, none⟩ = some (.int .i64 c.d) ∧ wz.cell? ⟨N, 4, none⟩ = some (.int .i64 c.t) ∧ wz.cell? ⟨N, 5, none⟩ = some (.int .i64 c.l) ∧ wz.cell? ⟨N, 6, none⟩ = some (.int .i64 c.g) ∧ wz.cell? ⟨N, 7, none⟩ = some (.int .i64 c.k) ∧ wz.cell? ⟨N, 8, none⟩ = some (.int .i64 c.u) ∧ wz.cell? ⟨N, 9, none⟩ = some (.int .i64 c.e) ∧ wz.cell? ⟨N, 10, none⟩ = some (.int .i64 c.i) ∧ wz.cell? ⟨N, 11, none⟩ = some (.int .i64 c.p)) (by kernel_rfl) ?hS9 (fun hHeld => ?_)
          case hS9 => exact hx6.drew.cells
          refine wpAnyH_take (i := 0) (v := ?_) rfl (by kernel_rfl) (by kernel_rfl) (by kernel_rfl) (fun _ _ _ h => h) (Or.inl ⟨by rfl, ?_⟩) (by assumption) ?_
          rotate_left
          · (intro w hSw; (try dsimp only at hSw); go_simp; first | done | with_reducible rfl)
          try simp only [Act.put, List.setIfInBounds_toArray, List.set_cons_zero, List.set_cons_succ, List.getElem_toArray, List.getElem_cons_succ, List.getElem_cons_zero]
          refine wpAnyH_take (i := 1) (v := ?_) rfl (by kernel_rfl) (by kernel_rfl) (by kernel_rfl) (fun _ _ _ h => h) (Or.inl ⟨by rfl, ?_⟩) (by assumption) ?_
          rotate_left
          · (intro w hSw; (try dsimp only at hSw); go_simp; first | done | with_reducible rfl)
          try simp only [Act.put, List.setIfInBounds_toArray, List.set_cons_zero, List.set_cons_succ, List.getElem_toArray, List.getElem_cons_succ, List.getElem_cons_zero]
          refine wpAnyH_take (i := 2) (v := ?_) rfl (by kernel_rfl) (by kernel_rfl) (by kernel_rfl) (fun _ _ _ h => h) (Or.inl ⟨by rfl, ?_⟩) (by assumption) ?_
          rotate_left
          · (intro w hSw; (try dsimp only at hSw); go_simp; first | done | with_reducible rfl)
          try simp only [Act.put, List.setIfInBounds_toArray, List.set_cons_zero, List.set_cons_succ, List.getElem_toArray, List.getElem_cons_succ, List.getElem_cons_zero]
          refine wpAnyH_take (i := 3) (v := ?_) rfl (by kernel_rfl) (by kernel_rfl) (by kernel_rfl) (fun _ _ _ h => h) (Or.inl ⟨by rfl, ?_⟩) (by assumption) ?_
          rotate_left
          · (intro w hSw; (try dsimp only at hSw); go_simp; first | done | with_reducible rfl)
          try simp only [Act.put, List.setIfInBounds_toArray, List.set_cons_zero, List.set_cons_succ, List.getElem_toArray, List.getElem_cons_succ, List.getElem_cons_zero]
          refine wpAnyH_take (i := 4) (v := ?_) rfl (by kernel_rfl) (by kernel_rfl) (by kernel_rfl) (fun _ _ _ h => h) (Or.inl ⟨by rfl, ?_⟩) (by assumption) ?_
          rotate_left
          · (intro w hSw; (try dsimp only at hSw); go_simp; first | done | with_reducible rfl)
          try simp only [Act.put, List.setIfInBounds_toArray, List.set_cons_zero, List.set_cons_succ, List.getElem_toArray, List.getElem_cons_succ, List.getElem_cons_zero]
          refine wpAnyH_take (i := 5) (v := ?_) rfl (by kernel_rfl) (by kernel_rfl) (by kernel_rfl) (fun _ _ _ h => h) (Or.inl ⟨by rfl, ?_⟩) (by assumption) ?_
          rotate_left
          · (intro w hSw; (try dsimp only at hSw); go_simp; first | done | with_reducible rfl)
          try simp only [Act.put, List.setIfInBounds_toArray, List.set_cons_zero, List.set_cons_succ, List.getElem_toArray, List.getElem_cons_succ, List.getElem_cons_zero]
          refine wpAnyH_take (i := 6) (v := ?_) rfl (by kernel_rfl) (by kernel_rfl) (by kernel_rfl) (fun _ _ _ h => h) (Or.inl ⟨by rfl, ?_⟩) (by assumption) ?_
          rotate_left
          · (intro w hSw; (try dsimp only at hSw); go_simp; first | done | with_reducible rfl)
          try simp only [Act.put, List.setIfInBounds_toArray, List.set_cons_zero, List.set_cons_succ, List.getElem_toArray, List.getElem_cons_succ, List.getElem_cons_zero]
          refine wpAnyH_take (i := 7) (v := ?_) rfl (by kernel_rfl) (by kernel_rfl) (by kernel_rfl) (fun _ _ _ h => h) (Or.inl ⟨by rfl, ?_⟩) (by assumption) ?_
          rotate_left
          · (intro w hSw; (try dsimp only at hSw); go_simp; first | done | with_reducible rfl)
          try simp only [Act.put, List.setIfInBounds_toArray, List.set_cons_zero, List.set_cons_succ, List.getElem_toArray, List.getElem_cons_succ, List.getElem_cons_zero]
          refine wpAnyH_take (i := 9) (v := ?_) rfl (by kernel_rfl) (by kernel_rfl) (by kernel_rfl) (fun _ _ _ h => h) (Or.inl ⟨by rfl, ?_⟩) (by assumption) ?_
          rotate_left
          · (intro w hSw; (try dsimp only at hSw); go_simp; first | done | with_reducible rfl)
          try simp only [Act.put, List.setIfInBounds_toArray, List.set_cons_zero, List.set_cons_succ, List.getElem_toArray, List.getElem_cons_succ, List.getElem_cons_zero]
          refine wpAnyH_take (i := 10) (v := ?_) rfl (by kernel_rfl) (by kernel_rfl) (by kernel_rfl) (fun _ _ _ h => h) (Or.inl ⟨by rfl, ?_⟩) (by assumption) ?_
          rotate_left
          · (intro w hSw; (try dsimp only at hSw); go_simp; first | done | with_reducible rfl)
          try simp only [Act.put, List.setIfInBounds_toArray, List.set_cons_zero, List.set_cons_succ, List.getElem_toArray, List.getElem_cons_succ, List.getElem_cons_zero]
          refine wpAnyH_ready (rs := [8]) (by kernel_rfl) (by simp) ?_
          refine AllReadyH.cons rfl (fun K hK => ?_) AllReadyH.nil
          have C := unhide S
          go_simp
          go_wp2_with (go_at_call 33; (with_reducible refine Calls.mono C ?_); rintro e w7 ⟨rfl, hb⟩; clear C; have hx1 := hx6.drew.next hb; have hbb := bt (drew_bel w6') hb (Nat.le_refl _))
          refine hK.out _ _ (hx1.cells) (fun hHeld => ?_)
          clear hK K
          try simp only [Act.put, List.setIfInBounds_toArray, List.set_cons_zero, List.set_cons_succ, List.getElem_toArray, List.getElem_cons_succ, List.getElem_cons_zero]
          refine wpAnyH_take (i := 11) (v := ?_) rfl (by kernel_rfl) (by kernel_rfl) (by kernel_rfl) (fun _ _ _ h => h) (Or.inl ⟨by rfl, ?_⟩) (by assumption) ?_
          rotate_left
          · (intro w hSw; (try dsimp only at hSw); go_simp; first | done | with_reducible rfl)
          try simp only [Act.put, List.setIfInBounds_toArray, List.set_cons_zero, List.set_cons_succ, List.getElem_toArray, List.getElem_cons_succ, List.getElem_cons_zero]
          refine wpAnyH_take (i := 12) (v := ?_) rfl (by kernel_rfl) (by kernel_rfl) (by kernel_rfl) (fun _ _ _ h => h) (Or.inl ⟨by rfl, ?_⟩) (by assumption) ?_
          rotate_left
          · (intro w hSw; (try dsimp only at hSw); go_simp; first | done | with_reducible rfl)
          try simp only [Act.put, List.setIfInBounds_toArray, List.set_cons_zero, List.set_cons_succ, List.getElem_toArray, List.getElem_cons_succ, List.getElem_cons_zero]
          refine wpAnyH_take (i := 13) (v := ?_) rfl (by kernel_rfl) (by kernel_rfl) (by kernel_rfl) (fun _ _ _ h => h) (Or.inl ⟨by rfl, ?_⟩) (by assumption) ?_
          rotate_left
          · (intro w hSw; (try dsimp only at hSw); go_simp; first | done | with_reducible rfl)
          try simp only [Act.put, List.setIfInBounds_toArray, List.set_cons_zero, List.set_cons_succ, List.getElem_toArray, List.getElem_cons_succ, List.getElem_cons_zero]
          refine wpAnyH_take (i := 14) (v := ?_) rfl (by kernel_rfl) (by kernel_rfl) (by kernel_rfl) (fun _ _ _ h => h) (Or.inl ⟨by rfl, ?_⟩) (by assumption) ?_
          rotate_left
          · (intro w hSw; (try dsimp only at hSw); go_simp; first | done | with_reducible rfl)
          try simp only [Act.put, List.setIfInBounds_toArray, List.set_cons_zero, List.set_cons_succ, List.getElem_toArray, List.getElem_cons_succ, List.getElem_cons_zero]
          refine wpAnyH_take (i := 15) (v := ?_) rfl (by kernel_rfl) (by kernel_rfl) (by kernel_rfl) (fun _ _ _ h => h) (Or.inl ⟨by rfl, ?_⟩) (by assumption) ?_
          rotate_left
          · (intro w hSw; (try dsimp only at hSw); go_simp; first | done | with_reducible rfl)
          try simp only [Act.put, List.setIfInBounds_toArray, List.set_cons_zero, List.set_cons_succ, List.getElem_toArray, List.getElem_cons_succ, List.getElem_cons_zero]
          refine wpAnyH_take (i := 16) (v := ?_) rfl (by kernel_rfl) (by kernel_rfl) (by kernel_rfl) (fun _ _ _ h => h) (Or.inl ⟨by rfl, ?_⟩) (by assumption) ?_
          rotate_left
          · (intro w hSw; (try dsimp only at hSw); go_simp; first | done | with_reducible rfl)
          try simp only [Act.put, List.setIfInBounds_toArray, List.set_cons_zero, List.set_cons_succ, List.getElem_toArray, List.getElem_cons_succ, List.getElem_cons_zero]
          refine wpAnyH_done (by kernel_rfl) ?_ _
          have X7 := hide ((unhide X6).next hbb)
          have HD := hide (And.intro hd hq)
          clear hHeld hx6 hbb hd hq he hge S hx1
          cases k5 : coversB vo 2
          · have K5 := hide k5
            clear k5
            go_wp2_with fail
            refine (rcov_at vo 2 w7 (unhide K5)).mono ?_
            rintro e w7' ⟨rfl, bb⟩
            have X8 := hide ((unhide X7).next bb)
            clear bb
            obtain rfl : x = ((o, 2), true) := by rw [← unhide HX]; simp [nextK, wholeB, wantD, inD, unhide K1, unhide K2, unhide K3, (unhide HD).1, (unhide HD).2, unhide K5]
            obtain ⟨y0, y1, y2, y3⟩ := lock_cells (unhide X8).pl
            have BE := hide (set2_below (unhide X8).bel (unhide hNw) (.int .i64 o) (.int .i64 2))
            go_wp2
            refine bodyPost_ret (v := nxV ((o, 2), true) 0) ?_ rfl ⟨rfl, unhide BE⟩
            rw [results_cell_two rfl]
            unfold nxV
            go_simp
          · have K5 := hide k5
            clear k5
            go_wp2_with fail
            refine (rcov_at vo 2 w7 (unhide K5)).mono ?_
            rintro e w7' ⟨rfl, bb⟩
            have X8 := hide ((unhide X7).next bb)
            clear bb
            obtain rfl : x = ((0, 0), false) := by rw [← unhide HX]; simp [nextK, wholeB, wantD, inD, unhide K1, unhide K2, unhide K3, (unhide HD).1, (unhide HD).2, unhide K5]
            obtain ⟨y0, y1, y2, y3⟩ := lock_cells (unhide X8).pl
            have BE := hide (set2_below (unhide X8).bel (unhide hNw) (.int .i64 0) (.int .i64 0))
            go_wp2
            refine bodyPost_ret (v := nxV ((0, 0), false) 0) ?_ rfl ⟨rfl, unhide BE⟩
            rw [results_cell_two rfl]
            unfold nxV
            go_simp
      · have hd : decide (0 < c.e) = false := decide_eq_false he
        have hg : decide (c.e > 0) = false := hd
        have hx6 := (unhide X6).bx
        go_wp2_with fail
        refine wp_region_held_drew (S := fun wz => wz.cell? ⟨N, 0, none⟩ = some (.int .i64 c.r) ∧ wz.cell? ⟨N, 1, none⟩ = some (.int .i64 c.o) ∧ wz.cell? ⟨N, 2, none⟩ = some (.int .i64 c.s) ∧ wz.cell? ⟨N, 3, none⟩ = some (.int .i64 c.d) ∧ wz.cell? ⟨N, 4, none⟩ = some (.int .i64 c.t) ∧ wz.cell? ⟨N, 5, none⟩ = some (.int .i64 c.l) ∧ wz.cell? ⟨N, 6, none⟩ = some (.int .i64 c.g) ∧ wz.cell? ⟨N, 7, none⟩ = some (.int .i64 c.k) ∧ wz.cell? ⟨N, 8, none⟩ = some (.int .i64 c.u) ∧ wz.cell? ⟨N, 9, none⟩ = some (.int .i64 c.e) ∧ wz.cell? ⟨N, 10, none⟩ = some (.int .i64 c.i) ∧ wz.cell? ⟨N, 11, none⟩ = some (.int .i64 c.p)) (by kernel_rfl) ?hS9 (fun hHeld => ?_)
        case hS9 => exact hx6.drew.cells
        refine wpAnyH_take (i := 0) (v := ?_) rfl (by kernel_rfl) (by kernel_rfl) (by kernel_rfl) (fun _ _ _ h => h) (Or.inl ⟨by rfl, ?_⟩) (by assumption) ?_
        rotate_left
        · (intro w hSw; (try dsimp only at hSw); go_simp; first | done | with_reducible rfl)
        try simp only [Act.put, List.setIfInBounds_toArray, List.set_cons_zero, List.set_cons_succ, List.getElem_toArray, List.getElem_cons_succ, List.getElem_cons_zero]
        refine wpAnyH_take (i := 1) (v := ?_) rfl (by kernel_rfl) (by kernel_rfl) (by kernel_rfl) (fun _ _ _ h => h) (Or.inl ⟨by rfl, ?_⟩) (by assumption) ?_
        rotate_left
        · (intro w hSw; (try dsimp only at hSw); go_simp; first | done | with_reducible rfl)
        try simp only [Act.put, List.setIfInBounds_toArray, List.set_cons_zero, List.set_cons_succ, List.getElem_toArray, List.getElem_cons_succ, List.getElem_cons_zero]
        refine wpAnyH_take (i := 2) (v := ?_) rfl (by kernel_rfl) (by kernel_rfl) (by kernel_rfl) (fun _ _ _ h => h) (Or.inl ⟨by rfl, ?_⟩) (by assumption) ?_
        rotate_left
        · (intro w hSw; (try dsimp only at hSw); go_simp; first | done | with_reducible rfl)
        try simp only [Act.put, List.setIfInBounds_toArray, List.set_cons_zero, List.set_cons_succ, List.getElem_toArray, List.getElem_cons_succ, List.getElem_cons_zero]
        refine wpAnyH_take (i := 3) (v := ?_) rfl (by kernel_rfl) (by kernel_rfl) (by kernel_rfl) (fun _ _ _ h => h) (Or.inl ⟨by rfl, ?_⟩) (by assumption) ?_
        rotate_left
        · (intro w hSw; (try dsimp only at hSw); go_simp; first | done | with_reducible rfl)
        try simp only [Act.put, List.setIfInBounds_toArray, List.set_cons_zero, List.set_cons_succ, List.getElem_toArray, List.getElem_cons_succ, List.getElem_cons_zero]
        refine wpAnyH_take (i := 4) (v := undef) rfl (by kernel_rfl) (by kernel_rfl) (by kernel_rfl) (fun _ _ _ h => h) (Or.inr ⟨by rfl, rfl⟩) (by assumption) ?_
        try simp only [Act.put, List.setIfInBounds_toArray, List.set_cons_zero, List.set_cons_succ, List.getElem_toArray, List.getElem_cons_succ, List.getElem_cons_zero]
        refine wpAnyH_take (i := 5) (v := undef) rfl (by kernel_rfl) (by kernel_rfl) (by kernel_rfl) (fun _ _ _ h => h) (Or.inr ⟨by rfl, rfl⟩) (by assumption) ?_
        try simp only [Act.put, List.setIfInBounds_toArray, List.set_cons_zero, List.set_cons_succ, List.getElem_toArray, List.getElem_cons_succ, List.getElem_cons_zero]
        refine wpAnyH_take (i := 6) (v := undef) rfl (by kernel_rfl) (by kernel_rfl) (by kernel_rfl) (fun _ _ _ h => h) (Or.inr ⟨by rfl, rfl⟩) (by assumption) ?_
        try simp only [Act.put, List.setIfInBounds_toArray, List.set_cons_zero, List.set_cons_succ, List.getElem_toArray, List.getElem_cons_succ, List.getElem_cons_zero]
        refine wpAnyH_take (i := 7) (v := undef) rfl (by kernel_rfl) (by kernel_rfl) (by kernel_rfl) (fun _ _ _ h => h) (Or.inr ⟨by rfl, rfl⟩) (by assumption) ?_
        try simp only [Act.put, List.setIfInBounds_toArray, List.set_cons_zero, List.set_cons_succ, List.getElem_toArray, List.getElem_cons_succ, List.getElem_cons_zero]
        refine wpAnyH_take (i := 8) (v := undef) rfl (by kernel_rfl) (by kernel_rfl) (by kernel_rfl) (fun _ _ _ h => h) (Or.inr ⟨by rfl, rfl⟩) (by assumption) ?_
        try simp only [Act.put, List.setIfInBounds_toArray, List.set_cons_zero, List.set_cons_succ, List.getElem_toArray, List.getElem_cons_succ, List.getElem_cons_zero]
        refine wpAnyH_take (i := 9) (v := undef) rfl (by kernel_rfl) (by kernel_rfl) (by kernel_rfl) (fun _ _ _ h => h) (Or.inr ⟨by rfl, rfl⟩) (by assumption) ?_
        try simp only [Act.put, List.setIfInBounds_toArray, List.set_cons_zero, List.set_cons_succ, List.getElem_toArray, List.getElem_cons_succ, List.getElem_cons_zero]
        refine wpAnyH_take (i := 10) (v := undef) rfl (by kernel_rfl) (by kernel_rfl) (by kernel_rfl) (fun _ _ _ h => h) (Or.inr ⟨by rfl, rfl⟩) (by assumption) ?_
        try simp only [Act.put, List.setIfInBounds_toArray, List.set_cons_zero, List.set_cons_succ, List.getElem_toArray, List.getElem_cons_succ, List.getElem_cons_zero]
        refine wpAnyH_take (i := 11) (v := undef) rfl (by kernel_rfl) (by kernel_rfl) (by kernel_rfl) (fun _ _ _ h => h) (Or.inr ⟨by rfl, rfl⟩) (by assumption) ?_
        try simp only [Act.put, List.setIfInBounds_toArray, List.set_cons_zero, List.set_cons_succ, List.getElem_toArray, List.getElem_cons_succ, List.getElem_cons_zero]
        refine wpAnyH_take (i := 12) (v := ?_) rfl (by kernel_rfl) (by kernel_rfl) (by kernel_rfl) (fun _ _ _ h => h) (Or.inl ⟨by rfl, ?_⟩) (by assumption) ?_
        rotate_left
        · (intro w hSw; (try dsimp only at hSw); go_simp; first | done | with_reducible rfl)
        try simp only [Act.put, List.setIfInBounds_toArray, List.set_cons_zero, List.set_cons_succ, List.getElem_toArray, List.getElem_cons_succ, List.getElem_cons_zero]
        refine wpAnyH_take (i := 13) (v := ?_) rfl (by kernel_rfl) (by kernel_rfl) (by kernel_rfl) (fun _ _ _ h => h) (Or.inl ⟨by rfl, ?_⟩) (by assumption) ?_
        rotate_left
        · (intro w hSw; (try dsimp only at hSw); go_simp; first | done | with_reducible rfl)
        try simp only [Act.put, List.setIfInBounds_toArray, List.set_cons_zero, List.set_cons_succ, List.getElem_toArray, List.getElem_cons_succ, List.getElem_cons_zero]
        refine wpAnyH_take (i := 14) (v := undef) rfl (by kernel_rfl) (by kernel_rfl) (by kernel_rfl) (fun _ _ _ h => h) (Or.inr ⟨by rfl, rfl⟩) (by assumption) ?_
        try simp only [Act.put, List.setIfInBounds_toArray, List.set_cons_zero, List.set_cons_succ, List.getElem_toArray, List.getElem_cons_succ, List.getElem_cons_zero]
        refine wpAnyH_take (i := 15) (v := undef) rfl (by kernel_rfl) (by kernel_rfl) (by kernel_rfl) (fun _ _ _ h => h) (Or.inr ⟨by rfl, rfl⟩) (by assumption) ?_
        try simp only [Act.put, List.setIfInBounds_toArray, List.set_cons_zero, List.set_cons_succ, List.getElem_toArray, List.getElem_cons_succ, List.getElem_cons_zero]
        refine wpAnyH_take (i := 16) (v := ?_) rfl (by kernel_rfl) (by kernel_rfl) (by kernel_rfl) (fun _ _ _ h => h) (Or.inl ⟨by rfl, ?_⟩) (by assumption) ?_
        rotate_left
        · (intro w hSw; (try dsimp only at hSw); go_simp; first | done | with_reducible rfl)
        try simp only [Act.put, List.setIfInBounds_toArray, List.set_cons_zero, List.set_cons_succ, List.getElem_toArray, List.getElem_cons_succ, List.getElem_cons_zero]
        refine wpAnyH_done (by kernel_rfl) ?_ _
        have X7 := hide ((unhide X6).next (drew_bel w6'))
        have HD := hide hd
        clear hHeld hx6 hd hg he
        cases k5 : coversB vo 2
        · have K5 := hide k5
          clear k5
          go_wp2_with fail
          refine (rcov_at vo 2 w6'.drew (unhide K5)).mono ?_
          rintro e w9 ⟨rfl, bb⟩
          have X8 := hide ((unhide X7).next bb)
          clear bb
          obtain rfl : x = ((o, 2), true) := by rw [← unhide HX]; simp [nextK, wholeB, wantD, inD, unhide K1, unhide K2, unhide K3, unhide HD, unhide K5]
          obtain ⟨y0, y1, y2, y3⟩ := lock_cells (unhide X8).pl
          have BE := hide (set2_below (unhide X8).bel (unhide hNw) (.int .i64 o) (.int .i64 2))
          go_wp2
          refine bodyPost_ret (v := nxV ((o, 2), true) 0) ?_ rfl ⟨rfl, unhide BE⟩
          rw [results_cell_two rfl]
          unfold nxV
          go_simp
        · have K5 := hide k5
          clear k5
          go_wp2_with fail
          refine (rcov_at vo 2 w6'.drew (unhide K5)).mono ?_
          rintro e w9 ⟨rfl, bb⟩
          have X8 := hide ((unhide X7).next bb)
          clear bb
          obtain rfl : x = ((0, 0), false) := by rw [← unhide HX]; simp [nextK, wholeB, wantD, inD, unhide K1, unhide K2, unhide K3, unhide HD, unhide K5]
          obtain ⟨y0, y1, y2, y3⟩ := lock_cells (unhide X8).pl
          have BE := hide (set2_below (unhide X8).bel (unhide hNw) (.int .i64 0) (.int .i64 0))
          go_wp2
          refine bodyPost_ret (v := nxV ((0, 0), false) 0) ?_ rfl ⟨rfl, unhide BE⟩
          rw [results_cell_two rfl]
          unfold nxV
          go_simp
  · have K2 := hide k2
    clear k2
    go_wp2_with fail
    refine (rwrites_at vo _ (unhide K2)).mono ?_
    rintro e w5 ⟨rfl, hw5⟩
    subst hw5
    obtain rfl : x = ((0, 0), false) := by rw [← unhide HX]; simp [nextK, wholeB, wantD, inD, unhide K1, unhide K2]
    obtain ⟨y0, y1, y2, y3⟩ := lock_cells (unhide X4).pl
    have BE := hide (set2_below (unhide X4).bel (unhide hNw) (.int .i64 0) (.int .i64 0))
    go_wp2
    refine bodyPost_ret (v := nxV ((0, 0), false) 0) ?_ rfl ⟨rfl, unhide BE⟩
    rw [results_cell_two rfl]
    unfold nxV
    go_simp
end Go.Proofs.YtgiklggnolbiiaaGreat
