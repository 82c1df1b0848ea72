/- Texts of this claim, put together in their order. -/
import Derived.Deep.RegionHeld
import Derived.Test.YtdhfpfkcbcgnaaaOfPlainsteps1
import Derived.Test.YtdhfpfkcbcgnaaaOfPlainsteps2
import Derived.Test.YtdhfpfkcbcgnaaaOfPlainsteps3
import Derived.Test.YtdhfpfkcbcgnaaaOfPlainsteps4
import Derived.Test.YtdhfpfkcbcgnaaaOfPlainsteps5
import Derived.Test.YtdhfpfkcbcgnaaaOfPlainsteps6
import Derived.Test.YtdhfpfkcbcgnaaaOfPlainsteps7
/- PlainSteps: the walk where the program ends so, and is empty. -/
namespace Go.Proofs.Ytdhfpfkcbcgnaaa
open Go.RowKit

set_option maxRecDepth 100000 in
set_option maxHeartbeats 8000000 in
theorem steps_1z (c : Cf) (a : Option Addr) (n cap : Nat) (H : List Int) (A T : Nat) (w : World) (hH : Ls w.heap.size w (.slice a n cap) H) (hwf : ∀ x ∈ H, (Lit.int .i64 x).wf = true) (h0 : ¬ wordsD c = 0) (h1 : (n : Int) = wordsD c) (h_cg : 2 ≤ c.g) (hT : T ≤ 14) (hA : A < n) (hz : T = 0) :
    Calls Try.prog 5 #[cv c, .slice a n cap, .int .i64 (A : Int), .int .i64 (T : Int), .int .i64 1] w fun e w' => e = .returned (.bool true) ∧ Below w.heap.size w w' := by
  have hnH : n = H.length := by obtain ⟨_, _, e, _⟩ := ls_len hH; cases e; rfl
  replace hnH := hide hnH
  replace hz := hide hz
  have hmax : maxLen = 9223372036854775807 := rfl
  have hnl : n ≤ cap ∧ cap ≤ maxLen := by obtain ⟨_, _, _, e, h1, h2, _⟩ := hH; cases e; exact ⟨h1, h2⟩
  have hx := hide (bx_new c w)
  have g0 := below_new w (.cells #[.int .i64 c.r, .int .i64 c.o, .int .i64 c.s, .int .i64 c.d, .int .i64 c.t, .int .i64 c.l, .int .i64 c.g, .int .i64 c.k, .int .i64 c.u, .int .i64 c.e, .int .i64 c.i, .int .i64 c.p] 23)
  replace hwf := hide hwf
  unfold cv
  go_enter Try.func5, Try.ntmps5
  go_wp2_with fail
  refine (first_any _).mono ?_
  rintro e w1 ⟨rfl, c1⟩
  have g1 := below_then g0 c1
  have hx := hide ((unhide hx).next c1)
  replace hH := hide hH
  have kW := words_any c w1
  unfold cv at kW
  obtain ⟨m, hm⟩ : ∃ m, wordsD c = m := ⟨_, rfl⟩
  rw [hm] at kW h0 h1
  replace hm := hide hm
  replace g1 := hide g1
  clear c1 g0
  obtain ⟨z0, z1, z2, z3, z4, z5, z6, z7, z8, z9, z10, z11⟩ := (unhide hx).cells
  go_wp2_with fail
  refine kW.mono ?_
  rintro e w2 ⟨rfl, c2⟩
  have g2 := hide (below_then (unhide g1) c2)
  have hx := hide ((unhide hx).next c2)
  clear c2 kW z0 z1 z2 z3 z4 z5 z6 z7 z8 z9 z10 z11
  obtain ⟨z0, z1, z2, z3, z4, z5, z6, z7, z8, z9, z10, z11⟩ := (unhide hx).cells
  have b_m0 : (m == 0) = false := by simpa using h0
  have h_m0 := hide h0
  have b_mn : ((n : Int) == m) = true := by simpa using h1
  have h_mn := hide h1
  have b_cg : decide (c.g < 2) = false := decide_eq_false (by omega)
  have b_t0 : decide ((T : Int) < 0) = false := decide_eq_false (by omega)
  have b_t14 : decide (14 < (T : Int)) = false := decide_eq_false (by omega)
  have b_a0 : decide ((A : Int) < 0) = false := decide_eq_false (by omega)
  have b_am : decide (m ≤ (A : Int)) = false := decide_eq_false (by omega)
  clear h0 h1
  have hok : okB c = true := by
    cases h : okB c
    · exact absurd (by rw [← unhide hm]; unfold wordsD; rw [h]; rfl) (unhide h_m0)
    · rfl
  have hw1 := nw_in (okB_hp hok)
  have hwd : wordsD c = nw c := by unfold wordsD; rw [hok, if_pos rfl]
  have n4 : n ≤ 4096 := by have := unhide h_mn; have := unhide hm; omega
  have hv : I64 (H.getD A 0) := by
    have hA2 : A < H.length := by have := unhide hnH; omega
    have : H.getD A 0 = H[A] := by simp [hA2]
    rw [this]
    exact wf_i64 (unhide hwf _ (List.getElem_mem hA2))
  obtain ⟨R, hR, r0, r1, r2, r3, r4, r5⟩ := runS (c := c) (H := H) (A := A) (T := T) (E := 1) hok (by rw [← unhide hnH, unhide h_mn, unhide hm]) (by omega) (by have := unhide hnH; omega) hT (by decide) hv
  replace hR := hide hR
  replace r0 := hide r0
  replace r1 := hide r1
  replace r2 := hide r2
  replace r3 := hide r3
  replace r4 := hide r4
  replace r5 := hide r5
  replace hv := hide hv
  clear hw1 hwd hok
  go_wp2_with fail
  go_loopw [12, 13] (fun u i wr => ∃ (k : Nat) (qs : List (In × Value)), k ≤ T ∧ i = .int .i64 k ∧ Below w2.heap.size w2 wr ∧ Pg w2.heap.size wr u qs ∧ qs.map (·.1) = rep (A : Int) k) (fun _ i _ => T - (RowKit.intOf i).toNat)
  case atStart => exact ⟨0, [], Nat.zero_le _, rfl, Below.refl _ _, ⟨World.ownsRow_nil _ _ _ _, fun q hq => by cases hq⟩, rfl⟩
  case round =>
    obtain ⟨k, qs, hk, rfl, hb, hP, hq⟩ := hrel
    by_cases hlt : k < T
    · have kd : decide ((k : Int) < (T : Int)) = true := decide_eq_true (by omega)
      have kl : (k : Int) < (T : Int) := by omega
      have hql : qs.length = 4 * k := by
        have := congrArg List.length hq
        rw [List.length_map, rep_len] at this
        exact this
      have bA := below_then (below_new wr (.cells #[.int .i64 0, .int .i64 1] 3)) (below_new _ (.cells #[.int .i64 1, .int .i64 0, .int .i64 (A : Int), .int .i64 (-1), .slice none 0 0, .int .i64 3, .int .i64 1, .int .i64 1, .int .i64 0, .slice none 0 0, .int .i64 4, .int .i64 0, .int .i64 0, .int .i64 0, .slice (some ⟨wr.heap.size, 0, none⟩) 2 2, .int .i64 2, .int .i64 0, .int .i64 (A : Int), .int .i64 (-1), .slice none 0 0] 44))
      have ownA := own_next hP.own bA
      have gA := below_then hb bA
      have sA := gA.size
      have rbA : Rb wr.heap.size [0, 1] ((wr.alloc (.cells #[.int .i64 0, .int .i64 1] 3)).alloc (.cells #[.int .i64 1, .int .i64 0, .int .i64 (A : Int), .int .i64 (-1), .slice none 0 0, .int .i64 3, .int .i64 1, .int .i64 1, .int .i64 0, .slice none 0 0, .int .i64 4, .int .i64 0, .int .i64 0, .int .i64 0, .slice (some ⟨wr.heap.size, 0, none⟩) 2 2, .int .i64 2, .int .i64 0, .int .i64 (A : Int), .int .i64 (-1), .slice none 0 0] 44)) := Rb.keep (w := wr.alloc (.cells #[.int .i64 0, .int .i64 1] 3)) ⟨_, heap_alloc_new wr _, rfl⟩ ((below_new _ _).block _ (by rw [World.size_alloc]; omega))
      have lA : ∀ q ∈ qs ++ [(⟨1, 0, (A : Int), -1, []⟩, .slice none 0 0), (⟨3, 1, 1, 0, []⟩, .slice none 0 0), (⟨4, 0, 0, 0, [0, 1]⟩, .slice (some ⟨wr.heap.size, 0, none⟩) 2 2), (⟨2, 0, (A : Int), -1, []⟩, .slice none 0 0)], Lq ((wr.alloc (.cells #[.int .i64 0, .int .i64 1] 3)).alloc (.cells #[.int .i64 1, .int .i64 0, .int .i64 (A : Int), .int .i64 (-1), .slice none 0 0, .int .i64 3, .int .i64 1, .int .i64 1, .int .i64 0, .slice none 0 0, .int .i64 4, .int .i64 0, .int .i64 0, .int .i64 0, .slice (some ⟨wr.heap.size, 0, none⟩) 2 2, .int .i64 2, .int .i64 0, .int .i64 (A : Int), .int .i64 (-1), .slice none 0 0] 44)) q := by
        intro q hq
        rcases List.mem_append.1 hq with hq | hq
        · exact (hP.l q hq).next bA
        · simp only [List.mem_cons, List.not_mem_nil, or_false] at hq
          rcases hq with rfl | rfl | rfl | rfl
          · exact .inl ⟨rfl, rfl⟩
          · exact .inl ⟨rfl, rfl⟩
          · exact .inr ⟨rfl, _, rfl, rbA⟩
          · exact .inl ⟨rfl, rfl⟩
      have newsA : News ((wr.alloc (.cells #[.int .i64 0, .int .i64 1] 3)).alloc (.cells #[.int .i64 1, .int .i64 0, .int .i64 (A : Int), .int .i64 (-1), .slice none 0 0, .int .i64 3, .int .i64 1, .int .i64 1, .int .i64 0, .slice none 0 0, .int .i64 4, .int .i64 0, .int .i64 0, .int .i64 0, .slice (some ⟨wr.heap.size, 0, none⟩) 2 2, .int .i64 2, .int .i64 0, .int .i64 (A : Int), .int .i64 (-1), .slice none 0 0] 44)) (.slice (some ⟨wr.heap.size + 1, 0, none⟩) 4 4) 4 5 (flatV [(⟨1, 0, (A : Int), -1, []⟩, .slice none 0 0), (⟨3, 1, 1, 0, []⟩, .slice none 0 0), (⟨4, 0, 0, 0, [0, 1]⟩, .slice (some ⟨wr.heap.size, 0, none⟩) 2 2), (⟨2, 0, (A : Int), -1, []⟩, .slice none 0 0)]) :=
        news_new (wr.alloc (.cells #[.int .i64 0, .int .i64 1] 3)) (flatV [(⟨1, 0, (A : Int), -1, []⟩, .slice none 0 0), (⟨3, 1, 1, 0, []⟩, .slice none 0 0), (⟨4, 0, 0, 0, [0, 1]⟩, .slice (some ⟨wr.heap.size, 0, none⟩) 2 2), (⟨2, 0, (A : Int), -1, []⟩, .slice none 0 0)]) 44 4 5 4 (wr.heap.size + 1) (by rw [World.size_alloc]) rfl (flatV_one _ (fun q hq => lA q (List.mem_append.2 (.inr hq))))
      have hm2 : qs.map (·.1) ++ blk (A : Int) = rep (A : Int) (k + 1) := by rw [hq]; rfl
      rw [hql] at ownA
      replace gA := hide gA
      replace ownA := hide ownA
      replace newsA := hide newsA
      replace lA := hide lA
      replace hm2 := hide hm2
      replace hP := hide hP
      replace hq := hide hq
      replace hql := hide hql
      clear rbA bA hb
      go_wp2_with (at_builtin; refine wpList_app elIns _ rfl _ _ rfl w2.heap.size _ (4 * k) (flatV qs) rfl (unhide ownA) _ 4 (flatV [(⟨1, 0, (A : Int), -1, []⟩, .slice none 0 0), (⟨3, 1, 1, 0, []⟩, .slice none 0 0), (⟨4, 0, 0, 0, [0, 1]⟩, .slice (some ⟨wr.heap.size, 0, none⟩) 2 2), (⟨2, 0, (A : Int), -1, []⟩, .slice none 0 0)]) rfl (unhide newsA) (by omega) (by omega) sA ?_; intro v6 w6 hown6 hgr6)
      have g6 := hide ((unhide gA).grown hgr6 sA (fun q hq => ((unhide ownA).lt q hq).1))
      have P6 : Pg w2.heap.size w6 v6 (qs ++ [(⟨1, 0, (A : Int), -1, []⟩, .slice none 0 0), (⟨3, 1, 1, 0, []⟩, .slice none 0 0), (⟨4, 0, 0, 0, [0, 1]⟩, .slice (some ⟨wr.heap.size, 0, none⟩) 2 2), (⟨2, 0, (A : Int), -1, []⟩, .slice none 0 0)]) := ⟨by rw [flatV_app, List.length_append, unhide hql]; exact hown6, fun q hq => (unhide lA q hq).grown (unhide ownA) hgr6⟩
      replace P6 := hide P6
      clear hown6 hgr6 newsA lA gA ownA
      go_wp2
      go_roundw
      case rel => exact ⟨k + 1, _, by omega, by go_num, unhide g6, unhide P6, by rw [List.map_append]; exact unhide hm2⟩
      case measure => first | omega | (simp; omega) | (simp [RowKit.intOf]; omega)
    · have kd : decide ((k : Int) < (T : Int)) = false := decide_eq_false (by omega)
      obtain rfl : k = T := by omega
      clear kd
      have kd : decide ((k : Int) < (k : Int)) = false := decide_eq_false (by omega)
      clear z0 z1 z2 z3 z4 z5 z6 z7 z8 z9 z10 z11
      have hql : qs.length = 4 * k := by
        have := congrArg List.length hq
        rw [List.length_map, rep_len] at this
        exact this
      have bA := below_new wr (.cells #[.int .i64 6, .int .i64 0, .int .i64 0, .int .i64 0, .slice none 0 0] 44)
      have ownA := own_next hP.own bA
      have gA := below_then hb bA
      have sA := gA.size
      have lA : ∀ q ∈ qs ++ [(⟨6, 0, 0, 0, []⟩, .slice none 0 0)], Lq (wr.alloc (.cells #[.int .i64 6, .int .i64 0, .int .i64 0, .int .i64 0, .slice none 0 0] 44)) q := by
        intro q hq
        rcases List.mem_append.1 hq with hq | hq
        · exact (hP.l q hq).next bA
        · obtain rfl := List.mem_singleton.1 hq
          exact .inl ⟨rfl, rfl⟩
      have newsA : News (wr.alloc (.cells #[.int .i64 6, .int .i64 0, .int .i64 0, .int .i64 0, .slice none 0 0] 44)) (.slice (some ⟨wr.heap.size, 0, none⟩) 1 1) 1 5 (flatV [(⟨6, 0, 0, 0, []⟩, .slice none 0 0)]) :=
        news_new wr (flatV [(⟨6, 0, 0, 0, []⟩, .slice none 0 0)]) 44 1 5 1 wr.heap.size rfl rfl (flatV_one _ (fun q hq => lA q (List.mem_append.2 (.inr hq))))
      rw [hql] at ownA
      have dE : decide ((0 : Int) < 1) = true := by decide
      replace ownA := hide ownA
      replace newsA := hide newsA
      replace lA := hide lA
      replace gA := hide gA
      replace hP := hide hP
      replace hq := hide hq
      replace hql := hide hql
      clear bA
      go_wp2_with (at_builtin; refine wpList_app elIns _ rfl _ _ rfl w2.heap.size _ (4 * k) (flatV qs) rfl (unhide ownA) _ 1 (flatV [(⟨6, 0, 0, 0, []⟩, .slice none 0 0)]) rfl (unhide newsA) (by omega) (by omega) sA ?_; intro v6 w6 hown6 hgr6; have g6 := (unhide gA).grown hgr6 sA (fun q hq => ((unhide ownA).lt q hq).1); have hx3 := (unhide hx).next g6; obtain ⟨z0, z1, z2, z3, z4, z5, z6, z7, z8, z9, z10, z11⟩ := hx3.cells; replace g6 := hide g6; replace hown6 := hide hown6; replace hgr6 := hide hgr6; replace hx3 := hide hx3)
      have P6 : Pg w2.heap.size w6 v6 (qs ++ [(⟨6, 0, 0, 0, []⟩, .slice none 0 0)]) := ⟨by rw [flatV_app, List.length_append, unhide hql]; exact unhide hown6, fun q hq => (unhide lA q hq).grown (unhide ownA) (unhide hgr6)⟩
      have hPs : Ps w6.heap.size w6 v6 (pS (A : Int) k 1) := by
        have q := P6.ps
        rw [List.map_append, unhide hq] at q
        exact q
      have hW := below_then (unhide g2) (unhide g6)
      clear hown6 hgr6 newsA lA gA ownA P6
      have kR := run_out c H _ (pS (A : Int) k 1) _ _ ((unhide hH).next hW) hPs (unhide hR)
      have q1 : R.e = 2 := unhide r1
      obtain ⟨l1, hl1⟩ : ∃ l, R.r.length = l := ⟨_, rfl⟩
      have hhl : R.h.length = n := by
        have := unhide r4
        rw [this]
        show (if (1 : Nat) = 0 then H.set A (wrap64 (H.getD A 0 + k)) else H).length = n
        rw [if_neg (show ¬ (1 : Nat) = 0 by decide), unhide hnH]
      rw [hl1, unhide r2, unhide r3, unhide r0, q1, hhl] at kR
      replace hl1 := hide hl1
      replace q1 := hide q1
      replace hhl := hide hhl
      replace hW := hide hW
      clear hPs g6 hx3
      go_wp2_with fail
      refine kR.mono ?_
      rintro e w4 ⟨ra1, rc1, da1, dc1, wa1, wc1, ha1, hc1, rfl, hh1, c4⟩
      have bo := below_new w4 (.cells #[.int .i64 2, .slice ra1 l1 rc1, .slice da1 k dc1, .slice wa1 k wc1] 30)
      have ho1 := hide (show Ob 2 (.slice ra1 l1 rc1) (.slice da1 k dc1) (.slice wa1 k wc1) w4.heap.size (w4.alloc (.cells #[.int .i64 2, .slice ra1 l1 rc1, .slice da1 k dc1, .slice wa1 k wc1] 30)) from heap_alloc_new w4 _)
      have g4 := below_then (unhide hW) (below_then c4 bo)
      have hh1 := hide (hh1.next bo)
      have kC := copy_any _ H _ ((unhide hH).next g4) (by have := unhide hnH; omega)
      rw [← unhide hnH] at kC
      replace g4 := hide g4
      clear kR c4 bo z0 z1 z2 z3 z4 z5 z6 z7 z8 z9 z10 z11
      go_wp2_with fail
      refine kC.mono ?_
      rintro e w5 ⟨a5, c5, rfl, b5, own5⟩
      obtain ⟨gw, rfl, hr5, hgB, k1, k2⟩ : ∃ g, a5 = some ⟨g, 0, none⟩ ∧ Rb g H w5 ∧ _ ≤ g ∧ H.length ≤ c5 ∧ c5 ≤ maxLen := own_rb (by rw [← unhide hnH]; exact own5) (by have := unhide hnH; omega)
      have hA2 : A < H.length := by have := unhide hnH; omega
      have hAi : (A : Int) < (n : Int) := by omega
      obtain ⟨v, hvv⟩ : ∃ v, H.getD A 0 = v := ⟨_, rfl⟩
      obtain ⟨t, ht⟩ : ∃ t, wrap64 (v + (k : Int)) = t := ⟨_, rfl⟩
      have ht2 : IntKind.i64.wrap (v + (k : Int)) = t := by rw [wrap_kin]; exact ht
      rw [hvv, ht] at r4 r5
      replace k1 := hide k1
      replace k2 := hide k2
      have ho5 := (unhide ho1).next b5
      have hh5 := (unhide hh1).next b5
      have g5 := below_then (unhide g4) b5
      have bE : ((1 : Int) == 0) = false := by decide
      have rb6 := hide hr5
      have ho6 := hide ho5
      have hh6 := hide hh5
      have g6 := hide g5
      replace hvv := hide hvv
      clear ho5 hh5 g5 b5 hr5 own5 kC
      have hRh : Hid (R.h = H) := hide (by rw [unhide r4]; simp)
      replace ht := hide ht
      have hwl : (H).length = n := by first | exact (unhide hnH).symm | (rw [List.length_set]; exact (unhide hnH).symm)
      replace hwl := hide hwl
      have od := (unhide ho6).next (Below.refl _ _).drew
      have hd := (unhide hh6).next (Below.refl _ _).drew
      have gd := below_then (unhide g6) (Below.refl _ _).drew
      have rd6 := (unhide rb6).keep (w' := (w5).drew) rfl
      obtain ⟨x0, x1, x2, x3⟩ := od.cells
      obtain ⟨_, _, s1, _, _, _, s2⟩ := ls_len ((unhide hH).next gd)
      have s5 := unhide hnH
      injection s1 with s11 s12 s13
      obtain ⟨pb, po, rfl, _, hcell⟩ := s2.at (i := A) hA2
      subst s11
      rw [unhide hvv] at hcell
      replace s12 := hide s12
      replace s13 := hide s13
      replace s5 := hide s5
      clear s2 x1
      have hk0 := unhide hz
      have kz : ((k : Int) == 0) = true := by rw [hk0]; rfl
      replace hk0 := hide hk0
      have OD := hide od
      have HD := hide hd
      have RD := hide rd6
      have GD := hide gd
      clear od hd rd6 gd
      go_wp2_with fail
      try simp only [List.append]
      refine wp_region_held_drew (S := (fun wz => wz.cell? ⟨w4.heap.size, 0, none⟩ = some (.int .i64 2) ∧ wz.cell? ⟨w4.heap.size, 2, none⟩ = some (.slice da1 k dc1) ∧ wz.cell? ⟨w4.heap.size, 3, none⟩ = some (.slice wa1 k wc1))) (by kernel_rfl) ?hS0 (fun hHeld => ?_)
      case hS0 => first | with_reducible exact ⟨x0, x2, x3⟩ | with_reducible exact ⟨y0, y2, y3⟩ | with_reducible exact ⟨u0, u2, u3⟩ | with_reducible exact ⟨v0, v2, v3⟩
      refine wpAnyH_ready (rs := [0]) (by kernel_rfl) (by simp) ?_
      refine AllReadyH.cons rfl (fun K hK => ?_) AllReadyH.nil
      go_simp
      go_wp2_with (go_at_call 9; (with_reducible refine Calls.mono (first_any _) ?_); rintro e w7 ⟨rfl, c7⟩; have y0 := (c7.cell (World.block_lt_of_cell? _ _ x0)).trans x0; have y2 := (c7.cell (World.block_lt_of_cell? _ _ x2)).trans x2; have y3 := (c7.cell (World.block_lt_of_cell? _ _ x3)).trans x3; have q := ((unhide RD).keep (c7.block _ (unhide RD).lt)).ls (cap := c5) (by first | exact unhide k1 | (rw [List.length_set]; exact unhide k1)) (unhide k2); rw [unhide hwl] at q; have kI := ints_any _ _ _ _ _ ((unhide HD).next c7).h q; rw [unhide hRh, beq_self_eq_true] at kI; have g7 := hide (below_then (unhide GD) c7); clear c7 q)
      refine hK.out _ _ (by (try dsimp only); first | with_reducible exact ⟨x0, x2, x3⟩ | with_reducible exact ⟨y0, y2, y3⟩ | with_reducible exact ⟨u0, u2, u3⟩ | with_reducible exact ⟨v0, v2, v3⟩) (fun hHeld => ?_)
      clear hK K
      try simp only [Act.put, List.setIfInBounds_toArray, List.set_cons_zero, List.set_cons_succ, List.getElem_toArray, List.getElem_cons_succ, List.getElem_cons_zero]
      refine wpAnyH_take (i := 1) (v := ?_) rfl (by kernel_rfl) (by kernel_rfl) (by kernel_rfl) (fun _ _ _ h => h) (Or.inl ⟨by rfl, ?_⟩) (by assumption) ?_
      rotate_left
      · (intro w hSw; (try dsimp only at hSw); go_simp; first | done | with_reducible rfl)
      try simp only [Act.put, List.setIfInBounds_toArray, List.set_cons_zero, List.set_cons_succ, List.getElem_toArray, List.getElem_cons_succ, List.getElem_cons_zero]
      refine wpAnyH_take (i := 2) (v := ?_) rfl (by kernel_rfl) (by kernel_rfl) (by kernel_rfl) (fun _ _ _ h => h) (Or.inl ⟨by rfl, ?_⟩) (by assumption) ?_
      rotate_left
      · (intro w hSw; (try dsimp only at hSw); go_simp; first | done | with_reducible rfl)
      try simp only [Act.put, List.setIfInBounds_toArray, List.set_cons_zero, List.set_cons_succ, List.getElem_toArray, List.getElem_cons_succ, List.getElem_cons_zero]
      refine wpAnyH_take (i := 3) (v := ?_) rfl (by kernel_rfl) (by kernel_rfl) (by kernel_rfl) (fun _ _ _ h => h) (Or.inl ⟨by rfl, ?_⟩) (by assumption) ?_
      rotate_left
      · (intro w hSw; (try dsimp only at hSw); go_simp; first | done | with_reducible rfl)
      try simp only [Act.put, List.setIfInBounds_toArray, List.set_cons_zero, List.set_cons_succ, List.getElem_toArray, List.getElem_cons_succ, List.getElem_cons_zero]
      refine wpAnyH_take (i := 4) (v := ?_) rfl (by kernel_rfl) (by kernel_rfl) (by kernel_rfl) (fun _ _ _ h => h) (Or.inl ⟨by rfl, ?_⟩) (by assumption) ?_
      rotate_left
      · (intro w hSw; (try dsimp only at hSw); go_simp; first | done | with_reducible rfl)
      try simp only [Act.put, List.setIfInBounds_toArray, List.set_cons_zero, List.set_cons_succ, List.getElem_toArray, List.getElem_cons_succ, List.getElem_cons_zero]
      refine wpAnyH_take (i := 5) (v := ?_) rfl (by kernel_rfl) (by kernel_rfl) (by kernel_rfl) (fun _ _ _ h => h) (Or.inl ⟨by rfl, ?_⟩) (by assumption) ?_
      rotate_left
      · (intro w hSw; (try dsimp only at hSw); go_simp; first | done | with_reducible rfl)
      try simp only [Act.put, List.setIfInBounds_toArray, List.set_cons_zero, List.set_cons_succ, List.getElem_toArray, List.getElem_cons_succ, List.getElem_cons_zero]
      refine wpAnyH_take (i := 6) (v := ?_) rfl (by kernel_rfl) (by kernel_rfl) (by kernel_rfl) (fun _ _ _ h => h) (Or.inl ⟨by rfl, ?_⟩) (by assumption) ?_
      rotate_left
      · (intro w hSw; (try dsimp only at hSw); go_simp; first | done | with_reducible rfl)
      try simp only [Act.put, List.setIfInBounds_toArray, List.set_cons_zero, List.set_cons_succ, List.getElem_toArray, List.getElem_cons_succ, List.getElem_cons_zero]
      refine wpAnyH_take (i := 7) (v := ?_) rfl (by kernel_rfl) (by kernel_rfl) (by kernel_rfl) (fun _ _ _ h => h) (Or.inl ⟨by rfl, ?_⟩) (by assumption) ?_
      rotate_left
      · (intro w hSw; (try dsimp only at hSw); go_simp; first | done | with_reducible rfl)
      try simp only [Act.put, List.setIfInBounds_toArray, List.set_cons_zero, List.set_cons_succ, List.getElem_toArray, List.getElem_cons_succ, List.getElem_cons_zero]
      refine wpAnyH_ready (rs := [8]) (by kernel_rfl) (by simp) ?_
      refine AllReadyH.cons rfl (fun K hK => ?_) AllReadyH.nil
      go_simp
      go_wp2_with (go_at_call 14; (with_reducible refine Calls.mono kI ?_); rintro e w8 ⟨rfl, c8⟩; have u0 := (c8.cell (World.block_lt_of_cell? _ _ y0)).trans y0; have u2 := (c8.cell (World.block_lt_of_cell? _ _ y2)).trans y2; have u3 := (c8.cell (World.block_lt_of_cell? _ _ y3)).trans y3; have c9 := below_new w8 (.cells #[.int .i64 1, .int .i64 2, .int .i64 3] 3); have v0 := (c9.cell (World.block_lt_of_cell? _ _ u0)).trans u0; have v2 := (c9.cell (World.block_lt_of_cell? _ _ u2)).trans u2; have v3 := (c9.cell (World.block_lt_of_cell? _ _ u3)).trans u3; have g9 := hide (below_then (unhide g7) (below_then c8 c9)); clear c8 c9 kI)
      refine hK.out _ _ (by (try dsimp only); first | with_reducible exact ⟨x0, x2, x3⟩ | with_reducible exact ⟨y0, y2, y3⟩ | with_reducible exact ⟨u0, u2, u3⟩ | with_reducible exact ⟨v0, v2, v3⟩) (fun hHeld => ?_)
      clear hK K
      try simp only [Act.put, List.setIfInBounds_toArray, List.set_cons_zero, List.set_cons_succ, List.getElem_toArray, List.getElem_cons_succ, List.getElem_cons_zero]
      refine wpAnyH_take (i := 9) (v := ?_) rfl (by kernel_rfl) (by kernel_rfl) (by kernel_rfl) (fun _ _ _ h => h) (Or.inl ⟨by rfl, ?_⟩) (by assumption) ?_
      rotate_left
      · (intro w hSw; (try dsimp only at hSw); go_simp; first | done | with_reducible rfl)
      try simp only [Act.put, List.setIfInBounds_toArray, List.set_cons_zero, List.set_cons_succ, List.getElem_toArray, List.getElem_cons_succ, List.getElem_cons_zero]
      refine wpAnyH_take (i := 10) (v := ?_) rfl (by kernel_rfl) (by kernel_rfl) (by kernel_rfl) (fun _ _ _ h => h) (Or.inl ⟨by rfl, ?_⟩) (by assumption) ?_
      rotate_left
      · (intro w hSw; (try dsimp only at hSw); go_simp; first | done | with_reducible rfl)
      try simp only [Act.put, List.setIfInBounds_toArray, List.set_cons_zero, List.set_cons_succ, List.getElem_toArray, List.getElem_cons_succ, List.getElem_cons_zero]
      refine wpAnyH_take (i := 11) (v := ?_) rfl (by kernel_rfl) (by kernel_rfl) (by kernel_rfl) (fun _ _ _ h => h) (Or.inl ⟨by rfl, ?_⟩) (by assumption) ?_
      rotate_left
      · (intro w hSw; (try dsimp only at hSw); go_simp; first | done | with_reducible rfl)
      try simp only [Act.put, List.setIfInBounds_toArray, List.set_cons_zero, List.set_cons_succ, List.getElem_toArray, List.getElem_cons_succ, List.getElem_cons_zero]
      refine wpAnyH_take (i := 12) (v := ?_) rfl (by kernel_rfl) (by kernel_rfl) (by kernel_rfl) (fun _ _ _ h => h) (Or.inl ⟨by rfl, ?_⟩) (by assumption) ?_
      rotate_left
      · (intro w hSw; (try dsimp only at hSw); go_simp; first | done | with_reducible rfl)
      try simp only [Act.put, List.setIfInBounds_toArray, List.set_cons_zero, List.set_cons_succ, List.getElem_toArray, List.getElem_cons_succ, List.getElem_cons_zero]
      refine wpAnyH_take (i := 14) (v := ?_) rfl (by kernel_rfl) (by kernel_rfl) (by kernel_rfl) (fun _ _ _ h => h) (Or.inl ⟨by rfl, ?_⟩) (by assumption) ?_
      rotate_left
      · (intro w hSw; (try dsimp only at hSw); go_simp; first | done | with_reducible rfl)
      try simp only [Act.put, List.setIfInBounds_toArray, List.set_cons_zero, List.set_cons_succ, List.getElem_toArray, List.getElem_cons_succ, List.getElem_cons_zero]
      refine wpAnyH_ready (rs := [13]) (by kernel_rfl) (by simp) ?_
      refine AllReadyH.cons rfl (fun K hK => ?_) AllReadyH.nil
      go_simp
      refine hK.out _ _ (by (try dsimp only); first | with_reducible exact ⟨x0, x2, x3⟩ | with_reducible exact ⟨y0, y2, y3⟩ | with_reducible exact ⟨u0, u2, u3⟩ | with_reducible exact ⟨v0, v2, v3⟩) (fun hHeld => ?_)
      clear hK K
      try simp only [Act.put, List.setIfInBounds_toArray, List.set_cons_zero, List.set_cons_succ, List.getElem_toArray, List.getElem_cons_succ, List.getElem_cons_zero]
      refine wpAnyH_take (i := 15) (v := ?_) rfl (by kernel_rfl) (by kernel_rfl) (by kernel_rfl) (fun _ _ _ h => h) (Or.inl ⟨by rfl, ?_⟩) (by assumption) ?_
      rotate_left
      · (intro w hSw; (try dsimp only at hSw); go_simp; first | done | with_reducible rfl)
      try simp only [Act.put, List.setIfInBounds_toArray, List.set_cons_zero, List.set_cons_succ, List.getElem_toArray, List.getElem_cons_succ, List.getElem_cons_zero]
      refine wpAnyH_ready (rs := [16]) (by kernel_rfl) (by simp) ?_
      refine AllReadyH.cons rfl (fun K hK => ?_) AllReadyH.nil
      go_simp
      refine hK.out _ _ (by (try dsimp only); first | with_reducible exact ⟨x0, x2, x3⟩ | with_reducible exact ⟨y0, y2, y3⟩ | with_reducible exact ⟨u0, u2, u3⟩ | with_reducible exact ⟨v0, v2, v3⟩) (fun hHeld => ?_)
      clear hK K
      try simp only [Act.put, List.setIfInBounds_toArray, List.set_cons_zero, List.set_cons_succ, List.getElem_toArray, List.getElem_cons_succ, List.getElem_cons_zero]
      refine wpAnyH_take (i := 17) (v := ?_) rfl (by kernel_rfl) (by kernel_rfl) (by kernel_rfl) (fun _ _ _ h => h) (Or.inl ⟨by rfl, ?_⟩) (by assumption) ?_
      rotate_left
      · (intro w hSw; (try dsimp only at hSw); go_simp; first | done | with_reducible rfl)
      try simp only [Act.put, List.setIfInBounds_toArray, List.set_cons_zero, List.set_cons_succ, List.getElem_toArray, List.getElem_cons_succ, List.getElem_cons_zero]
      refine wpAnyH_take (i := 18) (v := ?_) rfl (by kernel_rfl) (by kernel_rfl) (by kernel_rfl) (fun _ _ _ h => h) (Or.inl ⟨by rfl, ?_⟩) (by assumption) ?_
      rotate_left
      · (intro w hSw; (try dsimp only at hSw); go_simp; first | done | with_reducible rfl)
      try simp only [Act.put, List.setIfInBounds_toArray, List.set_cons_zero, List.set_cons_succ, List.getElem_toArray, List.getElem_cons_succ, List.getElem_cons_zero]
      refine wpAnyH_take (i := 19) (v := ?_) rfl (by kernel_rfl) (by kernel_rfl) (by kernel_rfl) (fun _ _ _ h => h) (Or.inl ⟨by rfl, ?_⟩) (by assumption) ?_
      rotate_left
      · (intro w hSw; (try dsimp only at hSw); go_simp; first | done | with_reducible rfl)
      try simp only [Act.put, List.setIfInBounds_toArray, List.set_cons_zero, List.set_cons_succ, List.getElem_toArray, List.getElem_cons_succ, List.getElem_cons_zero]
      refine wpAnyH_take (i := 20) (v := ?_) rfl (by kernel_rfl) (by kernel_rfl) (by kernel_rfl) (fun _ _ _ h => h) (Or.inl ⟨by rfl, ?_⟩) (by assumption) ?_
      rotate_left
      · (intro w hSw; (try dsimp only at hSw); go_simp; first | done | with_reducible rfl)
      try simp only [Act.put, List.setIfInBounds_toArray, List.set_cons_zero, List.set_cons_succ, List.getElem_toArray, List.getElem_cons_succ, List.getElem_cons_zero]
      refine wpAnyH_take (i := 21) (v := ?_) rfl (by kernel_rfl) (by kernel_rfl) (by kernel_rfl) (fun _ _ _ h => h) (Or.inl ⟨by rfl, ?_⟩) (by assumption) ?_
      rotate_left
      · (intro w hSw; (try dsimp only at hSw); go_simp; first | done | with_reducible rfl)
      try simp only [Act.put, List.setIfInBounds_toArray, List.set_cons_zero, List.set_cons_succ, List.getElem_toArray, List.getElem_cons_succ, List.getElem_cons_zero]
      refine wpAnyH_take (i := 22) (v := ?_) rfl (by kernel_rfl) (by kernel_rfl) (by kernel_rfl) (fun _ _ _ h => h) (Or.inl ⟨by rfl, ?_⟩) (by assumption) ?_
      rotate_left
      · (intro w hSw; (try dsimp only at hSw); go_simp; first | done | with_reducible rfl)
      try simp only [Act.put, List.setIfInBounds_toArray, List.set_cons_zero, List.set_cons_succ, List.getElem_toArray, List.getElem_cons_succ, List.getElem_cons_zero]
      refine wpAnyH_take (i := 23) (v := ?_) rfl (by kernel_rfl) (by kernel_rfl) (by kernel_rfl) (fun _ _ _ h => h) (Or.inl ⟨by rfl, ?_⟩) (by assumption) ?_
      rotate_left
      · (intro w hSw; (try dsimp only at hSw); go_simp; first | done | with_reducible rfl)
      try simp only [Act.put, List.setIfInBounds_toArray, List.set_cons_zero, List.set_cons_succ, List.getElem_toArray, List.getElem_cons_succ, List.getElem_cons_zero]
      refine wpAnyH_take (i := 24) (v := ?_) rfl (by kernel_rfl) (by kernel_rfl) (by kernel_rfl) (fun _ _ _ h => h) (Or.inl ⟨by rfl, ?_⟩) (by assumption) ?_
      rotate_left
      · (intro w hSw; (try dsimp only at hSw); go_simp; first | done | with_reducible rfl)
      try simp only [Act.put, List.setIfInBounds_toArray, List.set_cons_zero, List.set_cons_succ, List.getElem_toArray, List.getElem_cons_succ, List.getElem_cons_zero]
      refine wpAnyH_take (i := 25) (v := ?_) rfl (by kernel_rfl) (by kernel_rfl) (by kernel_rfl) (fun _ _ _ h => h) (Or.inl ⟨by rfl, ?_⟩) (by assumption) ?_
      rotate_left
      · (intro w hSw; (try dsimp only at hSw); go_simp; first | done | with_reducible rfl)
      try simp only [Act.put, List.setIfInBounds_toArray, List.set_cons_zero, List.set_cons_succ, List.getElem_toArray, List.getElem_cons_succ, List.getElem_cons_zero]
      refine wpAnyH_take (i := 26) (v := ?_) rfl (by kernel_rfl) (by kernel_rfl) (by kernel_rfl) (fun _ _ _ h => h) (Or.inl ⟨by rfl, ?_⟩) (by assumption) ?_
      rotate_left
      · (intro w hSw; (try dsimp only at hSw); go_simp; first | done | with_reducible rfl)
      try simp only [Act.put, List.setIfInBounds_toArray, List.set_cons_zero, List.set_cons_succ, List.getElem_toArray, List.getElem_cons_succ, List.getElem_cons_zero]
      refine wpAnyH_take (i := 27) (v := ?_) rfl (by kernel_rfl) (by kernel_rfl) (by kernel_rfl) (fun _ _ _ h => h) (Or.inl ⟨by rfl, ?_⟩) (by assumption) ?_
      rotate_left
      · (intro w hSw; (try dsimp only at hSw); go_simp; first | done | with_reducible rfl)
      try simp only [Act.put, List.setIfInBounds_toArray, List.set_cons_zero, List.set_cons_succ, List.getElem_toArray, List.getElem_cons_succ, List.getElem_cons_zero]
      refine wpAnyH_take (i := 28) (v := ?_) rfl (by kernel_rfl) (by kernel_rfl) (by kernel_rfl) (fun _ _ _ h => h) (Or.inl ⟨by rfl, ?_⟩) (by assumption) ?_
      rotate_left
      · (intro w hSw; (try dsimp only at hSw); go_simp; first | done | with_reducible rfl)
      try simp only [Act.put, List.setIfInBounds_toArray, List.set_cons_zero, List.set_cons_succ, List.getElem_toArray, List.getElem_cons_succ, List.getElem_cons_zero]
      refine wpAnyH_take (i := 29) (v := ?_) rfl (by kernel_rfl) (by kernel_rfl) (by kernel_rfl) (fun _ _ _ h => h) (Or.inl ⟨by rfl, ?_⟩) (by assumption) ?_
      rotate_left
      · (intro w hSw; (try dsimp only at hSw); go_simp; first | done | with_reducible rfl)
      try simp only [Act.put, List.setIfInBounds_toArray, List.set_cons_zero, List.set_cons_succ, List.getElem_toArray, List.getElem_cons_succ, List.getElem_cons_zero]
      refine wpAnyH_take (i := 30) (v := ?_) rfl (by kernel_rfl) (by kernel_rfl) (by kernel_rfl) (fun _ _ _ h => h) (Or.inl ⟨by rfl, ?_⟩) (by assumption) ?_
      rotate_left
      · (intro w hSw; (try dsimp only at hSw); go_simp; first | done | with_reducible rfl)
      try simp only [Act.put, List.setIfInBounds_toArray, List.set_cons_zero, List.set_cons_succ, List.getElem_toArray, List.getElem_cons_succ, List.getElem_cons_zero]
      refine wpAnyH_take (i := 31) (v := ?_) rfl (by kernel_rfl) (by kernel_rfl) (by kernel_rfl) (fun _ _ _ h => h) (Or.inl ⟨by rfl, ?_⟩) (by assumption) ?_
      rotate_left
      · (intro w hSw; (try dsimp only at hSw); go_simp; first | done | with_reducible rfl)
      try simp only [Act.put, List.setIfInBounds_toArray, List.set_cons_zero, List.set_cons_succ, List.getElem_toArray, List.getElem_cons_succ, List.getElem_cons_zero]
      refine wpAnyH_take (i := 32) (v := ?_) rfl (by kernel_rfl) (by kernel_rfl) (by kernel_rfl) (fun _ _ _ h => h) (Or.inl ⟨by rfl, ?_⟩) (by assumption) ?_
      rotate_left
      · (intro w hSw; (try dsimp only at hSw); go_simp; first | done | with_reducible rfl)
      try simp only [Act.put, List.setIfInBounds_toArray, List.set_cons_zero, List.set_cons_succ, List.getElem_toArray, List.getElem_cons_succ, List.getElem_cons_zero]
      refine wpAnyH_take (i := 33) (v := ?_) rfl (by kernel_rfl) (by kernel_rfl) (by kernel_rfl) (fun _ _ _ h => h) (Or.inl ⟨by rfl, ?_⟩) (by assumption) ?_
      rotate_left
      · (intro w hSw; (try dsimp only at hSw); go_simp; first | done | with_reducible rfl)
      try simp only [Act.put, List.setIfInBounds_toArray, List.set_cons_zero, List.set_cons_succ, List.getElem_toArray, List.getElem_cons_succ, List.getElem_cons_zero]
      refine wpAnyH_take (i := 34) (v := ?_) rfl (by kernel_rfl) (by kernel_rfl) (by kernel_rfl) (fun _ _ _ h => h) (Or.inl ⟨by rfl, ?_⟩) (by assumption) ?_
      rotate_left
      · (intro w hSw; (try dsimp only at hSw); go_simp; first | done | with_reducible rfl)
      try simp only [Act.put, List.setIfInBounds_toArray, List.set_cons_zero, List.set_cons_succ, List.getElem_toArray, List.getElem_cons_succ, List.getElem_cons_zero]
      refine wpAnyH_take (i := 35) (v := ?_) rfl (by kernel_rfl) (by kernel_rfl) (by kernel_rfl) (fun _ _ _ h => h) (Or.inl ⟨by rfl, ?_⟩) (by assumption) ?_
      rotate_left
      · (intro w hSw; (try dsimp only at hSw); go_simp; first | done | with_reducible rfl)
      try simp only [Act.put, List.setIfInBounds_toArray, List.set_cons_zero, List.set_cons_succ, List.getElem_toArray, List.getElem_cons_succ, List.getElem_cons_zero]
      refine wpAnyH_take (i := 36) (v := ?_) rfl (by kernel_rfl) (by kernel_rfl) (by kernel_rfl) (fun _ _ _ h => h) (Or.inl ⟨by rfl, ?_⟩) (by assumption) ?_
      rotate_left
      · (intro w hSw; (try dsimp only at hSw); go_simp; first | done | with_reducible rfl)
      try simp only [Act.put, List.setIfInBounds_toArray, List.set_cons_zero, List.set_cons_succ, List.getElem_toArray, List.getElem_cons_succ, List.getElem_cons_zero]
      refine wpAnyH_take (i := 37) (v := undef) rfl (by kernel_rfl) (by kernel_rfl) (by kernel_rfl) (fun _ _ _ h => h) (Or.inr ⟨by rfl, rfl⟩) (by assumption) ?_
      try simp only [Act.put, List.setIfInBounds_toArray, List.set_cons_zero, List.set_cons_succ, List.getElem_toArray, List.getElem_cons_succ, List.getElem_cons_zero]
      refine wpAnyH_take (i := 38) (v := undef) rfl (by kernel_rfl) (by kernel_rfl) (by kernel_rfl) (fun _ _ _ h => h) (Or.inr ⟨by rfl, rfl⟩) (by assumption) ?_
      try simp only [Act.put, List.setIfInBounds_toArray, List.set_cons_zero, List.set_cons_succ, List.getElem_toArray, List.getElem_cons_succ, List.getElem_cons_zero]
      refine wpAnyH_take (i := 39) (v := undef) rfl (by kernel_rfl) (by kernel_rfl) (by kernel_rfl) (fun _ _ _ h => h) (Or.inr ⟨by rfl, rfl⟩) (by assumption) ?_
      try simp only [Act.put, List.setIfInBounds_toArray, List.set_cons_zero, List.set_cons_succ, List.getElem_toArray, List.getElem_cons_succ, List.getElem_cons_zero]
      refine wpAnyH_take (i := 40) (v := undef) rfl (by kernel_rfl) (by kernel_rfl) (by kernel_rfl) (fun _ _ _ h => h) (Or.inr ⟨by rfl, rfl⟩) (by assumption) ?_
      try simp only [Act.put, List.setIfInBounds_toArray, List.set_cons_zero, List.set_cons_succ, List.getElem_toArray, List.getElem_cons_succ, List.getElem_cons_zero]
      refine wpAnyH_take (i := 41) (v := undef) rfl (by kernel_rfl) (by kernel_rfl) (by kernel_rfl) (fun _ _ _ h => h) (Or.inr ⟨by rfl, rfl⟩) (by assumption) ?_
      try simp only [Act.put, List.setIfInBounds_toArray, List.set_cons_zero, List.set_cons_succ, List.getElem_toArray, List.getElem_cons_succ, List.getElem_cons_zero]
      refine wpAnyH_take (i := 42) (v := undef) rfl (by kernel_rfl) (by kernel_rfl) (by kernel_rfl) (fun _ _ _ h => h) (Or.inr ⟨by rfl, rfl⟩) (by assumption) ?_
      try simp only [Act.put, List.setIfInBounds_toArray, List.set_cons_zero, List.set_cons_succ, List.getElem_toArray, List.getElem_cons_succ, List.getElem_cons_zero]
      refine wpAnyH_take (i := 43) (v := undef) rfl (by kernel_rfl) (by kernel_rfl) (by kernel_rfl) (fun _ _ _ h => h) (Or.inr ⟨by rfl, rfl⟩) (by assumption) ?_
      try simp only [Act.put, List.setIfInBounds_toArray, List.set_cons_zero, List.set_cons_succ, List.getElem_toArray, List.getElem_cons_succ, List.getElem_cons_zero]
      refine wpAnyH_take (i := 44) (v := undef) rfl (by kernel_rfl) (by kernel_rfl) (by kernel_rfl) (fun _ _ _ h => h) (Or.inr ⟨by rfl, rfl⟩) (by assumption) ?_
      try simp only [Act.put, List.setIfInBounds_toArray, List.set_cons_zero, List.set_cons_succ, List.getElem_toArray, List.getElem_cons_succ, List.getElem_cons_zero]
      refine wpAnyH_take (i := 45) (v := undef) rfl (by kernel_rfl) (by kernel_rfl) (by kernel_rfl) (fun _ _ _ h => h) (Or.inr ⟨by rfl, rfl⟩) (by assumption) ?_
      try simp only [Act.put, List.setIfInBounds_toArray, List.set_cons_zero, List.set_cons_succ, List.getElem_toArray, List.getElem_cons_succ, List.getElem_cons_zero]
      refine wpAnyH_take (i := 46) (v := undef) rfl (by kernel_rfl) (by kernel_rfl) (by kernel_rfl) (fun _ _ _ h => h) (Or.inr ⟨by rfl, rfl⟩) (by assumption) ?_
      try simp only [Act.put, List.setIfInBounds_toArray, List.set_cons_zero, List.set_cons_succ, List.getElem_toArray, List.getElem_cons_succ, List.getElem_cons_zero]
      refine wpAnyH_take (i := 47) (v := undef) rfl (by kernel_rfl) (by kernel_rfl) (by kernel_rfl) (fun _ _ _ h => h) (Or.inr ⟨by rfl, rfl⟩) (by assumption) ?_
      try simp only [Act.put, List.setIfInBounds_toArray, List.set_cons_zero, List.set_cons_succ, List.getElem_toArray, List.getElem_cons_succ, List.getElem_cons_zero]
      refine wpAnyH_take (i := 48) (v := undef) rfl (by kernel_rfl) (by kernel_rfl) (by kernel_rfl) (fun _ _ _ h => h) (Or.inr ⟨by rfl, rfl⟩) (by assumption) ?_
      try simp only [Act.put, List.setIfInBounds_toArray, List.set_cons_zero, List.set_cons_succ, List.getElem_toArray, List.getElem_cons_succ, List.getElem_cons_zero]
      refine wpAnyH_take (i := 49) (v := undef) rfl (by kernel_rfl) (by kernel_rfl) (by kernel_rfl) (fun _ _ _ h => h) (Or.inr ⟨by rfl, rfl⟩) (by assumption) ?_
      try simp only [Act.put, List.setIfInBounds_toArray, List.set_cons_zero, List.set_cons_succ, List.getElem_toArray, List.getElem_cons_succ, List.getElem_cons_zero]
      refine wpAnyH_take (i := 50) (v := undef) rfl (by kernel_rfl) (by kernel_rfl) (by kernel_rfl) (fun _ _ _ h => h) (Or.inr ⟨by rfl, rfl⟩) (by assumption) ?_
      try simp only [Act.put, List.setIfInBounds_toArray, List.set_cons_zero, List.set_cons_succ, List.getElem_toArray, List.getElem_cons_succ, List.getElem_cons_zero]
      refine wpAnyH_take (i := 51) (v := undef) rfl (by kernel_rfl) (by kernel_rfl) (by kernel_rfl) (fun _ _ _ h => h) (Or.inr ⟨by rfl, rfl⟩) (by assumption) ?_
      try simp only [Act.put, List.setIfInBounds_toArray, List.set_cons_zero, List.set_cons_succ, List.getElem_toArray, List.getElem_cons_succ, List.getElem_cons_zero]
      refine wpAnyH_take (i := 52) (v := undef) rfl (by kernel_rfl) (by kernel_rfl) (by kernel_rfl) (fun _ _ _ h => h) (Or.inr ⟨by rfl, rfl⟩) (by assumption) ?_
      try simp only [Act.put, List.setIfInBounds_toArray, List.set_cons_zero, List.set_cons_succ, List.getElem_toArray, List.getElem_cons_succ, List.getElem_cons_zero]
      refine wpAnyH_take (i := 53) (v := undef) rfl (by kernel_rfl) (by kernel_rfl) (by kernel_rfl) (fun _ _ _ h => h) (Or.inr ⟨by rfl, rfl⟩) (by assumption) ?_
      try simp only [Act.put, List.setIfInBounds_toArray, List.set_cons_zero, List.set_cons_succ, List.getElem_toArray, List.getElem_cons_succ, List.getElem_cons_zero]
      refine wpAnyH_take (i := 54) (v := undef) rfl (by kernel_rfl) (by kernel_rfl) (by kernel_rfl) (fun _ _ _ h => h) (Or.inr ⟨by rfl, rfl⟩) (by assumption) ?_
      try simp only [Act.put, List.setIfInBounds_toArray, List.set_cons_zero, List.set_cons_succ, List.getElem_toArray, List.getElem_cons_succ, List.getElem_cons_zero]
      refine wpAnyH_take (i := 55) (v := undef) rfl (by kernel_rfl) (by kernel_rfl) (by kernel_rfl) (fun _ _ _ h => h) (Or.inr ⟨by rfl, rfl⟩) (by assumption) ?_
      try simp only [Act.put, List.setIfInBounds_toArray, List.set_cons_zero, List.set_cons_succ, List.getElem_toArray, List.getElem_cons_succ, List.getElem_cons_zero]
      refine wpAnyH_take (i := 56) (v := undef) rfl (by kernel_rfl) (by kernel_rfl) (by kernel_rfl) (fun _ _ _ h => h) (Or.inr ⟨by rfl, rfl⟩) (by assumption) ?_
      try simp only [Act.put, List.setIfInBounds_toArray, List.set_cons_zero, List.set_cons_succ, List.getElem_toArray, List.getElem_cons_succ, List.getElem_cons_zero]
      refine wpAnyH_take (i := 57) (v := undef) rfl (by kernel_rfl) (by kernel_rfl) (by kernel_rfl) (fun _ _ _ h => h) (Or.inr ⟨by rfl, rfl⟩) (by assumption) ?_
      try simp only [Act.put, List.setIfInBounds_toArray, List.set_cons_zero, List.set_cons_succ, List.getElem_toArray, List.getElem_cons_succ, List.getElem_cons_zero]
      refine wpAnyH_take (i := 58) (v := undef) rfl (by kernel_rfl) (by kernel_rfl) (by kernel_rfl) (fun _ _ _ h => h) (Or.inr ⟨by rfl, rfl⟩) (by assumption) ?_
      try simp only [Act.put, List.setIfInBounds_toArray, List.set_cons_zero, List.set_cons_succ, List.getElem_toArray, List.getElem_cons_succ, List.getElem_cons_zero]
      refine wpAnyH_take (i := 59) (v := undef) rfl (by kernel_rfl) (by kernel_rfl) (by kernel_rfl) (fun _ _ _ h => h) (Or.inr ⟨by rfl, rfl⟩) (by assumption) ?_
      try simp only [Act.put, List.setIfInBounds_toArray, List.set_cons_zero, List.set_cons_succ, List.getElem_toArray, List.getElem_cons_succ, List.getElem_cons_zero]
      refine wpAnyH_take (i := 60) (v := undef) rfl (by kernel_rfl) (by kernel_rfl) (by kernel_rfl) (fun _ _ _ h => h) (Or.inr ⟨by rfl, rfl⟩) (by assumption) ?_
      try simp only [Act.put, List.setIfInBounds_toArray, List.set_cons_zero, List.set_cons_succ, List.getElem_toArray, List.getElem_cons_succ, List.getElem_cons_zero]
      refine wpAnyH_take (i := 61) (v := undef) rfl (by kernel_rfl) (by kernel_rfl) (by kernel_rfl) (fun _ _ _ h => h) (Or.inr ⟨by rfl, rfl⟩) (by assumption) ?_
      try simp only [Act.put, List.setIfInBounds_toArray, List.set_cons_zero, List.set_cons_succ, List.getElem_toArray, List.getElem_cons_succ, List.getElem_cons_zero]
      refine wpAnyH_take (i := 62) (v := undef) rfl (by kernel_rfl) (by kernel_rfl) (by kernel_rfl) (fun _ _ _ h => h) (Or.inr ⟨by rfl, rfl⟩) (by assumption) ?_
      try simp only [Act.put, List.setIfInBounds_toArray, List.set_cons_zero, List.set_cons_succ, List.getElem_toArray, List.getElem_cons_succ, List.getElem_cons_zero]
      refine wpAnyH_take (i := 63) (v := ?_) rfl (by kernel_rfl) (by kernel_rfl) (by kernel_rfl) (fun _ _ _ h => h) (Or.inl ⟨by rfl, ?_⟩) (by assumption) ?_
      rotate_left
      · (intro w hSw; (try dsimp only at hSw); go_simp; first | done | with_reducible rfl)
      try simp only [Act.put, List.setIfInBounds_toArray, List.set_cons_zero, List.set_cons_succ, List.getElem_toArray, List.getElem_cons_succ, List.getElem_cons_zero]
      refine wpAnyH_take (i := 64) (v := ?_) rfl (by kernel_rfl) (by kernel_rfl) (by kernel_rfl) (fun _ _ _ h => h) (Or.inl ⟨by rfl, ?_⟩) (by assumption) ?_
      rotate_left
      · (intro w hSw; (try dsimp only at hSw); go_simp; first | done | with_reducible rfl)
      try simp only [Act.put, List.setIfInBounds_toArray, List.set_cons_zero, List.set_cons_succ, List.getElem_toArray, List.getElem_cons_succ, List.getElem_cons_zero]
      refine wpAnyH_take (i := 65) (v := ?_) rfl (by kernel_rfl) (by kernel_rfl) (by kernel_rfl) (fun _ _ _ h => h) (Or.inl ⟨by rfl, ?_⟩) (by assumption) ?_
      rotate_left
      · (intro w hSw; (try dsimp only at hSw); go_simp; first | done | with_reducible rfl)
      try simp only [Act.put, List.setIfInBounds_toArray, List.set_cons_zero, List.set_cons_succ, List.getElem_toArray, List.getElem_cons_succ, List.getElem_cons_zero]
      refine wpAnyH_done (by kernel_rfl) ?_ _
      go_wp2
      go_ret
      exact ⟨by first | rfl | simp, unhide g9⟩
end Go.Proofs.Ytdhfpfkcbcgnaaa
