/- The walk of PlainRuns: it answers true. -/
import Derived.Test.YtdhfpfkcbcgnaaaFirst
import Derived.Test.YtdhfpfkcbcgnaaaPure
import Derived.Test.YtdhfpfkcbcgnaaaFew
import Derived.Test.YtdhfpfkcbcgnaaaRouts
import Derived.Test.YtdhfpfkcbcgnaaaRrn
namespace Go.Proofs.Ytdhfpfkcbcgnaaa
open Go.RowKit

theorem ob_drew {e : Int} {rv dv wv : Value} {b : Nat} {w : World} (h : Ob e rv dv wv b w) : Ob e rv dv wv b w.drew := h
theorem ob_four4 {e1 e2 e3 e4 : Int} {r1 d1 t1 r2 d2 t2 r3 d3 t3 r4 d4 t4 : Value} {b1 b2 b3 b4 : Nat} {w : World} (h1 : Ob e1 r1 d1 t1 b1 w) (h2 : Ob e2 r2 d2 t2 b2 w) (h3 : Ob e3 r3 d3 t3 b3 w) (h4 : Ob e4 r4 d4 t4 b4 w) :
    w.cell? ⟨b1, 0, none⟩ = some (.int .i64 e1) ∧ w.cell? ⟨b1, 1, none⟩ = some r1 ∧ w.cell? ⟨b1, 2, none⟩ = some d1 ∧ w.cell? ⟨b1, 3, none⟩ = some t1 ∧ w.cell? ⟨b2, 0, none⟩ = some (.int .i64 e2) ∧ w.cell? ⟨b2, 1, none⟩ = some r2 ∧ w.cell? ⟨b2, 2, none⟩ = some d2 ∧ w.cell? ⟨b2, 3, none⟩ = some t2 ∧ w.cell? ⟨b3, 0, none⟩ = some (.int .i64 e3) ∧ w.cell? ⟨b3, 1, none⟩ = some r3 ∧ w.cell? ⟨b3, 2, none⟩ = some d3 ∧ w.cell? ⟨b3, 3, none⟩ = some t3 ∧ w.cell? ⟨b4, 0, none⟩ = some (.int .i64 e4) ∧ w.cell? ⟨b4, 1, none⟩ = some r4 ∧ w.cell? ⟨b4, 2, none⟩ = some d4 ∧ w.cell? ⟨b4, 3, none⟩ = some t4 := by
  obtain ⟨s0, s1, s2, s3⟩ := h1.cells
  obtain ⟨x0, x1, x2, x3⟩ := h2.cells
  obtain ⟨u0, u1, u2, u3⟩ := h3.cells
  obtain ⟨v0, v1, v2, v3⟩ := h4.cells
  exact ⟨s0, s1, s2, s3, x0, x1, x2, x3, u0, u1, u2, u3, v0, v1, v2, v3⟩
theorem rrun_out (c : Cf) (H : List Int) (hv : Value) (ps : List In) (pv : Value) (w : World) (hH : Ls w.heap.size w hv H) (hp : Ps w.heap.size w pv ps) {R : Rn} (hR : runD c H ps = R) :
    Calls Try.prog 12 #[.agg #[.int .i64 c.r, .int .i64 c.o, .int .i64 c.s, .int .i64 c.d, .int .i64 c.t, .int .i64 c.l, .int .i64 c.g, .int .i64 c.k, .int .i64 c.u, .int .i64 c.e, .int .i64 c.i, .int .i64 c.p], hv, pv] w fun r w' => ∃ ra rc da dc wa wc ha hc, r = .returned (.tuple #[.agg #[.int .i64 R.e, .slice ra R.r.length rc, .slice da R.rd.length dc, .slice wa R.wr.length wc], .slice ha R.h.length hc, .int .i64 R.x]) ∧ Held R (.slice ra R.r.length rc) (.slice da R.rd.length dc) (.slice wa R.wr.length wc) (.slice ha R.h.length hc) w' ∧ Below w.heap.size w w' := by
  subst hR
  exact (rrun_any c H hv ps pv w hH hp).mono fun _ _ h => ran_out h
set_option maxRecDepth 100000 in
set_option maxHeartbeats 4000000 in
theorem plainRuns_walk (c : Cf) (a : Option Addr) (n cap : Nat) (H : List Int) (a' : Option Addr) (n' cap' : Nat) (ps : List In) (a'' : Option Addr) (n'' cap'' : Nat) (qs : List In) (w : World) (hH : Ls w.heap.size w (.slice a n cap) H) (_hwf : ∀ x ∈ H, (Lit.int .i64 x).wf = true) (hp : Ps w.heap.size w (.slice a' n' cap') ps) (_hfi : ∀ x ∈ ps, Fi x) (hq : Ps w.heap.size w (.slice a'' n'' cap'') qs) (_hfq : ∀ x ∈ qs, Fi x) :
    Calls Try.prog 3 #[cv c, .slice a n cap, .slice a' n' cap', .slice a'' n'' cap''] w fun e w' => e = .returned (.bool true) ∧ Below w.heap.size w w' := by
  have hmax : maxLen = 9223372036854775807 := rfl
  have hnl : n ≤ cap ∧ cap ≤ maxLen := by obtain ⟨_, _, _, e, h1, h2, _⟩ := hH; cases e; exact ⟨h1, h2⟩
  have hx := hide (bx_new c w)
  have g0 := below_new w (.cells #[.int .i64 c.r, .int .i64 c.o, .int .i64 c.s, .int .i64 c.d, .int .i64 c.t, .int .i64 c.l, .int .i64 c.g, .int .i64 c.k, .int .i64 c.u, .int .i64 c.e, .int .i64 c.i, .int .i64 c.p] 23)
  unfold cv
  go_enter Try.func3, Try.ntmps3
  go_wp2_with fail
  refine (first_any _).mono ?_
  rintro e w1 ⟨rfl, c1⟩
  have g1 := below_then g0 c1
  have hx := hide ((unhide hx).next c1)
  have hH1 := hH.next g1
  have hp1 := hp.next g1
  have hq1 := hq.next g1
  have kF := few_any ps _ w1 hp1
  have kG := few_any qs _ w1 hq1
  obtain ⟨R, hR⟩ : ∃ R, runD c H ps = R := ⟨_, rfl⟩
  obtain ⟨S, hS⟩ : ∃ S, runD c H qs = S := ⟨_, rfl⟩
  have kR := run_out c H _ ps _ w1 hH1 hp1 hR
  replace g1 := hide g1
  replace hR := hide hR
  replace hS := hide hS
  replace hH := hide hH
  replace hp := hide hp
  replace hq := hide hq
  clear c1 hH1 hp1 hq1 g0
  go_wp2_with fail
  refine kF.mono ?_
  rintro e _ ⟨bF, rfl, _, rfl⟩
  clear kF
  cases bF
  · go_wp2_with fail
    refine (first_any _).mono ?_
    rintro e w2 ⟨rfl, c2⟩
    have g2 := hide (below_then (unhide g1) c2)
    clear c2
    go_wp2
    go_ret
    exact ⟨rfl, unhide g2⟩
  go_wp2_with fail
  refine kG.mono ?_
  rintro e _ ⟨bG, rfl, _, rfl⟩
  clear kG
  cases bG
  · go_wp2_with fail
    refine (first_any _).mono ?_
    rintro e w2 ⟨rfl, c2⟩
    have g2 := hide (below_then (unhide g1) c2)
    clear c2
    go_wp2
    go_ret
    exact ⟨rfl, unhide g2⟩
  by_cases h5 : 5000 < n
  · have d5 : decide ((5000 : Int) < (n : Int)) = true := decide_eq_true (by omega)
    go_wp2_with fail
    refine (first_any _).mono ?_
    rintro e w2 ⟨rfl, c2⟩
    have g2 := hide (below_then (unhide g1) c2)
    clear c2
    go_wp2
    go_ret
    exact ⟨rfl, unhide g2⟩
  have d5 : decide ((5000 : Int) < (n : Int)) = false := decide_eq_false (by omega)
  obtain ⟨l1, hl1⟩ : ∃ l, R.r.length = l := ⟨_, rfl⟩
  obtain ⟨l2, hl2⟩ : ∃ l, R.rd.length = l := ⟨_, rfl⟩
  obtain ⟨l3, hl3⟩ : ∃ l, R.wr.length = l := ⟨_, rfl⟩
  obtain ⟨l4, hl4⟩ : ∃ l, R.h.length = l := ⟨_, rfl⟩
  obtain ⟨x, hxx⟩ : ∃ x, R.x = x := ⟨_, rfl⟩
  obtain ⟨m1, hm1⟩ : ∃ l, S.r.length = l := ⟨_, rfl⟩
  obtain ⟨m2, hm2⟩ : ∃ l, S.rd.length = l := ⟨_, rfl⟩
  obtain ⟨m3, hm3⟩ : ∃ l, S.wr.length = l := ⟨_, rfl⟩
  obtain ⟨m4, hm4⟩ : ∃ l, S.h.length = l := ⟨_, rfl⟩
  obtain ⟨y, hyy⟩ : ∃ x, S.x = x := ⟨_, rfl⟩
  rw [hl1, hl2, hl3, hl4, hxx] at kR
  replace hl1 := hide hl1
  replace hl2 := hide hl2
  replace hl3 := hide hl3
  replace hl4 := hide hl4
  replace hxx := hide hxx
  replace hm1 := hide hm1
  replace hm2 := hide hm2
  replace hm3 := hide hm3
  replace hm4 := hide hm4
  replace hyy := hide hyy
  obtain ⟨z0, z1, z2, z3, z4, z5, z6, z7, z8, z9, z10, z11⟩ := (unhide hx).cells
  go_wp2_with fail
  refine kR.mono ?_
  rintro e w2 ⟨ra1, rc1, da1, dc1, wa1, wc1, ha1, hc1, rfl, hh1, c1⟩
  have bo := below_new w2 (.cells #[.int .i64 R.e, .slice ra1 l1 rc1, .slice da1 l2 dc1, .slice wa1 l3 wc1] 30)
  have ho1 := hide (show Ob R.e (.slice ra1 l1 rc1) (.slice da1 l2 dc1) (.slice wa1 l3 wc1) w2.heap.size (w2.alloc (.cells #[.int .i64 R.e, .slice ra1 l1 rc1, .slice da1 l2 dc1, .slice wa1 l3 wc1] 30)) from heap_alloc_new w2 _)
  have hh1 := hide (hh1.next bo)
  have g2 := below_then (unhide g1) (below_then c1 bo)
  have hx := hide ((unhide hx).next (below_then c1 bo))
  have kR2 := rrun_out  c H _ ps _ _ ((unhide hH).next g2) ((unhide hp).next g2) (unhide hR)
  rw [unhide hl1, unhide hl2, unhide hl3, unhide hl4, unhide hxx] at kR2
  replace g2 := hide g2
  clear kR c1 bo z0 z1 z2 z3 z4 z5 z6 z7 z8 z9 z10 z11
  obtain ⟨z0, z1, z2, z3, z4, z5, z6, z7, z8, z9, z10, z11⟩ := (unhide hx).cells
  go_wp2_with fail
  refine kR2.mono ?_
  rintro e w3 ⟨ra2, rc2, da2, dc2, wa2, wc2, ha2, hc2, rfl, hh2, c2⟩
  have bo := below_new w3 (.cells #[.int .i64 R.e, .slice ra2 l1 rc2, .slice da2 l2 dc2, .slice wa2 l3 wc2] 30)
  have ho2 := hide (show Ob R.e (.slice ra2 l1 rc2) (.slice da2 l2 dc2) (.slice wa2 l3 wc2) w3.heap.size (w3.alloc (.cells #[.int .i64 R.e, .slice ra2 l1 rc2, .slice da2 l2 dc2, .slice wa2 l3 wc2] 30)) from heap_alloc_new w3 _)
  have ho1 := hide ((unhide ho1).next (below_then c2 bo))
  have hh1 := hide ((unhide hh1).next (below_then c2 bo))
  have hh2 := hide (hh2.next bo)
  have g3 := below_then (unhide g2) (below_then c2 bo)
  have hx := hide ((unhide hx).next (below_then c2 bo))
  have kR3 := run_out c H _ qs _ _ ((unhide hH).next g3) ((unhide hq).next g3) (unhide hS)
  rw [unhide hm1, unhide hm2, unhide hm3, unhide hm4, unhide hyy] at kR3
  replace g3 := hide g3
  clear kR2 c2 bo z0 z1 z2 z3 z4 z5 z6 z7 z8 z9 z10 z11
  obtain ⟨z0, z1, z2, z3, z4, z5, z6, z7, z8, z9, z10, z11⟩ := (unhide hx).cells
  go_wp2_with fail
  refine kR3.mono ?_
  rintro e w4 ⟨ra3, rc3, da3, dc3, wa3, wc3, ha3, hc3, rfl, hh3, c3⟩
  have bo := below_new w4 (.cells #[.int .i64 S.e, .slice ra3 m1 rc3, .slice da3 m2 dc3, .slice wa3 m3 wc3] 30)
  have ho3 := hide (show Ob S.e (.slice ra3 m1 rc3) (.slice da3 m2 dc3) (.slice wa3 m3 wc3) w4.heap.size (w4.alloc (.cells #[.int .i64 S.e, .slice ra3 m1 rc3, .slice da3 m2 dc3, .slice wa3 m3 wc3] 30)) from heap_alloc_new w4 _)
  have ho1 := hide ((unhide ho1).next (below_then c3 bo))
  have hh1 := hide ((unhide hh1).next (below_then c3 bo))
  have ho2 := hide ((unhide ho2).next (below_then c3 bo))
  have hh2 := hide ((unhide hh2).next (below_then c3 bo))
  have hh3 := hide (hh3.next bo)
  have g4 := below_then (unhide g3) (below_then c3 bo)
  have hx := hide ((unhide hx).next (below_then c3 bo))
  have kR4 := rrun_out  c H _ qs _ _ ((unhide hH).next g4) ((unhide hq).next g4) (unhide hS)
  rw [unhide hm1, unhide hm2, unhide hm3, unhide hm4, unhide hyy] at kR4
  replace g4 := hide g4
  clear kR3 c3 bo z0 z1 z2 z3 z4 z5 z6 z7 z8 z9 z10 z11
  obtain ⟨z0, z1, z2, z3, z4, z5, z6, z7, z8, z9, z10, z11⟩ := (unhide hx).cells
  go_wp2_with fail
  refine kR4.mono ?_
  rintro e w5 ⟨ra4, rc4, da4, dc4, wa4, wc4, ha4, hc4, rfl, hh4, c4⟩
  have bo := below_new w5 (.cells #[.int .i64 S.e, .slice ra4 m1 rc4, .slice da4 m2 dc4, .slice wa4 m3 wc4] 30)
  have ho4 := hide (show Ob S.e (.slice ra4 m1 rc4) (.slice da4 m2 dc4) (.slice wa4 m3 wc4) w5.heap.size (w5.alloc (.cells #[.int .i64 S.e, .slice ra4 m1 rc4, .slice da4 m2 dc4, .slice wa4 m3 wc4] 30)) from heap_alloc_new w5 _)
  have ho1 := hide ((unhide ho1).next (below_then c4 bo))
  have hh1 := hide ((unhide hh1).next (below_then c4 bo))
  have ho2 := hide ((unhide ho2).next (below_then c4 bo))
  have hh2 := hide ((unhide hh2).next (below_then c4 bo))
  have ho3 := hide ((unhide ho3).next (below_then c4 bo))
  have hh3 := hide ((unhide hh3).next (below_then c4 bo))
  have hh4 := hide (hh4.next bo)
  have g5 := below_then (unhide g4) (below_then c4 bo)
  have hx := hide ((unhide hx).next (below_then c4 bo))
  replace g5 := hide g5
  clear kR4 c4 bo z0 z1 z2 z3 z4 z5 z6 z7 z8 z9 z10 z11
  have ho1 := hide (ob_drew (unhide ho1))
  have ho2 := hide (ob_drew (unhide ho2))
  have ho3 := hide (ob_drew (unhide ho3))
  have ho4 := hide (ob_drew (unhide ho4))
  have hh1 := hide ((unhide hh1).next (Below.drew (Below.refl _ _)))
  have hh2 := hide ((unhide hh2).next (Below.drew (Below.refl _ _)))
  have hh3 := hide ((unhide hh3).next (Below.drew (Below.refl _ _)))
  have hh4 := hide ((unhide hh4).next (Below.drew (Below.refl _ _)))
  have g5 := hide (unhide g5).drew
  obtain ⟨bb, hbb⟩ : ∃ b, sameO R S = b := ⟨_, rfl⟩
  replace hbb := hide hbb
  clear hx hR hS hH hp hq hl1 hl2 hl3 hl4 hxx hm1 hm2 hm3 hm4 hyy hnl
  go_wp2_with fail
  go_region_held3 (fun wz => wz.cell? ⟨w2.heap.size, 0, none⟩ = some (.int .i64 R.e) ∧ wz.cell? ⟨w2.heap.size, 1, none⟩ = some (.slice ra1 l1 rc1) ∧ wz.cell? ⟨w2.heap.size, 2, none⟩ = some (.slice da1 l2 dc1) ∧ wz.cell? ⟨w2.heap.size, 3, none⟩ = some (.slice wa1 l3 wc1) ∧ wz.cell? ⟨w3.heap.size, 0, none⟩ = some (.int .i64 R.e) ∧ wz.cell? ⟨w3.heap.size, 1, none⟩ = some (.slice ra2 l1 rc2) ∧ wz.cell? ⟨w3.heap.size, 2, none⟩ = some (.slice da2 l2 dc2) ∧ wz.cell? ⟨w3.heap.size, 3, none⟩ = some (.slice wa2 l3 wc2) ∧ wz.cell? ⟨w4.heap.size, 0, none⟩ = some (.int .i64 S.e) ∧ wz.cell? ⟨w4.heap.size, 1, none⟩ = some (.slice ra3 m1 rc3) ∧ wz.cell? ⟨w4.heap.size, 2, none⟩ = some (.slice da3 m2 dc3) ∧ wz.cell? ⟨w4.heap.size, 3, none⟩ = some (.slice wa3 m3 wc3) ∧ wz.cell? ⟨w5.heap.size, 0, none⟩ = some (.int .i64 S.e) ∧ wz.cell? ⟨w5.heap.size, 1, none⟩ = some (.slice ra4 m1 rc4) ∧ wz.cell? ⟨w5.heap.size, 2, none⟩ = some (.slice da4 m2 dc4) ∧ wz.cell? ⟨w5.heap.size, 3, none⟩ = some (.slice wa4 m3 wc4)) (exact ob_four4 (unhide ho1) (unhide ho2) (unhide ho3) (unhide ho4))
    (first
      | (go_at_call 9; refine (first_any _).mono ?_; rintro e w6 ⟨rfl, c6⟩; have g6 := hide (below_then (unhide g5) c6); have ho1 := hide ((unhide ho1).next c6); have hh1 := hide ((unhide hh1).next c6); have ho2 := hide ((unhide ho2).next c6); have hh2 := hide ((unhide hh2).next c6); have ho3 := hide ((unhide ho3).next c6); have hh3 := hide ((unhide hh3).next c6); have ho4 := hide ((unhide ho4).next c6); have hh4 := hide ((unhide hh4).next c6);
         have kS := sameOut_any R R ra1 l1 rc1 da1 l2 dc1 wa1 l3 wc1 ra2 l1 rc2 da2 l2 dc2 wa2 l3 wc2 _ (unhide hh1).r (unhide hh1).d (unhide hh1).t (unhide hh2).r (unhide hh2).d (unhide hh2).t; rw [sameO_refl] at kS; unfold ov at kS)
      | (go_at_call 13; refine kS.mono ?_; rintro e w7 ⟨rfl, c7⟩; have g7 := hide (below_then (unhide g6) c7); have ho1 := hide ((unhide ho1).next c7); have hh1 := hide ((unhide hh1).next c7); have ho2 := hide ((unhide ho2).next c7); have hh2 := hide ((unhide hh2).next c7); have ho3 := hide ((unhide ho3).next c7); have hh3 := hide ((unhide hh3).next c7); have ho4 := hide ((unhide ho4).next c7); have hh4 := hide ((unhide hh4).next c7);
         have kI := ints_any _ _ _ _ _ (unhide hh1).h (unhide hh2).h; rw [beq_self_eq_true] at kI; clear kS)
      | (go_at_call 14; refine kI.mono ?_; rintro e w8 ⟨rfl, c8⟩; have g8 := hide (below_then (unhide g7) c8); have ho1 := hide ((unhide ho1).next c8); have hh1 := hide ((unhide hh1).next c8); have ho2 := hide ((unhide ho2).next c8); have hh2 := hide ((unhide hh2).next c8); have ho3 := hide ((unhide ho3).next c8); have hh3 := hide ((unhide hh3).next c8); have ho4 := hide ((unhide ho4).next c8); have hh4 := hide ((unhide hh4).next c8);
         have kD := same_any R S ra1 l1 rc1 da1 l2 dc1 wa1 l3 wc1 ra3 m1 rc3 da3 m2 dc3 wa3 m3 wc3 _ (unhide hh1).r (unhide hh1).d (unhide hh1).t (unhide hh3).r (unhide hh3).d (unhide hh3).t; rw [unhide hbb] at kD; unfold ov at kD; clear kI)
      | (go_at_call 15; refine kD.mono ?_; rintro e w9 ⟨rfl, c9⟩; have g9 := hide (below_then (unhide g8) c9); have ho1 := hide ((unhide ho1).next c9); have hh1 := hide ((unhide hh1).next c9); have ho2 := hide ((unhide ho2).next c9); have hh2 := hide ((unhide hh2).next c9); have ho3 := hide ((unhide ho3).next c9); have hh3 := hide ((unhide hh3).next c9); have ho4 := hide ((unhide ho4).next c9); have hh4 := hide ((unhide hh4).next c9);
         have kE := sameOut_any R S ra2 l1 rc2 da2 l2 dc2 wa2 l3 wc2 ra4 m1 rc4 da4 m2 dc4 wa4 m3 wc4 _ (unhide hh2).r (unhide hh2).d (unhide hh2).t (unhide hh4).r (unhide hh4).d (unhide hh4).t; rw [unhide hbb] at kE; unfold ov at kE; clear kD)
      | (go_at_call 13; refine kE.mono ?_; rintro e w10 ⟨rfl, c10⟩; have g10 := hide (below_then (unhide g9) c10); have ho1 := hide ((unhide ho1).next c10); have hh1 := hide ((unhide hh1).next c10); have ho2 := hide ((unhide ho2).next c10); have hh2 := hide ((unhide hh2).next c10); have ho3 := hide ((unhide ho3).next c10); have hh3 := hide ((unhide hh3).next c10); have ho4 := hide ((unhide ho4).next c10); have hh4 := hide ((unhide hh4).next c10);
         clear kE))
  all_goals
    cases bb
    · go_wp2
      go_ret
      exact ⟨rfl, unhide g10⟩
    · go_wp2
      go_ret
      exact ⟨rfl, unhide g10⟩
end Go.Proofs.Ytdhfpfkcbcgnaaa
