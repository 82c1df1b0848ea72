/- The walk of PlainTwice: it answers true. -/
import Derived.Test.YtdhfpfkcbcgnaaaFirst
import Derived.Test.YtdhfpfkcbcgnaaaPure
import Derived.Test.YtdhfpfkcbcgnaaaFew
namespace Go.Proofs.Ytdhfpfkcbcgnaaa
open Go.RowKit

set_option maxRecDepth 100000 in
set_option maxHeartbeats 4000000 in
theorem plainTwice_walk (c : Cf) (a : Option Addr) (n cap : Nat) (H : List Int) (a' : Option Addr) (n' cap' : Nat) (ps : List In) (w : World) (hH : Ls w.heap.size w (.slice a n cap) H) (_hwf : ∀ x ∈ H, (Lit.int .i64 x).wf = true) (hp : Ps w.heap.size w (.slice a' n' cap') ps) (_hfi : ∀ x ∈ ps, Fi x) :
    Calls Try.prog 7 #[cv c, .slice a n cap, .slice a' n' cap'] w fun e w' => e = .returned (.bool true) ∧ Below w.heap.size w w' := by
  have hmax : maxLen = 9223372036854775807 := rfl
  have hnl : n ≤ cap ∧ cap ≤ maxLen := by obtain ⟨_, _, _, e, h1, h2, _⟩ := hH; cases e; exact ⟨h1, h2⟩
  have hx := hide (bx_new c w)
  have g0 := below_new w (.cells #[.int .i64 c.r, .int .i64 c.o, .int .i64 c.s, .int .i64 c.d, .int .i64 c.t, .int .i64 c.l, .int .i64 c.g, .int .i64 c.k, .int .i64 c.u, .int .i64 c.e, .int .i64 c.i, .int .i64 c.p] 23)
  unfold cv
  go_enter Try.func7, Try.ntmps7
  go_wp2_with fail
  refine (first_any _).mono ?_
  rintro e w1 ⟨rfl, c1⟩
  have g1 := below_then g0 c1
  have hx := hide ((unhide hx).next c1)
  have hH1 := hH.next g1
  have hp1 := hp.next g1
  have kF := few_any ps _ w1 hp1
  obtain ⟨R, hR⟩ : ∃ R, runD c H ps = R := ⟨_, rfl⟩
  have kR := run_out c H _ ps _ w1 hH1 hp1 hR
  replace g1 := hide g1
  replace hR := hide hR
  replace hH := hide hH
  replace hp := hide hp
  clear c1 hH1 hp1 g0
  go_wp2_with fail
  refine kF.mono ?_
  rintro e _ ⟨bF, rfl, _, rfl⟩
  clear kF
  cases bF
  · go_wp2_with fail
    refine (first_any _).mono ?_
    rintro e w2 ⟨rfl, c2⟩
    have g2 := hide (below_then (unhide g1) c2)
    clear c2
    go_wp2
    go_ret
    exact ⟨rfl, unhide g2⟩
  by_cases h5 : 5000 < n
  · have d5 : decide ((5000 : Int) < (n : Int)) = true := decide_eq_true (by omega)
    go_wp2_with fail
    refine (first_any _).mono ?_
    rintro e w2 ⟨rfl, c2⟩
    have g2 := hide (below_then (unhide g1) c2)
    clear c2
    go_wp2
    go_ret
    exact ⟨rfl, unhide g2⟩
  have d5 : decide ((5000 : Int) < (n : Int)) = false := decide_eq_false (by omega)
  obtain ⟨l1, hl1⟩ : ∃ l, R.r.length = l := ⟨_, rfl⟩
  obtain ⟨l2, hl2⟩ : ∃ l, R.rd.length = l := ⟨_, rfl⟩
  obtain ⟨l3, hl3⟩ : ∃ l, R.wr.length = l := ⟨_, rfl⟩
  obtain ⟨l4, hl4⟩ : ∃ l, R.h.length = l := ⟨_, rfl⟩
  obtain ⟨x, hxx⟩ : ∃ x, R.x = x := ⟨_, rfl⟩
  rw [hl1, hl2, hl3, hl4, hxx] at kR
  replace hl1 := hide hl1
  replace hl2 := hide hl2
  replace hl3 := hide hl3
  replace hl4 := hide hl4
  replace hxx := hide hxx
  obtain ⟨z0, z1, z2, z3, z4, z5, z6, z7, z8, z9, z10, z11⟩ := (unhide hx).cells
  go_wp2_with fail
  refine kR.mono ?_
  rintro e w2 ⟨ra1, rc1, da1, dc1, wa1, wc1, ha1, hc1, rfl, hh1, c2⟩
  have bo := below_new w2 (.cells #[.int .i64 R.e, .slice ra1 l1 rc1, .slice da1 l2 dc1, .slice wa1 l3 wc1] 30)
  have ho1 := hide (show Ob R.e (.slice ra1 l1 rc1) (.slice da1 l2 dc1) (.slice wa1 l3 wc1) w2.heap.size (w2.alloc (.cells #[.int .i64 R.e, .slice ra1 l1 rc1, .slice da1 l2 dc1, .slice wa1 l3 wc1] 30)) from heap_alloc_new w2 _)
  have g2 := below_then (unhide g1) (below_then c2 bo)
  have hh1 := hide (hh1.next bo)
  have hx := hide ((unhide hx).next (below_then c2 bo))
  have kR2 := run_out c H _ ps _ _ ((unhide hH).next g2) ((unhide hp).next g2) (unhide hR)
  rw [unhide hl1, unhide hl2, unhide hl3, unhide hl4, unhide hxx] at kR2
  replace g2 := hide g2
  clear kR c2 bo z0 z1 z2 z3 z4 z5 z6 z7 z8 z9 z10 z11
  obtain ⟨z0, z1, z2, z3, z4, z5, z6, z7, z8, z9, z10, z11⟩ := (unhide hx).cells
  go_wp2_with fail
  refine kR2.mono ?_
  rintro e w3 ⟨ra2, rc2, da2, dc2, wa2, wc2, ha2, hc2, rfl, hh2, c3⟩
  have bo := below_new w3 (.cells #[.int .i64 R.e, .slice ra2 l1 rc2, .slice da2 l2 dc2, .slice wa2 l3 wc2] 30)
  have ho2 := hide (show Ob R.e (.slice ra2 l1 rc2) (.slice da2 l2 dc2) (.slice wa2 l3 wc2) w3.heap.size (w3.alloc (.cells #[.int .i64 R.e, .slice ra2 l1 rc2, .slice da2 l2 dc2, .slice wa2 l3 wc2] 30)) from heap_alloc_new w3 _)
  have ho1 := hide ((unhide ho1).next (below_then c3 bo))
  have g3 := hide (below_then (unhide g2) (below_then c3 bo))
  have hh1 := hide ((unhide hh1).next (below_then c3 bo))
  have hh2 := hide (hh2.next bo)
  have hx := hide ((unhide hx).next (below_then c3 bo))
  clear kR2 c3 bo z0 z1 z2 z3 z4 z5 z6 z7 z8 z9 z10 z11
  obtain ⟨x0, x1, x2, x3⟩ := (unhide ho1).cells
  obtain ⟨y0, y1, y2, y3⟩ := (unhide ho2).cells
  have kS := same_any R R ra1 l1 rc1 da1 l2 dc1 wa1 l3 wc1 ra2 l1 rc2 da2 l2 dc2 wa2 l3 wc2 _ (unhide hh1).r (unhide hh1).d (unhide hh1).t (unhide hh2).r (unhide hh2).d (unhide hh2).t
  rw [sameO_refl] at kS
  unfold ov at kS
  go_wp2_with fail
  refine kS.mono ?_
  rintro e w4 ⟨rfl, c4⟩
  have kI := ints_any _ _ _ _ _ ((unhide hh1).next c4).h ((unhide hh2).next c4).h
  rw [beq_self_eq_true] at kI
  have g4 := hide (below_then (unhide g3) c4)
  have ho1 := hide ((unhide ho1).next c4)
  have hh1 := hide ((unhide hh1).next c4)
  have hx := hide ((unhide hx).next c4)
  clear kS c4 x0 x1 x2 x3 y0 y1 y2 y3 ho2 hh2
  go_wp2_with fail
  refine kI.mono ?_
  rintro e w5 ⟨rfl, c5⟩
  have g5 := hide (below_then (unhide g4) c5)
  have ho1 := hide ((unhide ho1).next c5)
  have hh1 := hide ((unhide hh1).next c5)
  have hx := hide ((unhide hx).next c5)
  clear kI c5
  obtain ⟨x0, x1, x2, x3⟩ := (unhide ho1).cells
  by_cases ex : x = 0
  case neg =>
    have xb : (x == 0) = false := by simpa using ex
    go_wp2_with fail
    refine (first_any _).mono ?_
    rintro e w6 ⟨rfl, c6⟩
    have g6 := hide (below_then (unhide g5) c6)
    clear c6
    go_wp2
    go_ret
    exact ⟨rfl, unhide g6⟩
  subst ex
  by_cases e3 : 0 < l3
  · have d3 : decide ((0 : Int) < (l3 : Int)) = true := decide_eq_true (by omega)
    have d3' : (0 : Int) < (l3 : Int) := by omega
    go_wp2_with fail
    refine (first_any _).mono ?_
    rintro e w6 ⟨rfl, c6⟩
    have g6 := hide (below_then (unhide g5) c6)
    clear c6
    go_wp2
    go_ret
    exact ⟨rfl, unhide g6⟩
  have d3 : decide ((0 : Int) < (l3 : Int)) = false := decide_eq_false (by omega)
  have d3' : ¬ (0 : Int) < (l3 : Int) := by omega
  have hq : R.h = H := by
    have q1 := unhide hR
    have q2 := unhide hxx
    have q3 : R.wr = [] := List.length_eq_zero_iff.1 (by have := unhide hl3; omega)
    rw [← q1] at q2 q3 ⊢
    exact run_quiet q2 q3
  have kR := run_out c R.h _ ps _ _ (unhide hh1).h ((unhide hp).next (unhide g5)) (R := R) (by rw [hq]; exact unhide hR)
  rw [unhide hl1, unhide hl2, unhide hl3, unhide hl4, unhide hxx] at kR
  replace hq := hide hq
  obtain ⟨z0, z1, z2, z3, z4, z5, z6, z7, z8, z9, z10, z11⟩ := (unhide hx).cells
  go_wp2_with fail
  refine kR.mono ?_
  rintro e w6 ⟨ra2, rc2, da2, dc2, wa2, wc2, ha2, hc2, rfl, hh2, c6⟩
  have bo := below_new w6 (.cells #[.int .i64 R.e, .slice ra2 l1 rc2, .slice da2 l2 dc2, .slice wa2 l3 wc2] 30)
  have ho2 := hide (show Ob R.e (.slice ra2 l1 rc2) (.slice da2 l2 dc2) (.slice wa2 l3 wc2) w6.heap.size (w6.alloc (.cells #[.int .i64 R.e, .slice ra2 l1 rc2, .slice da2 l2 dc2, .slice wa2 l3 wc2] 30)) from heap_alloc_new w6 _)
  have ho1 := hide ((unhide ho1).next (below_then c6 bo))
  have g6 := hide (below_then (unhide g5) (below_then c6 bo))
  have hh1 := hide ((unhide hh1).next (below_then c6 bo))
  have hh2 := hide (hh2.next bo)
  clear kR c6 bo z0 z1 z2 z3 z4 z5 z6 z7 z8 z9 z10 z11 x0 x1 x2 x3
  go_wp2_with fail
  refine (first_any _).mono ?_
  rintro e w7 ⟨rfl, c7⟩
  have g7 := below_then (unhide g6) c7
  have ho1 := hide ((unhide ho1).next c7)
  have ho2 := hide ((unhide ho2).next c7)
  have hh1 := hide ((unhide hh1).next c7)
  have hh2 := hide ((unhide hh2).next c7)
  have kI := ints_any _ _ _ _ _ (unhide hh1).h ((unhide hH).next g7)
  rw [unhide hq, beq_self_eq_true] at kI
  replace g7 := hide g7
  clear c7
  go_wp2_with fail
  refine kI.mono ?_
  rintro e w8 ⟨rfl, c8⟩
  have g8 := hide (below_then (unhide g7) c8)
  have ho1 := hide ((unhide ho1).next c8)
  have ho2 := hide ((unhide ho2).next c8)
  have hh1 := hide ((unhide hh1).next c8)
  have hh2 := hide ((unhide hh2).next c8)
  clear c8 kI
  obtain ⟨x0, x1, x2, x3⟩ := (unhide ho1).cells
  obtain ⟨y0, y1, y2, y3⟩ := (unhide ho2).cells
  have kS := same_any R R ra1 l1 rc1 da1 l2 dc1 wa1 l3 wc1 ra2 l1 rc2 da2 l2 dc2 wa2 l3 wc2 _ (unhide hh1).r (unhide hh1).d (unhide hh1).t (unhide hh2).r (unhide hh2).d (unhide hh2).t
  rw [sameO_refl] at kS
  unfold ov at kS
  go_wp2_with fail
  refine kS.mono ?_
  rintro e w9 ⟨rfl, c9⟩
  have g9 := below_then (unhide g8) c9
  have kI := ints_any _ _ _ _ _ ((unhide hh2).next c9).h ((unhide hH).next g9)
  rw [unhide hq, beq_self_eq_true] at kI
  replace g9 := hide g9
  clear c9 kS x0 x1 x2 x3 y0 y1 y2 y3
  go_wp2_with fail
  refine kI.mono ?_
  rintro e w10 ⟨rfl, c10⟩
  have g10 := hide (below_then (unhide g9) c10)
  clear c10 kI
  go_wp2
  go_ret
  exact ⟨rfl, unhide g10⟩
end Go.Proofs.Ytdhfpfkcbcgnaaa
