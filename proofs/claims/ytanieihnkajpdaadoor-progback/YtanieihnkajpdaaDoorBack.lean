/- The walk of ProgBack: it answers true. -/
import Derived.Test.YtanieihnkajpdaaDoorTexts
namespace Go.Proofs.YtanieihnkajpdaaDoor
open Go.RowKit

set_option maxRecDepth 100000 in
set_option maxHeartbeats 4000000 in
theorem progBack_walk (c : Cf) (a : Option Addr) (n cap : Nat) (ps : List In) (ra : Option Addr) (rn rc : Nat) (rs : List Int) (w : World) (hp : Ps w.heap.size w (.slice a n cap) ps) (fp : ∀ x ∈ ps, Fi x) (hg : Ls w.heap.size w (.slice ra rn rc) rs) (hr : Vr w) :
    Calls Tryd.prog 3 #[cv c, .slice a n cap, .slice ra rn rc] w fun e w' => e = .returned (.bool true) ∧ Below w.heap.size w w' := by
  have hmax : maxLen = 9223372036854775807 := rfl
  have hn : n = ps.length := by obtain ⟨_, _, e, _⟩ := hp; cases e; rfl
  have nl : (n : Int) ≤ 9223372036854775807 := by obtain ⟨_, _, e, h1, h2, _⟩ := hp; cases e; omega
  replace hn := hide hn
  have b0 := below_new w (.cells #[.int .i64 c.r, .int .i64 c.o, .int .i64 c.s, .int .i64 c.d, .int .i64 c.t, .int .i64 c.l, .int .i64 c.g, .int .i64 c.k, .int .i64 c.u, .int .i64 c.e, .int .i64 c.i, .int .i64 c.p] 23)
  have hx := bx_new c w
  unfold cv
  go_enter Tryd.func3, Tryd.ntmps3
  go_wp2_with fail
  refine (first_any _ (hr.next b0)).mono ?_
  rintro e w1 ⟨rfl, hb1⟩
  have g1 := below_then b0 hb1
  have hx1 := hx.next hb1
  have hp1 := hp.next g1
  have kA := few_any ps _ w1 hp1
  have kK := progCheck_any c ps _ w1 hp1
  unfold cv at kK
  obtain ⟨z0, z1, z2, z3, z4, z5, z6, z7, z8, z9, z10, z11⟩ := hx1.cells
  replace hx1 := hide hx1
  replace g1 := hide g1
  replace hg := hide hg
  replace hp := hide hp
  clear hx b0 hb1 hp1
  go_wp2_with fail
  refine kA.mono ?_
  rintro e _ ⟨bA, rfl, hA, rfl⟩
  replace hA := hide hA
  cases bA
  · skip
    have kF := first_any _ (hr.next (unhide g1))
    go_wp2_with fail
    refine kF.mono ?_
    rintro e wq ⟨rfl, bq⟩
    have gq := hide (below_then (unhide g1) bq)
    clear kF bq
    go_wp2
    go_ret
    exact ⟨rfl, unhide gq⟩
  by_cases h100 : 100 < rn
  · have dg : decide ((100 : Int) < (rn : Int)) = true := decide_eq_true (by omega)
    have kF := first_any _ (hr.next (unhide g1))
    go_wp2_with fail
    refine kF.mono ?_
    rintro e wq ⟨rfl, bq⟩
    have gq := hide (below_then (unhide g1) bq)
    clear kF bq
    go_wp2
    go_ret
    exact ⟨rfl, unhide gq⟩
  have dg : decide ((100 : Int) < (rn : Int)) = false := decide_eq_false (by omega)
  go_wp2_with fail
  refine kK.mono ?_
  rintro e w2 ⟨rfl, hb2⟩
  have g2 := hide (below_then (unhide g1) hb2)
  have hx2 := hide ((unhide hx1).next hb2)
  clear hb2 hx1 g1 kA kK z0 z1 z2 z3 z4 z5 z6 z7 z8 z9 z10 z11
  by_cases hch : ¬ checkD c ps = 0
  · have ch : checkD c ps = 2 := by
      unfold checkD at hch ⊢; split
      · rename_i h; rw [if_pos h] at hch; exact absurd rfl hch
      · rfl
    rw [ch]
    clear hch ch
    have kF := first_any w2 (hr.next (unhide g2))
    go_wp2_with fail
    refine kF.mono ?_
    rintro e wq ⟨rfl, bq⟩
    have gq := hide (below_then (unhide g2) bq)
    clear kF bq
    go_wp2
    go_ret
    exact ⟨rfl, unhide gq⟩
  replace hch : checkD c ps = 0 := Decidable.of_not_not hch
  rw [hch]
  obtain ⟨lp, sp⟩ := unhide hA (by first | rfl | trivial)
  have Fp := hide (fun x hx => (fp x hx).fine (sp x hx) : ∀ x ∈ ps, Fine x)
  obtain ⟨hok, _, hst⟩ := check_out hch
  replace hch := hide hch
  replace hst := hide hst
  replace hok := hide hok
  clear sp fp hA lp
  go_wp2_with fail
  go_loopw [7] (fun i wr => ∃ k : Nat, k ≤ n ∧ i = .int .i64 k ∧ Below w.heap.size w wr ∧ Bx c w.heap.size wr) (fun i _ => n - (RowKit.intOf i).toNat)
  case atStart => exact ⟨0, Nat.zero_le _, rfl, unhide g2, unhide hx2⟩
  case round =>
    obtain ⟨k, hk, rfl, hb, hx⟩ := hrel
    clear g2 hx2
    by_cases hlt : k < n
    · have kd : decide ((k : Int) < (n : Int)) = true := decide_eq_true (by omega)
      have kl : (k : Int) < (n : Int) := by omega
      obtain ⟨a2, cap2, hv, _, _, h3'⟩ := (unhide hp).later hb
      obtain rfl : a2 = a := by cases hv; rfl
      clear hv
      rcases h3' with h0 | ⟨b, off, rfl, hbB, hc⟩
      · have := unhide hn; omega
      have hI := hc k (by have := unhide hn; omega)
      have hS := unhide hst k (by have := unhide hn; omega)
      obtain ⟨x, hxx⟩ : ∃ x, ps.getD k z0 = x := ⟨_, rfl⟩
      rw [hxx] at hI hS
      rw [← unhide hn] at hS
      obtain ⟨c0, c1, c2, c3, u0, c4, hu⟩ := hI
      obtain ⟨ua, ul, uc, rfl⟩ : ∃ ua ul uc, u0 = .slice ua ul uc := by obtain ⟨ua, ul, uc, e, _⟩ := hu; exact ⟨ua, ul, uc, e⟩
      have kA := addr_any c x ua ul uc (.slice ra rn rc) rs wr.drew (((unhide hg).later hb).up hb.size)
      unfold cv iv at kA
      obtain ⟨q0, q1⟩ := addr_in (unhide hok) x rs
      obtain ⟨q, hq⟩ : ∃ q, addrD c x rs = q := ⟨_, rfl⟩
      rw [hq] at kA q0 q1
      obtain ⟨m, hm⟩ : ∃ m, wordsD c = m := ⟨_, rfl⟩
      rw [hm] at q1
      have d1 : decide (q < 0) = false := decide_eq_false (by omega)
      have d2 : decide (m ≤ q) = false := decide_eq_false (by omega)
      obtain ⟨z0, z1, z2, z3, z4, z5, z6, z7, z8, z9, z10, z11⟩ := hx.drew.cells
      have z12 : wr.drew.cell? ⟨b, off + k * 5, none⟩ = _ := c0
      have z13 : wr.drew.cell? ⟨b, off + k * 5 + 1, none⟩ = _ := c1
      have z14 : wr.drew.cell? ⟨b, off + k * 5 + 2, none⟩ = _ := c2
      have z15 : wr.drew.cell? ⟨b, off + k * 5 + 3, none⟩ = _ := c3
      have z16 : wr.drew.cell? ⟨b, off + k * 5 + 4, none⟩ = _ := c4
      have lb : b < wr.drew.heap.size := Nat.lt_of_lt_of_le hbB hb.size
      have hbd := hide hb.drew
      have hxd := hide hx.drew
      replace hS := hide hS
      replace hq := hide hq
      replace hm := hide hm
      replace hxx := hide hxx
      replace hu := hide hu
      replace hc := hide hc
      clear hb hx c0 c1 c2 c3 c4
      go_wp2_with fail
      go_region_held3 (fun wz => wz.cell? ⟨w.heap.size, 0, none⟩ = some (.int .i64 c.r) ∧ wz.cell? ⟨w.heap.size, 1, none⟩ = some (.int .i64 c.o) ∧ wz.cell? ⟨w.heap.size, 2, none⟩ = some (.int .i64 c.s) ∧ wz.cell? ⟨w.heap.size, 3, none⟩ = some (.int .i64 c.d) ∧ wz.cell? ⟨w.heap.size, 4, none⟩ = some (.int .i64 c.t) ∧ wz.cell? ⟨w.heap.size, 5, none⟩ = some (.int .i64 c.l) ∧ wz.cell? ⟨w.heap.size, 6, none⟩ = some (.int .i64 c.g) ∧ wz.cell? ⟨w.heap.size, 7, none⟩ = some (.int .i64 c.k) ∧ wz.cell? ⟨w.heap.size, 8, none⟩ = some (.int .i64 c.u) ∧ wz.cell? ⟨w.heap.size, 9, none⟩ = some (.int .i64 c.e) ∧ wz.cell? ⟨w.heap.size, 10, none⟩ = some (.int .i64 c.i) ∧ wz.cell? ⟨w.heap.size, 11, none⟩ = some (.int .i64 c.p) ∧ wz.cell? ⟨b, off + k * 5, none⟩ = some (.int .i64 x.k) ∧ wz.cell? ⟨b, off + k * 5 + 1, none⟩ = some (.int .i64 x.a) ∧ wz.cell? ⟨b, off + k * 5 + 2, none⟩ = some (.int .i64 x.b) ∧ wz.cell? ⟨b, off + k * 5 + 3, none⟩ = some (.int .i64 x.c) ∧ wz.cell? ⟨b, off + k * 5 + 4, none⟩ = some (.slice ua ul uc)) (first | with_reducible exact ⟨z0, z1, z2, z3, z4, z5, z6, z7, z8, z9, z10, z11, z12, z13, z14, z15, z16⟩ | with_reducible exact ⟨y0, y1, y2, y3, y4, y5, y6, y7, y8, y9, y10, y11, y12, y13, y14, y15, y16⟩)
        (first | (go_at_call 11; with_reducible refine Calls.mono kA ?_; rintro e w3 ⟨rfl, hb3⟩; obtain ⟨y0, y1, y2, y3, y4, y5, y6, y7, y8, y9, y10, y11⟩ := (Bx.next (unhide hxd) hb3).cells; have y12 := (Below.cell hb3 lb).trans z12; have y13 := (Below.cell hb3 lb).trans z13; have y14 := (Below.cell hb3 lb).trans z14; have y15 := (Below.cell hb3 lb).trans z15; have y16 := (Below.cell hb3 lb).trans z16))
      have kW := words_any c w3
      rw [unhide hm] at kW
      unfold cv at kW
      have g3 := hide (below_then (unhide hbd) hb3)
      have hx3 := hide ((unhide hxd).next hb3)
      have lb3 : b < w3.heap.size := Nat.lt_of_lt_of_le lb hb3.size
      clear hb3 hbd hxd lb kA z0 z1 z2 z3 z4 z5 z6 z7 z8 z9 z10 z11 z12 z13 z14 z15 z16
      go_wp2_with fail
      refine kW.mono ?_
      rintro e w4 ⟨rfl, hb4⟩
      have x12 := (hb4.cell lb3).trans y12
      have x14 := (hb4.cell lb3).trans y14
      have g4 := hide (below_then (unhide g3) hb4)
      have hx4 := hide ((unhide hx3).next hb4)
      clear kW hb4 g3 hx3 lb3 y0 y1 y2 y3 y4 y5 y6 y7 y8 y9 y10 y11 y12 y13 y14 y15 y16
      by_cases h5 : x.k = 5
      · have e5 : (x.k == 5) = true := by simp [h5]
        have e4 : (x.k == 4) = false := by simp [h5]
        obtain ⟨j1, j2⟩ := st_jump (unhide hS) h5
        have d3 : decide (x.b ≤ (k : Int)) = false := decide_eq_false (by omega)
        have d4 : decide ((n : Int) < x.b) = false := decide_eq_false (by omega)
        clear h5
        go_wp2
        go_roundw
        case rel => exact ⟨k + 1, by omega, by go_num, unhide g4, unhide hx4⟩
        case measure => first | omega | (simp; omega) | (simp [RowKit.intOf]; omega)
      have e5 : (x.k == 5) = false := by simp [h5]
      by_cases h4 : x.k = 4
      · have e4 : (x.k == 4) = true := by simp [h4]
        have kn := known_any x.b w4
        rw [st_calc (unhide hS) h4] at kn
        clear h4 h5
        go_wp2_with fail
        refine kn.mono ?_
        rintro e _ ⟨rfl, rfl⟩
        clear kn
        go_wp2
        go_roundw
        case rel => exact ⟨k + 1, by omega, by go_num, unhide g4, unhide hx4⟩
        case measure => first | omega | (simp; omega) | (simp [RowKit.intOf]; omega)
      have e4 : (x.k == 4) = false := by simp [h4]
      clear h4 h5
      go_wp2
      go_roundw
      case rel => exact ⟨k + 1, by omega, by go_num, unhide g4, unhide hx4⟩
      case measure => first | omega | (simp; omega) | (simp [RowKit.intOf]; omega)
    · have kd : decide ((k : Int) < (n : Int)) = false := decide_eq_false (by omega)
      obtain rfl : k = n := by omega
      have kP := print_any ps _ wr ((unhide hp).next hb) (by have := (check_out (unhide hch)).2.1; omega) (unhide Fp) (hr.next hb)
      replace hb := hide hb
      replace hx := hide hx
      go_wp2_with fail
      refine kP.mono ?_
      rintro e w3 ⟨u, rfl, hS, b3⟩
      have g3 := below_then (unhide hb) b3
      have kQ := parse_any _ u w3 hS (by rw [List.length_map, ← unhide hn]; have := (check_out (unhide hch)).2.1; have := unhide hn; omega) (lines_all _ (unhide Fp)) (hr.next g3)
      rw [prog_lines ps (fun x hx => ⟨unhide Fp x hx, check_kind (unhide hch) x hx⟩)] at kQ
      have hx3 := hide ((unhide hx).next b3)
      replace g3 := hide g3
      replace hS := hide hS
      clear kP b3 hb hx
      go_wp2_with fail
      refine kQ.mono ?_
      rintro e w4 ⟨xa, xn, xc, rfl, b4, hy⟩
      obtain ⟨ex, hPo⟩ := hy _ rfl
      rw [List.length_map, ← unhide hn] at ex
      subst ex
      have g4 := below_then (unhide g3) b4
      have hx4 := hide ((unhide hx3).next b4)
      have hS4 := hide ((unhide hS).next b4)
      have kF := first_any w4 (hr.next g4)
      replace g4 := hide g4
      replace hPo := hide hPo
      clear kQ b4 g3 hx3 hS hy
      have nn : ((xn : Int) == (xn : Int)) = true := by simp
      go_wp2_with fail
      refine kF.mono ?_
      rintro e w5 ⟨rfl, b5⟩
      have g5 := below_then (unhide g4) b5
      have hx5 := hide ((unhide hx4).next b5)
      have hS5 := hide ((unhide hS4).next b5)
      have hP5 := hide (ownP_next (unhide hPo) b5)
      have kP := print_any (ps.map norm) _ w5 (unhide hP5).ps (by rw [List.length_map]; have := (check_out (unhide hch)).2.1; omega) (fun y hy => by
        obtain ⟨x, hx, rfl⟩ := List.mem_map.1 hy
        exact fine_norm (unhide Fp x hx)) (hr.next g5)
      rw [lines_norm] at kP
      replace g5 := hide g5
      clear kF b5 g4 hx4 hS4 hPo
      go_wp2_with fail
      refine kP.mono ?_
      rintro e w6 ⟨v, rfl, hT, b6⟩
      have g6 := hide (below_then (unhide g5) b6)
      have hx6 := hide ((unhide hx5).next b6)
      have hP6 := hide (ownP_next (unhide hP5) b6)
      have kT := texts_any _ _ _ w6 hT ((unhide hS5).next b6)
      clear kP hT b6 g5 hx5 hS5 hP5
      go_wp2_with fail
      refine kT.mono ?_
      rintro e w7 ⟨rfl, b7⟩
      have g7 := hide (below_then (unhide g6) b7)
      have hx7 := (unhide hx6).next b7
      have hP7 := ownP_next (unhide hP6) b7
      have kK := progCheck_any c _ _ w7 hP7.ps
      rw [check_norm (unhide hch)] at kK
      unfold cv at kK
      obtain ⟨z0, z1, z2, z3, z4, z5, z6, z7, z8, z9, z10, z11⟩ := hx7.cells
      replace hP7 := hide hP7
      clear kT b7 g6 hx6 hP6 hx7
      go_wp2_with fail
      refine kK.mono ?_
      rintro e w8 ⟨rfl, b8⟩
      have g8 := hide (below_then (unhide g7) b8)
      have hP8 := ownP_next (unhide hP7) b8
      have kS := same_any _ _ _ _ w8 hP8.ps hP8.ps
      rw [(sameL_iff _ _).2 rfl] at kS
      clear kK b8 g7 hP7 hP8 z0 z1 z2 z3 z4 z5 z6 z7 z8 z9 z10 z11
      go_wp2_with fail
      refine kS.mono ?_
      rintro e w9 ⟨rfl, b9⟩
      have g9 := hide (below_then (unhide g8) b9)
      clear kS b9
      go_wp2
      go_ret
      exact ⟨rfl, unhide g9⟩
end Go.Proofs.YtanieihnkajpdaaDoor
