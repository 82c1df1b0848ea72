/- LatchAlone: ends answers true. -/
import Derived.Test.YtlhmpkeljagihaaEndsF
import Derived.Deep.Cut
import Derived.Deep.CutRange
namespace Go.Proofs.Ytlhmpkeljagihaa
open Go.RowKit

set_option maxRecDepth 100000 in
set_option maxHeartbeats 4000000 in
theorem ends_any (W : World) (c : Cf) (B cb r A K H sl T : Nat) (P : Nat → Ph) (own : Int) (m : Mm) (bs : Nat → Nat) (kd : Nat → Int) (ga gk gh : Nat → Value) (w : World) (h : Al W c B cb r A K H sl 16 P m bs kd w) (hga : ∀ u, ga u = ptr (P u) (bs u)) (hgk : ∀ u, gk u = .int .i64 (kd u)) (hgh : ∀ u, gh u = .int .i64 (hasOf (P u) : Int))
    (hI : Inv sl T P own) (hab : Ab sl own (mkR P) m.f) (hT : T ≤ 16) (hcT : c = oneC (T : Int) (sl : Int)) (hl1 : latchD c 2 = 1) (hn : cellsD c = ((9 : Nat) : Int)) :
    Calls Try.prog 28 #[cv c, .pointer (some ⟨cb, 0, none⟩), .int .i64 T, .agg #[ga 0, ga 1, ga 2, ga 3, ga 4, ga 5, ga 6, ga 7, ga 8, ga 9, ga 10, ga 11, ga 12, ga 13, ga 14, ga 15], .agg #[gk 0, gk 1, gk 2, gk 3, gk 4, gk 5, gk 6, gk 7, gk 8, gk 9, gk 10, gk 11, gk 12, gk 13, gk 14, gk 15], .agg #[gh 0, gh 1, gh 2, gh 3, gh 4, gh 5, gh 6, gh 7, gh 8, gh 9, gh 10, gh 11, gh 12, gh 13, gh 14, gh 15]] w fun e w' => e = .returned (.bool true) ∧ Below W.heap.size W w' := by
  have hTi : (T : Int) ≤ 16 := by omega
  have h1 := hide h
  have HI := hide hI
  have Hab := hide hab
  have Hga := hide hga
  have Hgk := hide hgk
  have Hgh := hide hgh
  replace hl1 := hide hl1
  replace hcT := hide hcT
  clear h hI hab hga hgk hgh
  unfold cv
  go_enter Try.func28, Try.ntmps28
  go_upto_region 1 with fail
  obtain ⟨hS, ek⟩ := ends_start (unhide h1) (unhide Hga) (unhide Hgk) (unhide Hgh) (unhide HI) hT (unhide Hab)
  have hS0 := hide hS
  clear hS h1 Hga Hgk Hgh HI Hab
  generalize w.heap.size = N at *
  go_wp2_with fail
  go_loopw [13] (fun i wr => ∃ (t : Nat) (Q : Nat → Ph) (own : Int) (m : Mm) (hv : Nat → Int), t ≤ T ∧ i = .int .i64 t ∧ En W c N cb r (N + 1) (N + 1 + 1) (N + 1 + 1 + 1) sl T P bs kd t t Q own m hv wr) (fun i _ => T - (intOf i).toNat)
  case atStart => exact ⟨0, P, own, m, _, Nat.zero_le _, rfl, unhide hS0⟩
  case round =>
    obtain ⟨n, Q, own1, m1, hv, hnT, rfl, hS⟩ := hrel
    clear hS0
    by_cases hlt : n < T
    · have nd : decide ((n : Int) < (T : Int)) = true := decide_eq_true (by omega)
      have n16 : (n : Int) < 16 := by omega
      have hqn := hS.q1 n (Nat.le_refl _)
      have hvn := hS.hh n (Nat.le_refl _)
      have hln := hS.lat n (Nat.le_refl _)
      replace hS := hS.open
      rcases hlive : live (P n)
      · obtain ⟨h, hP⟩ : ∃ h, P n = .idle h := by
          cases hP : P n with
          | idle h => exact ⟨h, rfl⟩
          | _ => rw [hP] at hlive; cases hlive
        have hQ : Q n = .idle h := by rw [hqn, hP]
        have hv1 : hv n = (h : Int) := by rw [hvn, hP]; rfl
        have eA : ptr (P n) (bs n) = .pointer none := by unfold ptr; rw [hlive]; rfl
        replace eA := hide eA
        replace hQ := hide hQ
        replace hv1 := hide hv1
        have cA := hS.ra.cell (show n < 16 by omega)
        rw [unhide eA] at cA
        replace hS := hide hS
        clear hP hln hqn hvn
        go_wp2_with fail
        go_loopw [14] (fun i wi => i = .int .i64 0 ∧ En W c N cb r (N + 1) (N + 1 + 1) (N + 1 + 1 + 1) sl T P bs kd n (n + 1) Q own1 m1 hv wi) (fun _ _ => 0)
        case atStart => exact ⟨rfl, unhide hS⟩
        case round =>
          obtain ⟨rfl, hS1⟩ := hrel
          clear hS cA
          have hS := hS1
          clear hS1
          have cA := hS.ra.cell (show n < 16 by omega)
          rw [unhide eA] at cA
          replace hQ := unhide hQ
          replace hv1 := unhide hv1
          have cH := hS.rh.cell (show n < 16 by omega)
          rw [hv1] at cH
          have h02 : h = 0 ∨ h = 1 ∨ h = 2 := by have := hS.inv.wf n; rw [hQ] at this; have t2 : h ≤ 2 := this; omega
          rcases h02 with rfl | rfl | rfl
          · have hS2 := hide (hS.shut hQ)
            clear hS
            go_wp2
            go_roundw
            case rel => exact ⟨n + 1, Q, own1, m1, hv, by omega, by go_num, unhide hS2⟩
            case measure => first | omega | (simp; omega) | (simp [intOf]; omega)
          · have bo : Born 1 3 := by unfold Born; omega
            obtain ⟨I2, M2⟩ := hS.inv.born hlt hQ bo
            have F2 : Fit sl n (newL 6 c 2 (n : Int) false 0) .endR := born_fit (unhide hcT) (unhide hl1) hlt bo
            have Q2 : upP Q n (bornP 1 3) n = .endR := upP_at _ _ _
            have ok2 : Ok 9 (newL 6 c 2 (n : Int) false 0) := ok_new hn 6 2 (n : Int) false 0 (by decide) (by decide) (by decide)
            have a2 := hS.ab
            rw [← M2] at a2
            have G := hide (end_step (L := newL 6 c 2 (n : Int) false 0) (m := m1) I2 hT hlt a2 (by rw [Q2]; exact F2) (.inl Q2))
            have wk : IntKind.i64.wrap 3 = 3 := kin (by decide) (by decide)
            replace ok2 := hide ok2
            replace I2 := hide I2
            replace a2 := hide a2
            clear F2 M2 Q2
            have kO := env_made (opens3 c (n : Int) _) hS.env.drew
            unfold cv at kO
            replace hS := hide hS
            go_wp2_with fail
            go_region_held3 (fun wz => wz.cell? ⟨N, 0, none⟩ = some (.int .i64 c.r) ∧ wz.cell? ⟨N, 1, none⟩ = some (.int .i64 c.o) ∧ wz.cell? ⟨N, 2, none⟩ = some (.int .i64 c.s) ∧ wz.cell? ⟨N, 3, none⟩ = some (.int .i64 c.d) ∧ wz.cell? ⟨N, 4, none⟩ = some (.int .i64 c.t) ∧ wz.cell? ⟨N, 5, none⟩ = some (.int .i64 c.l) ∧ wz.cell? ⟨N, 6, none⟩ = some (.int .i64 c.g) ∧ wz.cell? ⟨N, 7, none⟩ = some (.int .i64 c.k) ∧ wz.cell? ⟨N, 8, none⟩ = some (.int .i64 c.u) ∧ wz.cell? ⟨N, 9, none⟩ = some (.int .i64 c.e) ∧ wz.cell? ⟨N, 10, none⟩ = some (.int .i64 c.i) ∧ wz.cell? ⟨N, 11, none⟩ = some (.int .i64 c.p) ∧ wz.cell? ⟨N + 1 + 1 + 1, n, none⟩ = some (.int .i64 1)) (first | exact ⟨(unhide hS).env.drew.x.cells.1, (unhide hS).env.drew.x.cells.2.1, (unhide hS).env.drew.x.cells.2.2.1, (unhide hS).env.drew.x.cells.2.2.2.1, (unhide hS).env.drew.x.cells.2.2.2.2.1, (unhide hS).env.drew.x.cells.2.2.2.2.2.1, (unhide hS).env.drew.x.cells.2.2.2.2.2.2.1, (unhide hS).env.drew.x.cells.2.2.2.2.2.2.2.1, (unhide hS).env.drew.x.cells.2.2.2.2.2.2.2.2.1, (unhide hS).env.drew.x.cells.2.2.2.2.2.2.2.2.2.1, (unhide hS).env.drew.x.cells.2.2.2.2.2.2.2.2.2.2.1, (unhide hS).env.drew.x.cells.2.2.2.2.2.2.2.2.2.2.2, cH⟩ | exact ⟨y0, y1, y2, y3, y4, y5, y6, y7, y8, y9, y10, y11, y12⟩)
              (first
                | (go_at_call 13; with_reducible refine Calls.mono kO ?_; rintro e wl ⟨bl, rfl, ol, sl1, ll, hE1, fl⟩; have hS1 := (unhide hS).drew.next fl; obtain ⟨y0, y1, y2, y3, y4, y5, y6, y7, y8, y9, y10, y11⟩ := hS1.env.x.cells; have y12 := (hS1.rh.cell (show n < 16 by omega)).trans (by rw [hv1])))
            have rA := (unhide hS).drew.ra.lt
            have rK := (unhide hS).drew.rk.lt
            have rH := (unhide hS).drew.rh.lt
            have nlA : bl ≠ N + 1 := by omega
            have nlK : bl ≠ N + 1 + 1 := by omega
            have nlH : bl ≠ N + 1 + 1 + 1 := by omega
            have nlb : ∀ u, n + 1 ≤ u → live (P u) = true → bs u ≠ bl := fun u hu hl => by obtain ⟨L, h1, _⟩ := (unhide hS).drew.lat u hu hl; have := h1.lt; omega
            replace nlb := hide nlb
            have hS1 := hide hS1
            have ll := hide ll
            clear kO hS hE1 fl y0 y1 y2 y3 y4 y5 y6 y7 y8 y9 y10 y11 y12 cH rA rK rH sl1
            go_wp2_with fail
            go_loopw [16] (fun i wi => ((i = .int .i64 0 ∧ Lat wi bl (newL 6 c 2 (n : Int) false 0) ∧ En W c N cb r (N + 1) (N + 1 + 1) (N + 1 + 1 + 1) sl T P bs kd n (n + 1) Q own1 m1 hv wi) ∨ (i = .int .i64 1 ∧ ∃ (own2 : Int) (m2 : Mm) (L2 : LS), L2.p = 9 ∧ Lat wi bl L2 ∧ En W c N cb r (N + 1) (N + 1 + 1) (N + 1 + 1 + 1) sl T P bs kd n (n + 1) (upP Q n (.idle 0)) own2 m2 hv wi))) (fun i _ => 2 - (intOf i).toNat)
            case atStart => exact .inl ⟨rfl, unhide ll, unhide hS1⟩
            case round =>
              rcases hrel with ⟨rfl, hl, hS⟩ | ⟨rfl, own2, m2, L2, p9, hl, hS⟩
              · have dz : decide (8 ≤ (newL 6 c 2 (n : Int) false 0).p) = false := rfl
                replace dz := hide dz
                replace hS := hide hS
                go_wp2_with fail
                refine (done_any bl _ _ hl).mono ?_
                rw [unhide dz]
                rintro e _ ⟨rfl, rfl⟩
                go_wp2_with fail
                refine (env_step (unhide hS).env hl ol (unhide ok2)).mono ?_
                rintro e w8 ⟨rfl, hl8, hE8, ht8⟩
                obtain ⟨own2, I3, a3, p3⟩ := unhide G
                rw [upP_upP] at I3 a3
                have hS8 := hide ((unhide hS).tri ek nlA nlK nlH (unhide nlb) hE8 ht8 I3 a3 (fun u hu => by rw [upP_ne Q _ (by omega)]; exact (unhide hS).q0 u hu) (fun u hu => by rw [upP_ne Q _ (by omega)]; exact (unhide hS).q1 u hu))
                replace p3 := hide p3
                clear I3 a3 hS hl hE8 ht8
                go_wp2
                go_roundw
                case rel => exact .inr ⟨rfl, own2, _, _, unhide p3, hl8, unhide hS8⟩
                case measure => simp [intOf]
              · have d9 : decide (8 ≤ L2.p) = true := by rw [p9]; rfl
                have g9 : (L2.p == 9) = true := by rw [p9]; rfl
                replace d9 := hide d9
                replace g9 := hide g9
                clear p9
                have hS9 := hide (hS.shut (upP_at Q n (.idle 0)))
                clear hS
                go_wp2_with fail
                refine (done_any bl _ _ hl).mono ?_
                rw [unhide d9]
                rintro e _ ⟨rfl, rfl⟩
                go_wp2_with fail
                refine (got_any bl _ _ hl).mono ?_
                rw [unhide g9]
                rintro e _ ⟨rfl, rfl⟩
                go_wp2
                go_roundw
                case rel => exact ⟨n + 1, _, _, _, hv, by omega, by go_num, unhide hS9⟩
                case measure => first | omega | (simp; omega) | (simp [intOf]; omega)
          · have bo : Born 2 4 := by unfold Born; omega
            obtain ⟨I2, M2⟩ := hS.inv.born hlt hQ bo
            have F2 : Fit sl n (newL 7 c 2 (n : Int) false 0) .endW := born_fit (unhide hcT) (unhide hl1) hlt bo
            have Q2 : upP Q n (bornP 2 4) n = .endW := upP_at _ _ _
            have ok2 : Ok 9 (newL 7 c 2 (n : Int) false 0) := ok_new hn 7 2 (n : Int) false 0 (by decide) (by decide) (by decide)
            have a2 := hS.ab
            rw [← M2] at a2
            have G := hide (end_step (L := newL 7 c 2 (n : Int) false 0) (m := m1) I2 hT hlt a2 (by rw [Q2]; exact F2) (.inr Q2))
            have wk : IntKind.i64.wrap 4 = 4 := kin (by decide) (by decide)
            replace ok2 := hide ok2
            replace I2 := hide I2
            replace a2 := hide a2
            clear F2 M2 Q2
            have kO := env_made (opens4 c (n : Int) _) hS.env.drew
            unfold cv at kO
            replace hS := hide hS
            go_wp2_with fail
            go_region_held3 (fun wz => wz.cell? ⟨N, 0, none⟩ = some (.int .i64 c.r) ∧ wz.cell? ⟨N, 1, none⟩ = some (.int .i64 c.o) ∧ wz.cell? ⟨N, 2, none⟩ = some (.int .i64 c.s) ∧ wz.cell? ⟨N, 3, none⟩ = some (.int .i64 c.d) ∧ wz.cell? ⟨N, 4, none⟩ = some (.int .i64 c.t) ∧ wz.cell? ⟨N, 5, none⟩ = some (.int .i64 c.l) ∧ wz.cell? ⟨N, 6, none⟩ = some (.int .i64 c.g) ∧ wz.cell? ⟨N, 7, none⟩ = some (.int .i64 c.k) ∧ wz.cell? ⟨N, 8, none⟩ = some (.int .i64 c.u) ∧ wz.cell? ⟨N, 9, none⟩ = some (.int .i64 c.e) ∧ wz.cell? ⟨N, 10, none⟩ = some (.int .i64 c.i) ∧ wz.cell? ⟨N, 11, none⟩ = some (.int .i64 c.p) ∧ wz.cell? ⟨N + 1 + 1 + 1, n, none⟩ = some (.int .i64 2)) (first | exact ⟨(unhide hS).env.drew.x.cells.1, (unhide hS).env.drew.x.cells.2.1, (unhide hS).env.drew.x.cells.2.2.1, (unhide hS).env.drew.x.cells.2.2.2.1, (unhide hS).env.drew.x.cells.2.2.2.2.1, (unhide hS).env.drew.x.cells.2.2.2.2.2.1, (unhide hS).env.drew.x.cells.2.2.2.2.2.2.1, (unhide hS).env.drew.x.cells.2.2.2.2.2.2.2.1, (unhide hS).env.drew.x.cells.2.2.2.2.2.2.2.2.1, (unhide hS).env.drew.x.cells.2.2.2.2.2.2.2.2.2.1, (unhide hS).env.drew.x.cells.2.2.2.2.2.2.2.2.2.2.1, (unhide hS).env.drew.x.cells.2.2.2.2.2.2.2.2.2.2.2, cH⟩ | exact ⟨y0, y1, y2, y3, y4, y5, y6, y7, y8, y9, y10, y11, y12⟩)
              (first
                | (go_at_call 13; with_reducible refine Calls.mono kO ?_; rintro e wl ⟨bl, rfl, ol, sl1, ll, hE1, fl⟩; have hS1 := (unhide hS).drew.next fl; obtain ⟨y0, y1, y2, y3, y4, y5, y6, y7, y8, y9, y10, y11⟩ := hS1.env.x.cells; have y12 := (hS1.rh.cell (show n < 16 by omega)).trans (by rw [hv1])))
            have rA := (unhide hS).drew.ra.lt
            have rK := (unhide hS).drew.rk.lt
            have rH := (unhide hS).drew.rh.lt
            have nlA : bl ≠ N + 1 := by omega
            have nlK : bl ≠ N + 1 + 1 := by omega
            have nlH : bl ≠ N + 1 + 1 + 1 := by omega
            have nlb : ∀ u, n + 1 ≤ u → live (P u) = true → bs u ≠ bl := fun u hu hl => by obtain ⟨L, h1, _⟩ := (unhide hS).drew.lat u hu hl; have := h1.lt; omega
            replace nlb := hide nlb
            have hS1 := hide hS1
            have ll := hide ll
            clear kO hS hE1 fl y0 y1 y2 y3 y4 y5 y6 y7 y8 y9 y10 y11 y12 cH rA rK rH sl1
            go_wp2_with fail
            go_loopw [16] (fun i wi => ((i = .int .i64 0 ∧ Lat wi bl (newL 7 c 2 (n : Int) false 0) ∧ En W c N cb r (N + 1) (N + 1 + 1) (N + 1 + 1 + 1) sl T P bs kd n (n + 1) Q own1 m1 hv wi) ∨ (i = .int .i64 1 ∧ ∃ (own2 : Int) (m2 : Mm) (L2 : LS), L2.p = 9 ∧ Lat wi bl L2 ∧ En W c N cb r (N + 1) (N + 1 + 1) (N + 1 + 1 + 1) sl T P bs kd n (n + 1) (upP Q n (.idle 0)) own2 m2 hv wi))) (fun i _ => 2 - (intOf i).toNat)
            case atStart => exact .inl ⟨rfl, unhide ll, unhide hS1⟩
            case round =>
              rcases hrel with ⟨rfl, hl, hS⟩ | ⟨rfl, own2, m2, L2, p9, hl, hS⟩
              · have dz : decide (8 ≤ (newL 7 c 2 (n : Int) false 0).p) = false := rfl
                replace dz := hide dz
                replace hS := hide hS
                go_wp2_with fail
                refine (done_any bl _ _ hl).mono ?_
                rw [unhide dz]
                rintro e _ ⟨rfl, rfl⟩
                go_wp2_with fail
                refine (env_step (unhide hS).env hl ol (unhide ok2)).mono ?_
                rintro e w8 ⟨rfl, hl8, hE8, ht8⟩
                obtain ⟨own2, I3, a3, p3⟩ := unhide G
                rw [upP_upP] at I3 a3
                have hS8 := hide ((unhide hS).tri ek nlA nlK nlH (unhide nlb) hE8 ht8 I3 a3 (fun u hu => by rw [upP_ne Q _ (by omega)]; exact (unhide hS).q0 u hu) (fun u hu => by rw [upP_ne Q _ (by omega)]; exact (unhide hS).q1 u hu))
                replace p3 := hide p3
                clear I3 a3 hS hl hE8 ht8
                go_wp2
                go_roundw
                case rel => exact .inr ⟨rfl, own2, _, _, unhide p3, hl8, unhide hS8⟩
                case measure => simp [intOf]
              · have d9 : decide (8 ≤ L2.p) = true := by rw [p9]; rfl
                have g9 : (L2.p == 9) = true := by rw [p9]; rfl
                replace d9 := hide d9
                replace g9 := hide g9
                clear p9
                have hS9 := hide (hS.shut (upP_at Q n (.idle 0)))
                clear hS
                go_wp2_with fail
                refine (done_any bl _ _ hl).mono ?_
                rw [unhide d9]
                rintro e _ ⟨rfl, rfl⟩
                go_wp2_with fail
                refine (got_any bl _ _ hl).mono ?_
                rw [unhide g9]
                rintro e _ ⟨rfl, rfl⟩
                go_wp2
                go_roundw
                case rel => exact ⟨n + 1, _, _, _, hv, by omega, by go_num, unhide hS9⟩
                case measure => first | omega | (simp; omega) | (simp [intOf]; omega)
      · obtain ⟨L, hL, hF, hok⟩ := hln hlive
        have ob := ek.ow n hlive
        have eA : ptr (P n) (bs n) = .pointer (some ⟨bs n, 0, none⟩) := by unfold ptr; rw [hlive]; rfl
        replace eA := hide eA
        have eK := hide (ek.kk n hlive)
        have cA := hS.ra.cell (show n < 16 by omega)
        rw [unhide eA] at cA
        have cK := hS.rk.cell (show n < 16 by omega)
        rw [unhide eK] at cK
        replace hqn := hide hqn
        replace hvn := hide hvn
        have nbn : ∀ u, n + 1 ≤ u → live (P u) = true → bs u ≠ bs n := fun u hu hl => ek.inj u n hl hlive (by omega)
        replace nbn := hide nbn
        replace hlive := hide hlive
        obtain ⟨kp, hkp⟩ : ∃ kp, kindOf (P n) = kp := ⟨_, rfl⟩
        rw [hkp] at cK
        replace hkp := hide hkp
        replace hF := hide hF
        replace hok := hide hok
        clear hln
        go_upto_if 32 with fail
        go_cut [13] from 18 to 111 (fun t13 wc => t13 = .int .i64 (n : Int) ∧ ∃ (Q1 : Nat → Ph) (L1 : LS), En W c N cb r (N + 1) (N + 1 + 1) (N + 1 + 1 + 1) sl T P bs kd n (n + 1) Q1 own1 m1 hv wc ∧ Lat wc (bs n) L1 ∧ Ok 9 L1 ∧ Rn sl n (P n) L1 (Q1 n) ∧ rank (Q1 n) ≤ 3)
        case first =>
          by_cases hk2 : kp = 2
          · have kb : ((kp : Int) == 2) = true := by simp; omega
            have hc := hS.inv.cancels hlt (by rw [unhide hqn]; exact unhide hF) (by rw [unhide hqn, unhide hkp]; exact hk2)
            rw [unhide hqn] at hc
            replace hc := hide hc
            replace hS := hide hS
            have hk2h := hide hk2
            clear hk2
            go_wp2_with fail
            refine (cancel_any (bs n) _ _ hL).mono ?_
            rintro e wx ⟨rfl, hLx, htx⟩
            have hEx := (unhide hS).env.one ob.1 htx
            have hSx : ∀ (Q' : Nat → Ph), Inv sl T Q' own1 → mkR Q' = mkR Q → (∀ u, u ≠ n → Q' u = Q u) → En W c N cb r (N + 1) (N + 1 + 1) (N + 1 + 1 + 1) sl T P bs kd n (n + 1) Q' own1 m1 hv wx := fun Q' hI hM hq => (unhide hS).tri ek ob.2.1 ob.2.2.1 ob.2.2.2 (unhide nbn) hEx (htx.one cb r) hI (by rw [hM]; exact (unhide hS).ab) (fun u hu => by rw [hq u (by omega)]; exact (unhide hS).q0 u hu) (fun u hu => by rw [hq u (by omega)]; exact (unhide hS).q1 u hu)
            replace hSx := hide hSx
            replace htx := hide htx
            replace hEx := hide hEx
            clear hL
            go_wp2
            go_meet
            case rel =>
              refine ⟨rfl, ?_⟩
              rcases unhide hc with ⟨p8, I8, M8⟩ | ⟨ph, I5, M5, F5, q5, r5, k5, h5⟩
              · exact ⟨_, _, unhide hSx _ I8 M8 (fun u hu => upP_ne Q _ hu), hLx, cancel_ok (unhide hok), by rw [upP_at]; exact .inr (.inl ⟨p8, by rw [unhide hkp, unhide hk2h]; omega, rfl⟩), by rw [upP_at]; exact Nat.zero_le _⟩
              · exact ⟨_, _, unhide hSx _ I5 M5 (fun u hu => upP_ne Q _ hu), hLx, cancel_ok (unhide hok), by rw [upP_at]; exact .inr (.inr ⟨fit_lt (by have := I5.wf n; rwa [upP_at] at this) F5, F5, q5, by rw [k5, unhide hkp, unhide hk2h], h5⟩), by rw [upP_at]; exact r5⟩
          · have kb : ((kp : Int) == 2) = false := by simp; omega
            have hq5 := quick_of (unhide hlive) (by rw [unhide hkp]; exact hk2)
            have hRn : Rn sl n (P n) L (Q n) ∧ rank (Q n) ≤ 3 := by rw [unhide hqn]; exact ⟨.inr (.inr ⟨fit_lt (by have := hS.inv.wf n; rwa [unhide hqn] at this) (unhide hF), unhide hF, hq5.1, rfl, rfl⟩), hq5.2⟩
            replace hRn := hide hRn
            replace hq5 := hide hq5
            replace hS := hide hS
            go_wp2
            go_meet
            case rel => exact ⟨rfl, Q, L, unhide hS, hL, unhide hok, (unhide hRn).1, (unhide hRn).2⟩
        obtain ⟨rfl, Q1, L1, hS1, hL1, hok1, hR1, hr1⟩ := hcut
        clear hS hL hF hok cA cK hqn
        replace hS1 := hide hS1
        replace hL1 := hide hL1
        replace hok1 := hide hok1
        replace hR1 := hide hR1
        replace hr1 := hide hr1
        go_wp2_with fail
        go_loopw [14] (fun i wi => ∃ (q : Nat) (Q2 : Nat → Ph) (own2 : Int) (m2 : Mm) (L2 : LS), i = .int .i64 q ∧ q + rank (Q2 n) ≤ 3 ∧ En W c N cb r (N + 1) (N + 1 + 1) (N + 1 + 1 + 1) sl T P bs kd n (n + 1) Q2 own2 m2 hv wi ∧ Lat wi (bs n) L2 ∧ Ok 9 L2 ∧ Rn sl n (P n) L2 (Q2 n)) (fun i _ => 4 - (intOf i).toNat)
        case atStart => exact ⟨0, Q1, own1, m1, L1, rfl, by have := unhide hr1; omega, unhide hS1, unhide hL1, unhide hok1, unhide hR1⟩
        case round =>
          obtain ⟨q, Q2, own2, m2, L2, rfl, hq3, hS, hL, hok, hR⟩ := hrel
          clear hS1 hL1 hok1 hR1 hr1
          have cA := hS.ra.cell (show n < 16 by omega)
          rw [unhide eA] at cA
          have qd : decide ((q : Int) < 50) = true := decide_eq_true (by omega)
          have q3 : (q : Int) ≤ 3 := by omega
          have hq3h := hide hq3
          have hokh := hide hok
          clear hok
          by_cases hrun : L2.p < 8
          · have hrs : ∃ (ph : Ph) (own3 : Int), Inv sl T (upP Q2 n ph) own3 ∧ Ab sl own3 (mkR (upP Q2 n ph)) (itM 1 L2 m2).f ∧ Rn sl n (P n) (itL 1 L2 m2) ph ∧ rank ph < rank (Q2 n) := by
              rcases hR with ⟨e, _⟩ | ⟨e, _⟩ | ⟨_, g2, g3, g4, g5⟩
              · omega
              · omega
              · exact Rn.step hS.inv hT hlt hS.ab g2 g3 g4 g5
            replace hrs := hide hrs
            have dn : decide (8 ≤ L2.p) = false := decide_eq_false (by omega)
            replace dn := hide dn
            replace hS := hide hS
            clear hR hrun hq3
            go_wp2_with fail
            refine (done_any (bs n) _ _ hL).mono ?_
            rw [unhide dn]
            rintro e _ ⟨rfl, rfl⟩
            go_wp2_with fail
            refine (env_step (unhide hS).env hL ob.1 (unhide hokh)).mono ?_
            rintro e w8 ⟨rfl, hL8, hE8, ht8⟩
            obtain ⟨ph, own3, I3, a3, R3, r3⟩ := unhide hrs
            have hS8 := hide ((unhide hS).tri ek ob.2.1 ob.2.2.1 ob.2.2.2 (unhide nbn) hE8 ht8 I3 a3 (fun u hu => by rw [upP_ne Q2 _ (by omega)]; exact (unhide hS).q0 u hu) (fun u hu => by rw [upP_ne Q2 _ (by omega)]; exact (unhide hS).q1 u hu))
            replace R3 := hide R3
            replace r3 := hide r3
            clear I3 a3 hS hL hE8 ht8 cA
            go_wp2
            go_roundw
            case rel => exact ⟨q + 1, upP Q2 n ph, own3, _, _, by go_num, by rw [upP_at]; have := unhide r3; have := unhide hq3h; omega, unhide hS8, hL8, it_ok (unhide hokh) 1, by rw [upP_at]; exact unhide R3⟩
            case measure => have := unhide hq3h; have := unhide r3; simp [intOf]; omega
          · have dn : decide (8 ≤ L2.p) = true := decide_eq_true (by omega)
            replace dn := hide dn
            have hvn2 := unhide hvn
            replace hR := hide hR
            clear hq3
            go_wp2_with fail
            refine (done_any (bs n) _ _ hL).mono ?_
            rw [unhide dn]
            rintro e _ ⟨rfl, rfl⟩
            have cK := hS.rk.cell (show n < 16 by omega)
            rw [unhide eK, unhide hkp] at cK
            have cH := hS.rh.cell (show n < 16 by omega)
            have fH := hS.rh.frozen n
            replace hS := hide hS
            replace hrun := hide hrun
            replace hvn2 := hide hvn2
            go_upto_if 62 with fail
            go_cut [13] from 18 to 111 (fun t13 wc => t13 = .int .i64 (n : Int) ∧ ∃ (h : Nat) (hv3 : Nat → Int), En W c N cb r (N + 1) (N + 1 + 1) (N + 1 + 1 + 1) sl T P bs kd n (n + 1) Q2 own2 m2 hv3 wc ∧ Q2 n = .idle h ∧ hv3 n = (h : Int))
            case first =>
              go_wp2_with fail
              refine (done_any (bs n) _ _ hL).mono ?_
              rw [unhide dn]
              rintro e _ ⟨rfl, rfl⟩
              by_cases hk2 : kp ≤ 2
              · have kb : decide (2 < (kp : Int)) = false := decide_eq_false (by omega)
                rcases unhide hR with ⟨e9, q9⟩ | ⟨e8, _, q8⟩ | ⟨e7, _⟩
                · have g9 : (L2.p == 9) = true := by rw [e9]; rfl
                  replace g9 := hide g9
                  rw [unhide hkp, if_pos hk2] at q9
                  replace q9 := hide q9
                  replace e9 := hide e9
                  clear hk2
                  go_wp2_with fail
                  refine (got_any (bs n) _ _ hL).mono ?_
                  rw [unhide g9]
                  rintro e _ ⟨rfl, rfl⟩
                  have hS9 := hide ((unhide hS).put ek n (Nat.lt_succ_self n) (kp : Int))
                  go_wp2
                  go_meet
                  case rel => exact ⟨rfl, kp, _, unhide hS9, unhide q9, by simp⟩
                · have g9 : (L2.p == 9) = false := by rw [e8]; rfl
                  replace g9 := hide g9
                  replace q8 := hide q8
                  replace e8 := hide e8
                  clear hk2
                  go_wp2_with fail
                  refine (got_any (bs n) _ _ hL).mono ?_
                  rw [unhide g9]
                  rintro e _ ⟨rfl, rfl⟩
                  go_wp2
                  go_meet
                  case rel => exact ⟨rfl, _, hv, unhide hS, unhide q8, unhide hvn2⟩
                · exact absurd e7 (Int.not_lt.2 (unhide hrun))
              · have kb : decide (2 < (kp : Int)) = true := decide_eq_true (by omega)
                rcases unhide hR with ⟨e9, q9⟩ | ⟨e8, k8, q8⟩ | ⟨e7, _⟩
                · have g9 : (L2.p == 9) = true := by rw [e9]; rfl
                  rw [unhide hkp, if_neg hk2] at q9
                  replace q9 := hide q9
                  replace e9 := hide e9
                  replace g9 := hide g9
                  clear hk2
                  have hS9 := hide ((unhide hS).put ek n (Nat.lt_succ_self n) 0)
                  go_wp2
                  go_meet
                  case rel => exact ⟨rfl, 0, _, unhide hS9, unhide q9, by simp⟩
                · exact absurd (by rw [← unhide hkp]; exact k8) hk2
                · exact absurd e7 (Int.not_lt.2 (unhide hrun))
            obtain ⟨rfl, h, hv3, hS3, hQ, hv1⟩ := hcut
            clear hS cA cK cH fH hR hrun hL hvn2 dn hvn
            have hS := hS3
            clear hS3
            have cH := hS.rh.cell (show n < 16 by omega)
            rw [hv1] at cH
            have h02 : h = 0 ∨ h = 1 ∨ h = 2 := by have := hS.inv.wf n; rw [hQ] at this; have t2 : h ≤ 2 := this; omega
            rcases h02 with rfl | rfl | rfl
            · have hS2 := hide (hS.shut hQ)
              clear hS
              go_wp2
              go_roundw
              case rel => exact ⟨n + 1, Q2, own2, m2, hv3, by omega, by go_num, unhide hS2⟩
              case measure => first | omega | (simp; omega) | (simp [intOf]; omega)
            · have bo : Born 1 3 := by unfold Born; omega
              obtain ⟨I2, M2⟩ := hS.inv.born hlt hQ bo
              have F2 : Fit sl n (newL 6 c 2 (n : Int) false 0) .endR := born_fit (unhide hcT) (unhide hl1) hlt bo
              have Q2 : upP Q2 n (bornP 1 3) n = .endR := upP_at _ _ _
              have ok2 : Ok 9 (newL 6 c 2 (n : Int) false 0) := ok_new hn 6 2 (n : Int) false 0 (by decide) (by decide) (by decide)
              have a2 := hS.ab
              rw [← M2] at a2
              have G := hide (end_step (L := newL 6 c 2 (n : Int) false 0) (m := m2) I2 hT hlt a2 (by rw [Q2]; exact F2) (.inl Q2))
              have wk : IntKind.i64.wrap 3 = 3 := kin (by decide) (by decide)
              replace ok2 := hide ok2
              replace I2 := hide I2
              replace a2 := hide a2
              clear F2 M2 Q2
              have kO := env_made (opens3 c (n : Int) _) hS.env.drew
              unfold cv at kO
              replace hS := hide hS
              go_wp2_with fail
              go_region_held3 (fun wz => wz.cell? ⟨N, 0, none⟩ = some (.int .i64 c.r) ∧ wz.cell? ⟨N, 1, none⟩ = some (.int .i64 c.o) ∧ wz.cell? ⟨N, 2, none⟩ = some (.int .i64 c.s) ∧ wz.cell? ⟨N, 3, none⟩ = some (.int .i64 c.d) ∧ wz.cell? ⟨N, 4, none⟩ = some (.int .i64 c.t) ∧ wz.cell? ⟨N, 5, none⟩ = some (.int .i64 c.l) ∧ wz.cell? ⟨N, 6, none⟩ = some (.int .i64 c.g) ∧ wz.cell? ⟨N, 7, none⟩ = some (.int .i64 c.k) ∧ wz.cell? ⟨N, 8, none⟩ = some (.int .i64 c.u) ∧ wz.cell? ⟨N, 9, none⟩ = some (.int .i64 c.e) ∧ wz.cell? ⟨N, 10, none⟩ = some (.int .i64 c.i) ∧ wz.cell? ⟨N, 11, none⟩ = some (.int .i64 c.p) ∧ wz.cell? ⟨N + 1 + 1 + 1, n, none⟩ = some (.int .i64 1)) (first | exact ⟨(unhide hS).env.drew.x.cells.1, (unhide hS).env.drew.x.cells.2.1, (unhide hS).env.drew.x.cells.2.2.1, (unhide hS).env.drew.x.cells.2.2.2.1, (unhide hS).env.drew.x.cells.2.2.2.2.1, (unhide hS).env.drew.x.cells.2.2.2.2.2.1, (unhide hS).env.drew.x.cells.2.2.2.2.2.2.1, (unhide hS).env.drew.x.cells.2.2.2.2.2.2.2.1, (unhide hS).env.drew.x.cells.2.2.2.2.2.2.2.2.1, (unhide hS).env.drew.x.cells.2.2.2.2.2.2.2.2.2.1, (unhide hS).env.drew.x.cells.2.2.2.2.2.2.2.2.2.2.1, (unhide hS).env.drew.x.cells.2.2.2.2.2.2.2.2.2.2.2, cH⟩ | exact ⟨y0, y1, y2, y3, y4, y5, y6, y7, y8, y9, y10, y11, y12⟩)
                (first
                  | (go_at_call 13; with_reducible refine Calls.mono kO ?_; rintro e wl ⟨bl, rfl, ol, sl1, ll, hE1, fl⟩; have hS1 := (unhide hS).drew.next fl; obtain ⟨y0, y1, y2, y3, y4, y5, y6, y7, y8, y9, y10, y11⟩ := hS1.env.x.cells; have y12 := (hS1.rh.cell (show n < 16 by omega)).trans (by rw [hv1])))
              have rA := (unhide hS).drew.ra.lt
              have rK := (unhide hS).drew.rk.lt
              have rH := (unhide hS).drew.rh.lt
              have nlA : bl ≠ N + 1 := by omega
              have nlK : bl ≠ N + 1 + 1 := by omega
              have nlH : bl ≠ N + 1 + 1 + 1 := by omega
              have nlb : ∀ u, n + 1 ≤ u → live (P u) = true → bs u ≠ bl := fun u hu hl => by obtain ⟨L, h1, _⟩ := (unhide hS).drew.lat u hu hl; have := h1.lt; omega
              replace nlb := hide nlb
              have hS1 := hide hS1
              have ll := hide ll
              clear kO hS hE1 fl y0 y1 y2 y3 y4 y5 y6 y7 y8 y9 y10 y11 y12 cH rA rK rH sl1
              go_wp2_with fail
              go_loopw [16] (fun i wi => ((i = .int .i64 0 ∧ Lat wi bl (newL 6 c 2 (n : Int) false 0) ∧ En W c N cb r (N + 1) (N + 1 + 1) (N + 1 + 1 + 1) sl T P bs kd n (n + 1) Q2 own2 m2 hv3 wi) ∨ (i = .int .i64 1 ∧ ∃ (own9 : Int) (m9 : Mm) (L2 : LS), L2.p = 9 ∧ Lat wi bl L2 ∧ En W c N cb r (N + 1) (N + 1 + 1) (N + 1 + 1 + 1) sl T P bs kd n (n + 1) (upP Q2 n (.idle 0)) own9 m9 hv3 wi))) (fun i _ => 2 - (intOf i).toNat)
              case atStart => exact .inl ⟨rfl, unhide ll, unhide hS1⟩
              case round =>
                rcases hrel with ⟨rfl, hl, hS⟩ | ⟨rfl, own9, m9, L2, p9, hl, hS⟩
                · have dz : decide (8 ≤ (newL 6 c 2 (n : Int) false 0).p) = false := rfl
                  replace dz := hide dz
                  replace hS := hide hS
                  go_wp2_with fail
                  refine (done_any bl _ _ hl).mono ?_
                  rw [unhide dz]
                  rintro e _ ⟨rfl, rfl⟩
                  go_wp2_with fail
                  refine (env_step (unhide hS).env hl ol (unhide ok2)).mono ?_
                  rintro e w8 ⟨rfl, hl8, hE8, ht8⟩
                  obtain ⟨own9, I3, a3, p3⟩ := unhide G
                  rw [upP_upP] at I3 a3
                  have hS8 := hide ((unhide hS).tri ek nlA nlK nlH (unhide nlb) hE8 ht8 I3 a3 (fun u hu => by rw [upP_ne Q2 _ (by omega)]; exact (unhide hS).q0 u hu) (fun u hu => by rw [upP_ne Q2 _ (by omega)]; exact (unhide hS).q1 u hu))
                  replace p3 := hide p3
                  clear I3 a3 hS hl hE8 ht8
                  go_wp2
                  go_roundw
                  case rel => exact .inr ⟨rfl, own9, _, _, unhide p3, hl8, unhide hS8⟩
                  case measure => simp [intOf]
                · have d9 : decide (8 ≤ L2.p) = true := by rw [p9]; rfl
                  have g9 : (L2.p == 9) = true := by rw [p9]; rfl
                  replace d9 := hide d9
                  replace g9 := hide g9
                  clear p9
                  have hS9 := hide (hS.shut (upP_at Q2 n (.idle 0)))
                  clear hS
                  go_wp2_with fail
                  refine (done_any bl _ _ hl).mono ?_
                  rw [unhide d9]
                  rintro e _ ⟨rfl, rfl⟩
                  go_wp2_with fail
                  refine (got_any bl _ _ hl).mono ?_
                  rw [unhide g9]
                  rintro e _ ⟨rfl, rfl⟩
                  go_wp2
                  go_roundw
                  case rel => exact ⟨n + 1, _, _, _, hv3, by omega, by go_num, unhide hS9⟩
                  case measure => first | omega | (simp; omega) | (simp [intOf]; omega)
            · have bo : Born 2 4 := by unfold Born; omega
              obtain ⟨I2, M2⟩ := hS.inv.born hlt hQ bo
              have F2 : Fit sl n (newL 7 c 2 (n : Int) false 0) .endW := born_fit (unhide hcT) (unhide hl1) hlt bo
              have Q2 : upP Q2 n (bornP 2 4) n = .endW := upP_at _ _ _
              have ok2 : Ok 9 (newL 7 c 2 (n : Int) false 0) := ok_new hn 7 2 (n : Int) false 0 (by decide) (by decide) (by decide)
              have a2 := hS.ab
              rw [← M2] at a2
              have G := hide (end_step (L := newL 7 c 2 (n : Int) false 0) (m := m2) I2 hT hlt a2 (by rw [Q2]; exact F2) (.inr Q2))
              have wk : IntKind.i64.wrap 4 = 4 := kin (by decide) (by decide)
              replace ok2 := hide ok2
              replace I2 := hide I2
              replace a2 := hide a2
              clear F2 M2 Q2
              have kO := env_made (opens4 c (n : Int) _) hS.env.drew
              unfold cv at kO
              replace hS := hide hS
              go_wp2_with fail
              go_region_held3 (fun wz => wz.cell? ⟨N, 0, none⟩ = some (.int .i64 c.r) ∧ wz.cell? ⟨N, 1, none⟩ = some (.int .i64 c.o) ∧ wz.cell? ⟨N, 2, none⟩ = some (.int .i64 c.s) ∧ wz.cell? ⟨N, 3, none⟩ = some (.int .i64 c.d) ∧ wz.cell? ⟨N, 4, none⟩ = some (.int .i64 c.t) ∧ wz.cell? ⟨N, 5, none⟩ = some (.int .i64 c.l) ∧ wz.cell? ⟨N, 6, none⟩ = some (.int .i64 c.g) ∧ wz.cell? ⟨N, 7, none⟩ = some (.int .i64 c.k) ∧ wz.cell? ⟨N, 8, none⟩ = some (.int .i64 c.u) ∧ wz.cell? ⟨N, 9, none⟩ = some (.int .i64 c.e) ∧ wz.cell? ⟨N, 10, none⟩ = some (.int .i64 c.i) ∧ wz.cell? ⟨N, 11, none⟩ = some (.int .i64 c.p) ∧ wz.cell? ⟨N + 1 + 1 + 1, n, none⟩ = some (.int .i64 2)) (first | exact ⟨(unhide hS).env.drew.x.cells.1, (unhide hS).env.drew.x.cells.2.1, (unhide hS).env.drew.x.cells.2.2.1, (unhide hS).env.drew.x.cells.2.2.2.1, (unhide hS).env.drew.x.cells.2.2.2.2.1, (unhide hS).env.drew.x.cells.2.2.2.2.2.1, (unhide hS).env.drew.x.cells.2.2.2.2.2.2.1, (unhide hS).env.drew.x.cells.2.2.2.2.2.2.2.1, (unhide hS).env.drew.x.cells.2.2.2.2.2.2.2.2.1, (unhide hS).env.drew.x.cells.2.2.2.2.2.2.2.2.2.1, (unhide hS).env.drew.x.cells.2.2.2.2.2.2.2.2.2.2.1, (unhide hS).env.drew.x.cells.2.2.2.2.2.2.2.2.2.2.2, cH⟩ | exact ⟨y0, y1, y2, y3, y4, y5, y6, y7, y8, y9, y10, y11, y12⟩)
                (first
                  | (go_at_call 13; with_reducible refine Calls.mono kO ?_; rintro e wl ⟨bl, rfl, ol, sl1, ll, hE1, fl⟩; have hS1 := (unhide hS).drew.next fl; obtain ⟨y0, y1, y2, y3, y4, y5, y6, y7, y8, y9, y10, y11⟩ := hS1.env.x.cells; have y12 := (hS1.rh.cell (show n < 16 by omega)).trans (by rw [hv1])))
              have rA := (unhide hS).drew.ra.lt
              have rK := (unhide hS).drew.rk.lt
              have rH := (unhide hS).drew.rh.lt
              have nlA : bl ≠ N + 1 := by omega
              have nlK : bl ≠ N + 1 + 1 := by omega
              have nlH : bl ≠ N + 1 + 1 + 1 := by omega
              have nlb : ∀ u, n + 1 ≤ u → live (P u) = true → bs u ≠ bl := fun u hu hl => by obtain ⟨L, h1, _⟩ := (unhide hS).drew.lat u hu hl; have := h1.lt; omega
              replace nlb := hide nlb
              have hS1 := hide hS1
              have ll := hide ll
              clear kO hS hE1 fl y0 y1 y2 y3 y4 y5 y6 y7 y8 y9 y10 y11 y12 cH rA rK rH sl1
              go_wp2_with fail
              go_loopw [16] (fun i wi => ((i = .int .i64 0 ∧ Lat wi bl (newL 7 c 2 (n : Int) false 0) ∧ En W c N cb r (N + 1) (N + 1 + 1) (N + 1 + 1 + 1) sl T P bs kd n (n + 1) Q2 own2 m2 hv3 wi) ∨ (i = .int .i64 1 ∧ ∃ (own9 : Int) (m9 : Mm) (L2 : LS), L2.p = 9 ∧ Lat wi bl L2 ∧ En W c N cb r (N + 1) (N + 1 + 1) (N + 1 + 1 + 1) sl T P bs kd n (n + 1) (upP Q2 n (.idle 0)) own9 m9 hv3 wi))) (fun i _ => 2 - (intOf i).toNat)
              case atStart => exact .inl ⟨rfl, unhide ll, unhide hS1⟩
              case round =>
                rcases hrel with ⟨rfl, hl, hS⟩ | ⟨rfl, own9, m9, L2, p9, hl, hS⟩
                · have dz : decide (8 ≤ (newL 7 c 2 (n : Int) false 0).p) = false := rfl
                  replace dz := hide dz
                  replace hS := hide hS
                  go_wp2_with fail
                  refine (done_any bl _ _ hl).mono ?_
                  rw [unhide dz]
                  rintro e _ ⟨rfl, rfl⟩
                  go_wp2_with fail
                  refine (env_step (unhide hS).env hl ol (unhide ok2)).mono ?_
                  rintro e w8 ⟨rfl, hl8, hE8, ht8⟩
                  obtain ⟨own9, I3, a3, p3⟩ := unhide G
                  rw [upP_upP] at I3 a3
                  have hS8 := hide ((unhide hS).tri ek nlA nlK nlH (unhide nlb) hE8 ht8 I3 a3 (fun u hu => by rw [upP_ne Q2 _ (by omega)]; exact (unhide hS).q0 u hu) (fun u hu => by rw [upP_ne Q2 _ (by omega)]; exact (unhide hS).q1 u hu))
                  replace p3 := hide p3
                  clear I3 a3 hS hl hE8 ht8
                  go_wp2
                  go_roundw
                  case rel => exact .inr ⟨rfl, own9, _, _, unhide p3, hl8, unhide hS8⟩
                  case measure => simp [intOf]
                · have d9 : decide (8 ≤ L2.p) = true := by rw [p9]; rfl
                  have g9 : (L2.p == 9) = true := by rw [p9]; rfl
                  replace d9 := hide d9
                  replace g9 := hide g9
                  clear p9
                  have hS9 := hide (hS.shut (upP_at Q2 n (.idle 0)))
                  clear hS
                  go_wp2_with fail
                  refine (done_any bl _ _ hl).mono ?_
                  rw [unhide d9]
                  rintro e _ ⟨rfl, rfl⟩
                  go_wp2_with fail
                  refine (got_any bl _ _ hl).mono ?_
                  rw [unhide g9]
                  rintro e _ ⟨rfl, rfl⟩
                  go_wp2
                  go_roundw
                  case rel => exact ⟨n + 1, _, _, _, hv3, by omega, by go_num, unhide hS9⟩
                  case measure => first | omega | (simp; omega) | (simp [intOf]; omega)
    · obtain rfl : n = T := by omega
      have hQ0 : ∀ u, Q u = .idle 0 := fun u => by
        by_cases hu : u < n
        · exact hS.q0 u hu
        · exact hS.inv.out u (by omega)
      have hown : own1 = 0 := by
        rcases hS.inv.o2 with e | ⟨t, e⟩
        · exact e
        · have := (hS.inv.o1 t).2 e; rw [hQ0 t] at this; cases this
      have hz : ∀ i, i < 9 → m1.f i = 0 := fun i hi => by
        have ha := hS.ab
        rw [hown] at ha
        exact ha.clean (fun u => by show marks (Q u) = false; rw [hQ0 u]; rfl) i hi
      have hE := hide hS.env
      replace hz := hide hz
      clear hQ0 hown hS hlt hnT
      go_wp2_with fail
      go_loopw [17] (fun i wi => ∃ j : Nat, j ≤ 9 ∧ i = .int .i64 j ∧ Env W c N cb r 9 m1 wi) (fun i _ => 9 - (intOf i).toNat)
      case atStart => exact ⟨0, by omega, rfl, unhide hE⟩
      case round =>
        obtain ⟨j, hj, rfl, hE1⟩ := hrel
        clear hE
        have hE := hE1
        clear hE1
        obtain ⟨x0, x1, x2, x3, x4, x5, x6, x7, x8, x9, x10, x11⟩ := hE.x.cells
        go_wp2_with fail
        refine (cells_any c _).mono ?_
        rw [hn]
        rintro e w1 ⟨rfl, hb1⟩
        have hE1 := hE.next hb1
        clear hE hb1 x0 x1 x2 x3 x4 x5 x6 x7 x8 x9 x10 x11
        by_cases hlt : j < 9
        · have e0 : wordD 9 m1.f j = 0 := by
            simp [wordD, hasB_yes (show (0 : Int) ≤ j by omega) (show (j : Int) < (9 : Nat) by omega), unhide hz j hlt]
          have jd : decide ((j : Int) < 9) = true := decide_eq_true (by omega)
          go_wp2_with fail
          refine (peek_any cb r 9 _ _ j _ hE1.s).mono ?_
          rw [e0]
          rintro e _ ⟨rfl, rfl⟩
          go_wp2
          go_roundw
          case rel => exact ⟨j + 1, by omega, by go_num, hE1⟩
          case measure => simp [intOf]; omega
        · have hB := hE1.b
          have jd : decide ((j : Int) < 9) = false := decide_eq_false (by omega)
          go_wp2
          go_ret
          exact ⟨rfl, hB⟩
end Go.Proofs.Ytlhmpkeljagihaa
