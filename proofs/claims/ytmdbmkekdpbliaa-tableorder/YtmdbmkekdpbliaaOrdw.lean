/- TableOrder's walk. -/
import Derived.Test.YtmdbmkekdpbliaaOrd
import Derived.Test.YtmdbmkekdpbliaaStructs
import Derived.Deep.RegionHeld3
import Derived.Deep.CutRange
namespace Go.Proofs.Ytmdbmkekdpbliaa
open Go.RowKit

theorem below_of {B : Nat} {w w' w'' : World} (h : Below B w w') (k : Below w'.heap.size w' w'') (hB : B ≤ w.heap.size) : Below B w w'' := bthen h k hB
/-- A table, and three cells. -/
def Sq (B n : Nat) (most : Int) (T : Nat → Lv) (b g o : Nat) (z1 z2 z3 : Int) (w : World) : Prop :=
  Tn B n most T b w ∧ w.cell? ⟨g, o + 1, none⟩ = some (.int .i64 z1) ∧ w.cell? ⟨g, o + 2, none⟩ = some (.int .i64 z2) ∧ w.cell? ⟨g, o + 3, none⟩ = some (.int .i64 z3) ∧ g < w.heap.size
theorem Sq.next {B n : Nat} {most : Int} {T : Nat → Lv} {b g o : Nat} {z1 z2 z3 : Int} (w w' : World) (h : Sq B n most T b g o z1 z2 z3 w) (k : Below w.heap.size w w') : Sq B n most T b g o z1 z2 z3 w' :=
  ⟨h.1.next k, (k.cell (p := ⟨g, o + 1, none⟩) h.2.2.2.2).trans h.2.1, (k.cell (p := ⟨g, o + 2, none⟩) h.2.2.2.2).trans h.2.2.1, (k.cell (p := ⟨g, o + 3, none⟩) h.2.2.2.2).trans h.2.2.2.1, Nat.lt_of_lt_of_le h.2.2.2.2 k.size⟩
/-- A table, and three cells of one block. -/
def Sr (B n : Nat) (most : Int) (T : Nat → Lv) (b g i j l : Nat) (x y z : Int) (w : World) : Prop :=
  Tn B n most T b w ∧ w.cell? ⟨g, i, none⟩ = some (.int .i64 x) ∧ w.cell? ⟨g, j, none⟩ = some (.int .i64 y) ∧ w.cell? ⟨g, l, none⟩ = some (.int .i64 z) ∧ g < w.heap.size
theorem Sr.next {B n : Nat} {most : Int} {T : Nat → Lv} {b g i j l : Nat} {x y z : Int} (w w' : World) (h : Sr B n most T b g i j l x y z w) (k : Below w.heap.size w w') : Sr B n most T b g i j l x y z w' :=
  ⟨h.1.next k, (k.cell (p := ⟨g, i, none⟩) h.2.2.2.2).trans h.2.1, (k.cell (p := ⟨g, j, none⟩) h.2.2.2.2).trans h.2.2.1, (k.cell (p := ⟨g, l, none⟩) h.2.2.2.2).trans h.2.2.2.1, Nat.lt_of_lt_of_le h.2.2.2.2 k.size⟩
theorem covers_r (w : World) {h m : Int} {r : Bool} (hr : coversB h m = r) : Calls Try.prog 40 #[.int .i64 h, .int .i64 m] w fun e w' => e = .returned (.bool r) ∧ Below w.heap.size w w' := by
  subst hr; exact covers_any h m w
set_option maxRecDepth 100000 in
set_option maxHeartbeats 8000000 in
theorem order_in (n0 : Nat) (a1 : Option Addr) (n1 c1 : Nat) (Z : Nat → Nat → Int) (who : Int) (w : World) (s1 : RecsB 4 w.heap.size w a1 n1 Z) (h0 : 1 ≤ n0) (h1 : n0 ≤ 60) (h2 : n1 ≤ 300) (h3 : 0 ≤ who) :
    Calls Try.prog 9 #[.int .i64 (n0 : Int), .slice a1 n1 c1, .int .i64 who] w fun e w' => e = .returned (.bool true) ∧ Below w.heap.size w w' := by
  obtain ⟨N, hN⟩ : ∃ N, N = w.heap.size := ⟨_, rfl⟩
  rw [← hN] at s1
  replace s1 := hide s1
  have k1 : (n0 : Int) ≥ 1 := by omega
  have k2 : (n0 : Int) ≤ 60 := by omega
  have k3 : (n1 : Int) ≤ 300 := by omega
  go_enter Try.func9, Try.ntmps9
  go_wp2_with fail
  refine (firstt_any w).mono ?_
  rintro e w1 ⟨rfl, b1⟩
  rw [← hN] at b1
  replace b1 := hide b1
  replace hN := hide hN
  go_wp2_with fail
  refine (new_n n0 4096 w1 h0 (by omega) (by decide) (by decide)).mono ?_
  rintro e w2 ⟨b, rfl, L2, b2⟩
  obtain ⟨B, hB⟩ : ∃ B, B = w1.heap.size := ⟨_, rfl⟩
  rw [← hB] at L2 b2
  have hNb : Hid (N ≤ B) := by have := (unhide b1).size; rw [unhide hN, hB]; exact this
  replace b2 := hide ((unhide b1).trans (b2.mono (unhide hNb)))
  replace hB := hide hB
  replace L2 := hide L2
  go_wp2_with fail
  go_loopw [9] (fun s wr => ∃ (i : Nat) (T : Nat → Lv), i ≤ n1 ∧ s = .int .i64 i ∧ Hid (Tn B n0 4096 T b wr) ∧ Hid (Gd n0 i T) ∧ Hid (Below N w wr)) (fun s _ => n1 - (intOf s).toNat)
  case atStart => exact ⟨0, none0, Nat.zero_le _, rfl, unhide L2, gd_none _ _, unhide b2⟩
  case round =>
    obtain ⟨i, T, hi, rfl, L3, G3, b3⟩ := hrel
    by_cases hlt : i < n1
    · have hfew : Hid (Few n0 1000 T) := (unhide G3).few (by omega)
      obtain ⟨g, o', rfl, hg, hc⟩ := ((unhide s1).later (unhide b3)).at hlt
      obtain ⟨o, ho⟩ : ∃ o, o = o' + i * 4 := ⟨_, rfl⟩
      have d1 := hc 1 (by decide)
      have d2 := hc 2 (by decide)
      have d3 := hc 3 (by decide)
      obtain ⟨z1, hz1⟩ : ∃ z, z = Z i 1 := ⟨_, rfl⟩
      obtain ⟨z2, hz2⟩ : ∃ z, z = Z i 2 := ⟨_, rfl⟩
      obtain ⟨z3, hz3⟩ : ∃ z, z = Z i 3 := ⟨_, rfl⟩
      rw [← hz1] at d1
      rw [← hz2] at d2
      rw [← hz3] at d3
      have hgB := hide (Nat.lt_of_lt_of_le hg (unhide hNb))
      have hgw : Hid (g < wr.heap.size) := World.block_lt_of_cell? _ _ d1
      clear hc hz1 hz2 hz3 hg
      go_wp2_with fail
      refine (held_n wr (unhide L3) (unhide hfew) (by omega) who).mono ?_
      rintro e w4 ⟨v4, rfl, P4, b4⟩
      have L4 := hide ((unhide L3).next b4)
      have e1 := (b4.cell (p := ⟨g, o' + i * 4 + 1, none⟩) (unhide hgw)).trans d1
      have e2 := (b4.cell (p := ⟨g, o' + i * 4 + 2, none⟩) (unhide hgw)).trans d2
      have e3 := (b4.cell (p := ⟨g, o' + i * 4 + 3, none⟩) (unhide hgw)).trans d3
      replace b4 := hide (bt (unhide b3) b4 (Nat.le_trans (unhide hNb) (unhide L3).low))
      obtain ⟨a4, c4, rfl⟩ := P4.form
      replace P4 := hide P4
      have hlen4 := held_len who T n0
      obtain ⟨r, hr⟩ : ∃ r, r = askT n0 4096 T z1 z2 z3 := ⟨_, rfl⟩
      have hsrt : ∀ j, j < n0 → Srt (T j).1 := fun j hj => (unhide L3).srt hj
      have G5 := hide (gd_ask (most := 4096) (who := z1) (node := z2) (m := z3) hsrt (unhide G3))
      have hoth := hide (fun (e : who ≠ z1) => held_other (most := 4096) (node := z2) (m := z3) (b := who) hsrt e)
      have hcov := hide (ask_cov (most := 4096) (who := z1) (node := z2) (m := z3) hsrt (unhide G3))
      rw [← hr] at G5 hoth hcov
      obtain ⟨⟨r1, r2⟩, T'⟩ := r
      dsimp only at G5 hoth hcov
      replace hr := hide hr
      clear d1 d2 d3 hsrt
      generalize heldD who T n0 = l4 at *
      go_wp2_with fail
      go_region_held3 (fun wz => wz.cell? ⟨g, o' + i * 4 + 1, none⟩ = some (.int .i64 z1) ∧ wz.cell? ⟨g, o' + i * 4 + 2, none⟩ = some (.int .i64 z2) ∧ wz.cell? ⟨g, o' + i * 4 + 3, none⟩ = some (.int .i64 z3))
        (first | exact ⟨e1, e2, e3⟩ | exact ⟨m1, m2, m3⟩)
        (first | (go_at_call 30; refine Calls.mono (ask_n (B := B) _ (unhide L4).drew (unhide hfew) (by omega) z1 z2 z3 (unhide hr).symm) ?_; rintro e w5 ⟨rfl, L5, b5, st5⟩; have m1 := (b5.cell (p := ⟨g, o' + i * 4 + 1, none⟩) (unhide hgB)).trans e1; have m2 := (b5.cell (p := ⟨g, o' + i * 4 + 2, none⟩) (unhide hgB)).trans e2; have m3 := (b5.cell (p := ⟨g, o' + i * 4 + 3, none⟩) (unhide hgB)).trans e3; replace L5 := hide L5; have P5 := hide (((unhide P4).drewN 1).stay st5 (by decide) (by decide)); have B5 := hide ((unhide b4).trans (c := w5) ((⟨b5.os, b5.tape, b5.output, b5.size, b5.block⟩ : Below B w4 w5).mono (unhide hNb))); clear b5 st5))
      have hfew5 : Hid (Few n0 1000 T') := (unhide G5).few (by omega)
      have hgw5 : Hid (g < w5.heap.size) := World.block_lt_of_cell? _ _ m1
      clear e1 e2 e3
      go_wp2_with fail
      refine (held_n w5 (unhide L5) (unhide hfew5) (by omega) who).mono ?_
      rintro e w6 ⟨v6, rfl, P6, b6⟩
      have L6 := hide ((unhide L5).next b6)
      have e1 := (b6.cell (p := ⟨g, o' + i * 4 + 1, none⟩) (unhide hgw5)).trans m1
      have e2 := (b6.cell (p := ⟨g, o' + i * 4 + 2, none⟩) (unhide hgw5)).trans m2
      have e3 := (b6.cell (p := ⟨g, o' + i * 4 + 3, none⟩) (unhide hgw5)).trans m3
      have hgw6 : Hid (g < w6.heap.size) := World.block_lt_of_cell? _ _ e1
      have P45 := hide ((unhide P5).next b6)
      replace b6 := hide (bt (unhide B5) b6 (Nat.le_trans (unhide hNb) (unhide L5).low))
      have hlen6 := held_len who T' n0
      obtain ⟨a6, n6, c6, hn6, rfl⟩ : ∃ a n c, (heldD who T' n0).length = n ∧ v6 = .slice a n c := by
        obtain ⟨a, c, e⟩ := P6.form
        exact ⟨a, _, c, rfl, e⟩
      replace P6 := hide P6
      rw [hn6] at hlen6
      replace hn6 := hide hn6
      have E1 := hide e1
      have E2 := hide e2
      have E3 := hide e3
      clear m1 m2 m3
      go_upto_region 14 with fail
      go_cut [92] from 44 to 166 (fun t wc => t = .bool false ∧ Hid (Below w6.heap.size w6 wc))
      case first => as_aux_lemma =>
        cases hz : (z1 != who)
        · go_wp2
          go_meet
          case rel => exact ⟨rfl, Below.refl _ _⟩
        · have hne : who ≠ z1 := by have : z1 ≠ who := by simpa using hz
                                    exact fun e => this e.symm
          have P6' := unhide P6
          rw [unhide hoth hne] at P6'
          replace P6' := hide P6'
          clear e2 e3
          go_wp2_with fail
          refine (same_yes _ _ l4 w6 (unhide P45) (unhide P6') (by omega)).mono ?_
          rintro e w7 ⟨rfl, b7⟩
          replace b7 := hide b7
          clear e1
          go_wp2
          go_meet
          case rel => exact ⟨rfl, unhide b7⟩
      obtain ⟨rfl, b7⟩ := hcut
      have L7 := hide ((unhide L6).next (unhide b7))
      have P7 := hide ((unhide P6).next (unhide b7))
      have e4 := ((unhide b7).cell (p := ⟨g, o' + i * 4 + 1, none⟩) (unhide hgw6)).trans (unhide E1)
      have e5 := ((unhide b7).cell (p := ⟨g, o' + i * 4 + 2, none⟩) (unhide hgw6)).trans (unhide E2)
      have e6 := ((unhide b7).cell (p := ⟨g, o' + i * 4 + 3, none⟩) (unhide hgw6)).trans (unhide E3)
      have S7h := hide (show Sq B n0 4096 T' b g (o' + i * 4) z1 z2 z3 wc.drew from ⟨(unhide L7).drew, e4, e5, e6, Nat.lt_of_lt_of_le (unhide hgw6) (unhide b7).size⟩)
      have B7 := hide (bt (unhide b6) (unhide b7) (Nat.le_trans (unhide hNb) (unhide L6).low))
      clear e1 e2 e3 e4 e5 e6
      go_upto_region 16 with fail
      go_cut [126] from 44 to 166 (fun t wd => t = .bool false ∧ Hid (Below wc.heap.size wc wd))
      case first => as_aux_lemma =>
        have S7 := unhide S7h
        have hne : Nonempty (Wc (Sq B n0 4096 T' b g (o' + i * 4) z1 z2 z3) wc) := ⟨⟨_, S7, (Below.refl _ wc).drew⟩⟩
        have q1 : ∀ x : Wc (Sq B n0 4096 T' b g (o' + i * 4) z1 z2 z3) wc, x.w.cell? ⟨g, o' + i * 4 + 1, none⟩ = some (.int .i64 z1) := fun x => x.ok.2.1
        have q2 : ∀ x : Wc (Sq B n0 4096 T' b g (o' + i * 4) z1 z2 z3) wc, x.w.cell? ⟨g, o' + i * 4 + 2, none⟩ = some (.int .i64 z2) := fun x => x.ok.2.2.1
        have q3 : ∀ x : Wc (Sq B n0 4096 T' b g (o' + i * 4) z1 z2 z3) wc, x.w.cell? ⟨g, o' + i * 4 + 3, none⟩ = some (.int .i64 z3) := fun x => x.ok.2.2.2.1
        cases hz : (z1 == who)
        · refine wp_region_wc (S := Sq B n0 4096 T' b g (o' + i * 4) z1 z2 z3) S7 (Below.refl _ wc) (by kernel_rfl) (by kernel_rfl) ?_
          try simp only [List.append]
          repeat (go_big_quiet_step (fail))
          refine wpQuiet_nil ?_
          intro w9 hw'
          have b9 : Hid (Below wc.heap.size wc w9) := by
            obtain ⟨x, hx⟩ := hw'
            rw [hx]
            exact x.bel
          clear hw' q1 q2 q3 hne S7
          go_wp2
          go_meet
          case rel => exact ⟨rfl, unhide b9⟩
        · cases hz2 : (r2 == 0)
          · refine wp_region_wc (S := Sq B n0 4096 T' b g (o' + i * 4) z1 z2 z3) S7 (Below.refl _ wc) (by kernel_rfl) (by kernel_rfl) ?_
            try simp only [List.append]
            repeat (go_big_quiet_step (fail))
            refine wpQuiet_nil ?_
            intro w9 hw'
            have b9 : Hid (Below wc.heap.size wc w9) := by
              obtain ⟨x, hx⟩ := hw'
              rw [hx]
              exact x.bel
            clear hw' q1 q2 q3 hne S7
            go_wp2
            go_meet
            case rel => exact ⟨rfl, unhide b9⟩
          · cases hz3 : (r1 == 1)
            · refine wp_region_wc (S := Sq B n0 4096 T' b g (o' + i * 4) z1 z2 z3) S7 (Below.refl _ wc) (by kernel_rfl) (by kernel_rfl) ?_
              try simp only [List.append]
              repeat (go_big_quiet_step (fail))
              refine wpQuiet_nil ?_
              intro w9 hw'
              have b9 : Hid (Below wc.heap.size wc w9) := by
                obtain ⟨x, hx⟩ := hw'
                rw [hx]
                exact x.bel
              clear hw' q1 q2 q3 hne S7
              go_wp2
              go_meet
              case rel => exact ⟨rfl, unhide b9⟩
            · have hcv0 := unhide hcov (by simpa using hz2) (by simpa using hz3)
              have ez : z1 = who := by simpa using hz
              rw [ez] at hcv0
              have hcv := hide hcv0.2.2
              have cH := hide (fun x : Wc (Sq B n0 4096 T' b g (o' + i * 4) z1 z2 z3) wc => holds_n x.w x.ok.1 (unhide hfew5) who z2 hcv0.1 hcv0.2.1 rfl)
              clear hcv0 ez
              refine wp_region_wc (S := Sq B n0 4096 T' b g (o' + i * 4) z1 z2 z3) S7 (Below.refl _ wc) (by kernel_rfl) (by kernel_rfl) ?_
              try simp only [List.append]
              repeat (go_big_quiet_step (first | (go_at_call 38; with_reducible exact Wc.call Sq.next (unhide cH _)) | (go_at_call 40; with_reducible exact Wc.call Sq.next (covers_r _ (unhide hcv)))))
              refine wpQuiet_nil ?_
              intro w9 hw'
              have b9 : Hid (Below wc.heap.size wc w9) := by
                obtain ⟨x, hx⟩ := hw'
                rw [hx]
                exact x.bel
              clear hw' q1 q2 q3 hne S7 cH
              go_wp2
              go_meet
              case rel => exact ⟨rfl, unhide b9⟩
      obtain ⟨rfl, b8⟩ := hcut
      have L8 := hide ((unhide L7).next (unhide b8))
      have P8 := hide ((unhide P7).next (unhide b8))
      have B8 := hide (bt (unhide B7) (unhide b8) (Nat.le_trans (unhide hNb) (unhide L7).low))
      go_wp2_with fail
      go_loopw [14] (fun s wq => ∃ (k : Nat) (wz : World), k ≤ n6 ∧ s = .int .i64 k ∧ wz = wq ∧ Hid (Below wc.heap.size wc wz)) (fun s _ => n6 - (intOf s).toNat)
      case atStart => exact ⟨0, _, Nat.zero_le _, rfl, rfl, Below.refl _ _⟩
      case round =>
        obtain ⟨k, wq, hk, rfl, hwz, b9⟩ := hrel
        subst hwz
        by_cases hlk : k < n6
        · have hkl : k < (heldD who T' n0).length := by rw [unhide hn6]; exact hlk
          obtain ⟨ga, rfl, c1, c2, hgl⟩ := ((unhide P8).next (unhide b9)).elem hkl
          obtain ⟨j, hj, x1, x2⟩ := held_at who T' n0 hkl
          obtain ⟨m, hm⟩ : ∃ m, lookD who (T' j).1 = m := ⟨_, rfl⟩
          rw [x1] at c1
          rw [x2, hm] at c2
          replace hm := hide hm
          have L9 := hide ((unhide L8).next (unhide b9))
          rcases k with _ | k
          · simp only [Nat.zero_mul, Nat.zero_add] at c1 c2
            clear x1 x2 hkl
            have S9 : Sr B n0 4096 T' b ga 0 1 0 (j : Int) m (j : Int) wq.drew := ⟨(unhide L9).drew, c1, c2, c1, hgl⟩
            have hne : Nonempty (Wc (Sr B n0 4096 T' b ga 0 1 0 (j : Int) m (j : Int)) wq) := ⟨⟨_, S9, (Below.refl _ wq).drew⟩⟩
            have q1 : ∀ x : Wc (Sr B n0 4096 T' b ga 0 1 0 (j : Int) m (j : Int)) wq, x.w.cell? ⟨ga, 0, none⟩ = some (.int .i64 (j : Int)) := fun x => x.ok.2.1
            have q2 : ∀ x : Wc (Sr B n0 4096 T' b ga 0 1 0 (j : Int) m (j : Int)) wq, x.w.cell? ⟨ga, 1, none⟩ = some (.int .i64 m) := fun x => x.ok.2.2.1
            have q3 : ∀ x : Wc (Sr B n0 4096 T' b ga 0 1 0 (j : Int) m (j : Int)) wq, x.w.cell? ⟨ga, 0, none⟩ = some (.int .i64 (j : Int)) := fun x => x.ok.2.2.2.1
            have cH := hide (fun x : Wc (Sr B n0 4096 T' b ga 0 1 0 (j : Int) m (j : Int)) wq => holds_n x.w x.ok.1 (unhide hfew5) who (j : Int) (by omega) (by omega) (r := m) (unhide hm))
            clear c1 c2
            go_upto_region 21 with fail
            refine wp_region_wc (S := Sr B n0 4096 T' b ga 0 1 0 (j : Int) m (j : Int)) S9 (Below.refl _ wq) (by kernel_rfl) (by kernel_rfl) ?_
            try simp only [List.append]
            repeat (go_big_quiet_step (first | (go_at_call 38; with_reducible exact Wc.call Sr.next (unhide cH _))))
            refine wpQuiet_nil ?_
            intro w10 hw'
            have b10 : Hid (Below wq.heap.size wq w10) := by
              obtain ⟨x, hx⟩ := hw'
              rw [hx]
              exact x.bel
            clear hw' q1 q2 q3 hne S9 cH
            go_wp2
            go_roundw
            case rel => exact ⟨1, _, by omega, by go_num, rfl, below_then (unhide b9) (unhide b10)⟩
            case measure => simp [intOf]; omega
          · have hkl2 : k < (heldD who T' n0).length := by omega
            obtain ⟨ga2, ee, c3, _, _⟩ := ((unhide P8).next (unhide b9)).elem hkl2
            obtain rfl : ga = ga2 := by injection ee with ee; injection ee
            have hrise := held_rise who T' n0 hkl
            rw [x1] at hrise
            obtain ⟨p, hp⟩ : ∃ p, p = ((heldD who T' n0).getD k (0, 0)).1 := ⟨_, rfl⟩
            rw [← hp] at hrise c3
            have hpj : decide ((j : Int) ≤ p) = false := by simp; omega
            have hpj2 : ¬ ((j : Int) ≤ p) := by omega
            have hk0 : (0 : Int) < (k : Int) + 1 := by omega
            have hk1 : (k : Int) < (n6 : Int) := by omega
            replace hp := hide hp
            clear x1 x2 hkl hkl2 ee
            have S9 : Sr B n0 4096 T' b ga ((k + 1) * 2) ((k + 1) * 2 + 1) (k * 2) (j : Int) m p wq.drew := ⟨(unhide L9).drew, c1, c2, c3, hgl⟩
            have hne : Nonempty (Wc (Sr B n0 4096 T' b ga ((k + 1) * 2) ((k + 1) * 2 + 1) (k * 2) (j : Int) m p) wq) := ⟨⟨_, S9, (Below.refl _ wq).drew⟩⟩
            have q1 : ∀ x : Wc (Sr B n0 4096 T' b ga ((k + 1) * 2) ((k + 1) * 2 + 1) (k * 2) (j : Int) m p) wq, x.w.cell? ⟨ga, (k + 1) * 2, none⟩ = some (.int .i64 (j : Int)) := fun x => x.ok.2.1
            have q2 : ∀ x : Wc (Sr B n0 4096 T' b ga ((k + 1) * 2) ((k + 1) * 2 + 1) (k * 2) (j : Int) m p) wq, x.w.cell? ⟨ga, (k + 1) * 2 + 1, none⟩ = some (.int .i64 m) := fun x => x.ok.2.2.1
            have q3 : ∀ x : Wc (Sr B n0 4096 T' b ga ((k + 1) * 2) ((k + 1) * 2 + 1) (k * 2) (j : Int) m p) wq, x.w.cell? ⟨ga, k * 2, none⟩ = some (.int .i64 p) := fun x => x.ok.2.2.2.1
            have cH := hide (fun x : Wc (Sr B n0 4096 T' b ga ((k + 1) * 2) ((k + 1) * 2 + 1) (k * 2) (j : Int) m p) wq => holds_n x.w x.ok.1 (unhide hfew5) who (j : Int) (by omega) (by omega) (r := m) (unhide hm))
            clear c1 c2 c3
            go_upto_region 21 with fail
            refine wp_region_wc (S := Sr B n0 4096 T' b ga ((k + 1) * 2) ((k + 1) * 2 + 1) (k * 2) (j : Int) m p) S9 (Below.refl _ wq) (by kernel_rfl) (by kernel_rfl) ?_
            try simp only [List.append]
            repeat (go_big_quiet_step (first | (go_at_call 38; with_reducible exact Wc.call Sr.next (unhide cH _))))
            refine wpQuiet_nil ?_
            intro w10 hw'
            have b10 : Hid (Below wq.heap.size wq w10) := by
              obtain ⟨x, hx⟩ := hw'
              rw [hx]
              exact x.bel
            clear hw' q1 q2 q3 hne S9 cH
            go_wp2
            go_roundw
            case rel => exact ⟨k + 2, _, by omega, by go_num, rfl, below_then (unhide b9) (unhide b10)⟩
            case measure => simp [intOf]; omega
        · obtain rfl : k = n6 := by omega
          have L9 := hide ((unhide L8).next (unhide b9))
          have B9 := hide (bt (unhide B8) (unhide b9) (Nat.le_trans (unhide hNb) (unhide L8).low))
          go_wp2
          go_roundw
          case rel => exact ⟨i + 1, T', by omega, by go_num, unhide L9, unhide G5, unhide B9⟩
          case measure => simp [intOf]; omega
    · obtain rfl : i = n1 := by omega
      go_wp2_with fail
      refine (firstt_any wr).mono ?_
      rintro e w4 ⟨rfl, b4⟩
      replace b4 := hide (bt (unhide b3) b4 (Nat.le_trans (unhide hNb) (unhide L3).low))
      go_wp2
      go_ret
      exact ⟨rfl, by rw [← unhide hN]; exact unhide b4⟩
set_option maxRecDepth 100000 in
set_option maxHeartbeats 4000000 in
theorem order_out (n0 : Int) (a1 : Option Addr) (n1 c1 : Nat) (who : Int) (w : World) (hn1 : n1 ≤ 9223372036854775807) (h : n0 < 1 ∨ (1 ≤ n0 ∧ 60 < n0) ∨ (1 ≤ n0 ∧ n0 ≤ 60 ∧ 300 < n1) ∨ (1 ≤ n0 ∧ n0 ≤ 60 ∧ n1 ≤ 300 ∧ who < 0)) :
    Calls Try.prog 9 #[.int .i64 n0, .slice a1 n1 c1, .int .i64 who] w fun e w' => e = .returned (.bool true) ∧ Below w.heap.size w w' := by
  rcases h with h | ⟨h, h2⟩ | ⟨h, h2, h3⟩ | ⟨h, h2, h3, h4⟩
  all_goals
    go_enter Try.func9, Try.ntmps9
    go_wp2_with fail
    refine (firstt_any w).mono ?_
    rintro e w1 ⟨rfl, b1⟩
    replace b1 := hide b1
    go_wp2_with fail
    refine (firstt_any w1).mono ?_
    rintro e w3 ⟨rfl, b3⟩
    replace b3 := hide (below_then (unhide b1) b3)
    go_wp2
    go_ret
    exact ⟨rfl, unhide b3⟩
theorem tableOrder_walk (n0 : Int) (a1 : Option Addr) (n1 c1 : Nat) (Z : Nat → Nat → Int) (who : Int) (w : World) (_ : (Lit.int .i64 n0).wf = true) (s1 : RecsB 4 w.heap.size w a1 n1 Z) (lc1 : n1 ≤ c1) (cm1 : c1 ≤ maxLen) (_ : ∀ i, i < n1 → ∀ j, j < 4 → (Lit.int .i64 (Z i j)).wf = true) (_ : (Lit.int .i64 who).wf = true) :
    Calls Try.prog 9 #[.int .i64 n0, .slice a1 n1 c1, .int .i64 who] w fun e w' => e = .returned (.bool true) ∧ Below w.heap.size w w' := by
  unfold maxLen at cm1
  by_cases h : 1 ≤ n0 ∧ n0 ≤ 60 ∧ n1 ≤ 300 ∧ 0 ≤ who
  · obtain ⟨k, rfl⟩ : ∃ k : Nat, n0 = (k : Int) := ⟨n0.toNat, by omega⟩
    exact order_in k a1 n1 c1 Z who w s1 (by omega) (by omega) h.2.2.1 h.2.2.2
  · exact order_out n0 a1 n1 c1 who w (by omega) (by omega)
end Go.Proofs.Ytmdbmkekdpbliaa
