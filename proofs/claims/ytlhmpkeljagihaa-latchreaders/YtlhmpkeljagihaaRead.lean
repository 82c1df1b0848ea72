/- The walk of LatchReaders: it answers true. -/
import Derived.Test.YtlhmpkeljagihaaReadF
import Derived.Test.YtlhmpkeljagihaaRow
import Derived.Deep.Cut
namespace Go.Proofs.Ytlhmpkeljagihaa
open Go.RowKit

theorem Env.put {W : World} {c : Cf} {B cb r n : Nat} {m : Mm} {w : World} {b : Nat} (h : Env W c B cb r n m w) (o : Own W B cb r b) (k : Nat) (v : Value) : Env W c B cb r n m (w.setCell ⟨b, k, none⟩ v) := h.one o (touch_set b k w v)
theorem row16 (w : World) (v : Value) (t : TypeId) : (w.alloc (.cells #[v, v, v, v, v, v, v, v, v, v, v, v, v, v, v, v] t)).rowIs w.heap.size t 16 (fun _ => v) := by
  refine World.rowIs_alloc w #[v, v, v, v, v, v, v, v, v, v, v, v, v, v, v, v] t _ ?_
  intro i hi
  have hi' : i < 16 := hi
  have : i = 0 ∨ i = 1 ∨ i = 2 ∨ i = 3 ∨ i = 4 ∨ i = 5 ∨ i = 6 ∨ i = 7 ∨ i = 8 ∨ i = 9 ∨ i = 10 ∨ i = 11 ∨ i = 12 ∨ i = 13 ∨ i = 14 ∨ i = 15 := by omega
  rcases this with rfl | rfl | rfl | rfl | rfl | rfl | rfl | rfl | rfl | rfl | rfl | rfl | rfl | rfl | rfl | rfl <;> rfl
structure Rd (W : World) (c : Cf) (B cb r bw G len sl V k j : Nat) (g : Nat → Bool) (m : Mm) (L : LS) (w : World) : Prop where
  all : ∀ u, u + len < j → u < k → g u = true
  env : Env W c B cb r 9 m w
  ab : Ab sl ((V : Int) + 1) (Rg k g) m.f
  lat : Lat w bw L
  jj : Jj sl V (Rg k g) L
  ok : Ok 9 L
  row : w.rowIs G 60 16 (fun u => .bool (g u))
theorem Rk_zero : Rk 0 = fun _ => false := by funext u; simp [Rk]

set_option maxRecDepth 100000 in
set_option maxHeartbeats 4000000 in
theorem readers_in (th : Int) (V U sl rr : Nat) (x : Option Addr) (len cap : Nat) (l : List Int) (w : World) (hth : th = (V : Int) + 1) (hVU : V = U + 1) (h16 : th ≤ 16) (hsl : sl ≤ 16) (hrr : rr ≤ V) (hlen : len ≤ 100) (hs : SegK .i64 w x len l) :
    Calls Try.prog 5 #[.int .i64 th, .int .i64 sl, .int .i64 rr, .slice x len cap] w fun e w' => e = .returned (.bool true) ∧ Below w.heap.size w w' := by
  have hn6 : (9 : Nat) ≤ 65536 := by decide
  have hok := one_ok (t := th) (s := (sl : Int)) (by omega) (by omega) (by omega) (by omega)
  obtain ⟨c, hcE⟩ : ∃ c, c = oneC th (sl : Int) := ⟨_, rfl⟩
  have hn : cellsD c = ((9 : Nat) : Int) := by rw [hcE]; exact one_cells hok
  have hl1 : latchD c 2 = 1 := by rw [hcE]; exact one_latch hok
  have hcT : c = oneC ((V + 1 : Nat) : Int) (sl : Int) := by rw [hcE, hth]; rfl
  have hV1 : (V : Int) + 1 ≤ th := by omega
  have hV2 : th ≤ (V : Int) + 1 := by omega
  have hU1 : U + 1 ≤ V := by omega
  have hU2 : V ≤ U + 1 := by omega
  clear hth hVU
  replace hcT := hide hcT
  replace hl1 := hide hl1
  clear hok
  have d0 : decide (th < 2) = false := decide_eq_false (by omega)
  have d1 : decide (16 < th) = false := decide_eq_false (by omega)
  have d2 : decide ((sl : Int) < 0) = false := decide_eq_false (by omega)
  have d3 : decide (16 < (sl : Int)) = false := decide_eq_false (by omega)
  have d4 : decide ((rr : Int) < 0) = false := decide_eq_false (by omega)
  have d5 : decide (th ≤ (rr : Int)) = false := decide_eq_false (by omega)
  have d6 : decide (100 < (len : Int)) = false := decide_eq_false (by omega)
  have hv : wrap64 (th - 1) = (V : Int) := (wrap_in (by omega) (by omega)).trans (by omega)
  have hu : wrap64 ((V : Int) - 1) = (U : Int) := (wrap_in (by omega) (by omega)).trans (by omega)
  have hv2 : th - 1 = (V : Int) := by omega
  have hu2 : (V : Int) - 1 = (U : Int) := by omega
  have Hs := hide hs.low
  clear hs
  go_enter Try.func5, Try.ntmps5
  go_wp2_with fail
  refine (first_any _).mono ?_
  rintro e w1 ⟨rfl, hb1⟩
  go_wp2_with fail
  refine (one_any th (sl : Int) _).mono ?_
  rw [← hcE]
  have hcE' := hide hcE
  clear hcE
  rintro e w2 ⟨rfl, hb2⟩
  have hb2' := below_then hb1 hb2
  clear hb1 hb2
  unfold cv
  go_wp2_with fail
  have hx := bx_new c w2
  refine (cells_any c _).mono ?_
  rw [hn]
  rintro e w3 ⟨rfl, hb3⟩
  have hx3 := hx.next hb3
  have lB : w.heap.size ≤ w2.heap.size := hb2'.size
  have hb3' := below_then hb2' (below_call hb3)
  clear hb2' hb3 hx
  generalize w2.heap.size = B at hx3 lB ⊢
  go_wp2_with fail
  refine (new_any 9 _ hn6).mono ?_
  rintro e w4 ⟨cb, r, rfl, hcb, hr, hc, hb4⟩
  have hE : Env w c B cb r 9 m0 w4 := ⟨hx3.next hb4, hc, below_then hb3' hb4, lB, Nat.le_trans hb3'.size hcb, Nat.le_trans hb3'.size hr, by have := hx3.lt; omega, by have := hx3.lt; omega⟩
  clear hx3 hc hb3' hb4 hcb hr
  have ha : Ab sl 0 (Rk 0) m0.f := by rw [Rk_zero]; exact ab_zero sl
  have ha' := hide ha
  have hE' := hide hE
  clear ha hE
  go_wp2_with fail
  go_loopw [12] (fun i wr => ∃ (k : Nat) (m : Mm), k ≤ rr ∧ i = .int .i64 k ∧ Env w c B cb r 9 m wr ∧ Ab sl 0 (Rk k) m.f) (fun i _ => rr - (intOf i).toNat)
  case atStart => exact ⟨0, m0, by omega, rfl, unhide hE', unhide ha'⟩
  case round =>
    obtain ⟨k, m, hk, rfl, hE, ha⟩ := hrel
    clear ha' hE'
    by_cases hlt : k < rr
    · have kd : decide ((k : Int) < (rr : Int)) = true := decide_eq_true (by omega)
      have G1 : gotB 20 (newL 0 c 2 (k : Int) false 0) m = true ∧ Ab sl 0 (up (Rk k) k true) (itM 20 (newL 0 c 2 (k : Int) false 0) m).f := read_got (la_new c (unhide hcT) (unhide hl1) (by omega) 0 false 0) ha (by omega) (by simp [Rk])
      rw [Rk_up] at G1
      have G2 := hide G1.2
      have G1 := hide G1.1
      clear ha
      obtain ⟨x0, x1, x2, x3, x4, x5, x6, x7, x8, x9, x10, x11⟩ := hE.x.cells
      go_wp2_with fail
      refine (env_made (read_any c 2 (k : Int) _) hE).mono ?_
      rintro e _ ⟨bp, rfl, op, hsp, hp, hE1, hb1⟩
      clear x0 x1 x2 x3 x4 x5 x6 x7 x8 x9 x10 x11 hsp hb1 hE
      have hE := hE1
      clear hE1
      go_wp2_with fail
      refine (env_through hE hp op (ok_new hn 0 2 (k : Int) false 0 (by decide) (by decide) (by decide))).mono ?_
      rw [unhide G1]
      rintro e _ ⟨rfl, hp1, hE1, ht1⟩
      clear hp
      have hp := hp1
      clear hp1
      clear ht1 hE
      have hE := hE1
      clear hE1
      clear hp op
      go_wp2
      go_roundw
      case rel => exact ⟨k + 1, _, by omega, by go_num, hE, unhide G2⟩
      case measure => simp [intOf]; omega
    · obtain rfl : k = rr := by omega
      clear hlt hk
      obtain ⟨x0, x1, x2, x3, x4, x5, x6, x7, x8, x9, x10, x11⟩ := hE.x.cells
      go_wp2_with fail
      refine (env_made (write_any c 2 (V : Int) false _) hE).mono ?_
      rintro e _ ⟨bw, rfl, ow, hsw, hw, hE1, hb1⟩
      clear x0 x1 x2 x3 x4 x5 x6 x7 x8 x9 x10 x11 hsw hb1 hE
      have hE := hE1
      clear hE1
      have G1 : Ab sl ((V : Int) + 1) (Rk k) (itM 12 (newL 3 c 2 (V : Int) false 1) m).f ∧ Jj sl V (Rk k) (itL 12 (newL 3 c 2 (V : Int) false 1) m) := Jj.start (la_new c (unhide hcT) (unhide hl1) (by omega) 3 false 1) ha (by omega)
      have hokw : Ok 9 (newL 3 c 2 (V : Int) false 1) := ok_new hn 3 2 (V : Int) false 1 (by decide) (by decide) (by decide)
      generalize newL 3 c 2 (V : Int) false 1 = Lw at *
      replace G1 := hide G1
      replace hokw := hide hokw
      have hE' := hide hE
      have hw' := hide hw
      clear hE hw ha
      go_wp2_with fail
      go_loopw [14] (fun i wr => ∃ q : Nat, q ≤ 12 ∧ i = .int .i64 q ∧ Lat wr bw (itL q Lw m) ∧ Env w c B cb r 9 (itM q Lw m) wr) (fun i _ => 12 - (intOf i).toNat)
      case atStart => exact ⟨0, by omega, rfl, unhide hw', unhide hE'⟩
      case round =>
        obtain ⟨q, hq, rfl, hw, hE⟩ := hrel
        clear hw' hE'
        by_cases hlt : q < 12
        · have hq2 := hlt
          go_wp2_with fail
          refine (env_step hE hw ow (it_ok (unhide hokw) q)).mono ?_
          rintro e _ ⟨rfl, hw1, hE1, ht1⟩
          clear hw
          have hw := hw1
          clear hw1
          clear ht1 hE
          have hE := hE1
          clear hE1
          go_wp2
          go_roundw
          case rel => exact ⟨q + 1, by omega, by go_num, hw, hE⟩
          case measure => simp [intOf]; omega
        · obtain rfl : q = 12 := by omega
          have hokL : Ok 9 (itL 12 Lw m) := it_ok (unhide hokw) 12
          have G2 := (unhide G1).1
          have G3 := (unhide G1).2
          generalize itL 12 Lw m = L0 at *
          generalize itM 12 Lw m = M0 at *
          clear G1 hokw hq hlt
          obtain ⟨b, hb1, hb2⟩ : ∃ b, decide (8 ≤ L0.p) = b ∧ ((k : Int) == 0) = b := by
            by_cases h0 : k = 0
            · subst h0; exact ⟨true, by rw [G3.got (by intro u; simp [Rk])]; rfl, rfl⟩
            · exact ⟨false, G3.done ⟨0, by simp [Rk]; omega⟩, by simp; omega⟩
          replace G2 := hide G2
          replace G3 := hide G3
          replace hb1 := hide hb1
          replace hokL := hide hokL
          go_wp2_with fail
          refine (done_any bw _ _ hw).mono ?_
          rw [unhide hb1]
          rintro e _ ⟨rfl, rfl⟩
          obtain ⟨x0, x1, x2, x3, x4, x5, x6, x7, x8, x9, x10, x11⟩ := hE.x.cells
          go_wp2_with fail
          refine (env_made (read_any c 2 (U : Int) _) hE).mono ?_
          rintro e _ ⟨bf, rfl, of, hsf, hf, hE1, hb1⟩
          have nwf : bw ≠ bf := by have := hw.lt; omega
          replace hw := hw.next hb1
          clear x0 x1 x2 x3 x4 x5 x6 x7 x8 x9 x10 x11 hsf hb1 hE
          have hE := hE1
          clear hE1
          go_upto_region 24 with fail
          go_cut [109] from 16 (fun tt wc => tt = .bool false ∧ ∃ m1 : Mm, Env w c B cb r 9 m1 wc ∧ Ab sl ((V : Int) + 1) (Rk k) m1.f ∧ Lat wc bw L0)
          case first =>
            by_cases hkv : k < V
            · have kd : decide ((k : Int) < (V : Int)) = true := decide_eq_true (by omega)
              have G1 : gotB 20 (newL 0 c 2 (U : Int) false 0) M0 = false ∧ Ab sl ((V : Int) + 1) (Rk k) (itM 20 (newL 0 c 2 (U : Int) false 0) M0).f := read_not (la_new c (unhide hcT) (unhide hl1) (by omega) 0 false 0) (unhide G2) (by omega) (by simp [Rk]; omega) (by omega) (by omega)
              have G5 := hide G1.2
              have G4 := hide G1.1
              clear G1
              go_wp2_with fail
              refine (env_through hE hf of (ok_new hn 0 2 (U : Int) false 0 (by decide) (by decide) (by decide))).mono ?_
              rw [unhide G4]
              rintro e _ ⟨rfl, hf1, hE1, ht1⟩
              clear hf
              have hf := hf1
              clear hf1
              replace hw := hw.stays3 ht1 nwf ow.n1 ow.n2
              clear ht1 hE
              have hE := hE1
              clear hE1
              clear hf of
              go_wp2
              go_meet
              case rel => exact ⟨rfl, _, hE, unhide G5, hw⟩
            · have kd : decide ((k : Int) < (V : Int)) = false := decide_eq_false (by omega)
              go_wp2
              go_meet
              case rel => exact ⟨rfl, M0, hE, unhide G2, hw⟩
          clear hE hw hf G2 hv hu hv2 hu2
          obtain ⟨rfl, M1, hE, ha, hw⟩ := hcut
          replace ha := hide ha
          go_upto_region 28 with fail
          have oG := hE.fresh (Nat.le_refl wc.heap.size)
          have nGw : bw ≠ wc.heap.size := by have := hw.lt; omega
          have q1 := below_new wc (.cells #[.bool false, .bool false, .bool false, .bool false, .bool false, .bool false, .bool false, .bool false, .bool false, .bool false, .bool false, .bool false, .bool false, .bool false, .bool false, .bool false] 60)
          have hG := row16 wc (.bool false) 60
          have hD : Rd w c B cb r bw wc.heap.size len sl V k 0 (fun _ => false) M1 L0 _ := ⟨fun u h _ => by omega, hE.next q1, by rw [Rg_none]; exact unhide ha, hw.next q1, by rw [Rg_none]; exact unhide G3, unhide hokL, hG⟩
          have hD0 := hide hD
          clear hD hG q1 hE hw ha G3 hokL hb1 hb2
          have kk : (k : Int) = cnt 0 (Rg k (fun _ => false)) k := by rw [Rg_none, cnt_Rk k k (Nat.le_refl _)]
          replace kk := hide kk
          generalize wc.heap.size = G at *
          go_wp2_with fail
          go_loopw [16, 18] (fun left i wr => ∃ (j : Nat) (g : Nat → Bool) (m : Mm) (L : LS), j ≤ len + k ∧ left = .int .i64 (cnt 0 (Rg k g) k) ∧ i = .int .i64 j ∧ Rd w c B cb r bw G len sl V k j g m L wr) (fun _ i _ => len + k - (intOf i).toNat)
          case atStart => exact ⟨0, fun _ => false, M1, L0, by omega, by rw [← unhide kk], rfl, unhide hD0⟩
          case round =>
            obtain ⟨j, g, m, L, hj, rfl, rfl, hD⟩ := hrel
            clear hD0 kk
            have hci := cnt_in 0 (Rg k g) k
            obtain ⟨z, hz⟩ : ∃ z, cnt 0 (Rg k g) k = z := ⟨_, rfl⟩
            rw [hz] at hci ⊢
            replace hz := hide hz
            have z1 := hci.1
            have z2 := hci.2
            clear hci
            by_cases hgo : j < len + k ∧ 0 < z
            · have kd1 : decide ((j : Int) < (len : Int) + (k : Int)) = true := decide_eq_true (by omega)
              have kd2 : decide (0 < z) = true := decide_eq_true hgo.2
              by_cases hjl : j < len
              · have kd3 : decide ((j : Int) < (len : Int)) = true := decide_eq_true (by omega)
                obtain ⟨b1, off, rfl, hlt1, hcell⟩ := ((unhide Hs).later hD.env.b).at hjl
                have jl : (j : Int) < (len : Int) := by omega
                obtain ⟨y, hy⟩ : ∃ y, l.getD j 0 = y := ⟨_, rfl⟩
                rw [hy] at hcell
                clear hy
                by_cases hy0 : y < 0
                · have kd4 : decide (y < 0) = true := decide_eq_true hy0
                  go_wp2
                  go_roundw
                  case rel => exact ⟨j + 1, g, m, L, by omega, by rw [unhide hz], by go_num, ⟨fun u h _ => by omega, hD.env, hD.ab, hD.lat, hD.jj, hD.ok, hD.row⟩⟩
                  case measure => first | omega | (simp; omega) | (simp [intOf]; omega)
                · have kd4 : decide (y < 0) = false := decide_eq_false hy0
                  by_cases hyk : (k : Int) ≤ y
                  · have kd5 : decide ((k : Int) ≤ y) = true := decide_eq_true hyk
                    go_wp2
                    go_roundw
                    case rel => exact ⟨j + 1, g, m, L, by omega, by rw [unhide hz], by go_num, ⟨fun u h _ => by omega, hD.env, hD.ab, hD.lat, hD.jj, hD.ok, hD.row⟩⟩
                    case measure => first | omega | (simp; omega) | (simp [intOf]; omega)
                  · have kd5 : decide ((k : Int) ≤ y) = false := decide_eq_false hyk
                    obtain ⟨n, rfl⟩ := Int.eq_ofNat_of_zero_le (Int.not_lt.1 hy0)
                    have hnk : n < k := by omega
                    have n16 : (n : Int) < 16 := by omega
                    clear hy0 hyk
                    rcases hgn : g n
                    · have dummy := hnk
                      have Rn : Rg k g n = true := by simp [Rg, hgn, hnk]
                      have Dn := hide (hD.jj.done ⟨n, Rn⟩)
                      have G1 : gotB 20 (newL 6 c 2 (n : Int) false 0) m = true ∧ Ab sl ((V : Int) + 1) (up (Rg k g) n false) (itM 20 (newL 6 c 2 (n : Int) false 0) m).f := endRead_got (la_new c (unhide hcT) (unhide hl1) (by omega) 6 false 0) hD.ab (by omega) Rn
                      have G5 := hide G1.2
                      have G4 := hide G1.1
                      clear G1
                      have hE := hD.env
                      have hw := hD.lat
                      have hG := hD.row
                      have cG := hG.cell (show n < 16 by omega)
                      rw [hgn] at cG
                      replace Rn := hide Rn
                      replace hgn := hide hgn
                      replace hD := hide hD
                      go_wp2_with fail
                      refine (done_any bw _ _ hw).mono ?_
                      rw [unhide Dn]
                      rintro e _ ⟨rfl, rfl⟩
                      obtain ⟨x0, x1, x2, x3, x4, x5, x6, x7, x8, x9, x10, x11⟩ := hE.x.cells
                      go_wp2_with fail
                      refine (env_made (endRead_any c 2 (n : Int) _) hE).mono ?_
                      rintro e _ ⟨be, rfl, oe, hse, he, hE1, hb1⟩
                      have nwe : bw ≠ be := by have := hw.lt; omega
                      replace hw := hw.next hb1
                      have nGe : G ≠ be := by have := hG.lt; omega
                      replace hG := hG.of_block (hb1.block G hG.lt)
                      clear x0 x1 x2 x3 x4 x5 x6 x7 x8 x9 x10 x11 hse hb1 hE
                      have hE := hE1
                      clear hE1
                      go_wp2_with fail
                      refine (env_through hE he oe (ok_new hn 6 2 (n : Int) false 0 (by decide) (by decide) (by decide))).mono ?_
                      rw [unhide G4]
                      rintro e _ ⟨rfl, he1, hE1, ht1⟩
                      clear he
                      have he := he1
                      clear he1
                      replace hG := hG.of_block (ht1.block G nGe oG.n1 oG.n2)
                      replace hw := hw.stays3 ht1 nwe ow.n1 ow.n2
                      clear ht1 hE
                      have hE := hE1
                      clear hE1
                      clear he oe
                      clear cG
                      have cG := hG.cell (show n < 16 by omega)
                      rw [unhide hgn] at cG
                      have fG := hG.frozen n
                      generalize itM 20 (newL 6 c 2 (n : Int) false 0) m = m2 at *
                      go_upto_region 39 with fail
                      have hE2 := hE.put oG n (.bool true)
                      have hw2 := hw.stays (touch_set G n _ (.bool true)) nGw nGw
                      have hG2 : World.rowIs _ G 60 16 (fun u => .bool (up g n true u)) := (hG.set n (.bool true)).congr (fun u _ => by unfold up; split <;> rfl)
                      clear hE hw hG cG fG
                      replace hE2 := hide hE2
                      replace hw2 := hide hw2
                      replace hG2 := hide hG2
                      go_wp2_with fail
                      go_loopw [20] (fun i wi => ∃ q : Nat, q ≤ 12 ∧ i = .int .i64 q ∧ Lat wi bw (itL q L m2) ∧ Env w c B cb r 9 (itM q L m2) wi ∧ wi.rowIs G 60 16 (fun u => .bool (up g n true u))) (fun i _ => 12 - (intOf i).toNat)
                      case atStart => exact ⟨0, by omega, rfl, unhide hw2, unhide hE2, unhide hG2⟩
                      case round =>
                        obtain ⟨q, hq, rfl, hw, hE, hG⟩ := hrel
                        clear hw2 hE2 hG2
                        by_cases hlq : q < 12
                        · have hq2 := hlq
                          have nGw2 : G ≠ bw := fun e => nGw e.symm
                          go_wp2_with fail
                          refine (env_step hE hw ow (it_ok (unhide hD).ok q)).mono ?_
                          rintro e _ ⟨rfl, hw1, hE1, ht1⟩
                          replace hG := hG.of_block (ht1.block G nGw2 oG.n1 oG.n2)
                          clear ht1 hE hw
                          go_wp2
                          go_roundw
                          case rel => exact ⟨q + 1, by omega, by go_num, hw1, hE1, hG⟩
                          case measure => simp [intOf]; omega
                        · obtain rfl : q = 12 := by omega
                          obtain ⟨a9, j9⟩ := (unhide hD).jj.next ⟨n, unhide Rn⟩ n (unhide G5) (by omega)
                          have ok9 : Ok 9 (itL 12 L m2) := it_ok (unhide hD).ok 12
                          have z9 := cnt_down 0 (Rg k g) n k (by omega) (Nat.zero_le _) (unhide Rn)
                          rw [unhide hz] at z9
                          rw [← Rg_gone] at a9 j9 z9
                          replace a9 := hide a9
                          replace j9 := hide j9
                          replace ok9 := hide ok9
                          replace z9 := hide z9
                          go_wp2
                          go_roundw
                          case rel => exact ⟨j + 1, up g n true, itM 12 L m2, itL 12 L m2, by omega, by rw [unhide z9]; congr 1; omega, by go_num, ⟨fun u h _ => by omega, hE, unhide a9, hw, unhide j9, unhide ok9, hG⟩⟩
                          case measure => first | omega | (simp; omega) | (simp [intOf]; omega)
                    · have cG := hD.row.cell (show n < 16 by omega)
                      rw [hgn] at cG
                      go_wp2
                      go_roundw
                      case rel => exact ⟨j + 1, g, m, L, by omega, by rw [unhide hz], by go_num, ⟨fun u h _ => by omega, hD.env, hD.ab, hD.lat, hD.jj, hD.ok, hD.row⟩⟩
                      case measure => first | omega | (simp; omega) | (simp [intOf]; omega)
              · have kd3 : decide ((j : Int) < (len : Int)) = false := decide_eq_false (by omega)
                obtain ⟨n, hn2⟩ : ∃ n, j = len + n := ⟨j - len, by omega⟩
                have jn : (j : Int) - (len : Int) = (n : Int) := by omega
                have hnk : n < k := by omega
                have n16 : (n : Int) < 16 := by omega
                have kd4 : decide ((n : Int) < 0) = false := decide_eq_false (by omega)
                have kd5 : decide ((k : Int) ≤ (n : Int)) = false := decide_eq_false (by omega)
                replace hn2 := hide hn2
                rcases hgn : g n
                · have dummy := hnk
                  have Rn : Rg k g n = true := by simp [Rg, hgn, hnk]
                  have Dn := hide (hD.jj.done ⟨n, Rn⟩)
                  have G1 : gotB 20 (newL 6 c 2 (n : Int) false 0) m = true ∧ Ab sl ((V : Int) + 1) (up (Rg k g) n false) (itM 20 (newL 6 c 2 (n : Int) false 0) m).f := endRead_got (la_new c (unhide hcT) (unhide hl1) (by omega) 6 false 0) hD.ab (by omega) Rn
                  have G5 := hide G1.2
                  have G4 := hide G1.1
                  clear G1
                  have hE := hD.env
                  have hw := hD.lat
                  have hG := hD.row
                  have cG := hG.cell (show n < 16 by omega)
                  rw [hgn] at cG
                  replace Rn := hide Rn
                  replace hgn := hide hgn
                  replace hD := hide hD
                  go_wp2_with fail
                  refine (done_any bw _ _ hw).mono ?_
                  rw [unhide Dn]
                  rintro e _ ⟨rfl, rfl⟩
                  obtain ⟨x0, x1, x2, x3, x4, x5, x6, x7, x8, x9, x10, x11⟩ := hE.x.cells
                  go_wp2_with fail
                  refine (env_made (endRead_any c 2 (n : Int) _) hE).mono ?_
                  rintro e _ ⟨be, rfl, oe, hse, he, hE1, hb1⟩
                  have nwe : bw ≠ be := by have := hw.lt; omega
                  replace hw := hw.next hb1
                  have nGe : G ≠ be := by have := hG.lt; omega
                  replace hG := hG.of_block (hb1.block G hG.lt)
                  clear x0 x1 x2 x3 x4 x5 x6 x7 x8 x9 x10 x11 hse hb1 hE
                  have hE := hE1
                  clear hE1
                  go_wp2_with fail
                  refine (env_through hE he oe (ok_new hn 6 2 (n : Int) false 0 (by decide) (by decide) (by decide))).mono ?_
                  rw [unhide G4]
                  rintro e _ ⟨rfl, he1, hE1, ht1⟩
                  clear he
                  have he := he1
                  clear he1
                  replace hG := hG.of_block (ht1.block G nGe oG.n1 oG.n2)
                  replace hw := hw.stays3 ht1 nwe ow.n1 ow.n2
                  clear ht1 hE
                  have hE := hE1
                  clear hE1
                  clear he oe
                  clear cG
                  have cG := hG.cell (show n < 16 by omega)
                  rw [unhide hgn] at cG
                  have fG := hG.frozen n
                  generalize itM 20 (newL 6 c 2 (n : Int) false 0) m = m2 at *
                  go_upto_region 39 with fail
                  have hE2 := hE.put oG n (.bool true)
                  have hw2 := hw.stays (touch_set G n _ (.bool true)) nGw nGw
                  have hG2 : World.rowIs _ G 60 16 (fun u => .bool (up g n true u)) := (hG.set n (.bool true)).congr (fun u _ => by unfold up; split <;> rfl)
                  clear hE hw hG cG fG
                  replace hE2 := hide hE2
                  replace hw2 := hide hw2
                  replace hG2 := hide hG2
                  go_wp2_with fail
                  go_loopw [20] (fun i wi => ∃ q : Nat, q ≤ 12 ∧ i = .int .i64 q ∧ Lat wi bw (itL q L m2) ∧ Env w c B cb r 9 (itM q L m2) wi ∧ wi.rowIs G 60 16 (fun u => .bool (up g n true u))) (fun i _ => 12 - (intOf i).toNat)
                  case atStart => exact ⟨0, by omega, rfl, unhide hw2, unhide hE2, unhide hG2⟩
                  case round =>
                    obtain ⟨q, hq, rfl, hw, hE, hG⟩ := hrel
                    clear hw2 hE2 hG2
                    by_cases hlq : q < 12
                    · have hq2 := hlq
                      have nGw2 : G ≠ bw := fun e => nGw e.symm
                      go_wp2_with fail
                      refine (env_step hE hw ow (it_ok (unhide hD).ok q)).mono ?_
                      rintro e _ ⟨rfl, hw1, hE1, ht1⟩
                      replace hG := hG.of_block (ht1.block G nGw2 oG.n1 oG.n2)
                      clear ht1 hE hw
                      go_wp2
                      go_roundw
                      case rel => exact ⟨q + 1, by omega, by go_num, hw1, hE1, hG⟩
                      case measure => simp [intOf]; omega
                    · obtain rfl : q = 12 := by omega
                      obtain ⟨a9, j9⟩ := (unhide hD).jj.next ⟨n, unhide Rn⟩ n (unhide G5) (by omega)
                      have ok9 : Ok 9 (itL 12 L m2) := it_ok (unhide hD).ok 12
                      have z9 := cnt_down 0 (Rg k g) n k (by omega) (Nat.zero_le _) (unhide Rn)
                      rw [unhide hz] at z9
                      rw [← Rg_gone] at a9 j9 z9
                      replace a9 := hide a9
                      replace j9 := hide j9
                      replace ok9 := hide ok9
                      replace z9 := hide z9
                      go_wp2
                      go_roundw
                      case rel => exact ⟨j + 1, up g n true, itM 12 L m2, itL 12 L m2, by omega, by rw [unhide z9]; congr 1; omega, by go_num, ⟨fun u h hu => by have := unhide hn2; unfold up; split; rfl; exact (unhide hD).all u (by omega) hu, hE, unhide a9, hw, unhide j9, unhide ok9, hG⟩⟩
                      case measure => first | omega | (simp; omega) | (simp [intOf]; omega)
                · have cG := hD.row.cell (show n < 16 by omega)
                  rw [hgn] at cG
                  replace hgn := hide hgn
                  go_wp2
                  go_roundw
                  case rel => exact ⟨j + 1, g, m, L, by omega, by rw [unhide hz], by go_num, ⟨fun u h hu => by have := unhide hn2; by_cases e : u = n; rw [e]; exact unhide hgn; exact hD.all u (by omega) hu, hD.env, hD.ab, hD.lat, hD.jj, hD.ok, hD.row⟩⟩
                  case measure => first | omega | (simp; omega) | (simp [intOf]; omega)
            · have hz0 : ∀ u, Rg k g u = false := by
                intro u
                by_cases hu : u < k
                · by_cases hz3 : 0 < z
                  · simp only [Rg]; rw [hD.all u (by omega) hu]; simp
                  · exact (cnt_zero 0 (Rg k g) k).1 (by rw [unhide hz]; omega) u hu (Nat.zero_le _)
                · simp [Rg, hu]
              have hzz : z = 0 := by rw [← unhide hz]; exact (cnt_zero 0 (Rg k g) k).2 (fun u _ _ => hz0 u)
              have hp9 := hD.jj.got hz0
              have hE := hD.env
              have hw := hD.lat
              have hf1 : wordD 9 m.f 1 = th := by
                have := hD.ab.o
                show (if hasB 9 1 then m.f (1 : Int).toNat else 0) = th
                rw [show hasB 9 1 = true from rfl, if_pos rfl]; show m.f 1 = th; omega
              replace hf1 := hide hf1
              replace hz0 := hide hz0
              replace hp9 := hide hp9
              subst hzz
              clear hD
              by_cases hj2 : j < len + k
              · have kd1 : decide ((j : Int) < (len : Int) + (k : Int)) = true := decide_eq_true (by omega)
                clear hgo hj2
                go_wp2_with fail
                refine (first_any _).mono ?_
                rintro e _ ⟨rfl, hb1⟩
                replace hw := hw.next hb1
                have hE1 := hE.next hb1
                clear hb1 hE
                have hE := hE1
                clear hE1
                go_wp2_with fail
                refine (got_any bw _ _ hw).mono ?_
                rw [unhide hp9]
                rintro e _ ⟨rfl, rfl⟩
                obtain ⟨x0, x1, x2, x3, x4, x5, x6, x7, x8, x9, x10, x11⟩ := hE.x.cells
                go_wp2_with fail
                refine (latch_any c 2 _).mono ?_
                rw [unhide hl1]
                rintro e _ ⟨rfl, hb1⟩
                have hE1 := hE.next hb1
                clear hb1 hE x0 x1 x2 x3 x4 x5 x6 x7 x8 x9 x10 x11
                go_wp2_with fail
                refine (peek_any cb r 9 _ _ 1 _ hE1.s).mono ?_
                rw [unhide hf1]
                rintro e _ ⟨rfl, rfl⟩
                have hB := hE1.b
                go_wp2
                go_ret
                exact ⟨rfl, hB⟩
              · have kd1 : decide ((j : Int) < (len : Int) + (k : Int)) = false := decide_eq_false (by omega)
                clear hgo hj2
                go_wp2_with fail
                refine (first_any _).mono ?_
                rintro e _ ⟨rfl, hb1⟩
                replace hw := hw.next hb1
                have hE1 := hE.next hb1
                clear hb1 hE
                have hE := hE1
                clear hE1
                go_wp2_with fail
                refine (got_any bw _ _ hw).mono ?_
                rw [unhide hp9]
                rintro e _ ⟨rfl, rfl⟩
                obtain ⟨x0, x1, x2, x3, x4, x5, x6, x7, x8, x9, x10, x11⟩ := hE.x.cells
                go_wp2_with fail
                refine (latch_any c 2 _).mono ?_
                rw [unhide hl1]
                rintro e _ ⟨rfl, hb1⟩
                have hE1 := hE.next hb1
                clear hb1 hE x0 x1 x2 x3 x4 x5 x6 x7 x8 x9 x10 x11
                go_wp2_with fail
                refine (peek_any cb r 9 _ _ 1 _ hE1.s).mono ?_
                rw [unhide hf1]
                rintro e _ ⟨rfl, rfl⟩
                have hB := hE1.b
                go_wp2
                go_ret
                exact ⟨rfl, hB⟩

set_option maxRecDepth 100000 in
theorem latchReaders_walk (th sl rr : Int) (x : Option Addr) (len cap : Nat) (l : List Int) (w : World) (_ : (Lit.int .i64 th).wf = true) (_ : (Lit.int .i64 sl).wf = true) (_ : (Lit.int .i64 rr).wf = true) (hs : SegK .i64 w x len l) (_ : len ≤ cap) (_ : cap ≤ maxLen) (_ : ∀ n ∈ l, (Lit.int .i64 n).wf = true) :
    Calls Try.prog 5 #[.int .i64 th, .int .i64 sl, .int .i64 rr, .slice x len cap] w fun e w' => e = .returned (.bool true) ∧ Below w.heap.size w w' := by
  by_cases hA : 2 ≤ th ∧ th ≤ 16 ∧ 0 ≤ sl ∧ sl ≤ 16 ∧ 0 ≤ rr ∧ rr < th ∧ (len : Int) ≤ 100
  · obtain ⟨h1, h2, h3, h4, h5, h6, h7⟩ := hA
    obtain ⟨sl, rfl⟩ := Int.eq_ofNat_of_zero_le h3
    obtain ⟨rr, rfl⟩ := Int.eq_ofNat_of_zero_le h5
    exact readers_in th (th - 1).toNat (th - 2).toNat sl rr x len cap l w (by omega) (by omega) h2 (by omega) (by omega) (by omega) hs
  · go_enter Try.func5, Try.ntmps5
    have hA' := hide hA
    clear hA hs
    go_wp2_with fail
    refine (first_any _).mono ?_
    rintro e w1 ⟨rfl, hb1⟩
    rcases Bool.eq_false_or_eq_true (decide (th < 2)) with d0 | d0
    · go_wp2_with fail
      refine (first_any _).mono ?_
      rintro e w2 ⟨rfl, hb2⟩
      go_wp2
      go_ret
      exact ⟨rfl, below_then hb1 hb2⟩
    rcases Bool.eq_false_or_eq_true (decide (16 < th)) with d1 | d1
    · go_wp2_with fail
      refine (first_any _).mono ?_
      rintro e w2 ⟨rfl, hb2⟩
      go_wp2
      go_ret
      exact ⟨rfl, below_then hb1 hb2⟩
    rcases Bool.eq_false_or_eq_true (decide (sl < 0)) with d2 | d2
    · go_wp2_with fail
      refine (first_any _).mono ?_
      rintro e w2 ⟨rfl, hb2⟩
      go_wp2
      go_ret
      exact ⟨rfl, below_then hb1 hb2⟩
    rcases Bool.eq_false_or_eq_true (decide (16 < sl)) with d3 | d3
    · go_wp2_with fail
      refine (first_any _).mono ?_
      rintro e w2 ⟨rfl, hb2⟩
      go_wp2
      go_ret
      exact ⟨rfl, below_then hb1 hb2⟩
    rcases Bool.eq_false_or_eq_true (decide (rr < 0)) with d4 | d4
    · go_wp2_with fail
      refine (first_any _).mono ?_
      rintro e w2 ⟨rfl, hb2⟩
      go_wp2
      go_ret
      exact ⟨rfl, below_then hb1 hb2⟩
    rcases Bool.eq_false_or_eq_true (decide (th ≤ rr)) with d5 | d5
    · go_wp2_with fail
      refine (first_any _).mono ?_
      rintro e w2 ⟨rfl, hb2⟩
      go_wp2
      go_ret
      exact ⟨rfl, below_then hb1 hb2⟩
    rcases Bool.eq_false_or_eq_true (decide (100 < (len : Int))) with d6 | d6
    · go_wp2_with fail
      refine (first_any _).mono ?_
      rintro e w2 ⟨rfl, hb2⟩
      go_wp2
      go_ret
      exact ⟨rfl, below_then hb1 hb2⟩
    exfalso; have hA := unhide hA'; revert hA; simp at d0 d1 d2 d3 d4 d5 d6; omega
end Go.Proofs.Ytlhmpkeljagihaa
