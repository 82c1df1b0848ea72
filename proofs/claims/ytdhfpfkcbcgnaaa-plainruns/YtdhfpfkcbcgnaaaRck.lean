/- The reference's Check of a program. -/
import Derived.Test.YtdhfpfkcbcgnaaaRad
import Derived.BigRegion
import Derived.Deep.RegionHeld3
namespace Go.Proofs.Ytdhfpfkcbcgnaaa
open Go.RowKit

theorem wi_step {g : Int} {l : List Int} {m : Nat} (h : m < l.length) : wiB g (l.take (m + 1)) = (wiB g (l.take m) && wiB g [l.getD m 0]) := by
  unfold wiB
  rw [List.take_add_one, List.getElem?_eq_getElem h, List.all_append]
  simp [h]
set_option maxRecDepth 100000 in
set_option maxHeartbeats 4000000 in
theorem rprogCheck_any (c : Cf) (ps : List In) (v : Value) (w : World) (hp : Ps w.heap.size w v ps) :
    Calls Try.prog 21 #[cv c, v] w fun e w' => e = .returned (.int .i64 (checkD c ps)) ∧ Below w.heap.size w w' := by
  obtain ⟨n, hn⟩ : ∃ n, n = ps.length := ⟨_, rfl⟩
  have hp0 := hp
  obtain ⟨a, cap, rfl, h1, h2, h3⟩ := hp
  have hmax : maxLen = 9223372036854775807 := rfl
  rw [← hn] at h1 ⊢
  replace hn := hide hn
  have hnl : (n : Int) ≤ 9223372036854775807 := by omega
  have hx := bx_new c w
  have b1 := below_new w (.cells #[.int .i64 c.r, .int .i64 c.o, .int .i64 c.s, .int .i64 c.d, .int .i64 c.t, .int .i64 c.l, .int .i64 c.g, .int .i64 c.k, .int .i64 c.u, .int .i64 c.e, .int .i64 c.i, .int .i64 c.p] 23)
  have kC := rcheck_any c (w.alloc (.cells #[.int .i64 c.r, .int .i64 c.o, .int .i64 c.s, .int .i64 c.d, .int .i64 c.t, .int .i64 c.l, .int .i64 c.g, .int .i64 c.k, .int .i64 c.u, .int .i64 c.e, .int .i64 c.i, .int .i64 c.p] 23))
  unfold cv at kC
  unfold cv
  replace hp0 := hide hp0
  replace hx := hide hx
  replace b1 := hide b1
  clear h3
  cases ho : okB c
  · have r : Hid (checkD c ps = 2) := hide (by simp [checkD, chB, ho])
    rw [ho] at kC
    go_enter Try.func21, Try.ntmps21
    go_wp2_with fail
    refine kC.mono ?_
    rintro e w1 ⟨rfl, hb⟩
    have b2 := hide (below_then (unhide b1) hb)
    clear hb kC
    have e1' : errOf false = 1 := rfl
    go_wp2
    go_ret
    exact ⟨by rw [unhide r]; rfl, unhide b2⟩
  · rw [ho] at kC
    by_cases h60 : n ≤ 60
    · have d60 : decide (60 < (n : Int)) = false := decide_eq_false (by omega)
      go_enter Try.func21, Try.ntmps21
      go_wp2_with fail
      refine kC.mono ?_
      rintro e w1 ⟨rfl, hb⟩
      have b2 := hide (below_then (unhide b1) hb)
      have hx1 := hide ((unhide hx).next hb)
      clear hb kC b1 hx
      have e1' : errOf true = 0 := rfl
      go_wp2_with fail
      go_loopw [5] (fun s wr => ∃ i : Nat, i ≤ n ∧ s = .int .i64 i ∧ Below w.heap.size w wr ∧ Bx c w.heap.size wr ∧ ∀ j : Nat, j < i → stB c.g (ps.getD j z0) j n = true) (fun s _ => n - (RowKit.intOf s).toNat)
      case atStart => exact ⟨0, Nat.zero_le _, rfl, unhide b2, unhide hx1, fun j hj => absurd hj (Nat.not_lt_zero j)⟩
      case round =>
        obtain ⟨i, hi, rfl, hb, hx, hall⟩ := hrel
        clear b2 hx1
        replace hall := hide hall
        by_cases hlt : i < n
        · have kd : decide ((i : Int) < (n : Int)) = true := decide_eq_true (by omega)
          have kl : (i : Int) < (n : Int) := by omega
          obtain ⟨_, _, hv, _, _, h3'⟩ := unhide hp0
          cases hv
          rcases h3' with h0 | ⟨pb, off, rfl, hbB, hc⟩
          · have := unhide hn; omega
          have hI := hc i (by have := unhide hn; omega)
          obtain ⟨x, hxx⟩ : ∃ x, ps.getD i z0 = x := ⟨_, rfl⟩
          rw [hxx] at hI
          obtain ⟨kk, xa, b, d, l⟩ := x
          obtain ⟨c0, c1, c2, c3, u, c4, hu⟩ := hI
          replace hu : Ls w.heap.size w u l := hu
          obtain ⟨ua, ul, uc, rfl, hul1, hul2, _, hus⟩ := hu
          have hll := hide hus.1
          have hus00 := hide hus
          clear hus
          replace c0 := (hb.cell hbB).trans c0
          replace c1 := (hb.cell hbB).trans c1
          replace c2 := (hb.cell hbB).trans c2
          replace c3 := (hb.cell hbB).trans c3
          replace c4 := (hb.cell hbB).trans c4
          have hull : (ul : Int) ≤ 9223372036854775807 := by omega
          have g0 := hide (below_then hb (below_new wr (.cells #[.int .i64 kk, .int .i64 xa, .int .i64 b, .int .i64 d, .slice ua ul uc] 44)))
          have x0 := hide (hx.next (below_new wr (.cells #[.int .i64 kk, .int .i64 xa, .int .i64 b, .int .i64 d, .slice ua ul uc] 44)))
          have y0 := hide (ix_new ⟨kk, xa, b, d, l⟩ (.slice ua ul uc) wr)
          obtain ⟨z0, z1, z2, z3, z4, z5, z6, z7, z8, z9, z10, z11⟩ := (unhide x0).cells
          obtain ⟨yy0, yy1, yy2, yy3, yy4⟩ := (unhide y0).cells
          replace hb := hide hb
          replace hx := hide hx
          replace hxx := hide hxx
          replace hc := hide hc
          obtain ⟨ra, hra⟩ : ∃ r, wiB c.g [xa] = r := ⟨_, rfl⟩
          by_cases k0 : kk < 1
          · have q1 : decide (1 ≤ kk) = false := decide_eq_false (by omega)
            have q2 : ¬ 1 ≤ kk := by omega
            have q3 : (kk == 1) = false := by simp; omega
            have q4 : (kk == 2) = false := by simp; omega
            have q5 : (kk == 4) = false := by simp; omega
            have q6 : (kk == 5) = false := by simp; omega
            have r : Hid (checkD c ps = 2) := hide (ch_no (k := i) (by have := unhide hn; omega) (by rw [unhide hxx, ← unhide hn]; (simp only [stB]; rw [if_neg (show ¬ (kk = 1 ∨ kk = 2) by omega), if_neg (show ¬ kk = 3 by omega), if_neg (show ¬ kk = 4 by omega), if_neg (show ¬ kk = 5 by omega), decide_eq_false (show ¬ (kk = 6 ∨ kk = 7) by omega)]; split <;> rfl)))
            go_wp2
            go_ret
            exact ⟨by rw [unhide r]; rfl, unhide g0⟩
          by_cases k8 : 7 < kk
          · have q1 : decide (1 ≤ kk) = true := decide_eq_true (by omega)
            have q2 : decide (kk ≤ 7) = false := decide_eq_false (by omega)
            have q2' : ¬ kk ≤ 7 := by omega
            have q7 : decide (kk ≤ 5) = false := decide_eq_false (by omega)
            have q7' : ¬ kk ≤ 5 := by omega
            have q8 : 1 ≤ kk := by omega
            have q3 : (kk == 1) = false := by simp; omega
            have q4 : (kk == 2) = false := by simp; omega
            have q5 : (kk == 4) = false := by simp; omega
            have q6 : (kk == 5) = false := by simp; omega
            have r : Hid (checkD c ps = 2) := hide (ch_no (k := i) (by have := unhide hn; omega) (by rw [unhide hxx, ← unhide hn]; (simp only [stB]; rw [if_neg (show ¬ (kk = 1 ∨ kk = 2) by omega), if_neg (show ¬ kk = 3 by omega), if_neg (show ¬ kk = 4 by omega), if_neg (show ¬ kk = 5 by omega), decide_eq_false (show ¬ (kk = 6 ∨ kk = 7) by omega)]; split <;> rfl)))
            go_wp2
            go_ret
            exact ⟨by rw [unhide r]; rfl, unhide g0⟩
          have hk : kk = 1 ∨ kk = 2 ∨ kk = 3 ∨ kk = 4 ∨ kk = 5 ∨ kk = 6 ∨ kk = 7 := by omega
          clear k0 k8
          rcases hk with rfl | rfl | rfl | rfl | rfl | rfl | rfl
          · as_aux_lemma =>
            cases ra
            · skip
              go_wp2_with fail
              refine (reg_any c xa _).mono ?_
              rw [hra]
              rintro e w1 ⟨rfl, hb1⟩
              have g1 := hide (below_then (unhide g0) hb1)
              have x1 := hide ((unhide x0).next hb1)
              have y1 := hide ((unhide y0).next hb1)
              clear hb1 z0 z1 z2 z3 z4 z5 z6 z7 z8 z9 z10 z11
              clear yy0 yy1 yy2 yy3 yy4
              obtain ⟨z0, z1, z2, z3, z4, z5, z6, z7, z8, z9, z10, z11⟩ := (unhide x1).cells
              obtain ⟨yy0, yy1, yy2, yy3, yy4⟩ := (unhide y1).cells
              have r : Hid (checkD c ps = 2) := hide (ch_no (k := i) (by have := unhide hn; omega) (by rw [unhide hxx, ← unhide hn]; simp [stB, hra]))
              go_wp2
              go_ret
              exact ⟨by rw [unhide r]; rfl, unhide g1⟩
            · by_cases hd : d = -1
              · subst hd
                go_wp2_with fail
                refine (reg_any c xa _).mono ?_
                rw [hra]
                rintro e w2 ⟨rfl, hb2⟩
                have g2 := hide (below_then (unhide g0) hb2)
                have x2 := hide ((unhide x0).next hb2)
                have y2 := hide ((unhide y0).next hb2)
                clear hb2 z0 z1 z2 z3 z4 z5 z6 z7 z8 z9 z10 z11
                clear yy0 yy1 yy2 yy3 yy4
                obtain ⟨z0, z1, z2, z3, z4, z5, z6, z7, z8, z9, z10, z11⟩ := (unhide x2).cells
                obtain ⟨yy0, yy1, yy2, yy3, yy4⟩ := (unhide y2).cells
                by_cases h0 : ul = 0
                · subst h0
                  have zl : l = [] := List.length_eq_zero_iff.1 (by have := unhide hll; omega)
                  have r : Hid (stB c.g ⟨1, xa, b, -1, l⟩ i n = true) := hide (by simp [stB, hra, zl])
                  go_wp2
                  go_roundw
                  case rel => exact ⟨i + 1, by omega, by go_num, unhide g2, unhide x2, fun j hj => by
                    by_cases e : j = i
                    · subst e; rw [unhide hxx]; exact unhide r
                    · exact unhide hall j (by omega)⟩
                  case measure => first | omega | (simp; omega) | (simp [RowKit.intOf]; omega)
                · have e0 : ((ul : Int) == 0) = false := by simp; omega
                  have lpos : 0 < l.length := by have := unhide hll; omega
                  have r : Hid (checkD c ps = 2) := hide (ch_no (k := i) (by have := unhide hn; omega) (by rw [unhide hxx, ← unhide hn]; simp [stB, lpos]))
                  go_wp2
                  go_ret
                  exact ⟨by rw [unhide r]; rfl, unhide g2⟩
              · have nd : (d == -1) = false := by simpa using hd
                obtain ⟨rd, hrd⟩ : ∃ r, wiB c.g [d] = r := ⟨_, rfl⟩
                cases rd
                · skip
                  go_wp2_with fail
                  refine (reg_any c xa _).mono ?_
                  rw [hra]
                  rintro e w3 ⟨rfl, hb3⟩
                  have g3 := hide (below_then (unhide g0) hb3)
                  have x3 := hide ((unhide x0).next hb3)
                  have y3 := hide ((unhide y0).next hb3)
                  clear hb3 z0 z1 z2 z3 z4 z5 z6 z7 z8 z9 z10 z11
                  clear yy0 yy1 yy2 yy3 yy4
                  obtain ⟨z0, z1, z2, z3, z4, z5, z6, z7, z8, z9, z10, z11⟩ := (unhide x3).cells
                  obtain ⟨yy0, yy1, yy2, yy3, yy4⟩ := (unhide y3).cells
                  go_wp2_with fail
                  refine (reg_any c d _).mono ?_
                  rw [hrd]
                  rintro e w4 ⟨rfl, hb4⟩
                  have g4 := hide (below_then (unhide g3) hb4)
                  have x4 := hide ((unhide x3).next hb4)
                  have y4 := hide ((unhide y3).next hb4)
                  clear hb4 z0 z1 z2 z3 z4 z5 z6 z7 z8 z9 z10 z11
                  clear yy0 yy1 yy2 yy3 yy4
                  obtain ⟨z0, z1, z2, z3, z4, z5, z6, z7, z8, z9, z10, z11⟩ := (unhide x4).cells
                  obtain ⟨yy0, yy1, yy2, yy3, yy4⟩ := (unhide y4).cells
                  have r : Hid (checkD c ps = 2) := hide (ch_no (k := i) (by have := unhide hn; omega) (by rw [unhide hxx, ← unhide hn]; simp [stB, hra, hd, hrd]))
                  go_wp2
                  go_ret
                  exact ⟨by rw [unhide r]; rfl, unhide g4⟩
                · skip
                  go_wp2_with fail
                  refine (reg_any c xa _).mono ?_
                  rw [hra]
                  rintro e w5 ⟨rfl, hb5⟩
                  have g5 := hide (below_then (unhide g0) hb5)
                  have x5 := hide ((unhide x0).next hb5)
                  have y5 := hide ((unhide y0).next hb5)
                  clear hb5 z0 z1 z2 z3 z4 z5 z6 z7 z8 z9 z10 z11
                  clear yy0 yy1 yy2 yy3 yy4
                  obtain ⟨z0, z1, z2, z3, z4, z5, z6, z7, z8, z9, z10, z11⟩ := (unhide x5).cells
                  obtain ⟨yy0, yy1, yy2, yy3, yy4⟩ := (unhide y5).cells
                  go_wp2_with fail
                  refine (reg_any c d _).mono ?_
                  rw [hrd]
                  rintro e w6 ⟨rfl, hb6⟩
                  have g6 := hide (below_then (unhide g5) hb6)
                  have x6 := hide ((unhide x5).next hb6)
                  have y6 := hide ((unhide y5).next hb6)
                  clear hb6 z0 z1 z2 z3 z4 z5 z6 z7 z8 z9 z10 z11
                  clear yy0 yy1 yy2 yy3 yy4
                  obtain ⟨z0, z1, z2, z3, z4, z5, z6, z7, z8, z9, z10, z11⟩ := (unhide x6).cells
                  obtain ⟨yy0, yy1, yy2, yy3, yy4⟩ := (unhide y6).cells
                  by_cases h0 : ul = 0
                  · subst h0
                    have zl : l = [] := List.length_eq_zero_iff.1 (by have := unhide hll; omega)
                    have r : Hid (stB c.g ⟨1, xa, b, d, l⟩ i n = true) := hide (by simp [stB, hra, hd, hrd, zl])
                    go_wp2
                    go_roundw
                    case rel => exact ⟨i + 1, by omega, by go_num, unhide g6, unhide x6, fun j hj => by
                      by_cases e : j = i
                      · subst e; rw [unhide hxx]; exact unhide r
                      · exact unhide hall j (by omega)⟩
                    case measure => first | omega | (simp; omega) | (simp [RowKit.intOf]; omega)
                  · have e0 : ((ul : Int) == 0) = false := by simp; omega
                    have lpos : 0 < l.length := by have := unhide hll; omega
                    have r : Hid (checkD c ps = 2) := hide (ch_no (k := i) (by have := unhide hn; omega) (by rw [unhide hxx, ← unhide hn]; simp [stB, lpos]))
                    go_wp2
                    go_ret
                    exact ⟨by rw [unhide r]; rfl, unhide g6⟩
          · as_aux_lemma =>
            cases ra
            · skip
              go_wp2_with fail
              refine (reg_any c xa _).mono ?_
              rw [hra]
              rintro e w7 ⟨rfl, hb7⟩
              have g7 := hide (below_then (unhide g0) hb7)
              have x7 := hide ((unhide x0).next hb7)
              have y7 := hide ((unhide y0).next hb7)
              clear hb7 z0 z1 z2 z3 z4 z5 z6 z7 z8 z9 z10 z11
              clear yy0 yy1 yy2 yy3 yy4
              obtain ⟨z0, z1, z2, z3, z4, z5, z6, z7, z8, z9, z10, z11⟩ := (unhide x7).cells
              obtain ⟨yy0, yy1, yy2, yy3, yy4⟩ := (unhide y7).cells
              have r : Hid (checkD c ps = 2) := hide (ch_no (k := i) (by have := unhide hn; omega) (by rw [unhide hxx, ← unhide hn]; simp [stB, hra]))
              go_wp2
              go_ret
              exact ⟨by rw [unhide r]; rfl, unhide g7⟩
            · by_cases hd : d = -1
              · subst hd
                go_wp2_with fail
                refine (reg_any c xa _).mono ?_
                rw [hra]
                rintro e w8 ⟨rfl, hb8⟩
                have g8 := hide (below_then (unhide g0) hb8)
                have x8 := hide ((unhide x0).next hb8)
                have y8 := hide ((unhide y0).next hb8)
                clear hb8 z0 z1 z2 z3 z4 z5 z6 z7 z8 z9 z10 z11
                clear yy0 yy1 yy2 yy3 yy4
                obtain ⟨z0, z1, z2, z3, z4, z5, z6, z7, z8, z9, z10, z11⟩ := (unhide x8).cells
                obtain ⟨yy0, yy1, yy2, yy3, yy4⟩ := (unhide y8).cells
                by_cases h0 : ul = 0
                · subst h0
                  have zl : l = [] := List.length_eq_zero_iff.1 (by have := unhide hll; omega)
                  have r : Hid (stB c.g ⟨2, xa, b, -1, l⟩ i n = true) := hide (by simp [stB, hra, zl])
                  go_wp2
                  go_roundw
                  case rel => exact ⟨i + 1, by omega, by go_num, unhide g8, unhide x8, fun j hj => by
                    by_cases e : j = i
                    · subst e; rw [unhide hxx]; exact unhide r
                    · exact unhide hall j (by omega)⟩
                  case measure => first | omega | (simp; omega) | (simp [RowKit.intOf]; omega)
                · have e0 : ((ul : Int) == 0) = false := by simp; omega
                  have lpos : 0 < l.length := by have := unhide hll; omega
                  have r : Hid (checkD c ps = 2) := hide (ch_no (k := i) (by have := unhide hn; omega) (by rw [unhide hxx, ← unhide hn]; simp [stB, lpos]))
                  go_wp2
                  go_ret
                  exact ⟨by rw [unhide r]; rfl, unhide g8⟩
              · have nd : (d == -1) = false := by simpa using hd
                obtain ⟨rd, hrd⟩ : ∃ r, wiB c.g [d] = r := ⟨_, rfl⟩
                cases rd
                · skip
                  go_wp2_with fail
                  refine (reg_any c xa _).mono ?_
                  rw [hra]
                  rintro e w9 ⟨rfl, hb9⟩
                  have g9 := hide (below_then (unhide g0) hb9)
                  have x9 := hide ((unhide x0).next hb9)
                  have y9 := hide ((unhide y0).next hb9)
                  clear hb9 z0 z1 z2 z3 z4 z5 z6 z7 z8 z9 z10 z11
                  clear yy0 yy1 yy2 yy3 yy4
                  obtain ⟨z0, z1, z2, z3, z4, z5, z6, z7, z8, z9, z10, z11⟩ := (unhide x9).cells
                  obtain ⟨yy0, yy1, yy2, yy3, yy4⟩ := (unhide y9).cells
                  go_wp2_with fail
                  refine (reg_any c d _).mono ?_
                  rw [hrd]
                  rintro e w10 ⟨rfl, hb10⟩
                  have g10 := hide (below_then (unhide g9) hb10)
                  have x10 := hide ((unhide x9).next hb10)
                  have y10 := hide ((unhide y9).next hb10)
                  clear hb10 z0 z1 z2 z3 z4 z5 z6 z7 z8 z9 z10 z11
                  clear yy0 yy1 yy2 yy3 yy4
                  obtain ⟨z0, z1, z2, z3, z4, z5, z6, z7, z8, z9, z10, z11⟩ := (unhide x10).cells
                  obtain ⟨yy0, yy1, yy2, yy3, yy4⟩ := (unhide y10).cells
                  have r : Hid (checkD c ps = 2) := hide (ch_no (k := i) (by have := unhide hn; omega) (by rw [unhide hxx, ← unhide hn]; simp [stB, hra, hd, hrd]))
                  go_wp2
                  go_ret
                  exact ⟨by rw [unhide r]; rfl, unhide g10⟩
                · skip
                  go_wp2_with fail
                  refine (reg_any c xa _).mono ?_
                  rw [hra]
                  rintro e w11 ⟨rfl, hb11⟩
                  have g11 := hide (below_then (unhide g0) hb11)
                  have x11 := hide ((unhide x0).next hb11)
                  have y11 := hide ((unhide y0).next hb11)
                  clear hb11 z0 z1 z2 z3 z4 z5 z6 z7 z8 z9 z10 z11
                  clear yy0 yy1 yy2 yy3 yy4
                  obtain ⟨z0, z1, z2, z3, z4, z5, z6, z7, z8, z9, z10, z11⟩ := (unhide x11).cells
                  obtain ⟨yy0, yy1, yy2, yy3, yy4⟩ := (unhide y11).cells
                  go_wp2_with fail
                  refine (reg_any c d _).mono ?_
                  rw [hrd]
                  rintro e w12 ⟨rfl, hb12⟩
                  have g12 := hide (below_then (unhide g11) hb12)
                  have x12 := hide ((unhide x11).next hb12)
                  have y12 := hide ((unhide y11).next hb12)
                  clear hb12 z0 z1 z2 z3 z4 z5 z6 z7 z8 z9 z10 z11
                  clear yy0 yy1 yy2 yy3 yy4
                  obtain ⟨z0, z1, z2, z3, z4, z5, z6, z7, z8, z9, z10, z11⟩ := (unhide x12).cells
                  obtain ⟨yy0, yy1, yy2, yy3, yy4⟩ := (unhide y12).cells
                  by_cases h0 : ul = 0
                  · subst h0
                    have zl : l = [] := List.length_eq_zero_iff.1 (by have := unhide hll; omega)
                    have r : Hid (stB c.g ⟨2, xa, b, d, l⟩ i n = true) := hide (by simp [stB, hra, hd, hrd, zl])
                    go_wp2
                    go_roundw
                    case rel => exact ⟨i + 1, by omega, by go_num, unhide g12, unhide x12, fun j hj => by
                      by_cases e : j = i
                      · subst e; rw [unhide hxx]; exact unhide r
                      · exact unhide hall j (by omega)⟩
                    case measure => first | omega | (simp; omega) | (simp [RowKit.intOf]; omega)
                  · have e0 : ((ul : Int) == 0) = false := by simp; omega
                    have lpos : 0 < l.length := by have := unhide hll; omega
                    have r : Hid (checkD c ps = 2) := hide (ch_no (k := i) (by have := unhide hn; omega) (by rw [unhide hxx, ← unhide hn]; simp [stB, lpos]))
                    go_wp2
                    go_ret
                    exact ⟨by rw [unhide r]; rfl, unhide g12⟩
          · as_aux_lemma =>
            cases ra
            · skip
              go_wp2_with fail
              refine (reg_any c xa _).mono ?_
              rw [hra]
              rintro e w13 ⟨rfl, hb13⟩
              have g13 := hide (below_then (unhide g0) hb13)
              have x13 := hide ((unhide x0).next hb13)
              have y13 := hide ((unhide y0).next hb13)
              clear hb13 z0 z1 z2 z3 z4 z5 z6 z7 z8 z9 z10 z11
              clear yy0 yy1 yy2 yy3 yy4
              obtain ⟨z0, z1, z2, z3, z4, z5, z6, z7, z8, z9, z10, z11⟩ := (unhide x13).cells
              obtain ⟨yy0, yy1, yy2, yy3, yy4⟩ := (unhide y13).cells
              have r : Hid (checkD c ps = 2) := hide (ch_no (k := i) (by have := unhide hn; omega) (by rw [unhide hxx, ← unhide hn]; simp [stB, hra]))
              go_wp2
              go_ret
              exact ⟨by rw [unhide r]; rfl, unhide g13⟩
            · skip
              go_wp2_with fail
              refine (reg_any c xa _).mono ?_
              rw [hra]
              rintro e w14 ⟨rfl, hb14⟩
              have g14 := hide (below_then (unhide g0) hb14)
              have x14 := hide ((unhide x0).next hb14)
              have y14 := hide ((unhide y0).next hb14)
              clear hb14 z0 z1 z2 z3 z4 z5 z6 z7 z8 z9 z10 z11
              clear yy0 yy1 yy2 yy3 yy4
              obtain ⟨z0, z1, z2, z3, z4, z5, z6, z7, z8, z9, z10, z11⟩ := (unhide x14).cells
              obtain ⟨yy0, yy1, yy2, yy3, yy4⟩ := (unhide y14).cells
              by_cases h0 : ul = 0
              · subst h0
                have zl : l = [] := List.length_eq_zero_iff.1 (by have := unhide hll; omega)
                have r : Hid (stB c.g ⟨3, xa, b, d, l⟩ i n = true) := hide (by simp [stB, hra, zl])
                go_wp2
                go_roundw
                case rel => exact ⟨i + 1, by omega, by go_num, unhide g14, unhide x14, fun j hj => by
                  by_cases e : j = i
                  · subst e; rw [unhide hxx]; exact unhide r
                  · exact unhide hall j (by omega)⟩
                case measure => first | omega | (simp; omega) | (simp [RowKit.intOf]; omega)
              · have e0 : ((ul : Int) == 0) = false := by simp; omega
                have lpos : 0 < l.length := by have := unhide hll; omega
                have r : Hid (checkD c ps = 2) := hide (ch_no (k := i) (by have := unhide hn; omega) (by rw [unhide hxx, ← unhide hn]; simp [stB, lpos]))
                go_wp2
                go_ret
                exact ⟨by rw [unhide r]; rfl, unhide g14⟩
          · as_aux_lemma =>
            cases ra
            · skip
              go_wp2_with fail
              refine (reg_any c xa _).mono ?_
              rw [hra]
              rintro e w15 ⟨rfl, hb15⟩
              have g15 := hide (below_then (unhide g0) hb15)
              have x15 := hide ((unhide x0).next hb15)
              have y15 := hide ((unhide y0).next hb15)
              clear hb15 z0 z1 z2 z3 z4 z5 z6 z7 z8 z9 z10 z11
              clear yy0 yy1 yy2 yy3 yy4
              obtain ⟨z0, z1, z2, z3, z4, z5, z6, z7, z8, z9, z10, z11⟩ := (unhide x15).cells
              obtain ⟨yy0, yy1, yy2, yy3, yy4⟩ := (unhide y15).cells
              go_wp2_with fail
              go_loopw [7, 8] (fun t s wz => ∃ m : Nat, m ≤ ul ∧ m ≤ 8 ∧ s = .int .i64 m ∧ t = .bool false ∧ Below w.heap.size w wz ∧ Ix ⟨4, xa, b, d, l⟩ (.slice ua ul uc) wr.heap.size wz) (fun _ s _ => 8 - (RowKit.intOf s).toNat)
              case atStart => exact ⟨0, Nat.zero_le _, Nat.zero_le _, rfl, rfl, unhide g15, unhide y15⟩
              case round =>
                obtain ⟨m, hm, hm8, rfl, rfl, hbz, hyz⟩ := hrel
                clear yy0 yy1 yy2 yy3 yy4
                obtain ⟨yy0, yy1, yy2, yy3, yy4⟩ := hyz.cells
                replace hyz := hide hyz
                replace hbz := hide hbz
                by_cases hml : m < ul
                · have m1 : decide ((m : Int) < (ul : Int)) = true := decide_eq_true (by omega)
                  have m1' : (m : Int) < (ul : Int) := by omega
                  by_cases hm9 : m < 8
                  · have m2 : decide ((m : Int) < 8) = true := decide_eq_true (by omega)
                    have m2' : (m : Int) < 8 := by omega
                    go_wp2_with fail
                    go_region
                    all_goals
                      go_wp2
                      go_roundw
                      case rel => exact ⟨m + 1, by omega, by omega, by go_num, rfl, (unhide hbz).drew, unhide hyz⟩
                      case measure => first | omega | (simp; omega) | (simp [RowKit.intOf]; omega)
                  · have m2 : decide ((m : Int) < 8) = false := decide_eq_false (by omega)
                    have m2' : ¬ (m : Int) < 8 := by omega
                    have r : Hid (checkD c ps = 2) := hide (ch_no (k := i) (by have := unhide hn; omega) (by rw [unhide hxx, ← unhide hn]; simp [stB, reB, hra]))
                    go_wp2
                    go_ret
                    exact ⟨by rw [unhide r]; rfl, unhide hbz⟩
                · have m1 : decide ((m : Int) < (ul : Int)) = false := decide_eq_false (by omega)
                  have m1' : ¬ (m : Int) < (ul : Int) := by omega
                  have r : Hid (checkD c ps = 2) := hide (ch_no (k := i) (by have := unhide hn; omega) (by rw [unhide hxx, ← unhide hn]; simp [stB, reB, hra]))
                  go_wp2
                  go_ret
                  exact ⟨by rw [unhide r]; rfl, unhide hbz⟩
            · obtain ⟨kb, hkb⟩ : ∃ r, knownB b = r := ⟨_, rfl⟩
              cases kb
              · skip
                go_wp2_with fail
                refine (reg_any c xa _).mono ?_
                rw [hra]
                rintro e w16 ⟨rfl, hb16⟩
                have g16 := hide (below_then (unhide g0) hb16)
                have x16 := hide ((unhide x0).next hb16)
                have y16 := hide ((unhide y0).next hb16)
                clear hb16 z0 z1 z2 z3 z4 z5 z6 z7 z8 z9 z10 z11
                clear yy0 yy1 yy2 yy3 yy4
                obtain ⟨z0, z1, z2, z3, z4, z5, z6, z7, z8, z9, z10, z11⟩ := (unhide x16).cells
                obtain ⟨yy0, yy1, yy2, yy3, yy4⟩ := (unhide y16).cells
                go_wp2_with fail
                refine (rknown_any b _).mono ?_
                rw [hkb]
                rintro e _ ⟨rfl, rfl⟩
                go_wp2_with fail
                go_loopw [7, 8] (fun t s wz => ∃ m : Nat, m ≤ ul ∧ m ≤ 8 ∧ s = .int .i64 m ∧ t = .bool false ∧ Below w.heap.size w wz ∧ Ix ⟨4, xa, b, d, l⟩ (.slice ua ul uc) wr.heap.size wz) (fun _ s _ => 8 - (RowKit.intOf s).toNat)
                case atStart => exact ⟨0, Nat.zero_le _, Nat.zero_le _, rfl, rfl, unhide g16, unhide y16⟩
                case round =>
                  obtain ⟨m, hm, hm8, rfl, rfl, hbz, hyz⟩ := hrel
                  clear yy0 yy1 yy2 yy3 yy4
                  obtain ⟨yy0, yy1, yy2, yy3, yy4⟩ := hyz.cells
                  replace hyz := hide hyz
                  replace hbz := hide hbz
                  by_cases hml : m < ul
                  · have m1 : decide ((m : Int) < (ul : Int)) = true := decide_eq_true (by omega)
                    have m1' : (m : Int) < (ul : Int) := by omega
                    by_cases hm9 : m < 8
                    · have m2 : decide ((m : Int) < 8) = true := decide_eq_true (by omega)
                      have m2' : (m : Int) < 8 := by omega
                      go_wp2_with fail
                      go_region
                      all_goals
                        go_wp2
                        go_roundw
                        case rel => exact ⟨m + 1, by omega, by omega, by go_num, rfl, (unhide hbz).drew, unhide hyz⟩
                        case measure => first | omega | (simp; omega) | (simp [RowKit.intOf]; omega)
                    · have m2 : decide ((m : Int) < 8) = false := decide_eq_false (by omega)
                      have m2' : ¬ (m : Int) < 8 := by omega
                      have r : Hid (checkD c ps = 2) := hide (ch_no (k := i) (by have := unhide hn; omega) (by rw [unhide hxx, ← unhide hn]; simp [stB, reB, hra, hkb]))
                      go_wp2
                      go_ret
                      exact ⟨by rw [unhide r]; rfl, unhide hbz⟩
                  · have m1 : decide ((m : Int) < (ul : Int)) = false := decide_eq_false (by omega)
                    have m1' : ¬ (m : Int) < (ul : Int) := by omega
                    have r : Hid (checkD c ps = 2) := hide (ch_no (k := i) (by have := unhide hn; omega) (by rw [unhide hxx, ← unhide hn]; simp [stB, reB, hra, hkb]))
                    go_wp2
                    go_ret
                    exact ⟨by rw [unhide r]; rfl, unhide hbz⟩
              · by_cases hl1 : 1 ≤ ul
                · have p1 : decide (1 ≤ (ul : Int)) = true := decide_eq_true (by omega)
                  have p1' : 1 ≤ (ul : Int) := by omega
                  by_cases hl8 : ul ≤ 8
                  · have p2 : decide ((ul : Int) ≤ 8) = true := decide_eq_true (by omega)
                    have p2' : (ul : Int) ≤ 8 := by omega
                    go_wp2_with fail
                    refine (reg_any c xa _).mono ?_
                    rw [hra]
                    rintro e w17 ⟨rfl, hb17⟩
                    have g17 := hide (below_then (unhide g0) hb17)
                    have x17 := hide ((unhide x0).next hb17)
                    have y17 := hide ((unhide y0).next hb17)
                    clear hb17 z0 z1 z2 z3 z4 z5 z6 z7 z8 z9 z10 z11
                    clear yy0 yy1 yy2 yy3 yy4
                    obtain ⟨z0, z1, z2, z3, z4, z5, z6, z7, z8, z9, z10, z11⟩ := (unhide x17).cells
                    obtain ⟨yy0, yy1, yy2, yy3, yy4⟩ := (unhide y17).cells
                    go_wp2_with fail
                    refine (rknown_any b _).mono ?_
                    rw [hkb]
                    rintro e _ ⟨rfl, rfl⟩
                    go_wp2_with fail
                    obtain ⟨M, hMM⟩ : ∃ M, wr.heap.size = M := ⟨_, rfl⟩
                    have yM := unhide y17
                    rw [hMM] at yM yy0 yy1 yy2 yy3 yy4 ⊢
                    replace yM := hide yM
                    clear hMM
                    go_loopw [7, 8] (fun t s wz => ∃ m : Nat, m ≤ ul ∧ m ≤ 8 ∧ s = .int .i64 m ∧ t = .bool (wiB c.g (l.take m)) ∧ Below w.heap.size w wz ∧ Bx c w.heap.size wz ∧ Ix ⟨4, xa, b, d, l⟩ (.slice ua ul uc) M wz) (fun _ s _ => 8 - (RowKit.intOf s).toNat)
                    case atStart => exact ⟨0, Nat.zero_le _, Nat.zero_le _, rfl, rfl, unhide g17, unhide x17, unhide yM⟩
                    case round =>
                      obtain ⟨m, hm, hm8, rfl, rfl, hbz, hxz, hyz⟩ := hrel
                      clear yy0 yy1 yy2 yy3 yy4
                      clear z0 z1 z2 z3 z4 z5 z6 z7 z8 z9 z10 z11
                      obtain ⟨yy0, yy1, yy2, yy3, yy4⟩ := hyz.cells
                      obtain ⟨z0, z1, z2, z3, z4, z5, z6, z7, z8, z9, z10, z11⟩ := hxz.cells
                      by_cases hml : m < ul
                      · have m1 : decide ((m : Int) < (ul : Int)) = true := decide_eq_true (by omega)
                        have m1' : (m : Int) < (ul : Int) := by omega
                        have m2 : decide ((m : Int) < 8) = true := decide_eq_true (by omega)
                        have m2' : (m : Int) < 8 := by omega
                        have hs3 := (unhide hus00).later hbz
                        obtain ⟨lb, lo, rfl, hlb, hcell⟩ := hs3.at hml
                        have lz := Nat.lt_of_lt_of_le hlb hbz.size
                        obtain ⟨y, hyy⟩ : ∃ y, l.getD m 0 = y := ⟨_, rfl⟩
                        rw [hyy] at hcell
                        have hsn : Hid (wiB c.g (l.take (m + 1)) = (wiB c.g (l.take m) && wiB c.g [y])) := hide (by rw [← hyy]; exact wi_step (by have := unhide hll; omega))
                        replace hyy := hide hyy
                        cases hacc : wiB c.g (l.take m)
                        · rw [hacc] at hsn
                          go_wp2_with fail
                          go_region
                          all_goals
                            go_wp2
                            go_roundw
                            case rel => exact ⟨m + 1, by omega, by omega, by go_num, by rw [unhide hsn]; rfl, hbz.drew, hxz, hyz⟩
                            case measure => first | omega | (simp; omega) | (simp [RowKit.intOf]; omega)
                        · rw [hacc] at hsn
                          have kR := fun (W : World) => reg_any c y W
                          unfold cv at kR
                          replace hbz := hide hbz
                          replace hxz := hide hxz
                          replace hyz := hide hyz
                          obtain ⟨ry, hry⟩ : ∃ r, wiB c.g [y] = r := ⟨_, rfl⟩
                          rw [hry] at kR hsn
                          replace hry := hide hry
                          go_wp2_with fail
                          go_region_held3 (fun w2 => w2.cell? ⟨w.heap.size, 0, none⟩ = some (.int .i64 c.r) ∧ w2.cell? ⟨w.heap.size, 1, none⟩ = some (.int .i64 c.o) ∧ w2.cell? ⟨w.heap.size, 2, none⟩ = some (.int .i64 c.s) ∧ w2.cell? ⟨w.heap.size, 3, none⟩ = some (.int .i64 c.d) ∧ w2.cell? ⟨w.heap.size, 4, none⟩ = some (.int .i64 c.t) ∧ w2.cell? ⟨w.heap.size, 5, none⟩ = some (.int .i64 c.l) ∧ w2.cell? ⟨w.heap.size, 6, none⟩ = some (.int .i64 c.g) ∧ w2.cell? ⟨w.heap.size, 7, none⟩ = some (.int .i64 c.k) ∧ w2.cell? ⟨w.heap.size, 8, none⟩ = some (.int .i64 c.u) ∧ w2.cell? ⟨w.heap.size, 9, none⟩ = some (.int .i64 c.e) ∧ w2.cell? ⟨w.heap.size, 10, none⟩ = some (.int .i64 c.i) ∧ w2.cell? ⟨w.heap.size, 11, none⟩ = some (.int .i64 c.p) ∧ w2.cell? ⟨M, 4, none⟩ = some (.slice (some ⟨lb, lo, none⟩) ul uc) ∧ w2.cell? ⟨lb, lo + m, none⟩ = some (.int .i64 y)) (first | exact ⟨z0, z1, z2, z3, z4, z5, z6, z7, z8, z9, z10, z11, yy4, hcell⟩ | exact ⟨v10, v11, v12, v13, v14, v15, v16, v17, v18, v19, v20, v21, v4, vc⟩)
                            (first
                              | (go_at_call 34; refine Calls.mono (kR _) ?_; rintro e1 w2 ⟨rfl, hb2⟩; obtain ⟨v10, v11, v12, v13, v14, v15, v16, v17, v18, v19, v20, v21⟩ := ((unhide hxz).drew.next hb2).cells; obtain ⟨_, _, _, _, v4⟩ := ((unhide hyz).drew.next hb2).cells; have vc := (hb2.cell (p := ⟨lb, lo + m, none⟩) lz).trans hcell; have gz := hide (below_then (unhide hbz).drew hb2); have xz := hide ((unhide hxz).drew.next hb2); have yz := hide ((unhide hyz).drew.next hb2)))
                          all_goals
                            go_wp2
                            go_roundw
                            case rel => exact ⟨m + 1, by omega, by omega, by go_num, by rw [unhide hsn]; simp, unhide gz, unhide xz, unhide yz⟩
                            case measure => first | omega | (simp; omega) | (simp [RowKit.intOf]; omega)
                      · have m1 : decide ((m : Int) < (ul : Int)) = false := decide_eq_false (by omega)
                        have m1' : ¬ (m : Int) < (ul : Int) := by omega
                        have hmu : m = l.length := by have := unhide hll; omega
                        rw [hmu, List.take_length]
                        obtain ⟨ry, hry⟩ : ∃ r, wiB c.g l = r := ⟨_, rfl⟩
                        rw [hry]
                        replace hbz := hide hbz
                        replace hxz := hide hxz
                        replace hyz := hide hyz
                        have hlp : 0 < l.length := by have := unhide hll; omega
                        have hl9 : l.length ≤ 8 := by have := unhide hll; omega
                        cases ry
                        · skip
                          have r : Hid (checkD c ps = 2) := hide (ch_no (k := i) (by have := unhide hn; omega) (by rw [unhide hxx, ← unhide hn]; simp [stB, reB, hra, hkb, hry]))
                          go_wp2
                          go_ret
                          exact ⟨by rw [unhide r]; rfl, unhide hbz⟩
                        · skip
                          have r : Hid (stB c.g ⟨4, xa, b, d, l⟩ i n = true) := hide (by simp [stB, reB, hra, hkb, hry, hl9]; omega)
                          go_wp2
                          go_roundw
                          case rel => exact ⟨i + 1, by omega, by go_num, unhide hbz, unhide hxz, fun j hj => by
                            by_cases e : j = i
                            · subst e; rw [unhide hxx]; exact unhide r
                            · exact unhide hall j (by omega)⟩
                          case measure => first | omega | (simp; omega) | (simp [RowKit.intOf]; omega)
                  · have p2 : decide ((ul : Int) ≤ 8) = false := decide_eq_false (by omega)
                    have p2' : ¬ (ul : Int) ≤ 8 := by omega
                    have p3 : ¬ l.length ≤ 8 := by have := unhide hll; omega
                    go_wp2_with fail
                    refine (reg_any c xa _).mono ?_
                    rw [hra]
                    rintro e w18 ⟨rfl, hb18⟩
                    have g18 := hide (below_then (unhide g0) hb18)
                    have x18 := hide ((unhide x0).next hb18)
                    have y18 := hide ((unhide y0).next hb18)
                    clear hb18 z0 z1 z2 z3 z4 z5 z6 z7 z8 z9 z10 z11
                    clear yy0 yy1 yy2 yy3 yy4
                    obtain ⟨z0, z1, z2, z3, z4, z5, z6, z7, z8, z9, z10, z11⟩ := (unhide x18).cells
                    obtain ⟨yy0, yy1, yy2, yy3, yy4⟩ := (unhide y18).cells
                    go_wp2_with fail
                    refine (rknown_any b _).mono ?_
                    rw [hkb]
                    rintro e _ ⟨rfl, rfl⟩
                    go_wp2_with fail
                    go_loopw [7, 8] (fun t s wz => ∃ m : Nat, m ≤ ul ∧ m ≤ 8 ∧ s = .int .i64 m ∧ t = .bool false ∧ Below w.heap.size w wz ∧ Ix ⟨4, xa, b, d, l⟩ (.slice ua ul uc) wr.heap.size wz) (fun _ s _ => 8 - (RowKit.intOf s).toNat)
                    case atStart => exact ⟨0, Nat.zero_le _, Nat.zero_le _, rfl, rfl, unhide g18, unhide y18⟩
                    case round =>
                      obtain ⟨m, hm, hm8, rfl, rfl, hbz, hyz⟩ := hrel
                      clear yy0 yy1 yy2 yy3 yy4
                      obtain ⟨yy0, yy1, yy2, yy3, yy4⟩ := hyz.cells
                      replace hyz := hide hyz
                      replace hbz := hide hbz
                      by_cases hml : m < ul
                      · have m1 : decide ((m : Int) < (ul : Int)) = true := decide_eq_true (by omega)
                        have m1' : (m : Int) < (ul : Int) := by omega
                        by_cases hm9 : m < 8
                        · have m2 : decide ((m : Int) < 8) = true := decide_eq_true (by omega)
                          have m2' : (m : Int) < 8 := by omega
                          go_wp2_with fail
                          go_region
                          all_goals
                            go_wp2
                            go_roundw
                            case rel => exact ⟨m + 1, by omega, by omega, by go_num, rfl, (unhide hbz).drew, unhide hyz⟩
                            case measure => first | omega | (simp; omega) | (simp [RowKit.intOf]; omega)
                        · have m2 : decide ((m : Int) < 8) = false := decide_eq_false (by omega)
                          have m2' : ¬ (m : Int) < 8 := by omega
                          have r : Hid (checkD c ps = 2) := hide (ch_no (k := i) (by have := unhide hn; omega) (by rw [unhide hxx, ← unhide hn]; simp [stB, reB, hra, hkb]; omega))
                          go_wp2
                          go_ret
                          exact ⟨by rw [unhide r]; rfl, unhide hbz⟩
                      · exfalso; omega
                · have p1 : decide (1 ≤ (ul : Int)) = false := decide_eq_false (by omega)
                  have p1' : ¬ 1 ≤ (ul : Int) := by omega
                  have p3 : l = [] := List.length_eq_zero_iff.1 (by have := unhide hll; omega)
                  go_wp2_with fail
                  refine (reg_any c xa _).mono ?_
                  rw [hra]
                  rintro e w19 ⟨rfl, hb19⟩
                  have g19 := hide (below_then (unhide g0) hb19)
                  have x19 := hide ((unhide x0).next hb19)
                  have y19 := hide ((unhide y0).next hb19)
                  clear hb19 z0 z1 z2 z3 z4 z5 z6 z7 z8 z9 z10 z11
                  clear yy0 yy1 yy2 yy3 yy4
                  obtain ⟨z0, z1, z2, z3, z4, z5, z6, z7, z8, z9, z10, z11⟩ := (unhide x19).cells
                  obtain ⟨yy0, yy1, yy2, yy3, yy4⟩ := (unhide y19).cells
                  go_wp2_with fail
                  refine (rknown_any b _).mono ?_
                  rw [hkb]
                  rintro e _ ⟨rfl, rfl⟩
                  go_wp2_with fail
                  go_loopw [7, 8] (fun t s wz => ∃ m : Nat, m ≤ ul ∧ m ≤ 8 ∧ s = .int .i64 m ∧ t = .bool false ∧ Below w.heap.size w wz ∧ Ix ⟨4, xa, b, d, l⟩ (.slice ua ul uc) wr.heap.size wz) (fun _ s _ => 8 - (RowKit.intOf s).toNat)
                  case atStart => exact ⟨0, Nat.zero_le _, Nat.zero_le _, rfl, rfl, unhide g19, unhide y19⟩
                  case round =>
                    obtain ⟨m, hm, hm8, rfl, rfl, hbz, hyz⟩ := hrel
                    clear yy0 yy1 yy2 yy3 yy4
                    obtain ⟨yy0, yy1, yy2, yy3, yy4⟩ := hyz.cells
                    replace hyz := hide hyz
                    replace hbz := hide hbz
                    by_cases hml : m < ul
                    · exfalso; omega
                    · have m1 : decide ((m : Int) < (ul : Int)) = false := decide_eq_false (by omega)
                      have m1' : ¬ (m : Int) < (ul : Int) := by omega
                      have r : Hid (checkD c ps = 2) := hide (ch_no (k := i) (by have := unhide hn; omega) (by rw [unhide hxx, ← unhide hn]; simp [stB, reB, p3]))
                      go_wp2
                      go_ret
                      exact ⟨by rw [unhide r]; rfl, unhide hbz⟩
          · as_aux_lemma =>
            cases ra
            · skip
              go_wp2_with fail
              refine (reg_any c xa _).mono ?_
              rw [hra]
              rintro e w20 ⟨rfl, hb20⟩
              have g20 := hide (below_then (unhide g0) hb20)
              have x20 := hide ((unhide x0).next hb20)
              have y20 := hide ((unhide y0).next hb20)
              clear hb20 z0 z1 z2 z3 z4 z5 z6 z7 z8 z9 z10 z11
              clear yy0 yy1 yy2 yy3 yy4
              obtain ⟨z0, z1, z2, z3, z4, z5, z6, z7, z8, z9, z10, z11⟩ := (unhide x20).cells
              obtain ⟨yy0, yy1, yy2, yy3, yy4⟩ := (unhide y20).cells
              have r : Hid (checkD c ps = 2) := hide (ch_no (k := i) (by have := unhide hn; omega) (by rw [unhide hxx, ← unhide hn]; simp [stB, hra]))
              go_wp2
              go_ret
              exact ⟨by rw [unhide r]; rfl, unhide g20⟩
            · skip
              go_wp2_with fail
              refine (reg_any c xa _).mono ?_
              rw [hra]
              rintro e w21 ⟨rfl, hb21⟩
              have g21 := hide (below_then (unhide g0) hb21)
              have x21 := hide ((unhide x0).next hb21)
              have y21 := hide ((unhide y0).next hb21)
              clear hb21 z0 z1 z2 z3 z4 z5 z6 z7 z8 z9 z10 z11
              clear yy0 yy1 yy2 yy3 yy4
              obtain ⟨z0, z1, z2, z3, z4, z5, z6, z7, z8, z9, z10, z11⟩ := (unhide x21).cells
              obtain ⟨yy0, yy1, yy2, yy3, yy4⟩ := (unhide y21).cells
              by_cases h0 : ul = 0
              · subst h0
                have zl : l = [] := List.length_eq_zero_iff.1 (by have := unhide hll; omega)
                by_cases h1 : (i : Int) < b
                · have d1 : decide ((i : Int) < b) = true := decide_eq_true h1
                  by_cases h2 : b ≤ (n : Int)
                  · have d2 : decide (b ≤ (n : Int)) = true := decide_eq_true h2
                    have r : Hid (stB c.g ⟨5, xa, b, d, l⟩ i n = true) := hide (by simp [stB, hra, zl, h1, h2])
                    go_wp2
                    go_roundw
                    case rel => exact ⟨i + 1, by omega, by go_num, unhide g21, unhide x21, fun j hj => by
                      by_cases e : j = i
                      · subst e; rw [unhide hxx]; exact unhide r
                      · exact unhide hall j (by omega)⟩
                    case measure => first | omega | (simp; omega) | (simp [RowKit.intOf]; omega)
                  · have d2 : decide (b ≤ (n : Int)) = false := decide_eq_false h2
                    have r : Hid (checkD c ps = 2) := hide (ch_no (k := i) (by have := unhide hn; omega) (by rw [unhide hxx, ← unhide hn]; simp [stB, hra, zl, h1, h2]))
                    go_wp2
                    go_ret
                    exact ⟨by rw [unhide r]; rfl, unhide g21⟩
                · have d1 : decide ((i : Int) < b) = false := decide_eq_false h1
                  have r : Hid (checkD c ps = 2) := hide (ch_no (k := i) (by have := unhide hn; omega) (by rw [unhide hxx, ← unhide hn]; simp [stB, hra, zl, h1]))
                  go_wp2
                  go_ret
                  exact ⟨by rw [unhide r]; rfl, unhide g21⟩
              · have e0 : ((ul : Int) == 0) = false := by simp; omega
                have lpos : 0 < l.length := by have := unhide hll; omega
                have r : Hid (checkD c ps = 2) := hide (ch_no (k := i) (by have := unhide hn; omega) (by rw [unhide hxx, ← unhide hn]; simp [stB, lpos]))
                go_wp2
                go_ret
                exact ⟨by rw [unhide r]; rfl, unhide g21⟩
          · as_aux_lemma =>
            by_cases h0 : ul = 0
            · subst h0
              have zl : l = [] := List.length_eq_zero_iff.1 (by have := unhide hll; omega)
              have r : Hid (stB c.g ⟨6, xa, b, d, l⟩ i n = true) := hide (by simp [stB, zl])
              go_wp2
              go_roundw
              case rel => exact ⟨i + 1, by omega, by go_num, unhide g0, unhide x0, fun j hj => by
                by_cases e : j = i
                · subst e; rw [unhide hxx]; exact unhide r
                · exact unhide hall j (by omega)⟩
              case measure => first | omega | (simp; omega) | (simp [RowKit.intOf]; omega)
            · have e0 : ((ul : Int) == 0) = false := by simp; omega
              have lpos : 0 < l.length := by have := unhide hll; omega
              have r : Hid (checkD c ps = 2) := hide (ch_no (k := i) (by have := unhide hn; omega) (by rw [unhide hxx, ← unhide hn]; simp [stB, lpos]))
              go_wp2
              go_ret
              exact ⟨by rw [unhide r]; rfl, unhide g0⟩
          · as_aux_lemma =>
            by_cases h0 : ul = 0
            · subst h0
              have zl : l = [] := List.length_eq_zero_iff.1 (by have := unhide hll; omega)
              have r : Hid (stB c.g ⟨7, xa, b, d, l⟩ i n = true) := hide (by simp [stB, zl])
              go_wp2
              go_roundw
              case rel => exact ⟨i + 1, by omega, by go_num, unhide g0, unhide x0, fun j hj => by
                by_cases e : j = i
                · subst e; rw [unhide hxx]; exact unhide r
                · exact unhide hall j (by omega)⟩
              case measure => first | omega | (simp; omega) | (simp [RowKit.intOf]; omega)
            · have e0 : ((ul : Int) == 0) = false := by simp; omega
              have lpos : 0 < l.length := by have := unhide hll; omega
              have r : Hid (checkD c ps = 2) := hide (ch_no (k := i) (by have := unhide hn; omega) (by rw [unhide hxx, ← unhide hn]; simp [stB, lpos]))
              go_wp2
              go_ret
              exact ⟨by rw [unhide r]; rfl, unhide g0⟩
        · have r : Hid (checkD c ps = 0) := hide (ch_yes ho (by have := unhide hn; omega) (fun j hj => by rw [← unhide hn]; exact unhide hall j (by have := unhide hn; omega)))
          have kd : decide ((i : Int) < (n : Int)) = false := decide_eq_false (by omega)
          replace hb := hide hb
          replace hx := hide hx
          go_wp2
          go_ret
          exact ⟨by rw [unhide r]; rfl, unhide hb⟩
    · have d60 : decide (60 < (n : Int)) = true := decide_eq_true (by omega)
      have r : Hid (checkD c ps = 2) := hide (by simp [checkD, chB, ← unhide hn, h60])
      go_enter Try.func21, Try.ntmps21
      go_wp2_with fail
      refine kC.mono ?_
      rintro e w1 ⟨rfl, hb⟩
      have b2 := hide (below_then (unhide b1) hb)
      clear hb kC
      have e1' : errOf true = 0 := rfl
      go_wp2
      go_ret
      exact ⟨by rw [unhide r]; rfl, unhide b2⟩
end Go.Proofs.Ytdhfpfkcbcgnaaa
