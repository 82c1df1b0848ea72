/- BirthApart's walk. -/
import Derived.Test.YtoamcbnklgkgnaaDsk
namespace Go.Proofs.Ytoamcbnklgkgnaa
open Go.RowKit

theorem next_low200 {g : Nat} (h : g < 200) : nextD 200 g = ((g : Int) + 1, 0, (g : Int) + 1) := by unfold nextD; rw [if_neg (by omega)]
theorem next_low50 {g : Nat} (h : g < 50) : nextD 50 g = ((g : Int) + 1, 0, (g : Int) + 1) := by unfold nextD; rw [if_neg (by omega)]
theorem next_up50 : nextD 50 50 = (0, 12, 50) := by decide
set_option maxRecDepth 100000 in
set_option maxHeartbeats 4000000 in
theorem apart_in (a c : Nat) (W : World) (h1 : a ≤ 100) (h2 : c ≤ 100) :
    Calls Try.prog 6 #[.int .i64 (a : Int), .int .i64 (c : Int)] W fun e w' => e = .returned (.bool true) ∧ Below W.heap.size W w' := by
  have k1 : (a : Int) ≤ 100 := by omega
  have k2 : (c : Int) ≤ 100 := by omega
  go_enter Try.func6, Try.ntmps6
  go_wp2_with fail
  refine (first_any W).mono ?_
  rintro e w1 ⟨rfl, b1⟩
  replace b1 := hide b1
  go_wp2_with fail
  refine (new_ok 200 w1 (by decide) (by decide)).mono ?_
  rintro e w2 ⟨x, rfl, hx, D2, b2⟩
  have hxB : Hid (W.heap.size ≤ x) := by rw [hx]; exact (unhide b1).size
  replace b2 := hide (below_then (unhide b1) b2)
  replace D2 := hide D2
  replace hx := hide hx
  go_wp2_with fail
  refine (new_ok 50 w2 (by decide) (by decide)).mono ?_
  rintro e w3 ⟨y, rfl, hy, E3, b3⟩
  have hyB : Hid (W.heap.size ≤ y) := by rw [hy]; exact (unhide b2).size
  have hxy : Hid (x ≠ y) := by have := (unhide D2).lt; exact fun e => by omega
  have D3 := hide ((unhide D2).next b3)
  replace b3 := hide (below_then (unhide b2) b3)
  replace E3 := hide E3
  replace hy := hide hy
  clear D2 b2
  go_wp2_with fail
  go_loopw [9] (fun s wr => ∃ i gx gy : Nat, (i ≤ a ∨ i ≤ c) ∧ s = .int .i64 i ∧ (gx ≤ i ∧ gx ≤ a ∧ (gx = i ∨ gx = a)) ∧ (gy ≤ i ∧ gy ≤ c ∧ gy ≤ 50 ∧ (gy = i ∨ gy = c ∨ gy = 50)) ∧ Hid (Dk 44 wr x 200 gx) ∧ Hid (Dk 44 wr y 50 gy) ∧ Hid (Below W.heap.size W wr)) (fun s _ => 100 - (intOf s).toNat)
  case atStart => exact ⟨0, 0, 0, .inl (Nat.zero_le _), rfl, by omega, by omega, unhide D3, unhide E3, unhide b3⟩
  case round =>
    obtain ⟨i, gx, gy, hi, rfl, hgx, hgy, D4, E4, b4⟩ := hrel
    by_cases hac : a < c
    · by_cases hlt : i < c
      · by_cases ha : i < a
        · obtain rfl : gx = i := by omega
          have EX := hide (next_low200 (g := gx) (by omega))
          go_wp2_with fail
          refine (next_any wr x 200 gx (unhide D4) (by omega) (by omega) (by omega)).mono ?_
          rw [unhide EX]
          rintro e w6 ⟨rfl, D6, t6⟩
          dsimp only at D6
          have E6 := hide ((unhide E4).other t6 (fun e => unhide hxy e.symm))
          have b6 := hide ((unhide b4).trans (t6.below (unhide hxB)))
          replace D6 := hide D6
          obtain ⟨i, hi9⟩ : ∃ i, i = gx := ⟨_, rfl⟩
          subst hi9
          have hc := hlt
          by_cases h5 : i < 50
          · obtain rfl : gy = i := by omega
            have EY := hide (next_low50 (g := gy) h5)
            go_wp2_with fail
            refine (next_any w6 y 50 gy (unhide E6) (by omega) (by omega) (by omega)).mono ?_
            rw [unhide EY]
            rintro e w8 ⟨rfl, E8, t8⟩
            dsimp only at E8
            have D8 := hide ((unhide D6).other t8 (unhide hxy))
            have b8 := hide ((unhide b6).trans (t8.below (unhide hyB)))
            replace E8 := hide E8
            go_wp2
            go_roundw
            case rel => exact ⟨gy + 1, gy + 1, gy + 1, by omega, by go_num, by omega, by omega, by have := unhide D8; exact this, by have := unhide E8; exact this, unhide b8⟩
            case measure => simp [intOf]; omega
          · obtain rfl : gy = 50 := by omega
            have EY := hide next_up50
            go_wp2_with fail
            refine (next_any w6 y 50 50 (unhide E6) (by omega) (by omega) (by omega)).mono ?_
            rw [unhide EY]
            rintro e w8 ⟨rfl, E8, t8⟩
            dsimp only at E8
            have D8 := hide ((unhide D6).other t8 (unhide hxy))
            have b8 := hide ((unhide b6).trans (t8.below (unhide hyB)))
            replace E8 := hide E8
            go_wp2
            go_roundw
            case rel => exact ⟨i + 1, i + 1, 50, by omega, by go_num, by omega, by omega, unhide D8, unhide E8, unhide b8⟩
            case measure => simp [intOf]; omega
        · skip
          have hc := hlt
          by_cases h5 : i < 50
          · obtain rfl : gy = i := by omega
            have EY := hide (next_low50 (g := gy) h5)
            go_wp2_with fail
            refine (next_any wr y 50 gy (unhide E4) (by omega) (by omega) (by omega)).mono ?_
            rw [unhide EY]
            rintro e w8 ⟨rfl, E8, t8⟩
            dsimp only at E8
            have D8 := hide ((unhide D4).other t8 (unhide hxy))
            have b8 := hide ((unhide b4).trans (t8.below (unhide hyB)))
            replace E8 := hide E8
            go_wp2
            go_roundw
            case rel => exact ⟨gy + 1, gx, gy + 1, by omega, by go_num, by omega, by omega, by have := unhide D8; exact this, by have := unhide E8; exact this, unhide b8⟩
            case measure => simp [intOf]; omega
          · obtain rfl : gy = 50 := by omega
            have EY := hide next_up50
            go_wp2_with fail
            refine (next_any wr y 50 50 (unhide E4) (by omega) (by omega) (by omega)).mono ?_
            rw [unhide EY]
            rintro e w8 ⟨rfl, E8, t8⟩
            dsimp only at E8
            have D8 := hide ((unhide D4).other t8 (unhide hxy))
            have b8 := hide ((unhide b4).trans (t8.below (unhide hyB)))
            replace E8 := hide E8
            go_wp2
            go_roundw
            case rel => exact ⟨i + 1, gx, 50, by omega, by go_num, by omega, by omega, unhide D8, unhide E8, unhide b8⟩
            case measure => simp [intOf]; omega
      · go_wp2_with fail
        refine (first_any wr).mono ?_
        rintro e w6 ⟨rfl, b6⟩
        have D6 := (unhide D4).next b6
        have E6 := (unhide E4).next b6
        replace b6 := hide (below_then (unhide b4) b6)
        obtain rfl : gx = a := by omega
        have hm : gy = if 50 < c then 50 else c := by split <;> omega
        replace E6 := hide E6
        go_wp2_with fail
        refine (given_any w6 x 200 gx D6).mono ?_
        rintro e w7 ⟨rfl, rfl⟩
        replace D6 := hide D6
        go_wp2_with fail
        refine (given_any _ y 50 gy (unhide E6)).mono ?_
        rintro e w7 ⟨rfl, rfl⟩
        by_cases h5 : 50 < c
        · rw [if_pos h5] at hm
          subst hm
          go_wp2
          go_ret
          exact ⟨rfl, unhide b6⟩
        · rw [if_neg h5] at hm
          subst hm
          go_wp2
          go_ret
          exact ⟨rfl, unhide b6⟩
    · by_cases hlt : i < a
      · have ha := hlt
        obtain rfl : gx = i := by omega
        have EX := hide (next_low200 (g := gx) (by omega))
        go_wp2_with fail
        refine (next_any wr x 200 gx (unhide D4) (by omega) (by omega) (by omega)).mono ?_
        rw [unhide EX]
        rintro e w6 ⟨rfl, D6, t6⟩
        dsimp only at D6
        have E6 := hide ((unhide E4).other t6 (fun e => unhide hxy e.symm))
        have b6 := hide ((unhide b4).trans (t6.below (unhide hxB)))
        replace D6 := hide D6
        obtain ⟨i, hi9⟩ : ∃ i, i = gx := ⟨_, rfl⟩
        subst hi9
        by_cases hc : i < c
        · by_cases h5 : i < 50
          · obtain rfl : gy = i := by omega
            have EY := hide (next_low50 (g := gy) h5)
            go_wp2_with fail
            refine (next_any w6 y 50 gy (unhide E6) (by omega) (by omega) (by omega)).mono ?_
            rw [unhide EY]
            rintro e w8 ⟨rfl, E8, t8⟩
            dsimp only at E8
            have D8 := hide ((unhide D6).other t8 (unhide hxy))
            have b8 := hide ((unhide b6).trans (t8.below (unhide hyB)))
            replace E8 := hide E8
            go_wp2
            go_roundw
            case rel => exact ⟨gy + 1, gy + 1, gy + 1, by omega, by go_num, by omega, by omega, by have := unhide D8; exact this, by have := unhide E8; exact this, unhide b8⟩
            case measure => simp [intOf]; omega
          · obtain rfl : gy = 50 := by omega
            have EY := hide next_up50
            go_wp2_with fail
            refine (next_any w6 y 50 50 (unhide E6) (by omega) (by omega) (by omega)).mono ?_
            rw [unhide EY]
            rintro e w8 ⟨rfl, E8, t8⟩
            dsimp only at E8
            have D8 := hide ((unhide D6).other t8 (unhide hxy))
            have b8 := hide ((unhide b6).trans (t8.below (unhide hyB)))
            replace E8 := hide E8
            go_wp2
            go_roundw
            case rel => exact ⟨i + 1, i + 1, 50, by omega, by go_num, by omega, by omega, unhide D8, unhide E8, unhide b8⟩
            case measure => simp [intOf]; omega
        · go_wp2
          go_roundw
          case rel => exact ⟨i + 1, i + 1, gy, by omega, by go_num, by omega, by omega, by have := unhide D6; exact this, unhide E6, unhide b6⟩
          case measure => simp [intOf]; omega
      · go_wp2_with fail
        refine (first_any wr).mono ?_
        rintro e w6 ⟨rfl, b6⟩
        have D6 := (unhide D4).next b6
        have E6 := (unhide E4).next b6
        replace b6 := hide (below_then (unhide b4) b6)
        obtain rfl : gx = a := by omega
        have hm : gy = if 50 < c then 50 else c := by split <;> omega
        replace E6 := hide E6
        go_wp2_with fail
        refine (given_any w6 x 200 gx D6).mono ?_
        rintro e w7 ⟨rfl, rfl⟩
        replace D6 := hide D6
        go_wp2_with fail
        refine (given_any _ y 50 gy (unhide E6)).mono ?_
        rintro e w7 ⟨rfl, rfl⟩
        by_cases h5 : 50 < c
        · rw [if_pos h5] at hm
          subst hm
          go_wp2
          go_ret
          exact ⟨rfl, unhide b6⟩
        · rw [if_neg h5] at hm
          subst hm
          go_wp2
          go_ret
          exact ⟨rfl, unhide b6⟩
theorem birthApart_walk (a0 a1 : Int) (W : World) (_w0 : (Lit.int .i64 a0).wf = true) (_w1 : (Lit.int .i64 a1).wf = true) :
    Calls Try.prog 6 #[.int .i64 a0, .int .i64 a1] W fun e w' => e = .returned (.bool true) ∧ Below W.heap.size W w' := by
  by_cases g0 : a0 < 0 ∨ (0 ≤ a0 ∧ 100 < a0) ∨ (0 ≤ a0 ∧ a0 ≤ 100 ∧ a1 < 0) ∨ (0 ≤ a0 ∧ a0 ≤ 100 ∧ 0 ≤ a1 ∧ 100 < a1)
  · have C1 := hide (first_any W)
    rcases g0 with g0 | ⟨g0, g1⟩ | ⟨g0, g1, g2⟩ | ⟨g0, g1, g2, g3⟩
    all_goals
      go_enter Try.func6, Try.ntmps6
      go_wp2_with fail
      refine (unhide C1).mono ?_
      rintro e w1 ⟨rfl, b1⟩
      clear C1
      have C2 := hide (first_any w1)
      go_wp2_with fail
      refine (unhide C2).mono ?_
      rintro e w2 ⟨rfl, b2⟩
      replace b2 := hide (below_then b1 b2)
      clear C2
      go_wp2
      go_ret
      exact ⟨rfl, unhide b2⟩
  · obtain ⟨m, rfl⟩ : ∃ m : Nat, a0 = m := ⟨a0.toNat, by omega⟩
    obtain ⟨n, rfl⟩ : ∃ n : Nat, a1 = n := ⟨a1.toNat, by omega⟩
    exact apart_in m n W (by omega) (by omega)
end Go.Proofs.Ytoamcbnklgkgnaa
