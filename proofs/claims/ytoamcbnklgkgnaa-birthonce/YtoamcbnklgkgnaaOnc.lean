/- BirthOnce's walk. -/
import Derived.Test.YtoamcbnklgkgnaaDsk
namespace Go.Proofs.Ytoamcbnklgkgnaa
open Go.RowKit

set_option maxRecDepth 100000 in
set_option maxHeartbeats 2000000 in
theorem once_in (m n : Nat) (W : World) (h1 : 1 ≤ m) (h2 : m ≤ 200) (h3 : n ≤ 300) :
    Calls Try.prog 4 #[.int .i64 (m : Int), .int .i64 (n : Int)] W fun e w' => e = .returned (.bool true) ∧ Below W.heap.size W w' := by
  have k1 : (1 : Int) ≤ m := by omega
  have k2 : (m : Int) ≤ 200 := by omega
  have k3 : (n : Int) ≤ 300 := by omega
  go_enter Try.func4, Try.ntmps4
  go_wp2_with fail
  refine (first_any W).mono ?_
  rintro e w1 ⟨rfl, b1⟩
  replace b1 := hide b1
  go_wp2_with fail
  refine (new_ok m w1 k1 (by omega)).mono ?_
  rintro e w2 ⟨b, rfl, hb, D2, b2⟩
  have hbB : Hid (W.heap.size ≤ b) := by rw [hb]; exact (unhide b1).size
  replace b2 := hide (below_then (unhide b1) b2)
  replace D2 := hide D2
  replace hb := hide hb
  go_wp2_with fail
  go_loopw [7] (fun s wr => ∃ i g : Nat, i ≤ n ∧ s = .int .i64 i ∧ ((i < m ∧ g = i) ∨ (m ≤ i ∧ g = m)) ∧ Hid (Dk 44 wr b m g) ∧ Hid (Below W.heap.size W wr)) (fun s _ => n - (intOf s).toNat)
  case atStart => exact ⟨0, 0, Nat.zero_le _, rfl, .inl ⟨by omega, rfl⟩, unhide D2, unhide b2⟩
  case round =>
    obtain ⟨i, g, hi, rfl, hg, D3, b3⟩ := hrel
    by_cases hlt : i < n
    · rcases hg with ⟨hg, rfl⟩ | ⟨hg, rfl⟩
      · have E : nextD m g = ((g : Int) + 1, 0, (g : Int) + 1) := by unfold nextD; rw [if_neg (by omega)]
        replace E := hide E
        go_wp2_with fail
        refine (next_any wr b m g (unhide D3) (by omega) (by omega) (by omega)).mono ?_
        rw [unhide E]
        rintro e w4 ⟨rfl, D4, t4⟩
        dsimp only at D4
        have b4 := hide ((unhide b3).trans (t4.below (unhide hbB)))
        go_wp2_with fail
        refine (given_any w4 b m _ D4).mono ?_
        rintro e w5 ⟨rfl, rfl⟩
        have hmin : ¬ (m : Int) < (g : Int) + 1 := by omega
        replace D4 := hide D4
        go_wp2
        go_roundw
        case rel => exact ⟨g + 1, g + 1, by omega, by go_num, by omega, by have := unhide D4; exact this, unhide b4⟩
        case measure => simp [intOf]; omega
      · have E : nextD g g = (0, 12, (g : Int)) := by unfold nextD; rw [if_pos rfl]
        replace E := hide E
        go_wp2_with fail
        refine (next_any wr b g g (unhide D3) (by omega) (by omega) (by omega)).mono ?_
        rw [unhide E]
        rintro e w4 ⟨rfl, D4, t4⟩
        dsimp only at D4
        have b4 := hide ((unhide b3).trans (t4.below (unhide hbB)))
        go_wp2_with fail
        refine (given_any w4 b g _ D4).mono ?_
        rintro e w5 ⟨rfl, rfl⟩
        have hmin : (g : Int) < (i : Int) + 1 := by omega
        replace D4 := hide D4
        go_wp2
        go_roundw
        case rel => exact ⟨i + 1, g, by omega, by go_num, by omega, unhide D4, unhide b4⟩
        case measure => simp [intOf]; omega
    · go_wp2_with fail
      refine (first_any wr).mono ?_
      rintro e w4 ⟨rfl, b4⟩
      replace b4 := hide (below_then (unhide b3) b4)
      go_wp2
      go_ret
      exact ⟨rfl, unhide b4⟩
theorem birthOnce_walk (a0 a1 : Int) (W : World) (_w0 : (Lit.int .i64 a0).wf = true) (_w1 : (Lit.int .i64 a1).wf = true) :
    Calls Try.prog 4 #[.int .i64 a0, .int .i64 a1] W fun e w' => e = .returned (.bool true) ∧ Below W.heap.size W w' := by

  by_cases g0 : a0 < 1 ∨ (1 ≤ a0 ∧ 200 < a0) ∨ (1 ≤ a0 ∧ a0 ≤ 200 ∧ a1 < 0) ∨ (1 ≤ a0 ∧ a0 ≤ 200 ∧ 0 ≤ a1 ∧ 300 < a1)
  · have C1 := hide (first_any W)
    rcases g0 with g0 | ⟨g0, g1⟩ | ⟨g0, g1, g2⟩ | ⟨g0, g1, g2, g3⟩
    all_goals
      go_enter Try.func4, Try.ntmps4
      go_wp2_with fail
      refine (unhide C1).mono ?_
      rintro e w1 ⟨rfl, b1⟩
      clear C1
      have C2 := hide (first_any w1)
      go_wp2_with fail
      refine (unhide C2).mono ?_
      rintro e w2 ⟨rfl, b2⟩
      replace b2 := hide (below_then b1 b2)
      clear C2
      go_wp2
      go_ret
      exact ⟨rfl, unhide b2⟩
  · obtain ⟨m, rfl⟩ : ∃ m : Nat, a0 = m := ⟨a0.toNat, by omega⟩
    obtain ⟨n, rfl⟩ : ∃ n : Nat, a1 = n := ⟨a1.toNat, by omega⟩
    exact once_in m n W (by omega) (by omega) (by omega)
end Go.Proofs.Ytoamcbnklgkgnaa
