/- TableFull's walk. -/
import Derived.Test.YtmdbmkekdpbliaaFul
namespace Go.Proofs.Ytmdbmkekdpbliaa
open Go.RowKit

theorem u0_md (i : Nat) : md (u0 i).2 := by
  unfold u0 md
  simp
theorem fT_gd (n c : Nat) : Gd n 1 (fT c) := gT_good _ _ n (fun i _ => u0_md i)
set_option maxRecDepth 100000 in
set_option maxHeartbeats 8000000 in
theorem full_in (n m : Nat) (w : World) (h0 : 1 ≤ n) (h1 : n ≤ 60) (h2 : 1 ≤ m) (h3 : m ≤ 60) :
    Calls Try.prog 6 #[.int .i64 (n : Int), .int .i64 (m : Int)] w fun e w' => e = .returned (.bool true) ∧ Below w.heap.size w w' := by
  obtain ⟨N, hN⟩ : ∃ N, N = w.heap.size := ⟨_, rfl⟩
  have k1 : (n : Int) ≥ 1 := by omega
  have k2 : (n : Int) ≤ 60 := by omega
  have k3 : (m : Int) ≥ 1 := by omega
  have k4 : (m : Int) ≤ 60 := by omega
  go_enter Try.func6, Try.ntmps6
  go_wp2_with fail
  refine (firstt_any w).mono ?_
  rintro e w1 ⟨rfl, b1⟩
  rw [← hN] at b1
  replace b1 := hide b1
  replace hN := hide hN
  go_wp2_with fail
  refine (new_n n (m : Int) w1 h0 (by omega) (by omega) (by omega)).mono ?_
  rintro e w2 ⟨b, rfl, L2, b2⟩
  obtain ⟨B, hB⟩ : ∃ B, B = w1.heap.size := ⟨_, rfl⟩
  rw [← hB] at L2 b2
  have hNb : Hid (N ≤ B) := by have := (unhide b1).size; rw [unhide hN, hB]; exact this
  replace b2 := hide ((unhide b1).trans (b2.mono (unhide hNb)))
  replace hB := hide hB
  rw [← fT_none] at L2
  replace L2 := hide L2
  go_wp2_with fail
  go_loopw [7] (fun s wr => ∃ i : Nat, i ≤ n ∧ s = .int .i64 i ∧ Hid (Tn B n (m : Int) (fT (min i m)) b wr) ∧ Hid (Below N w wr)) (fun s _ => n - (intOf s).toNat)
  case atStart => exact ⟨0, Nat.zero_le _, rfl, by show Tn _ _ _ _ _ _; rw [Nat.zero_min]; exact unhide L2, unhide b2⟩
  case round =>
    obtain ⟨i, hi, rfl, L3, b3⟩ := hrel
    by_cases hlt : i < n
    · have ha := full_ask (m := m) hlt (rfl : min i m = min i m)
      have hfew := hide ((fT_gd n (min i m)).few (by decide))
      by_cases hm : i < m
      · rw [if_pos hm] at ha
        replace ha := hide ha
        have hmi : (i : Int) < (m : Int) := by omega
        go_wp2_with fail
        refine (ask_n wr (unhide L3) (unhide hfew) (by omega) ((i : Int) % 3) (i : Int) 1 (unhide ha)).mono ?_
        rintro e w5 ⟨rfl, L5, b5, _⟩
        replace L5 := hide L5
        replace b5 := hide ((unhide b3).trans (b5.mono (unhide hNb)))
        go_wp2
        go_roundw
        case rel => exact ⟨i + 1, by omega, by go_num, unhide L5, unhide b5⟩
        case measure => simp [intOf]; omega
      · rw [if_neg hm] at ha
        replace ha := hide ha
        have hmi : (m : Int) ≤ (i : Int) := by omega
        have hmi2 : ¬ ((i : Int) < (m : Int)) := by omega
        go_wp2_with fail
        refine (ask_n wr (unhide L3) (unhide hfew) (by omega) ((i : Int) % 3) (i : Int) 1 (unhide ha)).mono ?_
        rintro e w5 ⟨rfl, L5, b5, _⟩
        replace L5 := hide L5
        replace b5 := hide ((unhide b3).trans (b5.mono (unhide hNb)))
        go_wp2
        go_roundw
        case rel => exact ⟨i + 1, by omega, by go_num, unhide L5, unhide b5⟩
        case measure => simp [intOf]; omega
    · obtain rfl : i = n := by omega
      obtain ⟨c, hc⟩ : ∃ c, c = min i m := ⟨_, rfl⟩
      have hc1 : 0 < c := by omega
      have hci : c ≤ i := by omega
      have hcm : c ≤ m := by omega
      have hcz : (c : Int) = min (i : Int) (m : Int) := by omega
      rw [← hc] at L3
      obtain ⟨q, hq⟩ : ∃ q, q = (heldD 0 (gT (p1 c) u1) i).length := ⟨_, rfl⟩
      obtain ⟨hq1, hq2⟩ := full_cnt (n := i) h0 hc1 hci
      have hlen : lenD (gT (p3 i c) u2) i = c - q + 1 := by rw [full_len h0]; omega
      rw [← hq] at hq1 hq2
      have hqc : q ≤ c := by omega
      have A2 := hide (full_two (n := i) (m := m) h0 hc1)
      have A3 := hide (full_three (n := i) (m := m) h0 hc1 hci hcm)
      have G1 := hide (gT_good (p1 c) u1 i (fun j _ => u1_md j))
      have G2 := hide (gT_good (p2 i c) u1 i (fun j _ => u1_md j))
      have G3 := hide (gT_good (p3 i c) u2 i (fun j _ => u2_md j))
      have hfew := hide ((fT_gd i c).few (by decide))
      replace hlen := hide hlen
      replace hq := hide hq
      have hq1' := hide hq1
      clear hq1 hc
      go_wp2_with fail
      refine (ask_n wr (unhide L3) (unhide hfew) (by omega) 0 0 5 (unhide A2)).mono ?_
      rintro e w5 ⟨rfl, L5, b5, _⟩
      replace L5 := hide L5
      replace b5 := hide ((unhide b3).trans (b5.mono (unhide hNb)))
      go_wp2_with fail
      refine (held_n w5 (unhide L5) ((unhide G1).few (by decide)) (by omega) 0).mono ?_
      rintro e w6 ⟨v6, rfl, P6, b6⟩
      have L6 := hide ((unhide L5).next b6)
      replace b6 := hide (bt (unhide b5) b6 (Nat.le_trans (unhide hNb) (unhide L5).low))
      obtain ⟨a6, c6, rfl⟩ := P6.form
      rw [← unhide hq]
      clear P6
      go_wp2_with fail
      refine (drop_n w6 (unhide L6) ((unhide G1).up (by decide)) (by omega) 0 (full_drop i c)).mono ?_
      rintro e w7 ⟨gv, rfl, _, L7, b7⟩
      replace L7 := hide L7
      replace b7 := hide ((unhide b6).trans (b7.mono (unhide hNb)))
      go_wp2_with fail
      refine (ask_n w7 (unhide L7) ((unhide G2).few (by decide)) (by omega) 7 0 3 (unhide A3)).mono ?_
      rintro e w8 ⟨rfl, L8, b8, _⟩
      replace L8 := hide L8
      replace b8 := hide ((unhide b7).trans (b8.mono (unhide hNb)))
      go_wp2_with fail
      refine (firstt_any w8).mono ?_
      rintro e w9 ⟨rfl, b9⟩
      have L9 := hide ((unhide L8).next b9)
      replace b9 := hide (bt (unhide b8) b9 (Nat.le_trans (unhide hNb) (unhide L8).low))
      go_wp2_with fail
      refine (len_n w9 (unhide L9) ((unhide G3).few (by decide)) (by omega) (unhide hlen)).mono ?_
      rintro e w10 ⟨rfl, b10⟩
      have L10 := hide ((unhide L9).next b10)
      replace b10 := hide (bt (unhide b9) b10 (Nat.le_trans (unhide hNb) (unhide L9).low))
      have hfin : (((c - q + 1 : Nat) : Int)) = (min (i : Int) (m : Int) - (q : Int)) + 1 := by omega
      go_wp2_with fail
      refine (edges_n w10 (unhide L10) (fun j hj => Nat.le_trans ((unhide G3).sum j hj) (by decide)) h1 (gT_edges (p3 i c) u2 i)).mono ?_
      rintro e w11 ⟨v11, rfl, P11, b11⟩
      have L11 := hide ((unhide L10).next b11)
      replace b11 := hide (bt (unhide b10) b11 (Nat.le_trans (unhide hNb) (unhide L10).low))
      obtain ⟨a11, c11, rfl⟩ := P11.form
      clear P11
      go_wp2_with fail
      refine (holds_n w11 (unhide L11) ((unhide G3).few (by decide)) 0 0 (by decide) (by omega) (r := 0) (full_zero i c)).mono ?_
      rintro e w12 ⟨rfl, b12⟩
      replace b12 := hide (bt (unhide b11) b12 (Nat.le_trans (unhide hNb) (unhide L11).low))
      go_wp2
      go_ret
      exact ⟨rfl, by rw [← unhide hN]; exact unhide b12⟩
set_option maxRecDepth 100000 in
set_option maxHeartbeats 4000000 in
theorem full_out (n m : Int) (w : World) (h : n < 1 ∨ (1 ≤ n ∧ 60 < n) ∨ (1 ≤ n ∧ n ≤ 60 ∧ m < 1) ∨ (1 ≤ n ∧ n ≤ 60 ∧ 1 ≤ m ∧ 60 < m)) :
    Calls Try.prog 6 #[.int .i64 n, .int .i64 m] w fun e w' => e = .returned (.bool true) ∧ Below w.heap.size w w' := by
  rcases h with h | ⟨h, h2⟩ | ⟨h, h2, h3⟩ | ⟨h, h2, h3, h4⟩
  all_goals
    go_enter Try.func6, Try.ntmps6
    go_wp2_with fail
    refine (firstt_any w).mono ?_
    rintro e w1 ⟨rfl, b1⟩
    replace b1 := hide b1
    go_wp2_with fail
    refine (firstt_any w1).mono ?_
    rintro e w3 ⟨rfl, b3⟩
    replace b3 := hide (below_then (unhide b1) b3)
    go_wp2
    go_ret
    exact ⟨rfl, unhide b3⟩
theorem tableFull_walk (n m : Int) (w : World) (_ : (Lit.int .i64 n).wf = true) (_ : (Lit.int .i64 m).wf = true) :
    Calls Try.prog 6 #[.int .i64 n, .int .i64 m] w fun e w' => e = .returned (.bool true) ∧ Below w.heap.size w w' := by
  by_cases h : 1 ≤ n ∧ n ≤ 60 ∧ 1 ≤ m ∧ m ≤ 60
  · obtain ⟨k, rfl⟩ : ∃ k : Nat, n = (k : Int) := ⟨n.toNat, by omega⟩
    obtain ⟨l, rfl⟩ : ∃ l : Nat, m = (l : Int) := ⟨m.toNat, by omega⟩
    exact full_in k l w (by omega) (by omega) (by omega) (by omega)
  · exact full_out n m w (by omega)
end Go.Proofs.Ytmdbmkekdpbliaa
