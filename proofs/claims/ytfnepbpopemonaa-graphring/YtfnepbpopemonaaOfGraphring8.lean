/- Texts of this claim, put together in their order. -/
import Derived.Test.YtfnepbpopemonaaOfGraphring1
import Derived.Test.YtfnepbpopemonaaOfGraphring2
import Derived.Test.YtfnepbpopemonaaOfGraphring3
import Derived.Test.YtfnepbpopemonaaOfGraphring4
import Derived.Test.YtfnepbpopemonaaOfGraphring5
import Derived.Test.YtfnepbpopemonaaOfGraphring6
import Derived.Test.YtfnepbpopemonaaOfGraphring7
/- GraphRing: the walk. -/
namespace Go.Proofs.Ytfnepbpopemonaa
open Go.RowKit
set_option linter.unusedVariables false

theorem onB_not {l : List En} {n : Int} (h : ¬ On (CE l) n) : onB l n = false := by
  cases hq : onB l n
  · rfl
  · exact absurd (onB_iff.1 hq) h
theorem ring_list (N t : Nat) (h : t < N) : ((List.range N).map fun (k : Nat) => 10 + (k : Int)).getD t 0 = 10 + (t : Int) := by
  simp [List.getD, h]
theorem tmod_nat (a b : Nat) : Int.tmod (a : Int) (b : Int) = ((a % b : Nat) : Int) := by
  rw [Int.tmod_eq_emod_of_nonneg (by omega)]; omega
set_option maxRecDepth 100000 in
set_option maxHeartbeats 4000000 in
theorem graphRing_walk (n s m : Int) (W : World) (wn : (Lit.int .i64 n).wf = true) (ws : (Lit.int .i64 s).wf = true) (wm : (Lit.int .i64 m).wf = true) :
    Calls Try.prog 5 #[.int .i64 n, .int .i64 s, .int .i64 m] W fun e w' => e = .returned (.bool true) ∧ Below W.heap.size W w' := by
  clear wn ws wm
  have C1 := hide (fst_any W)
  go_enter Try.func5, Try.ntmps5
  go_wp2_with fail
  refine (unhide C1).mono ?_
  rintro e w1 ⟨rfl, b1⟩
  replace b1 := hide b1
  clear C1
  by_cases g0 : n < 2
  · have C2 := hide (fst_any w1)
    go_wp2_with fail
    refine (unhide C2).mono ?_
    rintro e w3 ⟨rfl, k3⟩
    replace k3 := hide (below_then (unhide b1) k3)
    go_wp2
    go_ret
    exact ⟨rfl, unhide k3⟩
  by_cases g1 : 30 < n
  · have C2 := hide (fst_any w1)
    go_wp2_with fail
    refine (unhide C2).mono ?_
    rintro e w3 ⟨rfl, k3⟩
    replace k3 := hide (below_then (unhide b1) k3)
    go_wp2
    go_ret
    exact ⟨rfl, unhide k3⟩
  by_cases g2 : m < 0
  · have C2 := hide (fst_any w1)
    go_wp2_with fail
    refine (unhide C2).mono ?_
    rintro e w3 ⟨rfl, k3⟩
    replace k3 := hide (below_then (unhide b1) k3)
    go_wp2
    go_ret
    exact ⟨rfl, unhide k3⟩
  by_cases g3 : 20 < m
  · have C2 := hide (fst_any w1)
    go_wp2_with fail
    refine (unhide C2).mono ?_
    rintro e w3 ⟨rfl, k3⟩
    replace k3 := hide (below_then (unhide b1) k3)
    go_wp2
    go_ret
    exact ⟨rfl, unhide k3⟩
  by_cases g4 : s < 0
  · have C2 := hide (fst_any w1)
    go_wp2_with fail
    refine (unhide C2).mono ?_
    rintro e w3 ⟨rfl, k3⟩
    replace k3 := hide (below_then (unhide b1) k3)
    go_wp2
    go_ret
    exact ⟨rfl, unhide k3⟩
  by_cases g5 : n ≤ s
  · have C2 := hide (fst_any w1)
    go_wp2_with fail
    refine (unhide C2).mono ?_
    rintro e w3 ⟨rfl, k3⟩
    replace k3 := hide (below_then (unhide b1) k3)
    go_wp2
    go_ret
    exact ⟨rfl, unhide k3⟩
  obtain ⟨N, rfl⟩ := Int.eq_ofNat_of_zero_le (show 0 ≤ n by omega)
  obtain ⟨S, rfl⟩ := Int.eq_ofNat_of_zero_le (show 0 ≤ s by omega)
  obtain ⟨M, rfl⟩ := Int.eq_ofNat_of_zero_le (show 0 ≤ m by omega)
  have hN : 2 ≤ N := by omega
  have hN9 : N ≤ 30 := by omega
  have hM : M ≤ 20 := by omega
  have hS : S < N := by omega
  have pN : Hid (2 ≤ N ∧ N ≤ 30 ∧ M ≤ 20 ∧ S < N) := ⟨hN, hN9, hM, hS⟩
  have e0 : decide ((N : Int) < 2) = false := by simp; omega
  have e1 : decide ((30 : Int) < (N : Int)) = false := by simp; omega
  have e2 : decide ((M : Int) < 0) = false := by simp
  have e3 : decide ((20 : Int) < (M : Int)) = false := by simp; omega
  have e4 : decide ((S : Int) < 0) = false := by simp
  have e5 : decide ((N : Int) ≤ (S : Int)) = false := by simp; omega
  have e6 : decide (N ≤ S) = false := by simp; omega
  have e7 : ¬ N ≤ S := by omega
  go_wp2
  clear e0 e1 e2 e3 e4 e5 e6 e7
  go_loopw [7, 8, 9] (fun s7 s8 _ wr => ∃ (t : Nat) (ag : Option Addr) (cg : Nat), t ≤ N ∧ s7 = .slice ag t cg ∧ s8 = .int .i64 t ∧ Hid (Pr 39 w1.heap.size (.slice ag t cg) (rg N S t) wr) ∧ Hid (Below w1.heap.size w1 wr)) (fun _ s8 _ _ => N - (intOf s8).toNat)
  case atStart => exact ⟨0, none, 0, Nat.zero_le _, rfl, rfl, Pr.nil _ _ _, Below.refl _ _⟩
  case round =>
    obtain ⟨t, ag, cg, ht, rfl, rfl, I1, b2⟩ := hrel
    by_cases hlt : t < N
    · obtain ⟨k, hk⟩ : ∃ k, k = (t + S) % N := ⟨_, rfl⟩
      obtain ⟨k2, hk2⟩ : ∃ k2, k2 = (k + 1) % N := ⟨_, rfl⟩
      have hkN : k < N := by rw [hk]; exact Nat.mod_lt _ (by omega)
      have hk2N : k2 < N := by rw [hk2]; exact Nat.mod_lt _ (by omega)
      have q1 : Int.tmod ((t : Int) + (S : Int)) (N : Int) = (k : Int) := by rw [hk, ← tmod_nat]; rfl
      have q2 : Int.tmod ((k : Int) + 1) (N : Int) = (k2 : Int) := by rw [hk2, ← tmod_nat]; rfl
      have q3 : IntKind.i64.wrap (k : Int) = (k : Int) := by rw [IntKind.wrap_i64]; omega
      have q4 : IntKind.i64.wrap (k2 : Int) = (k2 : Int) := by rw [IntKind.wrap_i64]; omega
      have hrg : Hid (rg N S (t + 1) = rg N S t ++ [(10 + (k : Int), 10 + (k2 : Int))]) := by
        show rg N S t ++ [rgE N S t] = _
        unfold rgE
        rw [← hk, ← hk2]
      have hl3 : Hid ((rg N S t).length = t) := rg_len N S t
      have hb4 : Hid (w1.heap.size ≤ wr.heap.size) := (unhide b2).size
      have ht9 : t < 10000000 := by omega
      replace hk := hide hk
      replace hk2 := hide hk2
      go_wp2_with (at_builtin; refine wpList_pair 39 22 Try.underlying22 inf39 wr rfl (.tmp 49) (.tmp 58) rfl w1.heap.size ag t cg _ (10 + (k : Int), 10 + (k2 : Int)) _ rfl rfl rfl (unhide hl3) (unhide I1) (unhide hb4) ht9 ?_; intro g7 cap7 w7 a1 a2; replace a1 := hide a1; replace a2 := hide a2)
      go_roundw
      case rel => exact ⟨t + 1, some ⟨g7, 0, none⟩, cap7, by omega, rfl, by go_num, by rw [unhide hrg]; exact unhide a1, (unhide b2).trans (grown_below (unhide a2) (unhide b2).size (fun j hj => ((unhide I1).lt j hj).1))⟩
      case measure => simp [intOf]; omega
    · have htN : t = N := by omega
      subst htN
      have hl9 : Hid (fd t S 0 = rg t S t) := rfl
      rw [← unhide hl9] at I1
      clear ht hlt hl9
      go_wp2
      go_loopw [7, 10] (fun s7 s10 wr => ∃ (i k : Nat) (ag : Option Addr) (cg : Nat), i ≤ M ∧ k = t + 2 * i ∧ s7 = .slice ag k cg ∧ s10 = .int .i64 i ∧ Hid (Pr 39 w1.heap.size (.slice ag k cg) (fd t S i) wr) ∧ Hid (Below w1.heap.size w1 wr)) (fun _ s10 _ => M - (intOf s10).toNat)
      case atStart => exact ⟨0, t, ag, cg, Nat.zero_le _, rfl, rfl, rfl, unhide I1, unhide b2⟩
      case round =>
        clear I1 b2
        obtain ⟨i, k, ah, ch, hi, hk, rfl, rfl, I2, b3⟩ := hrel
        by_cases hlt : i < M
        · obtain ⟨p, hp⟩ : ∃ p, p = i % t := ⟨_, rfl⟩
          have hpN : p < t := by rw [hp]; exact Nat.mod_lt _ (by omega)
          have q1 : Int.tmod (i : Int) (t : Int) = (p : Int) := by rw [hp, tmod_nat]
          have q3 : IntKind.i64.wrap (p : Int) = (p : Int) := by rw [IntKind.wrap_i64]; omega
          have q5 : ¬ t = 0 := by omega
          have q6 : IntKind.i64.wrap (100 + (i : Int)) = 100 + (i : Int) := by rw [IntKind.wrap_i64]; omega
          have q7 : IntKind.i64.wrap (10 + (p : Int)) = 10 + (p : Int) := by rw [IntKind.wrap_i64]; omega
          have q8 : IntKind.i64.wrap (200 + (i : Int)) = 200 + (i : Int) := by rw [IntKind.wrap_i64]; omega
          have hfd : Hid (fd t S (i + 1) = fd t S i ++ [(100 + (i : Int), 10 + (p : Int)), (10 + (p : Int), 200 + (i : Int))]) := by
            show fd t S i ++ _ = _
            rw [hp]
          have I3 := hide ((unhide I2).next (below_dnew wr (.cells #[.int .i64 (100 + (i : Int)), .int .i64 (10 + (p : Int)), .int .i64 (10 + (p : Int)), .int .i64 (200 + (i : Int))] 39)))
          have hb5 : Hid (w1.heap.size ≤ (wr.drew.alloc (.cells #[.int .i64 (100 + (i : Int)), .int .i64 (10 + (p : Int)), .int .i64 (10 + (p : Int)), .int .i64 (200 + (i : Int))] 39)).heap.size) := Nat.le_trans (unhide b3).size (below_dnew wr _).size
          have hlen2 : Hid ((fd t S i).length + 2 = k + 2) := by show _ = _; rw [fd_len, hk]
          have hk9 : Hid (k + 2 < 10000000) := by show _ < _; omega
          replace hp := hide hp
          replace hk := hide hk
          go_wp2_with fail
          go_region_law (refine step_new rfl (.tmp 65) (.tmp 80) rfl w1.heap.size (.slice ah k ch) (fd t S i) [(100 + (i : Int), 10 + (p : Int)), (10 + (p : Int), 200 + (i : Int))] 2 (k + 2) rfl (unhide I3) wr.heap.size rfl (heap_dnew wr _ _) rfl (unhide hlen2) (by decide) (unhide hb5) (unhide hk9) ?_; intro g5 cap5 w5 a1 a2; replace a1 := hide a1; replace a2 := hide a2)
          all_goals
            go_wp2
            go_roundw
            case rel => exact ⟨i + 1, k + 2, some ⟨g5, 0, none⟩, cap5, by omega, by have := unhide hk; omega, rfl, by go_num, by rw [unhide hfd]; exact unhide a1, (unhide b3).trans (grown_below (grown_trans (grown_of_below (below_dnew wr _) _) (unhide a2)) (unhide b3).size (fun j hj => ((unhide I2).lt j hj).1))⟩
            case measure => simp [intOf] <;> omega
        · have hiM : i = M := by omega
          subst hiM
          have hn0 : Hid ((fd t S i).length ≤ 300) := by show _ ≤ _; rw [fd_len]; omega
          have R2 := hide (unhide I2).re
          obtain ⟨ec, ew, e1, e2, eo⟩ : (circD (fd t S i) = (List.range t).map fun (k : Nat) => 10 + (k : Int)) ∧ circD (woL [10 + (S : Int)] (fd t S i)) = [] ∧ onB (fd t S i) 100 = false ∧ onB (fd t S i) 200 = false ∧ Hid (∀ j : Nat, j < t → onB (fd t S i) (10 + (j : Int)) = true) := by
            refine ⟨(circ_eq (ring_circ hN hN9 hM hS)).symm, (circ_eq (ring_cut hN hN9 hM hS)).symm, onB_not (ring_not hN hN9 hM hS fun k hk => by omega), onB_not (ring_not hN hN9 hM hS fun k hk => by omega), fun j hj => onB_iff.2 (ring_on hN hN9 hM hS hj)⟩
          generalize fd t S i = l at R2 hn0 ec ew e1 e2 eo
          have C2 := hide (circle_any wr (unhide R2) (unhide hn0))
          rw [ec] at C2
          replace ew := hide ew
          replace e1 := hide e1
          replace e2 := hide e2
          have b4 := hide (below_then (unhide b1) (unhide b3))
          clear ec I2 hk hi hlt b1 b3
          go_wp2_with fail
          refine (unhide C2).mono ?_
          rintro e w8 ⟨v8, rfl, i8, _, _, k8⟩
          have R8 := hide ((unhide R2).next k8)
          replace k8 := hide (below_then (unhide b4) k8)
          have hcl : ((List.range t).map fun (k : Nat) => 10 + (k : Int)).length = t := by simp
          obtain ⟨a8, c8, rfl⟩ := i8.form
          rw [hcl] at i8 ⊢
          replace i8 := hide i8
          clear C2 R2 b4
          go_wp2
          go_loopw [12] (fun s12 wr => ∃ j : Nat, j ≤ t ∧ s12 = .int .i64 j ∧ Hid (Below w8.heap.size w8 wr)) (fun s12 _ => t - (intOf s12).toNat)
          case atStart => exact ⟨0, Nat.zero_le _, rfl, Below.refl _ _⟩
          case round =>
            obtain ⟨j, hj, rfl, b5⟩ := hrel
            by_cases hlt : j < t
            · obtain ⟨g, o, rfl, d1, _⟩ := ((unhide i8).next (unhide b5)).elem' (i := j) (by rw [hcl]; exact hlt)
              rw [ring_list _ _ hlt] at d1
              have D1 := hide (on_any wr ((unhide R8).next (unhide b5)) (unhide hn0) (10 + (j : Int)))
              rw [unhide eo j hlt] at D1
              go_wp2_with fail
              refine (unhide D1).mono ?_
              rintro e w9 ⟨rfl, k9⟩
              replace k9 := hide (below_then (unhide b5) k9)
              clear D1
              go_wp2
              go_roundw
              case rel => exact ⟨j + 1, by omega, by go_num, unhide k9⟩
              case measure => simp [intOf]; omega
            · have R9 := hide ((unhide R8).next (unhide b5))
              have k9 := hide (below_then (unhide k8) (unhide b5))
              have T1 := hide (fst_any wr)
              clear R8 k8 b5 i8 eo hcl
              go_wp2_with fail
              refine (unhide T1).mono ?_
              rintro e w13 ⟨rfl, k13⟩
              have R13 := hide ((unhide R9).next k13)
              replace k13 := hide (below_then (unhide k9) k13)
              have bn := below_new w13 (.cells #[.int .i64 (10 + (S : Int))] 3)
              have R14 := hide ((unhide R13).next bn)
              have k14 := hide (below_then (unhide k13) bn)
              have T2 := hide (without_any _ (rd_one w13 (10 + (S : Int))) (fun n c e => by injection e with e1; cases e1) (show 1 ≤ 1500 by decide) (unhide R14) (Nat.le_trans (unhide hn0) (by decide)))
              obtain ⟨W14, hW14⟩ : ∃ W14, W14 = w13.alloc (.cells #[.int .i64 (10 + (S : Int))] 3) := ⟨_, rfl⟩
              rw [← hW14] at R14 k14 T2
              have hwl : Hid ((woL [10 + (S : Int)] l).length ≤ 300) := Nat.le_trans (wol_le _ _) (unhide hn0)
              clear T1 bn R13 k13 R9 k9
              go_wp2_with fail
              rw [← hW14]
              replace hW14 := hide hW14
              refine (unhide T2).mono ?_
              rintro e w15 ⟨v15, rfl, I15, k15⟩
              have R15 := hide ((unhide R14).next k15)
              replace k15 := hide (below_then (unhide k14) k15)
              have T3 := hide (circle_any w15 I15.re (unhide hwl))
              rw [unhide ew] at T3
              clear T2 I15
              go_wp2_with fail
              refine (unhide T3).mono ?_
              rintro e w16 ⟨v16, rfl, i16, _, _, k16⟩
              obtain ⟨a16, q16, rfl⟩ := i16.form
              rw [show ([] : List Int).length = 0 from rfl]
              have R16 := hide ((unhide R15).next k16)
              replace k16 := hide (below_then (unhide k15) k16)
              have T4 := hide (on_any w16 (unhide R16) (unhide hn0) 100)
              rw [unhide e1] at T4
              clear T3 i16
              go_wp2_with fail
              refine (unhide T4).mono ?_
              rintro e w17 ⟨rfl, k17⟩
              have R17 := hide ((unhide R16).next k17)
              replace k17 := hide (below_then (unhide k16) k17)
              have T5 := hide (on_any w17 (unhide R17) (unhide hn0) 200)
              rw [unhide e2] at T5
              clear T4
              go_wp2_with fail
              refine (unhide T5).mono ?_
              rintro e w18 ⟨rfl, k18⟩
              replace k18 := hide (below_then (unhide k17) k18)
              clear T5
              go_wp2
              go_ret
              exact ⟨rfl, unhide k18⟩
end Go.Proofs.Ytfnepbpopemonaa
