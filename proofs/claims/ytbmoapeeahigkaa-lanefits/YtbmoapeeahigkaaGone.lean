/- LaneGone. -/
import Derived.Test.YtbmoapeeahigkaaFst
namespace Go.Proofs.Ytbmoapeeahigkaa
open Go.RowKit
variable {B : Nat} {H Q : List En} {b : Nat}

set_option maxRecDepth 100000 in
theorem has_any (v : Value) (l : List Int) (x : Int) (w : World) (hu : Rd w v l) (hl9 : l.length < 100000000) :
    Calls Try.prog 28 #[v, .int .i64 x] w fun e w' => e = .returned (.bool (l.any (fun y => y == x))) ∧ w' = w := by
  obtain ⟨a, ca, rfl, h3⟩ := hu
  replace h3 := hide h3
  go_enter Try.func28, Try.ntmps28
  go_wp2_with fail
  go_loop [5] (fun i => ∃ k : Nat, k ≤ l.length ∧ i = .int .i64 k ∧ Hid (∀ j, j < k → (l.getD j 0 == x) = false)) (fun i => l.length - (intOf i).toNat)
  case atStart => exact ⟨0, Nat.zero_le _, rfl, fun j hj => absurd hj (Nat.not_lt_zero _)⟩
  case round =>
    obtain ⟨k, hk, rfl, hall⟩ := hrel
    by_cases hlt : k < l.length
    · obtain ⟨b1, o1, rfl, c1⟩ := seg_at (unhide h3) (i := k) hlt
      obtain ⟨y, hy⟩ : ∃ y, l.getD k 0 = y := ⟨_, rfl⟩
      rw [hy] at c1
      have Hy := hide hy
      clear hy
      cases e : (y == x)
      · have E := hide e
        go_wp2
        go_round
        case rel => exact ⟨k + 1, by omega, by go_num, fun j hj => by
          by_cases h : j < k
          · exact unhide hall j h
          · obtain rfl : j = k := by omega
            rw [unhide Hy]; exact unhide E⟩
        case measure => simp [intOf]; omega
      · have r : Hid (l.any (fun y => y == x) = true) := by
          show _ = _
          rw [List.any_eq_true]
          refine ⟨l[k], List.getElem_mem hlt, ?_⟩
          have e2 : l[k] = y := by rw [← unhide Hy]; simp [List.getD, hlt]
          rw [e2]; exact e
        go_wp2
        go_ret
        exact ⟨by rw [unhide r]; rfl, rfl⟩
    · have r : Hid (l.any (fun y => y == x) = false) := by
        show _ = _
        rw [List.any_eq_false]
        intro z hz
        obtain ⟨j, hj, rfl⟩ := List.getElem_of_mem hz
        have := unhide hall j (by omega)
        simpa [List.getD, hj] using this
      go_wp2
      go_ret
      exact ⟨by rw [unhide r]; rfl, rfl⟩
/-- Those that come behind. -/
def gl (i : Nat) : List En := (List.range i).map (fun (t : Nat) => (10 + (t : Int), (1 : Int)))
def gq (i : Nat) : List En := (2, 5) :: gl i
theorem g1 : askD 2 5 [(1, 3)] [] = (2, [(1, 3)], gq 0) := by decide +kernel
theorem g2 : ∀ i : Fin 20, askD (10 + (i.val : Int)) 1 [(1, 3)] (gq i.val) = (2, [(1, 3)], gq (i.val + 1)) := by decide +kernel
theorem g3 : ∀ n : Fin 21, leaveD 99 [(1, 3)] (gq n.val) = ([], [(1, 3)], gq n.val) := by decide +kernel
theorem g4 : ∀ n : Fin 21, blocksD 2 [(1, 3)] (gq n.val) = [1] := by decide +kernel
def gr (n : Nat) : List Int := (List.range n).map (fun (t : Nat) => 10 + (t : Int))
def gh (n : Nat) : List En := (1, 3) :: gl n
theorem g5 : ∀ n : Fin 21, leaveD 2 [(1, 3)] (gq n.val) = (gr n.val, gh n.val, []) := by decide +kernel
theorem g6 : ∀ n : Fin 21, ∀ i : Fin n.val, lookD (10 + (i.val : Int)) (gh n.val) = 1 := by decide +kernel
theorem g7 (who : Int) (H : List En) : blocksD who H [] = [] := rfl
theorem g8 (n : Nat) : lookD 1 (gh n) = 3 := rfl
theorem gq_len (n : Nat) : (gq n).length = n + 1 := by simp [gq, gl]
theorem gh_len (n : Nat) : (gh n).length = n + 1 := by simp [gh, gl]
theorem gr_len (n : Nat) : (gr n).length = n := by simp [gr]
theorem gr_at {n i : Nat} (h : i < n) : (gr n).getD i 0 = 10 + (i : Int) := by simp [gr, List.getD, h]
set_option maxRecDepth 100000 in
set_option maxHeartbeats 4000000 in
theorem laneGone_core (n : Int) (w : World) : Calls Try.prog 8 #[.int .i64 n] w fun e w' => e = .returned (.bool true) ∧ Below w.heap.size w w' := by
  obtain ⟨N, hN⟩ : ∃ N, N = w.heap.size := ⟨_, rfl⟩
  by_cases hin : 0 ≤ n ∧ n ≤ 20
  · obtain ⟨m, rfl⟩ : ∃ m : Nat, n = (m : Int) := ⟨n.toNat, by omega⟩
    have hm : m ≤ 20 := by omega
    clear hin
    go_enter Try.func8, Try.ntmps8
    go_wp2_with fail
    refine (first_any w).mono ?_
    rintro e w1 ⟨rfl, b1⟩
    rw [← hN] at b1
    replace b1 := hide b1
    replace hN := hide hN
    go_wp2_with fail
    refine (new_ln w1).mono ?_
    rintro e w2 ⟨rfl, L2, b2⟩
    obtain ⟨b, hb⟩ : ∃ b, b = w1.heap.size := ⟨_, rfl⟩
    rw [← hb] at L2 b2 ⊢
    have hNb : Hid (N ≤ b) := by have := (unhide b1).size; rw [unhide hN, hb]; exact this
    replace b2 := hide ((unhide b1).trans (b2.mono (unhide hNb)))
    replace hb := hide hb
    replace L2 := hide L2
    go_wp2_with fail
    refine (ask_ln w2 (unhide L2) (by decide) 1 3 f1).mono ?_
    rintro e w3 ⟨rfl, L3, b3⟩
    replace b3 := hide ((unhide b2).trans (b3.mono (unhide hNb)))
    replace L3 := hide L3
    go_wp2_with fail
    refine (ask_ln w3 (unhide L3) (by decide) 2 5 g1).mono ?_
    rintro e w4 ⟨rfl, L4, b4⟩
    replace b4 := hide ((unhide b3).trans (b4.mono (unhide hNb)))
    replace L4 := hide L4
    go_wp2_with fail
    go_loopw [4] (fun s wr => ∃ i : Nat, i ≤ m ∧ s = .int .i64 i ∧ Hid (Ln b [(1, 3)] (gq i) b wr) ∧ Hid (Below N w wr)) (fun s _ => m - (intOf s).toNat)
    case atStart => exact ⟨0, Nat.zero_le _, rfl, unhide L4, unhide b4⟩
    case round =>
      obtain ⟨i, hi, rfl, L5, b5⟩ := hrel
      by_cases hlt : i < m
      · go_wp2_with fail
        refine (ask_ln wr (unhide L5) (by rw [gq_len]; simp; omega) (10 + (i : Int)) 1 (g2 ⟨i, by omega⟩)).mono ?_
        rintro e w6 ⟨rfl, L6, b6⟩
        replace b6 := hide ((unhide b5).trans (b6.mono (unhide hNb)))
        replace L6 := hide L6
        go_wp2
        go_roundw
        case rel => exact ⟨i + 1, by omega, by go_num, unhide L6, unhide b6⟩
        case measure => simp [intOf]; omega
      · obtain rfl : i = m := by omega
        go_wp2_with fail
        refine (leave_ln wr (unhide L5) (by rw [gq_len]; simp; omega) 99 (g3 ⟨i, by omega⟩)).mono ?_
        rintro e w7 ⟨v7, rfl, I7, L7, b7⟩
        obtain ⟨a7, c7, rfl⟩ := I7.form
        replace I7 := hide I7
        replace b7 := hide ((unhide b5).trans (b7.mono (unhide hNb)))
        replace L7 := hide L7
        go_wp2_with fail
        refine (queue_ln w7 (unhide L7) (by rw [gq_len]; omega)).mono ?_
        rintro e w8 ⟨v8, rfl, E8, b8⟩
        obtain ⟨a8, n8, c8, rfl, hn8⟩ := slice_form' E8
        rw [gq_len] at hn8
        subst hn8
        replace E8 := hide E8
        have L8 := hide ((unhide L7).next b8)
        replace b8 := hide (bt (unhide b7) b8 (Nat.le_trans (unhide hNb) (unhide L7).low))
        go_wp2_with fail
        refine (blocks_ln w8 (unhide L8) (by rw [gq_len]; simp; omega) 2 (g4 ⟨i, by omega⟩)).mono ?_
        rintro e w9 ⟨v9, rfl, I9, b9⟩
        have L9 := hide ((unhide L8).next b9)
        replace b9 := hide (bt (unhide b8) b9 (Nat.le_trans (unhide hNb) (unhide L8).low))
        replace I9 := hide I9
        go_wp2_with fail
        refine (has_any v9 [1] 1 w9 (unhide I9).rd (by decide)).mono ?_
        rintro e w10 ⟨rfl, rfl⟩
        go_wp2_with fail
        refine (leave_ln w10 (unhide L9) (by rw [gq_len]; simp; omega) 2 (g5 ⟨i, by omega⟩)).mono ?_
        rintro e w11 ⟨v11, rfl, I11, L11, b11⟩
        obtain ⟨a11, c11, rfl⟩ := I11.form
        rw [gr_len] at *
        replace I11 := hide I11.rd
        replace b11 := hide ((unhide b9).trans (b11.mono (unhide hNb)))
        replace L11 := hide L11
        go_wp2_with fail
        go_loopw [6] (fun s wr => ∃ j : Nat, j ≤ i ∧ s = .int .i64 j ∧ Hid (Ln b (gh i) [] b wr) ∧ Hid (Below N w wr) ∧ Hid (Below w11.heap.size w11 wr)) (fun s _ => i - (intOf s).toNat)
        case atStart => exact ⟨0, Nat.zero_le _, rfl, unhide L11, unhide b11, Below.refl _ _⟩
        case round =>
          obtain ⟨j, hj, rfl, L12, b12, k12⟩ := hrel
          by_cases hlj : j < i
          · obtain ⟨a, c, e, sg⟩ := (unhide I11).next (unhide k12)
            rw [gr_len] at e
            injection e with e1 _ e2
            subst e1 e2
            obtain ⟨g, o, rfl, c1⟩ := seg_at sg (i := j) (by rw [gr_len]; exact hlj)
            rw [gr_at hlj] at c1
            replace sg := hide sg
            go_wp2_with fail
            refine (holds_ln wr (unhide L12) (by rw [gh_len]; omega) (10 + (j : Int)) (g6 ⟨i, by omega⟩ ⟨j, hlj⟩)).mono ?_
            rintro e w13 ⟨rfl, b13⟩
            have L13 := hide ((unhide L12).next b13)
            have k13 := hide (below_then (unhide k12) b13)
            replace b13 := hide (bt (unhide b12) b13 (Nat.le_trans (unhide hNb) (unhide L12).low))
            clear c1
            go_wp2_with fail
            refine (blocks_ln w13 (unhide L13) (by rw [gh_len]; simp; omega) (10 + (j : Int)) (g7 _ _)).mono ?_
            rintro e w14 ⟨v14, rfl, I14, b14⟩
            obtain ⟨a14, c14, rfl⟩ := I14.form
            have L14 := hide ((unhide L13).next b14)
            have k14 := hide (below_then (unhide k13) b14)
            replace b14 := hide (bt (unhide b13) b14 (Nat.le_trans (unhide hNb) (unhide L13).low))
            replace I14 := hide I14
            go_wp2
            go_roundw
            case rel => exact ⟨j + 1, by omega, by go_num, unhide L14, unhide b14, unhide k14⟩
            case measure => simp [intOf]; omega
          · obtain rfl : j = i := by omega
            go_wp2_with fail
            refine (first_any wr).mono ?_
            rintro e w13 ⟨rfl, b13⟩
            have L13 := hide ((unhide L12).next b13)
            replace b13 := hide (bt (unhide b12) b13 (Nat.le_trans (unhide hNb) (unhide L12).low))
            go_wp2_with fail
            refine (queue_ln w13 (unhide L13) (by decide)).mono ?_
            rintro e w14 ⟨v14, rfl, E14, b14⟩
            obtain ⟨a14, n14, c14, rfl, hn14⟩ := slice_form' E14
            have hn14' : n14 = 0 := hn14
            clear hn14
            subst hn14'
            replace E14 := hide E14
            have L14 := hide ((unhide L13).next b14)
            replace b14 := hide (bt (unhide b13) b14 (Nat.le_trans (unhide hNb) (unhide L13).low))
            go_wp2_with fail
            refine (holders_ln w14 (unhide L14) (by rw [gh_len]; omega)).mono ?_
            rintro e w15 ⟨v15, rfl, E15, b15⟩
            obtain ⟨a15, n15, c15, rfl, hn15⟩ := slice_form' E15
            rw [gh_len] at hn15
            subst hn15
            replace E15 := hide E15
            have L15 := hide ((unhide L14).next b15)
            replace b15 := hide (bt (unhide b14) b15 (Nat.le_trans (unhide hNb) (unhide L14).low))
            go_wp2_with fail
            refine (holds_ln w15 (unhide L15) (by rw [gh_len]; omega) 1 (g8 _)).mono ?_
            rintro e w16 ⟨rfl, b16⟩
            replace b16 := hide (bt (unhide b15) b16 (Nat.le_trans (unhide hNb) (unhide L15).low))
            go_wp2
            go_ret
            exact ⟨by simp, by rw [← unhide hN]; exact unhide b16⟩
  · have hout : (decide (n < 0) || decide (20 < n)) = true := by
      rcases (show n < 0 ∨ 20 < n by omega) with h | h <;> simp [h]
    have hcase : n < 0 ∨ (¬ n < 0 ∧ 20 < n) := by omega
    replace hout := hide hout
    clear hin
    rcases hcase with h | ⟨h, h2⟩
    all_goals
      go_enter Try.func8, Try.ntmps8
      go_wp2_with fail
      refine (first_any w).mono ?_
      rintro e w1 ⟨rfl, b1⟩
      replace b1 := hide b1
      replace hN := hide hN
      go_wp2_with fail
      refine (new_ln w1).mono ?_
      rintro e w2 ⟨rfl, L2, b2⟩
      replace b2 := hide (below_then (unhide b1) b2)
      replace L2 := hide L2
      go_wp2_with fail
      refine (first_any w2).mono ?_
      rintro e w3 ⟨rfl, b3⟩
      replace b3 := hide (below_then (unhide b2) b3)
      go_wp2
      go_ret
      exact ⟨rfl, unhide b3⟩
theorem laneGone_walk (n : Int) (w : World) (_h : (Lit.int .i64 n).wf = true) : Calls Try.prog 8 #[.int .i64 n] w fun e w' => e = .returned (.bool true) ∧ Below w.heap.size w w' := laneGone_core n w
end Go.Proofs.Ytbmoapeeahigkaa
