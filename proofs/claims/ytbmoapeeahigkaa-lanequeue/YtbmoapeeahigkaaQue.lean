/- LaneQueue. -/
import Derived.Test.YtbmoapeeahigkaaFst
namespace Go.Proofs.Ytbmoapeeahigkaa
open Go.RowKit
variable {B : Nat} {H Q : List En} {b : Nat}

def qh (i r : Nat) : List En := (List.range (r - i)).map (fun (t : Nat) => (((i + t : Nat) : Int), (3 : Int)))
def ql (k : Nat) : List En := (List.range k).map (fun (t : Nat) => (200 + (t : Int), (3 : Int)))
def qq (k : Nat) : List En := (100, 5) :: ql k
def qr (k : Nat) : List Int := (List.range k).map (fun (t : Nat) => 200 + (t : Int))
theorem q1 : ∀ i : Fin 20, askD (i.val : Int) 3 (qh 0 i.val) [] = (1, qh 0 (i.val + 1), []) := by decide +kernel
theorem q2 : ∀ r : Fin 20, askD 100 5 (qh 0 (r.val + 1)) [] = (2, qh 0 (r.val + 1), qq 0) := by decide +kernel
theorem q3 : ∀ r : Fin 20, ∀ j : Fin 20, askD (200 + (j.val : Int)) 3 (qh 0 (r.val + 1)) (qq j.val) = (2, qh 0 (r.val + 1), qq (j.val + 1)) := by decide +kernel
theorem q4 : ∀ k : Fin 21, leaveD 100 [(100, 5)] (ql k.val) = (qr k.val, ql k.val, []) := by decide +kernel
theorem q5 : ∀ k : Fin 21, ∀ r : Fin 20, leaveD (r.val : Int) (qh r.val (r.val + 1)) (qq k.val) = ([100], [(100, 5)], ql k.val) := by decide +kernel
theorem q6a : ∀ r : Fin 20, ∀ i : Fin r.val, out1 (i.val : Int) (qh i.val (r.val + 1)) = qh (i.val + 1) (r.val + 1) ∧ fitsL (100, 5) (qh (i.val + 1) (r.val + 1)) = false := by decide +kernel
theorem q6b : ∀ k : Fin 21, ∀ i : Fin 20, out1 (i.val : Int) (qq k.val) = qq k.val := by decide +kernel
theorem q6 (k r i : Nat) (hk : k ≤ 20) (hr : r < 20) (hi : i < r) : leaveD (i : Int) (qh i (r + 1)) (qq k) = ([], qh (i + 1) (r + 1), qq k) := by
  have h1 := q6a ⟨r, hr⟩ ⟨i, hi⟩
  have h2 := q6b ⟨k, by omega⟩ ⟨i, by omega⟩
  simp only at h1 h2
  unfold leaveD
  rw [h1.1, h2]
  have h3 : grantD (qh (i + 1) (r + 1)) (qq k) = (0, qh (i + 1) (r + 1)) := grant_stop h1.2
  rw [h3]
  rfl
theorem qh_len (i r : Nat) : (qh i r).length = r - i := by simp [qh]
theorem ql_len (k : Nat) : (ql k).length = k := by simp [ql]
theorem qq_len (k : Nat) : (qq k).length = k + 1 := by simp [qq, ql]
theorem qr_len (k : Nat) : (qr k).length = k := by simp [qr]
theorem qr_at {n i : Nat} (h : i < n) : (qr n).getD i 0 = 200 + (i : Int) := by simp [qr, List.getD, h]
set_option maxRecDepth 100000 in
set_option maxHeartbeats 4000000 in
theorem queue_in (r k : Nat) (w : World) (hr : r < 20) (hk : k ≤ 20) : Calls Try.prog 6 #[.int .i64 ((r : Int) + 1), .int .i64 (k : Int)] w fun e w' => e = .returned (.bool true) ∧ Below w.heap.size w w' := by
  obtain ⟨N, hN⟩ : ∃ N, N = w.heap.size := ⟨_, rfl⟩
  go_enter Try.func6, Try.ntmps6
  go_wp2_with fail
  refine (first_any w).mono ?_
  rintro e w1 ⟨rfl, b1⟩
  rw [← hN] at b1
  replace b1 := hide b1
  replace hN := hide hN
  go_wp2_with fail
  refine (new_ln w1).mono ?_
  rintro e w2 ⟨rfl, L2, b2⟩
  obtain ⟨b, hb⟩ : ∃ b, b = w1.heap.size := ⟨_, rfl⟩
  rw [← hb] at L2 b2 ⊢
  have hNb : Hid (N ≤ b) := by have := (unhide b1).size; rw [unhide hN, hb]; exact this
  replace b2 := hide ((unhide b1).trans (b2.mono (unhide hNb)))
  replace hb := hide hb
  replace L2 := hide L2
  go_wp2_with fail
  go_loopw [6] (fun s wr => ∃ i : Nat, i ≤ r + 1 ∧ s = .int .i64 i ∧ Hid (Ln b (qh 0 i) [] b wr) ∧ Hid (Below N w wr)) (fun s _ => r + 1 - (intOf s).toNat)
  case atStart => exact ⟨0, Nat.zero_le _, rfl, unhide L2, unhide b2⟩
  case round =>
    obtain ⟨i, hi, rfl, L5, b5⟩ := hrel
    by_cases hlt : i < r + 1
    · have hlt' : (i : Int) < (r : Int) + 1 := by omega
      go_wp2_with fail
      refine (ask_ln wr (unhide L5) (by rw [qh_len]; simp; omega) (i : Int) 3 (q1 ⟨i, by omega⟩)).mono ?_
      rintro e w6 ⟨rfl, L6, b6⟩
      replace b6 := hide ((unhide b5).trans (b6.mono (unhide hNb)))
      replace L6 := hide L6
      go_wp2
      go_roundw
      case rel => exact ⟨i + 1, by omega, by go_num, unhide L6, unhide b6⟩
      case measure => simp [intOf]; omega
    · obtain rfl : i = r + 1 := by omega
      have hlt' : ¬ (((r + 1 : Nat) : Int) < (r : Int) + 1) := by omega
      go_wp2_with fail
      refine (ask_ln wr (unhide L5) (by rw [qh_len]; simp; omega) 100 5 (q2 ⟨r, hr⟩)).mono ?_
      rintro e w6 ⟨rfl, L6, b6⟩
      replace b6 := hide ((unhide b5).trans (b6.mono (unhide hNb)))
      replace L6 := hide L6
      go_wp2_with fail
      go_loopw [7] (fun s wr => ∃ j : Nat, j ≤ k ∧ s = .int .i64 j ∧ Hid (Ln b (qh 0 (r + 1)) (qq j) b wr) ∧ Hid (Below N w wr)) (fun s _ => k - (intOf s).toNat)
      case atStart => exact ⟨0, Nat.zero_le _, rfl, unhide L6, unhide b6⟩
      case round =>
        obtain ⟨j, hj, rfl, L7, b7⟩ := hrel
        by_cases hlj : j < k
        · go_wp2_with fail
          refine (ask_ln wr (unhide L7) (by rw [qh_len, qq_len]; omega) (200 + (j : Int)) 3 (q3 ⟨r, hr⟩ ⟨j, by omega⟩)).mono ?_
          rintro e w8 ⟨rfl, L8, b8⟩
          replace b8 := hide ((unhide b7).trans (b8.mono (unhide hNb)))
          replace L8 := hide L8
          go_wp2
          go_roundw
          case rel => exact ⟨j + 1, by omega, by go_num, unhide L8, unhide b8⟩
          case measure => simp [intOf]; omega
        · obtain rfl : j = k := by omega
          go_wp2_with fail
          go_loopw [8] (fun s wr => ∃ i : Nat, i ≤ r + 1 ∧ s = .int .i64 i ∧ Hid (i ≤ r → Ln b (qh i (r + 1)) (qq j) b wr) ∧ Hid (i = r + 1 → Ln b [(100, 5)] (ql j) b wr) ∧ Hid (Below N w wr)) (fun s _ => r + 1 - (intOf s).toNat)
          case atStart => exact ⟨0, Nat.zero_le _, rfl, fun _ => unhide L7, fun e => absurd e (by omega), unhide b7⟩
          case round =>
            obtain ⟨i, hi2, rfl, L8, L8', b8⟩ := hrel
            by_cases hli : i < r
            · have hli' : (i : Int) < (r : Int) + 1 := by omega
              have hli2 : (i : Int) < (r : Int) := by omega
              have hli3 : ((i : Int) == (r : Int)) = false := by rw [beq_eq_false_iff_ne]; omega
              have Lx := hide (unhide L8 (by omega))
              go_wp2_with fail
              refine (leave_ln wr (unhide Lx) (by rw [qh_len, qq_len]; omega) (i : Int) (q6 j r i hk hr hli)).mono ?_
              rintro e w9 ⟨v9, rfl, I9, L9, b9⟩
              obtain ⟨a9, c9, rfl⟩ := I9.form
              replace I9 := hide I9
              replace b9 := hide ((unhide b8).trans (b9.mono (unhide hNb)))
              replace L9 := hide L9
              go_wp2
              go_roundw
              case rel => exact ⟨i + 1, by omega, by go_num, fun _ => unhide L9, fun e => absurd e (by omega), unhide b9⟩
              case measure => simp [intOf]; omega
            · by_cases hlr : i = r
              · subst hlr
                have hli' : (i : Int) < (i : Int) + 1 := by omega
                have Lx := hide (unhide L8 (Nat.le_refl _))
                go_wp2_with fail
                refine (leave_ln wr (unhide Lx) (by rw [qh_len, qq_len]; omega) (i : Int) (q5 ⟨j, by omega⟩ ⟨i, hr⟩)).mono ?_
                rintro e w9 ⟨v9, rfl, I9, L9, b9⟩
                obtain ⟨a9, c9, rfl⟩ := I9.form
                replace I9 := hide I9
                replace b9 := hide ((unhide b8).trans (b9.mono (unhide hNb)))
                replace L9 := hide L9
                go_wp2_with fail
                refine (ints_is w9 (unhide I9) (by decide) 100 _ rfl _ rfl).mono ?_
                rintro e w10 ⟨rfl, b10⟩
                have L10 := hide ((unhide L9).next b10)
                replace b10 := hide (bt (unhide b9) b10 (Nat.le_trans (unhide hNb) (unhide L9).low))
                go_wp2
                go_roundw
                case rel => exact ⟨i + 1, by omega, by go_num, fun e => absurd e (by omega), fun _ => unhide L10, unhide b10⟩
                case measure => simp [intOf] <;> omega
              · obtain rfl : i = r + 1 := by omega
                have Lx := hide (unhide L8' rfl)
                go_wp2_with fail
                refine (leave_ln wr (unhide Lx) (by rw [ql_len]; simp; omega) 100 (q4 ⟨j, by omega⟩)).mono ?_
                rintro e w11 ⟨v11, rfl, I11, L11, b11⟩
                obtain ⟨a11, c11, rfl⟩ := I11.form
                rw [qr_len] at *
                replace I11 := hide I11.rd
                replace b11 := hide ((unhide b8).trans (b11.mono (unhide hNb)))
                replace L11 := hide L11
                go_wp2_with fail
                go_loopw [11] (fun s wr => ∃ t : Nat, t ≤ j ∧ s = .int .i64 t ∧ wr = w11) (fun s _ => j - (intOf s).toNat)
                case atStart => exact ⟨0, Nat.zero_le _, rfl, rfl⟩
                case round =>
                  obtain ⟨t, ht, rfl, rfl⟩ := hrel
                  by_cases hlt2 : t < j
                  · obtain ⟨a, c, e, sg⟩ := unhide I11
                    rw [qr_len] at e
                    injection e with e1 _ e2
                    subst e1 e2
                    obtain ⟨g, o, rfl, c1⟩ := seg_at sg (i := t) (by rw [qr_len]; exact hlt2)
                    rw [qr_at hlt2] at c1
                    replace sg := hide sg
                    go_wp2
                    go_roundw
                    case rel => exact ⟨t + 1, by omega, by go_num, by first | rfl | trivial⟩
                    case measure => simp [intOf]; omega
                  · obtain rfl : t = j := by omega
                    go_wp2_with fail
                    refine (first_any _).mono ?_
                    rintro e w13 ⟨rfl, b13⟩
                    have L13 := hide ((unhide L11).next b13)
                    replace b13 := hide (bt (unhide b11) b13 (Nat.le_trans (unhide hNb) (unhide L11).low))
                    go_wp2_with fail
                    refine (holders_ln w13 (unhide L13) (by rw [ql_len]; omega)).mono ?_
                    rintro e w15 ⟨v15, rfl, E15, b15⟩
                    obtain ⟨a15, n15, c15, rfl, hn15⟩ := slice_form' E15
                    rw [ql_len] at hn15
                    subst hn15
                    replace E15 := hide E15
                    have L15 := hide ((unhide L13).next b15)
                    replace b15 := hide (bt (unhide b13) b15 (Nat.le_trans (unhide hNb) (unhide L13).low))
                    go_wp2_with fail
                    refine (queue_ln w15 (unhide L15) (by decide)).mono ?_
                    rintro e w14 ⟨v14, rfl, E14, b14⟩
                    obtain ⟨a14, n14, c14, rfl, hn14⟩ := slice_form' E14
                    have hn14' : n14 = 0 := hn14
                    clear hn14
                    subst hn14'
                    replace b14 := hide (bt (unhide b15) b14 (Nat.le_trans (unhide hNb) (unhide L15).low))
                    replace E14 := hide E14
                    go_wp2
                    go_ret
                    exact ⟨by simp, by rw [← unhide hN]; exact unhide b14⟩
set_option maxRecDepth 100000 in
set_option maxHeartbeats 4000000 in
theorem queue_out (r k : Int) (w : World) (h : r < 1 ∨ (1 ≤ r ∧ 20 < r) ∨ (1 ≤ r ∧ r ≤ 20 ∧ k < 0) ∨ (1 ≤ r ∧ r ≤ 20 ∧ 0 ≤ k ∧ 20 < k)) : Calls Try.prog 6 #[.int .i64 r, .int .i64 k] w fun e w' => e = .returned (.bool true) ∧ Below w.heap.size w w' := by
  rcases h with h | ⟨h1, h2⟩ | ⟨h1, h2, h3⟩ | ⟨h1, h2, h3, h4⟩
  all_goals
    go_enter Try.func6, Try.ntmps6
    go_wp2_with fail
    refine (first_any w).mono ?_
    rintro e w1 ⟨rfl, b1⟩
    replace b1 := hide b1
    go_wp2_with fail
    refine (new_ln w1).mono ?_
    rintro e w2 ⟨rfl, L2, b2⟩
    replace b2 := hide (below_then (unhide b1) b2)
    replace L2 := hide L2
    go_wp2_with fail
    refine (first_any w2).mono ?_
    rintro e w3 ⟨rfl, b3⟩
    replace b3 := hide (below_then (unhide b2) b3)
    go_wp2
    go_ret
    exact ⟨rfl, unhide b3⟩
theorem laneQueue_walk (r k : Int) (w : World) (_ : (Lit.int .i64 r).wf = true) (_ : (Lit.int .i64 k).wf = true) : Calls Try.prog 6 #[.int .i64 r, .int .i64 k] w fun e w' => e = .returned (.bool true) ∧ Below w.heap.size w w' := by
  by_cases h : 1 ≤ r ∧ r ≤ 20 ∧ 0 ≤ k ∧ k ≤ 20
  · obtain ⟨r', rfl⟩ : ∃ r' : Nat, r = (r' : Int) + 1 := ⟨(r - 1).toNat, by omega⟩
    obtain ⟨k', rfl⟩ : ∃ k' : Nat, k = (k' : Int) := ⟨k.toNat, by omega⟩
    exact queue_in r' k' w (by omega) (by omega)
  · exact queue_out r k w (by omega)
end Go.Proofs.Ytbmoapeeahigkaa
