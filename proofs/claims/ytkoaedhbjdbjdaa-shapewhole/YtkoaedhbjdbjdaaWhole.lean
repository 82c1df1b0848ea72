/- ShapeWhole: each word lies in one stripe, each stripe in its object, that one in its region; the latches stand behind the words. -/
import Derived.Test.YtkoaedhbjdbjdaaRefCheck
import Derived.Test.YtkoaedhbjdbjdaaPaths
import Derived.Test.YtkoaedhbjdbjdaaQuiet
namespace Go.Proofs.Ytkoaedhbjdbjdaa
open Go.RowKit

/-- The last stripe below the word k, and how many of its words lie below k. -/
def lsD (c : Cf) (k : Int) : Int := if k = 0 then -1 else c.r + no c + (k - 1) / c.d
def mnD (c : Cf) (k : Int) : Int := if k = 0 then 0 else (k - 1) % c.d + 1
theorem div_step {d k : Int} (hd : 1 ≤ d) (_ : 1 ≤ k) : (k / d = (k - 1) / d ∧ k % d = (k - 1) % d + 1) ∨ (k / d = (k - 1) / d + 1 ∧ (k - 1) % d + 1 = d ∧ k % d = 0) := by
  have a1 := Int.mul_ediv_add_emod (k - 1) d
  have a2 := Int.emod_nonneg (k - 1) (show d ≠ 0 by omega)
  have a3 := Int.emod_lt_of_pos (k - 1) (show 0 < d by omega)
  by_cases h : (k - 1) % d + 1 = d
  · right
    have e : k = d * ((k - 1) / d + 1) := by rw [Int.mul_add, Int.mul_one]; omega
    refine ⟨?_, h, ?_⟩
    · conv => lhs; rw [e]
      exact Int.mul_ediv_cancel_left _ (by omega)
    · conv => lhs; rw [e]
      exact Int.mul_emod_right _ _
  · left
    have e : k = (k - 1) % d + 1 + d * ((k - 1) / d) := by omega
    constructor
    · conv => lhs; rw [e]
      rw [Int.add_mul_ediv_left _ _ (by omega), Int.ediv_eq_zero_of_lt (by omega) (by omega)]
      omega
    · conv => lhs; rw [e]
      rw [Int.add_mul_emod_self_left, Int.emod_eq_of_lt (by omega) (by omega)]
theorem ls_next (c : Cf) {k : Int} (h : 0 ≤ k) : lsD c (k + 1) = c.r + no c + sD c k := by
  unfold lsD sD
  rw [if_neg (by omega), show k + 1 - 1 = k by omega]
theorem mn_next (c : Cf) {k : Int} (h : 0 ≤ k) : mnD c (k + 1) = k % c.d + 1 := by
  unfold mnD
  rw [if_neg (by omega), show k + 1 - 1 = k by omega]
theorem mn_in {c : Cf} (h : Hp c) (k : Int) : 0 ≤ mnD c k ∧ mnD c k ≤ 8 := by
  have := h.d1; have := h.d8
  have a2 := Int.emod_nonneg (k - 1) (show c.d ≠ 0 by omega)
  have a3 := Int.emod_lt_of_pos (k - 1) (show 0 < c.d by omega)
  unfold mnD
  split <;> omega
theorem ls_old {c : Cf} {k : Int} (h : 1 ≤ k) (e : k / c.d = (k - 1) / c.d) : lsD c k = c.r + no c + sD c k := by
  unfold lsD sD
  rw [if_neg (by omega), e]
theorem ls_new {c : Cf} {k : Int} (h : 1 ≤ k) (e : k / c.d = (k - 1) / c.d + 1) : lsD c k = c.r + no c + sD c k - 1 := by
  unfold lsD sD
  rw [if_neg (by omega), e]
  omega
theorem mn_of {c : Cf} {k : Int} (h : 1 ≤ k) : mnD c k = (k - 1) % c.d + 1 := by
  unfold mnD
  rw [if_neg (by omega)]
theorem ends {c : Cf} (h : Hp c) : lsD c (nw c) = c.r + no c + ns c - 1 ∧ mnD c (nw c) = c.d ∧ nw c / c.d = ns c := by
  have h1 := h.d1
  have h2 := nw_in h
  have h3 := ns_in h
  have e1 : nw c / c.d = ns c := by
    unfold nw
    exact Int.mul_ediv_cancel _ (by omega)
  have e2 : nw c % c.d = 0 := by
    unfold nw
    exact Int.mul_emod_left _ _
  rcases div_step (d := c.d) (k := nw c) h1 (by omega) with ⟨a, b⟩ | ⟨a, b, _⟩
  · have := Int.emod_nonneg (nw c - 1) (show c.d ≠ 0 by omega)
    omega
  · refine ⟨?_, ?_, e1⟩
    · rw [ls_new (by omega) a]
      show c.r + no c + nw c / c.d - 1 = _
      rw [e1]
    · rw [mn_of (by omega)]; exact b
theorem lev_out (c : Cf) (n : Int) (w : World) (h : nodesD c ≤ n) : Calls Try.prog 19 #[cv c, .int .i64 n] w fun e w' => e = .returned (.int .i64 (-1)) ∧ Below w.heap.size w w' := by
  have := level_any c n w
  rwa [level_m (.inr h)] at this
theorem nodes_yes (c : Cf) (w : World) (h : okB c = true) : Calls Try.prog 15 #[cv c] w fun e w' => e = .returned (.int .i64 (c.r + no c + ns c)) ∧ Below w.heap.size w w' := by
  have := nodes_any c w
  rwa [nodes_ok h] at this
theorem cells_yes (c : Cf) (w : World) (h : okB c = true) : Calls Try.prog 17 #[cv c] w fun e w' => e = .returned (.int .i64 (nw c + 8 * ns c)) ∧ Below w.heap.size w w' := by
  have := cells_any c w
  rwa [show cellsD c = nw c + 8 * ns c by simp only [cellsD, h, if_true]; omega] at this
theorem latch_yes (c : Cf) (k : Int) (w : World) (h : okB c = true) (h0 : 0 ≤ sD c k) (h1 : sD c k < ns c) : Calls Try.prog 23 #[cv c, .int .i64 (c.r + no c + sD c k)] w fun e w' => e = .returned (.int .i64 (nw c + 8 * sD c k)) ∧ Below w.heap.size w w' := by
  have := latch_any c (c.r + no c + sD c k) w
  rwa [show latchD c (c.r + no c + sD c k) = nw c + 8 * sD c k by rw [latch_s h h0 h1]; omega] at this

set_option maxRecDepth 100000 in
set_option maxHeartbeats 4000000 in
theorem shapeWhole_ok (c : Cf) (w : World) (h : okB c = true) : Calls Try.prog 4 #[cv c] w fun e w' => e = .returned (.bool true) ∧ Below w.heap.size w w' := by
  have hp := okB_hp h
  have h1 := hp.r1
  have h2 := hp.r8
  have d1 := hp.d1
  have d2 := hp.d8
  obtain ⟨h3, h4⟩ := no_in hp
  obtain ⟨h5, h6⟩ := ns_in hp
  obtain ⟨h7, h8⟩ := nw_in hp
  have e1 : wrap64 (c.r * c.o) = no c := wrap_in (by have := no_in hp; unfold no at this; omega) (by have := no_in hp; unfold no at this; omega)
  have e2 : wrap64 (no c * c.s) = ns c := wrap_in (by have := ns_in hp; unfold ns at this; omega) (by have := ns_in hp; unfold ns at this; omega)
  have e3 : wrap64 (ns c * c.d) = nw c := wrap_in (by have := nw_in hp; unfold nw at this; omega) (by have := nw_in hp; unfold nw at this; omega)
  have E0 : Hid (wordsD c = nw c) := words_eq h
  have H := hide h
  clear h
  unfold cv
  go_enter Try.func4, Try.ntmps4
  go_wp2_with fail
  refine (first_any _).mono ?_
  rintro e w1 ⟨rfl, hb⟩
  have hl := below_call hb
  have hx := (bx_new c w).next hb
  clear hb
  obtain ⟨a0, a1, a2, a3, a4, a5, a6, a7, a8, a9, a10, a11⟩ := hx.cells
  go_wp2_with fail
  refine (rcheck_any c _).mono ?_
  rw [unhide H, errOf_t]
  rintro e w1 ⟨rfl, hb⟩
  replace hl := below_then hl hb
  replace hx := hx.next hb
  clear a0 a1 a2 a3 a4 a5 a6 a7 a8 a9 a10 a11
  clear hb
  obtain ⟨a0, a1, a2, a3, a4, a5, a6, a7, a8, a9, a10, a11⟩ := hx.cells
  go_wp2_with fail
  refine (check_any c _).mono ?_
  rw [unhide H, errOf_t]
  rintro e w1 ⟨rfl, hb⟩
  replace hl := below_then hl hb
  replace hx := hx.next hb
  clear a0 a1 a2 a3 a4 a5 a6 a7 a8 a9 a10 a11
  clear hb
  obtain ⟨a0, a1, a2, a3, a4, a5, a6, a7, a8, a9, a10, a11⟩ := hx.cells
  go_wp2_with fail
  refine (words_any c _).mono ?_
  rw [unhide E0]
  rintro e w1 ⟨rfl, hb⟩
  replace hl := below_then hl hb
  replace hx := hx.next hb
  clear a0 a1 a2 a3 a4 a5 a6 a7 a8 a9 a10 a11
  clear hb
  obtain ⟨a0, a1, a2, a3, a4, a5, a6, a7, a8, a9, a10, a11⟩ := hx.cells
  go_wp2
  clear e1 e2 e3
  clear a0 a1 a2 a3 a4 a5 a6 a7 a8 a9 a10 a11
  go_loopw [4, 5, 6] (fun last many av wr => ∃ k : Int, 0 ≤ k ∧ k ≤ nw c ∧ av = .int .i64 k ∧ last = .int .i64 (lsD c k) ∧ many = .int .i64 (mnD c k) ∧ Bx c w.heap.size wr ∧ Below w.heap.size w wr) (fun _ _ av _ => (nw c - intOf av).toNat)
  case atStart => exact ⟨0, by omega, by omega, rfl, rfl, rfl, hx, hl⟩
  case round =>
    obtain ⟨k, k0, k1, rfl, rfl, rfl, hx, hl⟩ := hrel
    by_cases hlt : k < nw c
    · obtain ⟨s0, s1⟩ := s_in hp k0 hlt
      obtain ⟨o0, o1⟩ := o_in hp k0 hlt
      obtain ⟨r0, r1⟩ := r_in hp k0 hlt
      have L0 : Hid (levelD c (rD c k) = 0) := level_r (unhide H) r0 r1
      have L1 : Hid (levelD c (c.r + oD c k) = 1) := level_o (unhide H) o0 o1
      have L2 : Hid (levelD c (c.r + no c + sD c k) = 2) := level_s (unhide H) s0 s1
      have P2 : Hid (parentD c (c.r + no c + sD c k) = c.r + oD c k) := parent_s (unhide H) s0 s1
      have P1 : Hid (parentD c (c.r + oD c k) = rD c k) := parent_o (unhide H) o0 o1
      have P0 : Hid (parentD c (rD c k) = -1) := parent_r (unhide H) r0 r1
      have q2 : IntKind.i64.wrap (k.tdiv c.d) = sD c k := IntWalk.i64_quo _ _ ⟨by omega, by omega, by omega⟩
      have q3 : c.d ≠ 0 := by omega
      have y2 : k / c.d = sD c k := rfl
      by_cases kz : k = 0
      · rw [show lsD c k = -1 by unfold lsD; rw [if_pos kz], show mnD c k = 0 by unfold mnD; rw [if_pos kz]]
        have Z : Hid (k % c.d + 1 = 1) := by show _ = _; rw [kz]; simp
        have kp : k ≤ 0 := by omega
        clear kz
        obtain ⟨a0, a1, a2, a3, a4, a5, a6, a7, a8, a9, a10, a11⟩ := hx.cells
        go_wp2_with fail
        refine (path_ok c k _ (unhide H) k0 hlt).mono ?_
        rintro e wa ⟨rfl, hb⟩
        replace hx := hx.next hb
        replace hl := below_then hl hb
        clear hb
        clear a0 a1 a2 a3 a4 a5 a6 a7 a8 a9 a10 a11
        obtain ⟨a0, a1, a2, a3, a4, a5, a6, a7, a8, a9, a10, a11⟩ := hx.cells
        go_wp2_with fail
        refine (level_any c (rD c k) _).mono ?_
        rw [unhide L0]
        rintro e wa ⟨rfl, hb⟩
        replace hx := hx.next hb
        replace hl := below_then hl hb
        clear hb
        clear a0 a1 a2 a3 a4 a5 a6 a7 a8 a9 a10 a11
        obtain ⟨a0, a1, a2, a3, a4, a5, a6, a7, a8, a9, a10, a11⟩ := hx.cells
        go_wp2_with fail
        refine (level_any c (c.r + oD c k) _).mono ?_
        rw [unhide L1]
        rintro e wa ⟨rfl, hb⟩
        replace hx := hx.next hb
        replace hl := below_then hl hb
        clear hb
        clear a0 a1 a2 a3 a4 a5 a6 a7 a8 a9 a10 a11
        obtain ⟨a0, a1, a2, a3, a4, a5, a6, a7, a8, a9, a10, a11⟩ := hx.cells
        go_wp2_with fail
        refine (level_any c (c.r + no c + sD c k) _).mono ?_
        rw [unhide L2]
        rintro e wa ⟨rfl, hb⟩
        replace hx := hx.next hb
        replace hl := below_then hl hb
        clear hb
        clear a0 a1 a2 a3 a4 a5 a6 a7 a8 a9 a10 a11
        obtain ⟨a0, a1, a2, a3, a4, a5, a6, a7, a8, a9, a10, a11⟩ := hx.cells
        go_wp2_with fail
        refine (parent_any c (c.r + no c + sD c k) _).mono ?_
        rw [unhide P2]
        rintro e wa ⟨rfl, hb⟩
        replace hx := hx.next hb
        replace hl := below_then hl hb
        clear hb
        clear a0 a1 a2 a3 a4 a5 a6 a7 a8 a9 a10 a11
        obtain ⟨a0, a1, a2, a3, a4, a5, a6, a7, a8, a9, a10, a11⟩ := hx.cells
        go_wp2_with fail
        refine (parent_any c (c.r + oD c k) _).mono ?_
        rw [unhide P1]
        rintro e wa ⟨rfl, hb⟩
        replace hx := hx.next hb
        replace hl := below_then hl hb
        clear hb
        clear a0 a1 a2 a3 a4 a5 a6 a7 a8 a9 a10 a11
        obtain ⟨a0, a1, a2, a3, a4, a5, a6, a7, a8, a9, a10, a11⟩ := hx.cells
        go_wp2_with fail
        refine (parent_any c (rD c k) _).mono ?_
        rw [unhide P0]
        rintro e wa ⟨rfl, hb⟩
        replace hx := hx.next hb
        replace hl := below_then hl hb
        clear hb
        clear a0 a1 a2 a3 a4 a5 a6 a7 a8 a9 a10 a11
        obtain ⟨a0, a1, a2, a3, a4, a5, a6, a7, a8, a9, a10, a11⟩ := hx.cells
        go_wp2_with fail
        clear a0 a1 a2 a3 a4 a5 a6 a7 a8 a9 a10 a11
        obtain ⟨q0, q1, q2, q3, q4, q5, q6, q7, q8, q9, q10, q11⟩ := Wd.cells (c := c) (b := w.heap.size) (w0 := w)
        have hne : Nonempty (Wd c w.heap.size w) := ⟨⟨_, hx, hl⟩⟩
        refine wp_region_wd hx hl (by kernel_rfl) (by kernel_rfl) ?_
        try simp only [List.append]
        repeat (go_big_quiet_step (first | (go_at_call 23; exact Wd.call (latch_yes c k _ (unhide H) s0 s1))))
        refine wpQuiet_nil ?_
        intro _ hw'
        obtain ⟨⟨wz, hxz, hlz⟩, hw''⟩ := hw'
        subst hw''
        clear hne q0 q1 q2 q3 q4 q5 q6 q7 q8 q9 q10 q11
        go_wp2
        go_roundw
        case rel => exact ⟨k + 1, by omega, by omega, rfl, by rw [ls_next c k0], by rw [mn_next c k0, unhide Z], hxz, hlz⟩
        case measure => simp [intOf]; omega
      · rcases div_step (d := c.d) (k := k) d1 (by omega) with ⟨v1, v2⟩ | ⟨v1, v2, v3⟩
        · rw [ls_old (by omega) v1]
          obtain ⟨n0, n1⟩ := mn_in hp k
          have Z : Hid (k % c.d + 1 = mnD c k + 1) := by show _ = _; rw [v2, mn_of (by omega)]
          clear v1 v2
          obtain ⟨a0, a1, a2, a3, a4, a5, a6, a7, a8, a9, a10, a11⟩ := hx.cells
          go_wp2_with fail
          refine (path_ok c k _ (unhide H) k0 hlt).mono ?_
          rintro e wa ⟨rfl, hb⟩
          replace hx := hx.next hb
          replace hl := below_then hl hb
          clear hb
          clear a0 a1 a2 a3 a4 a5 a6 a7 a8 a9 a10 a11
          obtain ⟨a0, a1, a2, a3, a4, a5, a6, a7, a8, a9, a10, a11⟩ := hx.cells
          go_wp2_with fail
          refine (level_any c (rD c k) _).mono ?_
          rw [unhide L0]
          rintro e wa ⟨rfl, hb⟩
          replace hx := hx.next hb
          replace hl := below_then hl hb
          clear hb
          clear a0 a1 a2 a3 a4 a5 a6 a7 a8 a9 a10 a11
          obtain ⟨a0, a1, a2, a3, a4, a5, a6, a7, a8, a9, a10, a11⟩ := hx.cells
          go_wp2_with fail
          refine (level_any c (c.r + oD c k) _).mono ?_
          rw [unhide L1]
          rintro e wa ⟨rfl, hb⟩
          replace hx := hx.next hb
          replace hl := below_then hl hb
          clear hb
          clear a0 a1 a2 a3 a4 a5 a6 a7 a8 a9 a10 a11
          obtain ⟨a0, a1, a2, a3, a4, a5, a6, a7, a8, a9, a10, a11⟩ := hx.cells
          go_wp2_with fail
          refine (level_any c (c.r + no c + sD c k) _).mono ?_
          rw [unhide L2]
          rintro e wa ⟨rfl, hb⟩
          replace hx := hx.next hb
          replace hl := below_then hl hb
          clear hb
          clear a0 a1 a2 a3 a4 a5 a6 a7 a8 a9 a10 a11
          obtain ⟨a0, a1, a2, a3, a4, a5, a6, a7, a8, a9, a10, a11⟩ := hx.cells
          go_wp2_with fail
          refine (parent_any c (c.r + no c + sD c k) _).mono ?_
          rw [unhide P2]
          rintro e wa ⟨rfl, hb⟩
          replace hx := hx.next hb
          replace hl := below_then hl hb
          clear hb
          clear a0 a1 a2 a3 a4 a5 a6 a7 a8 a9 a10 a11
          obtain ⟨a0, a1, a2, a3, a4, a5, a6, a7, a8, a9, a10, a11⟩ := hx.cells
          go_wp2_with fail
          refine (parent_any c (c.r + oD c k) _).mono ?_
          rw [unhide P1]
          rintro e wa ⟨rfl, hb⟩
          replace hx := hx.next hb
          replace hl := below_then hl hb
          clear hb
          clear a0 a1 a2 a3 a4 a5 a6 a7 a8 a9 a10 a11
          obtain ⟨a0, a1, a2, a3, a4, a5, a6, a7, a8, a9, a10, a11⟩ := hx.cells
          go_wp2_with fail
          refine (parent_any c (rD c k) _).mono ?_
          rw [unhide P0]
          rintro e wa ⟨rfl, hb⟩
          replace hx := hx.next hb
          replace hl := below_then hl hb
          clear hb
          clear a0 a1 a2 a3 a4 a5 a6 a7 a8 a9 a10 a11
          obtain ⟨a0, a1, a2, a3, a4, a5, a6, a7, a8, a9, a10, a11⟩ := hx.cells
          clear a0 a1 a2 a3 a4 a5 a6 a7 a8 a9 a10 a11
          go_wp2
          go_roundw
          case rel => exact ⟨k + 1, by omega, by omega, rfl, by rw [ls_next c k0], by rw [mn_next c k0, unhide Z], hx, hl⟩
          case measure => simp [intOf]; omega
        · rw [ls_new (by omega) v1, mn_of (by omega), v2]
          have Z : Hid (k % c.d + 1 = 1) := by show _ = _; rw [v3]; rfl
          clear v1 v2 v3
          have x1 : c.r + no c + sD c k - 1 + 1 = c.r + no c + sD c k := by omega
          have x2 : 0 ≤ c.r + no c + sD c k - 1 := by omega
          have x3 : 1 ≤ c.r + no c + sD c k := by omega
          obtain ⟨a0, a1, a2, a3, a4, a5, a6, a7, a8, a9, a10, a11⟩ := hx.cells
          go_wp2_with fail
          refine (path_ok c k _ (unhide H) k0 hlt).mono ?_
          rintro e wa ⟨rfl, hb⟩
          replace hx := hx.next hb
          replace hl := below_then hl hb
          clear hb
          clear a0 a1 a2 a3 a4 a5 a6 a7 a8 a9 a10 a11
          obtain ⟨a0, a1, a2, a3, a4, a5, a6, a7, a8, a9, a10, a11⟩ := hx.cells
          go_wp2_with fail
          refine (level_any c (rD c k) _).mono ?_
          rw [unhide L0]
          rintro e wa ⟨rfl, hb⟩
          replace hx := hx.next hb
          replace hl := below_then hl hb
          clear hb
          clear a0 a1 a2 a3 a4 a5 a6 a7 a8 a9 a10 a11
          obtain ⟨a0, a1, a2, a3, a4, a5, a6, a7, a8, a9, a10, a11⟩ := hx.cells
          go_wp2_with fail
          refine (level_any c (c.r + oD c k) _).mono ?_
          rw [unhide L1]
          rintro e wa ⟨rfl, hb⟩
          replace hx := hx.next hb
          replace hl := below_then hl hb
          clear hb
          clear a0 a1 a2 a3 a4 a5 a6 a7 a8 a9 a10 a11
          obtain ⟨a0, a1, a2, a3, a4, a5, a6, a7, a8, a9, a10, a11⟩ := hx.cells
          go_wp2_with fail
          refine (level_any c (c.r + no c + sD c k) _).mono ?_
          rw [unhide L2]
          rintro e wa ⟨rfl, hb⟩
          replace hx := hx.next hb
          replace hl := below_then hl hb
          clear hb
          clear a0 a1 a2 a3 a4 a5 a6 a7 a8 a9 a10 a11
          obtain ⟨a0, a1, a2, a3, a4, a5, a6, a7, a8, a9, a10, a11⟩ := hx.cells
          go_wp2_with fail
          refine (parent_any c (c.r + no c + sD c k) _).mono ?_
          rw [unhide P2]
          rintro e wa ⟨rfl, hb⟩
          replace hx := hx.next hb
          replace hl := below_then hl hb
          clear hb
          clear a0 a1 a2 a3 a4 a5 a6 a7 a8 a9 a10 a11
          obtain ⟨a0, a1, a2, a3, a4, a5, a6, a7, a8, a9, a10, a11⟩ := hx.cells
          go_wp2_with fail
          refine (parent_any c (c.r + oD c k) _).mono ?_
          rw [unhide P1]
          rintro e wa ⟨rfl, hb⟩
          replace hx := hx.next hb
          replace hl := below_then hl hb
          clear hb
          clear a0 a1 a2 a3 a4 a5 a6 a7 a8 a9 a10 a11
          obtain ⟨a0, a1, a2, a3, a4, a5, a6, a7, a8, a9, a10, a11⟩ := hx.cells
          go_wp2_with fail
          refine (parent_any c (rD c k) _).mono ?_
          rw [unhide P0]
          rintro e wa ⟨rfl, hb⟩
          replace hx := hx.next hb
          replace hl := below_then hl hb
          clear hb
          clear a0 a1 a2 a3 a4 a5 a6 a7 a8 a9 a10 a11
          obtain ⟨a0, a1, a2, a3, a4, a5, a6, a7, a8, a9, a10, a11⟩ := hx.cells
          go_wp2_with fail
          clear a0 a1 a2 a3 a4 a5 a6 a7 a8 a9 a10 a11
          obtain ⟨q0, q1, q2, q3, q4, q5, q6, q7, q8, q9, q10, q11⟩ := Wd.cells (c := c) (b := w.heap.size) (w0 := w)
          have hne : Nonempty (Wd c w.heap.size w) := ⟨⟨_, hx, hl⟩⟩
          refine wp_region_wd hx hl (by kernel_rfl) (by kernel_rfl) ?_
          try simp only [List.append]
          repeat (go_big_quiet_step (first | (go_at_call 23; exact Wd.call (latch_yes c k _ (unhide H) s0 s1))))
          refine wpQuiet_nil ?_
          intro _ hw'
          obtain ⟨⟨wz, hxz, hlz⟩, hw''⟩ := hw'
          subst hw''
          clear hne q0 q1 q2 q3 q4 q5 q6 q7 q8 q9 q10 q11
          go_wp2
          go_roundw
          case rel => exact ⟨k + 1, by omega, by omega, rfl, by rw [ls_next c k0], by rw [mn_next c k0, unhide Z], hxz, hlz⟩
          case measure => simp [intOf]; omega
    · have hk : k = nw c := by omega
      subst hk
      obtain ⟨v0, v1, v2⟩ := ends hp
      rw [v0, v1]
      have q2 : IntKind.i64.wrap ((nw c).tdiv c.d) = ns c := by rw [IntWalk.i64_quo _ _ ⟨by omega, by omega, by omega⟩, v2]
      have q3 : c.d ≠ 0 := by omega
      have y2 : nw c / c.d = ns c := v2
      have Y : Hid (nodesD c = c.r + no c + ns c) := nodes_ok (unhide H)
      clear v0 v1 v2 hlt k0 k1
      obtain ⟨a0, a1, a2, a3, a4, a5, a6, a7, a8, a9, a10, a11⟩ := hx.cells
      go_wp2_with fail
      refine (path_no c (nw c) _ (by rw [unhide E0]; omega)).mono ?_
      rintro e wa ⟨rfl, hb⟩
      replace hx := hx.next hb
      replace hl := below_then hl hb
      clear hb
      clear a0 a1 a2 a3 a4 a5 a6 a7 a8 a9 a10 a11
      go_wp2_with fail
      obtain ⟨q0, q1, q2, q3, q4, q5, q6, q7, q8, q9, q10, q11⟩ := Wd.cells (c := c) (b := w.heap.size) (w0 := w)
      have hne : Nonempty (Wd c w.heap.size w) := ⟨⟨_, hx, hl⟩⟩
      refine wp_region_wd hx hl (by kernel_rfl) (by kernel_rfl) ?_
      try simp only [List.append]
      repeat (go_big_quiet_step (first | (go_at_call 8; exact Wd.call (first_any _)) | (go_at_call 15; exact Wd.call (nodes_yes c _ (unhide H))) | (go_at_call 17; exact Wd.call (cells_yes c _ (unhide H))) | (go_at_call 19; exact Wd.call (lev_out c _ _ (by rw [unhide Y]; omega)))))
      refine wpQuiet_nil ?_
      intro _ hw'
      obtain ⟨⟨wz, hxz, hlz⟩, hw''⟩ := hw'
      subst hw''
      clear hne q0 q1 q2 q3 q4 q5 q6 q7 q8 q9 q10 q11
      go_wp2
      go_ret
      exact ⟨rfl, hlz⟩

set_option maxRecDepth 100000 in
theorem shapeWhole_walk (c : Cf) (w : World) : Calls Try.prog 4 #[cv c] w fun e w' => e = .returned (.bool true) ∧ Below w.heap.size w w' := by
  cases h : okB c
  · have H := hide h
    clear h
    unfold cv
    go_enter Try.func4, Try.ntmps4
    go_wp2_with fail
    refine (first_any _).mono ?_
    rintro e w1 ⟨rfl, hb⟩
    have hl := below_call hb
    have hx := (bx_new c w).next hb
    clear hb
    obtain ⟨a0, a1, a2, a3, a4, a5, a6, a7, a8, a9, a10, a11⟩ := hx.cells
    go_wp2_with fail
    refine (rcheck_any c _).mono ?_
    rw [unhide H, errOf_f]
    rintro e w1 ⟨rfl, hb⟩
    replace hl := below_then hl hb
    replace hx := hx.next hb
    clear a0 a1 a2 a3 a4 a5 a6 a7 a8 a9 a10 a11
    clear hb
    obtain ⟨a0, a1, a2, a3, a4, a5, a6, a7, a8, a9, a10, a11⟩ := hx.cells
    go_wp2_with fail
    refine (first_any _).mono ?_
    rintro e w1 ⟨rfl, hb⟩
    replace hl := below_then hl hb
    replace hx := hx.next hb
    clear a0 a1 a2 a3 a4 a5 a6 a7 a8 a9 a10 a11
    clear hb
    go_wp2
    go_ret
    exact ⟨rfl, hl⟩
  · exact shapeWhole_ok c w h

end Go.Proofs.Ytkoaedhbjdbjdaa
