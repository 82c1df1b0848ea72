/- LaneEdges' walk. -/
import Derived.Test.YtmdbmkekdpbliaaEdga
import Derived.Test.YtmdbmkekdpbliaaStructs
import Derived.Deep.RegionHeld3
namespace Go.Proofs.Ytmdbmkekdpbliaa
open Go.RowKit

theorem Ln.drew {B b : Nat} {H Q : List En} {w : World} (h : Ln B H Q b w) : Ln B H Q b w.drew := h.next ⟨rfl, rfl, rfl, Nat.le_refl _, fun _ _ => rfl⟩
theorem Ln.drewN {B b : Nat} {H Q : List En} {w : World} (h : Ln B H Q b w) (n : Nat) : Ln B H Q b (w.drewN n) := h.next ⟨rfl, rfl, rfl, Nat.le_refl _, fun _ _ => rfl⟩
/-- Leave, beside numbers of one's own. -/
theorem leave_is {B B' b : Nat} {H Q : List En} {v : Value} {l : List Int} (w : World) (h : Ln B H Q b w) (hn : H.length + Q.length < 999999) (who : Int) (i : Is B' v l w) :
    Calls Try.prog 15 #[.pointer (some ⟨b, 0, none⟩), .int .i64 who] w fun e w' => ∃ gv, e = .returned gv ∧ Ln B (leaveD who H Q).2.1 (leaveD who H Q).2.2 b w' ∧ Below B w w' ∧ Is B' v l w' := by
  obtain ⟨hv, qv, la⟩ := h
  refine (leave_any w la hn who).mono ?_
  rintro e w' ⟨gv, hv', qv', h1, _, L, M⟩
  exact ⟨gv, h1, ⟨hv', qv', L⟩, M.below la, i.moved la M⟩
theorem Is.elem {B : Nat} {a : Option Addr} {n c : Nat} {l : List Int} {w : World} (h : Is B (.slice a n c) l w) {i : Nat} (hi : i < l.length) : ∃ g o, a = some ⟨g, o, none⟩ ∧ w.cell? ⟨g, o + i, none⟩ = some (.int .i64 (l.getD i 0)) ∧ g < w.heap.size := by
  obtain ⟨a', c', e, sg⟩ := h.rd
  injection e with e1 e2 e3
  subst e1 e3
  obtain ⟨g, o, rfl, d⟩ := seg_at sg hi
  exact ⟨g, o, rfl, d, World.block_lt_of_cell? _ _ d⟩
set_option maxRecDepth 100000 in
set_option maxHeartbeats 8000000 in
theorem edges_in (a0 : Option Addr) (n0 c0 : Nat) (Z : Nat → Nat → Int) (w : World) (s0 : RecsB 3 w.heap.size w a0 n0 Z) (h0 : n0 ≤ 300) :
    Calls Try.prog 4 #[.slice a0 n0 c0] w fun e w' => e = .returned (.bool true) ∧ Below w.heap.size w w' := by
  obtain ⟨N, hN⟩ : ∃ N, N = w.heap.size := ⟨_, rfl⟩
  rw [← hN] at s0
  replace s0 := hide s0
  go_enter Try.func4, Try.ntmps4
  go_wp2_with fail
  refine (first_any w).mono ?_
  rintro e w1 ⟨rfl, b1⟩
  rw [← hN] at b1
  replace b1 := hide b1
  replace hN := hide hN
  go_wp2_with fail
  refine (new_ln w1).mono ?_
  rintro e w2 ⟨rfl, L2, b2⟩
  obtain ⟨b, hb⟩ : ∃ b, b = w1.heap.size := ⟨_, rfl⟩
  rw [← hb] at L2 b2 ⊢
  have hNb : Hid (N ≤ b) := by have := (unhide b1).size; rw [unhide hN, hb]; exact this
  replace b2 := hide ((unhide b1).trans (b2.mono (unhide hNb)))
  replace hb := hide hb
  replace L2 := hide L2
  go_wp2_with fail
  go_loopw [4] (fun s wr => ∃ (i : Nat) (H Q : List En), i ≤ n0 ∧ s = .int .i64 i ∧ Hid (Ln b H Q b wr) ∧ Hid (Fine H Q) ∧ Hid (H.length + Q.length ≤ i) ∧ Hid (Below N w wr)) (fun s _ => n0 - (intOf s).toNat)
  case atStart => exact ⟨0, [], [], Nat.zero_le _, rfl, unhide L2, fine_nil, Nat.le_refl _, unhide b2⟩
  case round =>
    obtain ⟨i, H, Q, hi, rfl, L3, F3, hs3, b3⟩ := hrel
    have hsum := unhide hs3
    by_cases hlt : i < n0
    · obtain ⟨g, o, rfl, hg, hc⟩ := ((unhide s0).later (unhide b3)).at hlt
      have d1 := hc 1 (by decide)
      have d2 := hc 2 (by decide)
      obtain ⟨z1, hz1⟩ : ∃ z, z = Z i 1 := ⟨_, rfl⟩
      obtain ⟨z2, hz2⟩ : ∃ z, z = Z i 2 := ⟨_, rfl⟩
      rw [← hz1] at d1
      rw [← hz2] at d2
      replace hg := hide (Nat.lt_of_lt_of_le hg (unhide hNb))
      clear hc hz1 hz2
      have has := hide (ask_ok z1 z2 (unhide L3).srt (unhide F3).ok).2.1
      have af := hide (ask_fine z1 z2 (unhide L3).srt (unhide F3)).1
      go_wp2_with fail
      go_region_held3 (fun wz => wz.cell? ⟨g, o + i * 3 + 1, none⟩ = some (.int .i64 z1) ∧ wz.cell? ⟨g, o + i * 3 + 2, none⟩ = some (.int .i64 z2))
        (first | exact ⟨d1, d2⟩ | exact ⟨m1, m2⟩)
        (first | (go_at_call 12; refine Calls.mono (ask_ln (B := b) (H := H) (Q := Q) _ (unhide L3).drew (by omega) z1 z2 rfl) ?_; rintro e w5 ⟨rfl, L5, b5⟩; have m1 := (b5.cell (p := ⟨g, o + i * 3 + 1, none⟩) (unhide hg)).trans d1; have m2 := (b5.cell (p := ⟨g, o + i * 3 + 2, none⟩) (unhide hg)).trans d2; replace L5 := hide L5; have B5 := hide ((unhide b3).trans (c := w5) ((⟨b5.os, b5.tape, b5.output, b5.size, b5.block⟩ : Below b wr w5).mono (unhide hNb))); clear b5))
      go_wp2
      go_roundw
      case rel => exact ⟨i + 1, _, _, by omega, by go_num, unhide L5, unhide af, by have := unhide has; show _ ≤ _; omega, unhide B5⟩
      case measure => simp [intOf]; omega
    · obtain rfl : i = n0 := by omega
      go_wp2_with fail
      refine (queue_ln wr (unhide L3) (by omega)).mono ?_
      rintro e w4 ⟨v4, rfl, E4, b4⟩
      have L4 := hide ((unhide L3).next b4)
      replace b4 := hide (bt (unhide b3) b4 (Nat.le_trans (unhide hNb) (unhide L3).low))
      by_cases hq : Q.length = 0
      · obtain ⟨a4, n4, c4, rfl, hn4⟩ := slice_form' E4
        obtain rfl : n4 = 0 := by omega
        clear E4 hn4
        replace hq := hide hq
        go_wp2_with fail
        refine (first_any w4).mono ?_
        rintro e w5 ⟨rfl, b5⟩
        replace b5 := hide (bt (unhide b4) b5 (Nat.le_trans (unhide hNb) (unhide L4).low))
        go_wp2
        go_ret
        exact ⟨rfl, by rw [← unhide hN]; exact unhide b5⟩
      · obtain ⟨g, cap, rfl, r⟩ : ∃ g cap, v4 = .slice (some ⟨g, 0, none⟩) Q.length cap ∧ Rb g cap Q w4 := by
          rcases E4 with ⟨_, e⟩ | ⟨g, cap, e, _, r⟩
          · rw [e] at hq; exact absurd rfl hq
          · exact ⟨g, cap, e, r⟩
        obtain ⟨y, hy⟩ : ∃ y, y = Q.getD (Q.length - 1) (0, 0) := ⟨_, rfl⟩
        have hq1 : Q.length - 1 < Q.length := by omega
        obtain ⟨q, hqq⟩ : ∃ q, Q.length = q + 1 := ⟨Q.length - 1, by omega⟩
        have d1 := r.fst hq1
        have d2 := r.snd hq1
        rw [← hy] at d1 d2
        have hmd : md y.2 := by rw [hy]; exact (unhide F3).ok.qm _ (getD_mem hq1)
        obtain ⟨es1, es2⟩ := edge_start (H := H) (unhide F3).ok.once (by omega : 0 < Q.length)
        rw [← hy] at es1 es2
        have hbl := blocks_len (H := H) (Q := Q) y.1
        obtain ⟨bl, hbl0⟩ : ∃ bl, bl = blocksD y.1 H Q := ⟨_, rfl⟩
        rw [← hbl0] at es1 es2 hbl
        have hlen9 : bl.length ≤ 300 := by omega
        have hymn : y.2 ≠ 0 := by have := hmd.1; omega
        replace hbl0 := hide hbl0
        replace es1 := hide es1
        replace es2 := hide es2
        replace hmd := hide hmd
        replace hy := hide hy
        have HL := hide hsum
        rw [hqq] at d1 d2
        have e9 : q + 1 - 1 = q := rfl
        rw [e9] at d1 d2
        have hq9 : q < 300 := by omega
        rw [hqq]
        replace hqq := hide hqq
        clear r E4 hq hq1 e9 hbl hsum hs3
        go_wp2_with fail
        go_region
        go_wp2_with fail
        refine (blocks_ln _ ((unhide L4).drewN _) (by have := unhide HL; omega) y.1 (unhide hbl0).symm).mono ?_
        rintro e w5 ⟨v5, rfl, I5, b5⟩
        obtain ⟨a5, c5, rfl⟩ := I5.form
        have L5 := hide (((unhide L4).drewN _).next b5)
        replace I5 := hide (I5.down (Nat.zero_le _))
        replace b5 := hide (bt (unhide b4).drew b5 (Nat.le_trans (unhide hNb) (unhide L4).low))
        clear d1 d2
        go_wp2_with fail
        go_loopw [9] (fun s wr => ∃ (k : Nat) (H Q : List En), k ≤ bl.length ∧ s = .int .i64 k ∧ Hid (Ln b H Q b wr) ∧ Hid (Fine H Q) ∧ Hid (H.length + Q.length ≤ 300) ∧ Hid (Wt y (bl.drop k) H Q ∨ (lookD y.1 Q = 0 ∧ lookD y.1 H = y.2)) ∧ Hid (Is 0 (.slice a5 bl.length c5) bl wr) ∧ Hid (Below N w wr)) (fun s _ => bl.length - (intOf s).toNat)
        case atStart => exact ⟨0, H, Q, Nat.zero_le _, rfl, unhide L5, unhide F3, by have := unhide HL; show _ ≤ _; omega, .inl (by rw [List.drop_zero]; exact unhide es1), unhide I5, unhide b5⟩
        case round =>
          obtain ⟨k, H6, Q6, hk, rfl, L6, F6, hs6, W6, I6, b6⟩ := hrel
          have hsum6 := unhide hs6
          by_cases hlk : k < bl.length
          · obtain ⟨r1, r2⟩ := edge_round hlk (unhide hmd) (unhide L6).srt (unhide F6) (unhide es2) (unhide W6)
            obtain ⟨gg, o, rfl, d1, hgg⟩ := (unhide I6).elem hlk
            obtain ⟨z, hz⟩ : ∃ z, z = bl.getD k 0 := ⟨_, rfl⟩
            rw [← hz] at d1 r1 r2
            replace hz := hide hz
            obtain ⟨m, hm⟩ : ∃ m, m = lookD y.1 Q6 := ⟨_, rfl⟩
            rw [← hm] at r1 r2
            have hls := hide (leave_ok z (unhide L6).srt (unhide F6).ok).2.1
            have hlf := hide (leave_fine z (unhide L6).srt (unhide F6)).1
            replace r1 := hide r1
            replace r2 := hide r2
            replace hm := hide hm
            replace hgg := hide hgg
            go_wp2_with fail
            refine (waits_ln wr (unhide L6) (by omega) y.1 (unhide hm).symm).mono ?_
            rintro e w7 ⟨rfl, b7⟩
            have L7 := hide ((unhide L6).next b7)
            have I7 := hide ((unhide I6).next b7)
            have d2 := (b7.cell (p := ⟨gg, o + k, none⟩) (unhide hgg)).trans d1
            replace b7 := hide (bt (unhide b6) b7 (Nat.le_trans (unhide hNb) (unhide L6).low))
            clear d1
            by_cases h0 : m = 0
            · obtain ⟨q1, q2⟩ := unhide r1 h0
              subst h0
              have Q2 := hide q2
              have Q1 := hide q1
              clear q1 q2
              go_wp2_with fail
              refine (holds_ln w7 (unhide L7) (by omega) z rfl).mono ?_
              rintro e w8 ⟨rfl, b8⟩
              have L8 := hide ((unhide L7).next b8)
              have I8 := hide ((unhide I7).next b8)
              replace b8 := hide (bt (unhide b7) b8 (Nat.le_trans (unhide hNb) (unhide L7).low))
              clear d2
              go_wp2_with fail
              refine (fits_any y.2 _ w8).mono ?_
              rw [unhide Q1]
              rintro e w9 ⟨rfl, b9⟩
              have L9 := hide ((unhide L8).next b9)
              have I9 := hide ((unhide I8).next b9)
              replace b9 := hide (bt (unhide b8) b9 (Nat.le_trans (unhide hNb) (unhide L8).low))
              go_wp2
              go_roundw
              case rel => exact ⟨k + 1, H6, Q6, by omega, by go_num, unhide L9, unhide F6, hsum6, by
                rcases unhide Q2 with h | h
                · exact .inl h
                · exact .inr ⟨(unhide hm).symm, h.2⟩, unhide I9, unhide b9⟩
              case measure => simp [intOf]; omega
            · have hm0 : (m == 0) = false := by simpa using h0
              have Q2 := hide (unhide r2 h0)
              replace h0 := hide h0
              go_wp2_with fail
              refine (leave_is w7 (unhide L7) (by omega) z (unhide I7)).mono ?_
              rintro e w8 ⟨gv, rfl, L8, b8, I8⟩
              replace L8 := hide L8
              replace I8 := hide I8
              replace b8 := hide ((unhide b7).trans (b8.mono (unhide hNb)))
              clear d2
              go_wp2
              go_roundw
              case rel => exact ⟨k + 1, _, _, by omega, by go_num, unhide L8, unhide hlf, by have := unhide hls; show _ ≤ _; omega, unhide Q2, unhide I8, unhide b8⟩
              case measure => simp [intOf]; omega
          · obtain rfl : k = bl.length := by omega
            have W7 := hide (edge_last (unhide F6) (unhide W6))
            go_wp2_with fail
            refine (first_any wr).mono ?_
            rintro e w7 ⟨rfl, b7⟩
            have L7 := hide ((unhide L6).next b7)
            replace b7 := hide (bt (unhide b6) b7 (Nat.le_trans (unhide hNb) (unhide L6).low))
            go_wp2_with fail
            refine (waits_ln w7 (unhide L7) (by omega) y.1 (unhide W7).1).mono ?_
            rintro e w8 ⟨rfl, b8⟩
            have L8 := hide ((unhide L7).next b8)
            replace b8 := hide (bt (unhide b7) b8 (Nat.le_trans (unhide hNb) (unhide L7).low))
            go_wp2_with fail
            refine (holds_ln w8 (unhide L8) (by omega) y.1 (unhide W7).2).mono ?_
            rintro e w9 ⟨rfl, b9⟩
            replace b9 := hide (bt (unhide b8) b9 (Nat.le_trans (unhide hNb) (unhide L8).low))
            go_wp2
            go_ret
            exact ⟨rfl, by rw [← unhide hN]; exact unhide b9⟩
set_option maxRecDepth 100000 in
set_option maxHeartbeats 4000000 in
theorem edges_out (a0 : Option Addr) (n0 c0 : Nat) (w : World) (h0 : n0 ≤ 9223372036854775807) (h : 300 < n0) :
    Calls Try.prog 4 #[.slice a0 n0 c0] w fun e w' => e = .returned (.bool true) ∧ Below w.heap.size w w' := by
  go_enter Try.func4, Try.ntmps4
  go_wp2_with fail
  refine (first_any w).mono ?_
  rintro e w1 ⟨rfl, b1⟩
  replace b1 := hide b1
  go_wp2_with fail
  refine (new_ln w1).mono ?_
  rintro e w2 ⟨rfl, L2, b2⟩
  replace b2 := hide (below_then (unhide b1) b2)
  replace L2 := hide L2
  go_wp2_with fail
  refine (first_any w2).mono ?_
  rintro e w3 ⟨rfl, b3⟩
  replace b3 := hide (below_then (unhide b2) b3)
  go_wp2
  go_ret
  exact ⟨rfl, unhide b3⟩
theorem laneEdges_walk (a0 : Option Addr) (n0 c0 : Nat) (Z : Nat → Nat → Int) (w : World) (s0 : RecsB 3 w.heap.size w a0 n0 Z) (lc0 : n0 ≤ c0) (cm0 : c0 ≤ maxLen) (_ : ∀ i, i < n0 → ∀ j, j < 3 → (Lit.int .i64 (Z i j)).wf = true) :
    Calls Try.prog 4 #[.slice a0 n0 c0] w fun e w' => e = .returned (.bool true) ∧ Below w.heap.size w w' := by
  unfold maxLen at cm0
  by_cases h : n0 ≤ 300
  · exact edges_in a0 n0 c0 Z w s0 h
  · exact edges_out a0 n0 c0 w (by omega) (by omega)
end Go.Proofs.Ytmdbmkekdpbliaa
