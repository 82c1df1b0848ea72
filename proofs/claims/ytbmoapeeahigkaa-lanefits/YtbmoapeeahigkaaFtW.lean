/- LaneFits' walk. -/
import Derived.Test.YtbmoapeeahigkaaFt
import Derived.Test.YtbmoapeeahigkaaGone
import Derived.Test.YtbmoapeeahigkaaServe
import Derived.Test.YtbmoapeeahigkaaStructs
import Derived.Deep.CutRange
import Derived.Deep.RegionHeld3
namespace Go.Proofs.Ytbmoapeeahigkaa
open Go.RowKit

theorem Mv.far {B b : Nat} {H Q : List En} {hv qv hv' qv' : Value} {w w' : World} (m : Mv b hv qv hv' qv' w w') (l : La B H Q b hv qv w) {k : Nat} {cur : Array Value} (h : w.heap[k]? = some (.cells cur 31 (0, 0))) : w'.heap[k]? = some (.cells cur 31 (0, 0)) := by
  refine (m.block k (heap_lt h) (fun e => ?_) (fun e => ?_) (fun e => ?_)).trans h
  · rw [e, l.blk] at h; cases h
  · obtain ⟨c2, h2⟩ := l.hr.ty k e
    rw [h2] at h; cases h
  · obtain ⟨c2, h2⟩ := l.qr.ty k e
    rw [h2] at h; cases h
theorem ask_ln3 {B b : Nat} {H Q : List En} (w : World) (h : Ln B H Q b w) (hn : H.length + Q.length < 999999) (who m : Int) {k : Nat} {cur : Array Value} (hk : w.heap[k]? = some (.cells cur 31 (0, 0))) :
    Calls Try.prog 11 #[.pointer (some ⟨b, 0, none⟩), .int .i64 who, .int .i64 m] w fun e w' => e = .returned (.int .i64 (askD who m H Q).1) ∧ Ln B (askD who m H Q).2.1 (askD who m H Q).2.2 b w' ∧ Below B w w' ∧ w'.heap[k]? = some (.cells cur 31 (0, 0)) := by
  obtain ⟨hv, qv, l⟩ := h
  refine (ask_any w l (by omega) (by omega) who m).mono ?_
  rintro e w' ⟨h1, hv', qv', L, M⟩
  exact ⟨h1, ⟨hv', qv', L⟩, M.below l, M.far l hk⟩
theorem leave_ln3 {B b : Nat} {H Q : List En} (w : World) (h : Ln B H Q b w) (hn : H.length + Q.length < 999999) (who : Int) {k : Nat} {cur : Array Value} (hk : w.heap[k]? = some (.cells cur 31 (0, 0))) :
    Calls Try.prog 14 #[.pointer (some ⟨b, 0, none⟩), .int .i64 who] w fun e w' => ∃ gv, e = .returned gv ∧ Ln B (leaveD who H Q).2.1 (leaveD who H Q).2.2 b w' ∧ Below B w w' ∧ w'.heap[k]? = some (.cells cur 31 (0, 0)) := by
  obtain ⟨hv, qv, l⟩ := h
  refine (leave_any w l hn who).mono ?_
  rintro e w' ⟨gv, hv', qv', h1, h2, L, M⟩
  exact ⟨gv, h1, ⟨hv', qv', L⟩, M.below l, M.far l hk⟩
theorem op_cells {w : World} {p : Nat} {a c d : Int} (h : w.heap[p]? = some (.cells #[.int .i64 a, .int .i64 c, .int .i64 d] 31 (0, 0))) : w.cell? ⟨p, 0, none⟩ = some (.int .i64 a) ∧ w.cell? ⟨p, 1, none⟩ = some (.int .i64 c) ∧ w.cell? ⟨p, 2, none⟩ = some (.int .i64 d) := by
  simp [World.cell?, h]
set_option maxRecDepth 100000 in
set_option maxHeartbeats 30000000 in
theorem fits_in (a0 : Option Addr) (n0 c0 : Nat) (Z : Nat → Nat → Int) (w : World) (s0 : RecsB 3 w.heap.size w a0 n0 Z) (h0 : n0 ≤ 300) :
    Calls Try.prog 4 #[.slice a0 n0 c0] w fun e w' => e = .returned (.bool true) ∧ Below w.heap.size w w' := by
  obtain ⟨N, hN⟩ : ∃ N, N = w.heap.size := ⟨_, rfl⟩
  rw [← hN] at s0
  replace s0 := hide s0
  go_enter Try.func4, Try.ntmps4
  go_wp2_with fail
  refine (first_any w).mono ?_
  rintro e w1 ⟨rfl, b1⟩
  rw [← hN] at b1
  replace b1 := hide b1
  replace hN := hide hN
  go_wp2_with fail
  refine (new_ln w1).mono ?_
  rintro e w2 ⟨rfl, L2, b2⟩
  obtain ⟨b, hb⟩ : ∃ b, b = w1.heap.size := ⟨_, rfl⟩
  rw [← hb] at L2 b2 ⊢
  have hNb : Hid (N ≤ b) := by have := (unhide b1).size; rw [unhide hN, hb]; exact this
  replace b2 := hide ((unhide b1).trans (b2.mono (unhide hNb)))
  replace hb := hide hb
  replace L2 := hide L2
  go_wp2_with fail
  go_loopw [4] (fun s wr => ∃ (i : Nat) (H Q : List En), i ≤ n0 ∧ s = .int .i64 i ∧ Hid (Ln b H Q b wr) ∧ Hid (Fine H Q) ∧ Hid (H.length + Q.length ≤ i) ∧ Hid (Below N w wr)) (fun s _ => n0 - (intOf s).toNat)
  case atStart => exact ⟨0, [], [], Nat.zero_le _, rfl, unhide L2, fine_nil, Nat.le_refl _, unhide b2⟩
  case round =>
    obtain ⟨i, H0, Q0, hi, rfl, L3, F3, hs3, b3⟩ := hrel
    by_cases hlt : i < n0
    · obtain ⟨g, o, rfl, hg, hc⟩ := ((unhide s0).later (unhide b3)).at hlt
      have d0 := hc 0 (by decide)
      have d1 := hc 1 (by decide)
      have d2 := hc 2 (by decide)
      rw [Nat.add_zero] at d0
      obtain ⟨z0, hz0⟩ : ∃ z, z = Z i 0 := ⟨_, rfl⟩
      obtain ⟨z1, hz1⟩ : ∃ z, z = Z i 1 := ⟨_, rfl⟩
      obtain ⟨z2, hz2⟩ : ∃ z, z = Z i 2 := ⟨_, rfl⟩
      rw [← hz0] at d0
      rw [← hz1] at d1
      rw [← hz2] at d2
      have hsum := unhide hs3
      clear hc hz0 hz1 hz2
      replace hg := hide hg
      go_upto_if 43 with fail
      obtain ⟨w3, hw3⟩ : ∃ w3, w3 = wr.alloc (.cells #[.int .i64 z0, .int .i64 z1, .int .i64 z2] 31) := ⟨_, rfl⟩
      obtain ⟨p, hp⟩ : ∃ p, p = wr.heap.size := ⟨_, rfl⟩
      have ob : w3.heap[p]? = some (.cells #[.int .i64 z0, .int .i64 z1, .int .i64 z2] 31 (0, 0)) := by rw [hw3, hp]; exact heap_alloc_new wr _
      have bw : Below wr.heap.size wr w3 := by rw [hw3]; exact below_new wr _
      have L4 := hide ((unhide L3).next bw)
      have b4 := hide (bt (unhide b3) bw (Nat.le_trans (unhide hNb) (unhide L3).low))
      rw [← hw3, ← hp]
      replace ob := hide ob
      replace hw3 := hide hw3
      replace hp := hide hp
      clear bw d0 d1 d2
      go_cut [5, 6, 7, 8] from 31 to 226 (fun _ _ _ _ wc => ∃ H Q : List En, Hid (Ln b H Q b wc) ∧ Hid (Fine H Q) ∧ Hid (H.length + Q.length ≤ i + 1) ∧ Hid (Below N w wc))
      case first => as_aux_lemma =>
        cases hz : (z0 == 0)
        · obtain ⟨c0', c1, c2⟩ := op_cells (unhide ob)
          obtain ⟨lf, l1, l2⟩ := leave_fine z1 (unhide L4).srt (unhide F3)
          have hls := (leave_ok z1 (unhide L4).srt (unhide F3).ok).2.1
          replace lf := hide lf
          replace l1 := hide l1
          replace l2 := hide l2
          go_wp2_with fail
          refine (leave_ln3 w3 (unhide L4) (by omega) z1 (unhide ob)).mono ?_
          rintro e w5 ⟨gv, rfl, L5, b5, ob5⟩
          clear c0' c1 c2
          obtain ⟨c0', c1, c2⟩ := op_cells ob5
          replace ob5 := hide ob5
          replace L5 := hide L5
          replace b5 := hide ((unhide b4).trans (b5.mono (unhide hNb)))
          go_wp2_with fail
          refine (holds_ln w5 (unhide L5) (by omega) z1 (unhide l1)).mono ?_
          rintro e w6 ⟨rfl, b6⟩
          have ob6 := hide ((b6.block _ (heap_lt (unhide ob5))).trans (unhide ob5))
          clear c0' c1 c2
          obtain ⟨c0', c1, c2⟩ := op_cells (unhide ob6)
          have L6 := hide ((unhide L5).next b6)
          replace b6 := hide (bt (unhide b5) b6 (Nat.le_trans (unhide hNb) (unhide L5).low))
          go_wp2_with fail
          refine (waits_ln w6 (unhide L6) (by omega) z1 (unhide l2)).mono ?_
          rintro e w7 ⟨rfl, b7⟩
          have L7 := hide ((unhide L6).next b7)
          replace b7 := hide (bt (unhide b6) b7 (Nat.le_trans (unhide hNb) (unhide L6).low))
          clear c0' c1 c2
          go_wp2
          go_meet
          case rel => exact ⟨_, _, unhide L7, unhide lf, by show _ ≤ _; omega, unhide b7⟩
        · obtain ⟨c0', c1, c2⟩ := op_cells (unhide ob)
          obtain ⟨af, a1, a2⟩ := ask_fine z1 z2 (unhide L4).srt (unhide F3)
          have has := (ask_ok z1 z2 (unhide L4).srt (unhide F3).ok).2.1
          replace af := hide af
          go_wp2_with fail
          refine (holds_ln w3 (unhide L4) (by omega) z1 rfl).mono ?_
          rintro e w5 ⟨rfl, b5⟩
          have ob5 := hide ((b5.block _ (heap_lt (unhide ob))).trans (unhide ob))
          clear c0' c1 c2
          obtain ⟨c0', c1, c2⟩ := op_cells (unhide ob5)
          have L5 := hide ((unhide L4).next b5)
          replace b5 := hide (bt (unhide b4) b5 (Nat.le_trans (unhide hNb) (unhide L4).low))
          replace a1 := hide a1
          replace a2 := hide a2
          go_wp2_with fail
          refine (ask_ln3 w5 (unhide L5) (by omega) z1 z2 (unhide ob5)).mono ?_
          rintro e w6 ⟨rfl, L6, b6, ob6⟩
          clear c0' c1 c2
          obtain ⟨c0', c1, c2⟩ := op_cells ob6
          replace ob6 := hide ob6
          replace L6 := hide L6
          replace b6 := hide ((unhide b5).trans (b6.mono (unhide hNb)))
          go_wp2_with fail
          refine (holds_ln w6 (unhide L6) (by omega) z1 rfl).mono ?_
          rintro e w7 ⟨rfl, b7⟩
          have ob7 := hide ((b7.block _ (heap_lt (unhide ob6))).trans (unhide ob6))
          clear c0' c1 c2
          obtain ⟨c0', c1, c2⟩ := op_cells (unhide ob7)
          have L7 := hide ((unhide L6).next b7)
          replace b7 := hide (bt (unhide b6) b7 (Nat.le_trans (unhide hNb) (unhide L6).low))
          have fin : Hid (∃ H Q : List En, (∀ w', Below w7.heap.size w7 w' → Ln b H Q b w') ∧ Fine H Q ∧ H.length + Q.length ≤ i + 1 ∧ ∀ w', Below w7.heap.size w7 w' → Below N w w') := ⟨_, _, fun w' hb' => (unhide L7).next hb', unhide af, by omega, fun w' hb' => bt (unhide b7) hb' (Nat.le_trans (unhide hNb) (unhide L7).low)⟩
          have A1 := a1
          have A2 := a2
          generalize lookD z1 (askD z1 z2 H0 Q0).2.1 = now at *
          generalize lookD z1 H0 = was at *
          generalize hr : (askD z1 z2 H0 Q0).1 = r at *
          cases hr1 : (r == 1)
          · have e2 := unhide A2 (by simpa using hr1)
            have hne : (r != 1) = true := by unfold bne; rw [hr1]; rfl
            have hnw : (now != was) = false := by rw [e2]; simp
            clear A1 A2 a1 a2 hr
            go_wp2
            go_meet
            case rel =>
              obtain ⟨H1, Q1, k1, k2, k3, k4⟩ := unhide fin
              exact ⟨H1, Q1, k1 _ (Below.refl _ _), k2, k3, k4 _ (Below.refl _ _)⟩
          · obtain ⟨e2, e3⟩ := unhide A1 (by simpa using hr1)
            have hne : (r != 1) = false := by unfold bne; rw [hr1]; rfl
            replace e2 := hide e2
            replace e3 := hide e3
            clear A1 A2 a1 a2 hr
            go_wp2_with fail
            refine (covers_any now z2 w7).mono ?_
            rw [unhide e2]
            rintro e w8 ⟨rfl, b8⟩
            replace b8 := hide b8
            clear c0' c1 c2
            go_wp2_with fail
            refine (covers_any now was w8).mono ?_
            rw [unhide e3]
            rintro e w9 ⟨rfl, b9⟩
            replace b9 := hide (below_then (unhide b8) b9)
            go_wp2
            go_meet
            case rel =>
              obtain ⟨H1, Q1, k1, k2, k3, k4⟩ := unhide fin
              exact ⟨H1, Q1, k1 _ (unhide b9), k2, k3, k4 _ (unhide b9)⟩
      obtain ⟨H, Q, L5, F5, hs5, b5⟩ := hcut
      have hsm := unhide hs5
      go_wp2_with fail
      refine (holders_ln wc (unhide L5) (by omega)).mono ?_
      rintro e wA ⟨vA, rfl, EA, bA⟩
      obtain ⟨aA, nA, cA, rfl, hnA⟩ := slice_form' EA
      have hnA9 : nA < 999 := by omega
      replace hnA := hide hnA
      have LA := hide ((unhide L5).next bA)
      replace EA := hide EA
      replace bA := hide (bt (unhide b5) bA (Nat.le_trans (unhide hNb) (unhide L5).low))
      go_wp2_with fail
      refine (queue_ln wA (unhide LA) (by omega)).mono ?_
      rintro e wB ⟨vB, rfl, EB, bB⟩
      obtain ⟨aB, nB, cB, rfl, hnB⟩ := slice_form' EB
      have hnB9 : nB < 999 := by omega
      replace hnB := hide hnB
      have LB := hide ((unhide LA).next bB)
      have EA2 := hide ((unhide EA).next bB)
      replace EB := hide EB
      replace bB := hide (bt (unhide bA) bB (Nat.le_trans (unhide hNb) (unhide LA).low))
      go_wp2_with fail
      go_loopw [11] (fun s wx => ∃ x : Nat, x ≤ nA ∧ s = .int .i64 x ∧ Hid (Below wB.heap.size wB wx)) (fun s _ => nA - (intOf s).toNat)
      case atStart => exact ⟨0, Nat.zero_le _, rfl, Below.refl _ _⟩
      case round =>
        obtain ⟨x, hx, rfl, bx⟩ := hrel
        by_cases hlx : x < nA
        · go_wp2_with fail
          go_loopw [12] (fun s wy => ∃ y : Nat, y ≤ x ∧ s = .int .i64 y ∧ Hid (Below wB.heap.size wB wy)) (fun s _ => x - (intOf s).toNat)
          case atStart => exact ⟨0, Nat.zero_le _, rfl, unhide bx⟩
          case round =>
            obtain ⟨y, hy, rfl, bY⟩ := hrel
            by_cases hly : y < x
            · as_aux_lemma =>
                obtain ⟨g2, rfl, r⟩ : ∃ g2, aA = some ⟨g2, 0, none⟩ ∧ Rb g2 cA H wr := by
                  rcases (unhide EA2).next (unhide bY) with ⟨e, _⟩ | ⟨g', cap', e, _, r⟩
                  · injection e with _ e2 _; omega
                  · injection e with e1 _ e2
                    subst e1 e2
                    exact ⟨g', rfl, r⟩
                have hxH : x < H.length := by have := unhide hnA; omega
                obtain ⟨f1, f2⟩ := hold_facts (unhide L5).srt (unhide F5) hly hxH
                obtain ⟨ex, hex⟩ : ∃ e, e = H.getD x (0, 0) := ⟨_, rfl⟩
                obtain ⟨ey, hey⟩ : ∃ e, e = H.getD y (0, 0) := ⟨_, rfl⟩
                have d1 := r.fst hxH
                have d2 := r.snd hxH
                have d3 := r.fst (show y < H.length by omega)
                have d4 := r.snd (show y < H.length by omega)
                rw [← hex] at d1 d2 f1 f2
                rw [← hey] at d3 d4 f1 f2
                have hgl := hide r.lt
                replace f1 := hide f1
                have f3 : ¬ (ex.1 ≤ ey.1) := by omega
                have f4 : decide (ex.1 ≤ ey.1) = false := by simp; omega
                clear hex hey r hxH
                have q1 : (x : Int) < (nA : Int) := by omega
                have q2 : (y : Int) < (nA : Int) := by omega
                go_wp2_with fail
                go_region_held3 (fun wz => wz.cell? ⟨g2, x * 2, none⟩ = some (.int .i64 ex.1) ∧ wz.cell? ⟨g2, x * 2 + 1, none⟩ = some (.int .i64 ex.2) ∧ wz.cell? ⟨g2, y * 2, none⟩ = some (.int .i64 ey.1) ∧ wz.cell? ⟨g2, y * 2 + 1, none⟩ = some (.int .i64 ey.2))
                  (first | exact ⟨d1, d2, d3, d4⟩ | exact ⟨m1, m2, m3, m4⟩)
                  (first | (go_at_call 27; refine Calls.mono (fits_any ex.2 ey.2 _) ?_; rw [unhide f1]; rintro e w5 ⟨rfl, k5⟩; have m1 := (k5.cell (p := ⟨g2, x * 2, none⟩) (unhide hgl)).trans d1; have m2 := (k5.cell (p := ⟨g2, x * 2 + 1, none⟩) (unhide hgl)).trans d2; have m3 := (k5.cell (p := ⟨g2, y * 2, none⟩) (unhide hgl)).trans d3; have m4 := (k5.cell (p := ⟨g2, y * 2 + 1, none⟩) (unhide hgl)).trans d4; have K5 := hide (below_then (unhide bY) (w' := wr) (w'' := w5) ⟨k5.os, k5.tape, k5.output, k5.size, k5.block⟩); clear k5))
                go_wp2
                go_roundw
                case rel => exact ⟨y + 1, by omega, by go_num, unhide K5⟩
                case measure => simp [intOf]; omega
            · obtain rfl : y = x := by omega
              go_wp2
              go_roundw
              case rel => exact ⟨y + 1, by omega, by go_num, unhide bY⟩
              case measure => simp [intOf]; omega
        · obtain rfl : x = nA := by omega
          go_wp2_with fail
          go_loopw [13, 14] (fun s _ wx => ∃ t : Nat, t ≤ nB ∧ s = .int .i64 t ∧ Hid (Below wB.heap.size wB wx)) (fun s _ _ => nB - (intOf s).toNat)
          case atStart => exact ⟨0, Nat.zero_le _, rfl, unhide bx⟩
          case round =>
            obtain ⟨t, ht, rfl, bT⟩ := hrel
            by_cases hlt4 : t < nB
            · as_aux_lemma =>
                obtain ⟨g3, rfl, r⟩ : ∃ g3, aB = some ⟨g3, 0, none⟩ ∧ Rb g3 cB Q wr := by
                  rcases (unhide EB).next (unhide bT) with ⟨e, _⟩ | ⟨g', cap', e, _, r⟩
                  · injection e with _ e2 _; omega
                  · injection e with e1 _ e2
                    subst e1 e2
                    exact ⟨g', rfl, r⟩
                have htQ : t < Q.length := by have := unhide hnB; omega
                obtain ⟨bl, hbl⟩ : ∃ bl, bl = blocksD (Q.getD t (0, 0)).1 H Q := ⟨_, rfl⟩
                obtain ⟨f1, f2, f3, f4, f5, f6⟩ := wait_facts (unhide F5) htQ bl hbl
                obtain ⟨y, hy⟩ : ∃ y, y = Q.getD t (0, 0) := ⟨_, rfl⟩
                have d1 := r.fst htQ
                have d2 := r.snd htQ
                rw [← hy] at d1 d2 f3 f4 f5 f6 hbl
                obtain ⟨hx, hhx⟩ : ∃ hx, lookD y.1 H = hx := ⟨_, rfl⟩
                rw [hhx] at f5 f6
                have R := hide r
                have hgl := hide r.lt
                replace f3 := hide f3
                replace f4 := hide f4
                replace f5 := hide f5
                replace f6 := hide f6
                replace hbl := hide hbl
                replace hhx := hide hhx
                replace hy := hide hy
                replace htQ := hide htQ
                have hbl9 : bl.length < 999 := by omega
                have L6 := hide ((unhide LB).next (unhide bT))
                clear r
                have q1 : (t : Int) < (nB : Int) := by omega
                go_wp2_with fail
                refine (blocks_ln wr (unhide L6) (by omega) y.1 (unhide hbl).symm).mono ?_
                rintro e w5 ⟨v5, rfl, I5, k5⟩
                obtain ⟨a5, c5, rfl⟩ := I5.form
                obtain ⟨n5, hn5⟩ : ∃ n5, n5 = bl.length := ⟨_, rfl⟩
                rw [← hn5] at I5 f1 hbl9 ⊢
                have R5 := hide I5.rd
                have L7 := hide ((unhide L6).next k5)
                have k1 := (k5.cell (p := ⟨g3, t * 2, none⟩) (unhide hgl)).trans d1
                have k2 := (k5.cell (p := ⟨g3, t * 2 + 1, none⟩) (unhide hgl)).trans d2
                have hgl5 := hide (Nat.lt_of_lt_of_le (unhide hgl) k5.size)
                have RQ5 := hide ((unhide R).next k5)
                have b6 := hide (below_then (unhide bT) k5)
                have p1 : ((n5 : Int) == 0) = false := by rw [beq_eq_false_iff_ne]; omega
                have p2 : ¬ (n5 = 0) := by omega
                replace hn5 := hide hn5
                have hbl99 : Hid (bl.length < 100000000) := by show _ < _; rw [← unhide hn5]; omega
                clear I5 k5 d1 d2
                go_wp2_with fail
                go_region_held3 (fun wz => wz.cell? ⟨g3, t * 2, none⟩ = some (.int .i64 y.1) ∧ wz.cell? ⟨g3, t * 2 + 1, none⟩ = some (.int .i64 y.2))
                  (first | exact ⟨k1, k2⟩ | exact ⟨m1, m2⟩ | exact ⟨o1, o2⟩ | exact ⟨p1', p2'⟩)
                  (first | (go_at_call 28; refine Calls.mono (has_any _ bl y.1 _ (unhide R5) (unhide hbl99)) ?_; rw [unhide f3]; rintro e w6 ⟨rfl, rfl⟩) | (go_at_call 18; refine Calls.mono (waits_ln (B := b) (H := H) (Q := Q) _ (unhide L7).drew (by omega) y.1 (unhide f4)) ?_; rintro e w6 ⟨rfl, b7⟩; have m1 := (b7.cell (p := ⟨g3, t * 2, none⟩) (unhide hgl5)).trans k1; have m2 := (b7.cell (p := ⟨g3, t * 2 + 1, none⟩) (unhide hgl5)).trans k2; have L8 := hide ((unhide L7).drew.next b7); have sz6 := hide (Nat.lt_of_lt_of_le (unhide hgl5) b7.size); have K6 := hide (⟨b7.os, b7.tape, b7.output, b7.size, b7.block⟩ : Below w5.heap.size w5 w6); clear b7) | (go_at_call 16; refine Calls.mono (holds_ln (B := b) (H := H) (Q := Q) _ (unhide L8) (by omega) y.1 (unhide hhx)) ?_; rintro e w7 ⟨rfl, b8⟩; have o1 := (b8.cell (p := ⟨g3, t * 2, none⟩) (unhide sz6)).trans m1; have o2 := (b8.cell (p := ⟨g3, t * 2 + 1, none⟩) (unhide sz6)).trans m2; have sz7 := hide (Nat.lt_of_lt_of_le (unhide sz6) b8.size); have K7 := hide (below_then (unhide K6) b8); clear b8) | (go_at_call 26; refine Calls.mono (covers_any y.2 hx _) ?_; rw [unhide f5]; rintro e w8 ⟨rfl, b9⟩; have p1' := (b9.cell (p := ⟨g3, t * 2, none⟩) (unhide sz7)).trans o1; have p2' := (b9.cell (p := ⟨g3, t * 2 + 1, none⟩) (unhide sz7)).trans o2; have K8 := hide (below_then (unhide K7) b9); clear b9))
                have bb8 := hide (below_then (unhide b6) (unhide K8))
                clear m1 m2 o1 o2 k1 k2 p1' p2'
                go_wp2_with fail
                go_loopw [15] (fun s wz => ∃ z : Nat, z ≤ t ∧ s = .int .i64 z ∧ Hid (Below w5.heap.size w5 wz)) (fun s _ => t - (intOf s).toNat)
                case atStart => exact ⟨0, Nat.zero_le _, rfl, unhide K8⟩
                case round =>
                  obtain ⟨z, hz, rfl, bz⟩ := hrel
                  by_cases hlz : z < t
                  · as_aux_lemma =>
                      obtain ⟨s1, s2⟩ := unhide f6 z hlz
                      obtain ⟨ez, hez⟩ : ∃ e, e = Q.getD z (0, 0) := ⟨_, rfl⟩
                      have r9 := (unhide RQ5).next (unhide bz)
                      have e1 := r9.fst (unhide htQ)
                      have e2 := r9.fst (show z < Q.length by have := unhide htQ; omega)
                      rw [← unhide hy] at e1
                      rw [← hez] at e2 s1 s2
                      have hgl9 := hide r9.lt
                      have L9 := hide ((unhide L7).next (unhide bz))
                      have R9 := hide ((unhide R5).next (unhide bz))
                      replace s1 := hide s1
                      obtain ⟨hzv, hhz⟩ : ∃ v, lookD ez.1 H = v := ⟨_, rfl⟩
                      rw [hhz] at s2
                      replace hhz := hide hhz
                      have q3 : (z : Int) < (nB : Int) := by omega
                      have q4 : z < nB := by omega
                      clear hez r9
                      replace s2 := hide s2
                      go_wp2_with fail
                      refine (has_any _ bl ez.1 wr (unhide R9) (unhide hbl99)).mono ?_
                      rw [unhide s1]
                      rintro e wz1 ⟨rfl, rfl⟩
                      go_wp2_with fail
                      refine (holds_ln _ (unhide L9) (by omega) y.1 (unhide hhx)).mono ?_
                      rintro e wz2 ⟨rfl, u2⟩
                      have L10 := hide ((unhide L9).next u2)
                      have e3 := (u2.cell (p := ⟨g3, z * 2, none⟩) (unhide hgl9)).trans e2
                      have U2 := hide (below_then (unhide bz) u2)
                      clear e1 e2 u2
                      cases hx0 : (hx == 0)
                      · have hx1 : (hx != 0) = true := by unfold bne; rw [hx0]; rfl
                        have s3 : (hzv == 0) = false := by
                          rcases unhide s2 with h | h
                          · rw [h] at hx0; cases hx0
                          · exact h
                        go_wp2_with fail
                        refine (holds_ln _ (unhide L10) (by omega) ez.1 (unhide hhz)).mono ?_
                        rintro e wz3 ⟨rfl, u3⟩
                        have U3 := hide (below_then (unhide U2) u3)
                        clear e3 u3
                        go_wp2
                        go_roundw
                        case rel => exact ⟨z + 1, by omega, by go_num, unhide U3⟩
                        case measure => simp [intOf]; omega
                      · have hx1 : (hx != 0) = false := by unfold bne; rw [hx0]; rfl
                        clear e3
                        go_wp2
                        go_roundw
                        case rel => exact ⟨z + 1, by omega, by go_num, unhide U2⟩
                        case measure => simp [intOf]; omega
                  · obtain rfl : z = t := by omega
                    go_wp2
                    go_roundw
                    case rel => exact ⟨z + 1, by omega, by go_num, below_then (unhide b6) (unhide bz)⟩
                    case measure => simp [intOf]; omega
            · obtain rfl : t = nB := by omega
              go_wp2
              go_roundw
              case rel => exact ⟨i + 1, H, Q, by omega, by go_num, (unhide LB).next (unhide bT), unhide F5, unhide hs5, bt (unhide bB) (unhide bT) (Nat.le_trans (unhide hNb) (unhide LB).low)⟩
              case measure => simp [intOf]; omega
    · obtain rfl : i = n0 := by omega
      go_wp2_with fail
      refine (first_any _).mono ?_
      rintro e w7 ⟨rfl, b7⟩
      replace b7 := hide (bt (unhide b3) b7 (Nat.le_trans (unhide hNb) (unhide L3).low))
      go_wp2
      go_ret
      exact ⟨rfl, by rw [← unhide hN]; exact unhide b7⟩
end Go.Proofs.Ytbmoapeeahigkaa
