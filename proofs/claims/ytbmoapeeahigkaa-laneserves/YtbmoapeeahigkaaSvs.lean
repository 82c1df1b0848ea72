/- LaneServes. -/
import Derived.Test.YtbmoapeeahigkaaServe
import Derived.Test.YtbmoapeeahigkaaStructs
namespace Go.Proofs.Ytbmoapeeahigkaa
open Go.RowKit
variable {B : Nat} {H Q : List En} {b : Nat}

/-- A lane in order: n entries at most, of k at most. -/
structure Sv (H Q : List En) (n k : Nat) : Prop where
  ok : Ok H Q
  sum : H.length + Q.length ≤ n
  who : ∃ U : List Int, U.length ≤ k ∧ (∀ x ∈ H, x.1 ∈ U) ∧ ∀ x ∈ Q, x.1 ∈ U
theorem sv_nil : Sv [] [] 0 0 := ⟨ok_nil, Nat.le_refl _, [], Nat.le_refl _, fun x h => (by cases h), fun x h => (by cases h)⟩
theorem sv_ask {n k : Nat} (who m : Int) (hs : Srt H) (h : Sv H Q n k) : Sv (askD who m H Q).2.1 (askD who m H Q).2.2 (n + 1) (k + 1) := by
  obtain ⟨h1, h2, h3, h4⟩ := ask_ok who m hs h.ok
  obtain ⟨U, u1, u2, u3⟩ := h.who
  refine ⟨h1, by have := h.sum; omega, who :: U, by simp; omega, fun x hx => ?_, fun x hx => ?_⟩
  · rcases h3 x hx with e | ⟨z, hz, e⟩
    · rw [e]; exact List.mem_cons_self
    · rw [← e]; exact List.mem_cons_of_mem _ (u2 z hz)
  · rcases h4 x hx with e | ⟨z, hz, e⟩
    · rw [e]; exact List.mem_cons_self
    · rw [← e]; exact List.mem_cons_of_mem _ (u3 z hz)
theorem sv_leave {n k : Nat} (who : Int) (hs : Srt H) (h : Sv H Q n k) : Sv (leaveD who H Q).2.1 (leaveD who H Q).2.2 n k := by
  obtain ⟨h1, h2, h3, h4⟩ := leave_ok who hs h.ok
  obtain ⟨U, u1, u2, u3⟩ := h.who
  refine ⟨h1, by have := h.sum; omega, U, u1, fun x hx => ?_, fun x hx => ?_⟩
  · rcases (h3 x hx).2 with ⟨z, hz, e⟩ | ⟨z, hz, e⟩
    · rw [← e]; exact u2 z hz
    · rw [← e]; exact u3 z hz
  · obtain ⟨z, hz, e⟩ := (h4 x hx).2
    rw [← e]; exact u3 z hz
theorem filter_lt {U : List Int} {a : Int} (h : a ∈ U) : (U.filter (fun x => !(x == a))).length < U.length := by
  rw [List.length_filter_lt_length_iff_exists]
  exact ⟨a, h, by simp⟩
theorem sv_out {n k : Nat} {y : En} (hs : Srt H) (h : Sv H Q n (k + 1)) (hy : y ∈ H) : Sv (leaveD y.1 H Q).2.1 (leaveD y.1 H Q).2.2 n k := by
  obtain ⟨h1, h2, h3, h4⟩ := leave_ok y.1 hs h.ok
  obtain ⟨U, u1, u2, u3⟩ := h.who
  have hl := filter_lt (u2 y hy)
  refine ⟨h1, by have := h.sum; omega, U.filter (fun x => !(x == y.1)), by omega, fun x hx => ?_, fun x hx => ?_⟩
  · obtain ⟨e1, e2⟩ := h3 x hx
    rw [List.mem_filter]
    refine ⟨?_, by simpa using e1⟩
    rcases e2 with ⟨z, hz, e⟩ | ⟨z, hz, e⟩
    · rw [← e]; exact u2 z hz
    · rw [← e]; exact u3 z hz
  · obtain ⟨e1, z, hz, e⟩ := h4 x hx
    rw [List.mem_filter]
    exact ⟨by rw [← e]; exact u3 z hz, by simpa using e1⟩
theorem sv_some {n k : Nat} (h : Sv H Q n k) (he : (H.length == 0 && Q.length == 0) = false) : 0 < H.length ∧ 0 < k := by
  have hH : 0 < H.length := by
    cases H with
    | nil =>
      cases Q with
      | nil => simp at he
      | cons x r => have := h.ok.first x r rfl; simp [fitsL] at this
    | cons x r => simp
  refine ⟨hH, ?_⟩
  obtain ⟨U, u1, u2, _⟩ := h.who
  cases H with
  | nil => simp at hH
  | cons x r =>
    have := u2 x List.mem_cons_self
    have := List.length_pos_of_mem this
    omega
set_option maxRecDepth 100000 in
set_option maxHeartbeats 4000000 in
theorem serves_in (a0 : Option Addr) (n0 c0 : Nat) (Z : Nat → Nat → Int) (a1 : Option Addr) (n1 c1 : Nat) (l : List Int) (w : World) (s0 : RecsB 3 w.heap.size w a0 n0 Z) (s1 : SegK .i64 w a1 n1 l) (h0 : n0 ≤ 300) (h1 : n1 ≤ 100) :
    Calls Try.prog 5 #[.slice a0 n0 c0, .slice a1 n1 c1] w fun e w' => e = .returned (.bool true) ∧ Below w.heap.size w w' := by
  obtain ⟨N, hN⟩ : ∃ N, N = w.heap.size := ⟨_, rfl⟩
  rw [← hN] at s0
  replace s0 := hide s0
  replace s1 := hide s1
  go_enter Try.func5, Try.ntmps5
  go_wp2_with fail
  refine (first_any w).mono ?_
  rintro e w1 ⟨rfl, b1⟩
  rw [← hN] at b1
  replace b1 := hide b1
  replace hN := hide hN
  go_wp2_with fail
  refine (new_ln w1).mono ?_
  rintro e w2 ⟨rfl, L2, b2⟩
  obtain ⟨b, hb⟩ : ∃ b, b = w1.heap.size := ⟨_, rfl⟩
  rw [← hb] at L2 b2 ⊢
  have hNb : Hid (N ≤ b) := by have := (unhide b1).size; rw [unhide hN, hb]; exact this
  replace b2 := hide ((unhide b1).trans (b2.mono (unhide hNb)))
  replace hb := hide hb
  replace L2 := hide L2
  go_wp2_with fail
  go_loopw [6] (fun s wr => ∃ (i : Nat) (H Q : List En), i ≤ n0 ∧ s = .int .i64 i ∧ Hid (Ln b H Q b wr) ∧ Hid (Sv H Q i i) ∧ Hid (Below N w wr)) (fun s _ => n0 - (intOf s).toNat)
  case atStart => exact ⟨0, [], [], Nat.zero_le _, rfl, unhide L2, sv_nil, unhide b2⟩
  case round =>
    obtain ⟨i, H, Q, hi, rfl, L3, S3, b3⟩ := hrel
    by_cases hlt : i < n0
    · obtain ⟨g, o, rfl, hg, hc⟩ := ((unhide s0).later (unhide b3)).at hlt
      have d1 := hc 1 (by decide)
      have d2 := hc 2 (by decide)
      obtain ⟨z1, hz1⟩ : ∃ z, z = Z i 1 := ⟨_, rfl⟩
      obtain ⟨z2, hz2⟩ : ∃ z, z = Z i 2 := ⟨_, rfl⟩
      rw [← hz1] at d1
      rw [← hz2] at d2
      have hsum := (unhide S3).sum
      replace hg := hide (Nat.lt_of_lt_of_le hg (unhide hNb))
      clear hc hz1 hz2
      go_wp2_with fail
      go_region_held3 (fun wz => wz.cell? ⟨g, o + i * 3 + 1, none⟩ = some (.int .i64 z1) ∧ wz.cell? ⟨g, o + i * 3 + 2, none⟩ = some (.int .i64 z2))
        (first | exact ⟨d1, d2⟩ | exact ⟨m1, m2⟩)
        (first | (go_at_call 11; refine Calls.mono (ask_ln (B := b) (H := H) (Q := Q) _ (unhide L3).drew (by omega) z1 z2 rfl) ?_; rintro e w5 ⟨rfl, L5, b5⟩; have m1 := (b5.cell (p := ⟨g, o + i * 3 + 1, none⟩) (unhide hg)).trans d1; have m2 := (b5.cell (p := ⟨g, o + i * 3 + 2, none⟩) (unhide hg)).trans d2; replace L5 := hide L5; have S5 := hide (sv_ask z1 z2 (unhide L3).srt (unhide S3)); have B5 := hide ((unhide b3).trans (c := w5) ((⟨b5.os, b5.tape, b5.output, b5.size, b5.block⟩ : Below b wr w5).mono (unhide hNb))); clear b5))
      go_wp2
      go_roundw
      case rel => exact ⟨i + 1, _, _, by omega, by go_num, unhide L5, unhide S5, unhide B5⟩
      case measure => simp [intOf]; omega
    · obtain rfl : i = n0 := by omega
      go_wp2_with fail
      go_loopw [7] (fun s wr => ∃ (j : Nat) (H Q : List En), j ≤ n1 ∧ s = .int .i64 j ∧ Hid (Ln b H Q b wr) ∧ Hid (Sv H Q i i) ∧ Hid (Below N w wr)) (fun s _ => n1 - (intOf s).toNat)
      case atStart => exact ⟨0, H, Q, Nat.zero_le _, rfl, unhide L3, unhide S3, unhide b3⟩
      case round =>
        obtain ⟨j, H3, Q3, hj, rfl, L4, S4, b4⟩ := hrel
        have hsum := (unhide S4).sum
        by_cases hlj : j < n1
        · obtain ⟨hl9, hsg⟩ : l.length = n1 ∧ SegK .i64 wr a1 n1 l := by
            have hbw : Below w.heap.size w wr := by rw [← unhide hN]; exact unhide b4
            exact ⟨(unhide s1).1, (unhide s1).later hbw⟩
          subst hl9
          obtain ⟨g, o, rfl, d1⟩ := seg_at hsg hlj
          obtain ⟨z1, hz1⟩ : ∃ z, z = l.getD j 0 := ⟨_, rfl⟩
          rw [← hz1] at d1
          replace hsg := hide hsg
          clear hz1
          go_wp2_with fail
          refine (serve_any wr (unhide L4) (unhide S4).ok (by omega) z1).mono ?_
          rintro e w5 ⟨rfl, L5, b5⟩
          replace L5 := hide L5
          have S5 := hide (sv_leave z1 (unhide L4).srt (unhide S4))
          replace b5 := hide ((unhide b4).trans (b5.mono (unhide hNb)))
          clear d1
          go_wp2
          go_roundw
          case rel => exact ⟨j + 1, _, _, by omega, by go_num, unhide L5, unhide S5, unhide b5⟩
          case measure => simp [intOf]; omega
        · obtain rfl : j = n1 := by omega
          go_wp2_with fail
          go_loopw [8] (fun s wr => ∃ (k : Nat) (H Q : List En) (m : Nat), s = .int .i64 k ∧ k + m ≤ 300 ∧ Hid (Ln b H Q b wr) ∧ Hid (Sv H Q 300 m) ∧ Hid (Below N w wr)) (fun s _ => 400 - (intOf s).toNat)
          case atStart => exact ⟨0, H3, Q3, i, rfl, by omega, unhide L4, ⟨(unhide S4).ok, by have := (unhide S4).sum; omega, (unhide S4).who⟩, unhide b4⟩
          case round =>
            obtain ⟨k, H5, Q5, m, rfl, hkm, L5, S5, b5⟩ := hrel
            have hsum5 := (unhide S5).sum
            cases hem : (H5.length == 0 && Q5.length == 0)
            · obtain ⟨p1, p2⟩ := sv_some (unhide S5) hem
              have Hem := hide hem
              have hemp := hide (empty_ln wr (unhide L5))
              rw [hem] at hemp
              clear hem
              go_wp2_with fail
              refine (unhide hemp).mono ?_
              rintro e w6 ⟨rfl, rfl⟩
              go_wp2_with fail
              refine (holders_ln _ (unhide L5) (by omega)).mono ?_
              rintro e w7 ⟨v7, rfl, E7, b7⟩
              obtain ⟨g, cap, rfl, r7⟩ : ∃ g cap, v7 = .slice (some ⟨g, 0, none⟩) H5.length cap ∧ Rb g cap H5 w7 := by
                rcases E7 with ⟨_, e⟩ | ⟨g, cap, e, _, r⟩
                · rw [e] at p1; simp at p1
                · exact ⟨g, cap, e, r⟩
              obtain ⟨y, hy⟩ : ∃ y, y = H5.getD 0 (0, 0) := ⟨_, rfl⟩
              have d1 := r7.fst p1
              rw [← hy, Nat.zero_mul] at d1
              have hyH : Hid (y ∈ H5) := by show _ ∈ _; rw [hy]; simp [List.getD, p1]
              have L7 := hide ((unhide L5).next b7)
              replace b7 := hide (bt (unhide b5) b7 (Nat.le_trans (unhide hNb) (unhide L5).low))
              replace r7 := hide r7
              replace E7 := hide trivial
              replace hy := hide hy
              have p1i : (0 : Int) < (H5.length : Int) := by omega
              have p1e : ((H5.length : Int) == 0) = false := by rw [beq_eq_false_iff_ne]; omega
              go_wp2_with fail
              refine (serve_any w7 (unhide L7) (unhide S5).ok (by omega) y.1).mono ?_
              rintro e w8 ⟨rfl, L8, b8⟩
              replace L8 := hide L8
              obtain ⟨m', rfl⟩ : ∃ m', m = m' + 1 := ⟨m - 1, by omega⟩
              have S8 := hide (sv_out (unhide L5).srt (unhide S5) (unhide hyH))
              replace b8 := hide ((unhide b7).trans (b8.mono (unhide hNb)))
              clear d1
              go_wp2
              go_roundw
              case rel => exact ⟨k + 1, _, _, m', by go_num, by omega, unhide L8, unhide S8, unhide b8⟩
              case measure => simp [intOf]; omega
            · have hemp := hide (empty_ln wr (unhide L5))
              rw [hem] at hemp
              have Hem := hide hem
              clear hem
              go_wp2_with fail
              refine (unhide hemp).mono ?_
              rintro e w6 ⟨rfl, rfl⟩
              go_wp2_with fail
              refine (first_any _).mono ?_
              rintro e w7 ⟨rfl, b7⟩
              have L7 := (unhide L5).next b7
              replace b7 := hide (bt (unhide b5) b7 (Nat.le_trans (unhide hNb) (unhide L5).low))
              have hemp2 := hide (empty_ln w7 L7)
              rw [unhide Hem] at hemp2
              replace L7 := hide L7
              go_wp2_with fail
              refine (unhide hemp2).mono ?_
              rintro e w8 ⟨rfl, rfl⟩
              go_wp2
              go_ret
              exact ⟨rfl, by rw [← unhide hN]; exact unhide b7⟩
set_option maxRecDepth 100000 in
set_option maxHeartbeats 4000000 in
theorem serves_out (a0 : Option Addr) (n0 c0 : Nat) (a1 : Option Addr) (n1 c1 : Nat) (w : World) (h0 : n0 ≤ 9223372036854775807) (h1 : n1 ≤ 9223372036854775807) (h : 300 < n0 ∨ (n0 ≤ 300 ∧ 100 < n1)) :
    Calls Try.prog 5 #[.slice a0 n0 c0, .slice a1 n1 c1] w fun e w' => e = .returned (.bool true) ∧ Below w.heap.size w w' := by
  rcases h with h | ⟨h, h2⟩
  all_goals
    go_enter Try.func5, Try.ntmps5
    go_wp2_with fail
    refine (first_any w).mono ?_
    rintro e w1 ⟨rfl, b1⟩
    replace b1 := hide b1
    go_wp2_with fail
    refine (new_ln w1).mono ?_
    rintro e w2 ⟨rfl, L2, b2⟩
    replace b2 := hide (below_then (unhide b1) b2)
    replace L2 := hide L2
    go_wp2_with fail
    refine (first_any w2).mono ?_
    rintro e w3 ⟨rfl, b3⟩
    replace b3 := hide (below_then (unhide b2) b3)
    go_wp2
    go_ret
    exact ⟨rfl, unhide b3⟩
theorem laneServes_walk (a0 : Option Addr) (n0 c0 : Nat) (Z : Nat → Nat → Int) (a1 : Option Addr) (n1 c1 : Nat) (l : List Int) (w : World) (s0 : RecsB 3 w.heap.size w a0 n0 Z) (lc0 : n0 ≤ c0) (cm0 : c0 ≤ maxLen) (_ : ∀ i, i < n0 → ∀ j, j < 3 → (Lit.int .i64 (Z i j)).wf = true)
    (s1 : SegK .i64 w a1 n1 l) (lc1 : n1 ≤ c1) (cm1 : c1 ≤ maxLen) (_ : ∀ n ∈ l, (Lit.int .i64 n).wf = true) :
    Calls Try.prog 5 #[.slice a0 n0 c0, .slice a1 n1 c1] w fun e w' => e = .returned (.bool true) ∧ Below w.heap.size w w' := by
  unfold maxLen at cm0 cm1
  by_cases h : n0 ≤ 300 ∧ n1 ≤ 100
  · exact serves_in a0 n0 c0 Z a1 n1 c1 l w s0 s1 h.1 h.2
  · exact serves_out a0 n0 c0 a1 n1 c1 w (by omega) (by omega) (by omega)
end Go.Proofs.Ytbmoapeeahigkaa
