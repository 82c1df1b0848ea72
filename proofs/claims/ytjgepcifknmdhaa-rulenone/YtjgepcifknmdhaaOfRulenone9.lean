/- Texts of this claim, put together in their order. -/
import Derived.Test.YtjgepcifknmdhaaBase1
import Derived.Test.YtjgepcifknmdhaaBase2
import Derived.Test.YtjgepcifknmdhaaBase3
import Derived.Test.YtjgepcifknmdhaaBase4
import Derived.Test.YtjgepcifknmdhaaBase5
import Derived.Test.YtjgepcifknmdhaaBase6
import Derived.Test.YtjgepcifknmdhaaBase7
import Derived.Test.YtjgepcifknmdhaaBase8
/- RuleNone. -/
namespace Go.Proofs.Ytjgepcifknmdhaa
open Go.RowKit
set_option linter.unusedVariables false

/-- The edges that go the one way. -/
def noL (T : List Int) (up : Bool) (l : List En) : List En := l.filter (fun e => !(e.1 == e.2) && (ygB T e.1 e.2 == up))
theorem no_succ (T : List Int) (up : Bool) (l : List En) (t : Nat) (ht : t < l.length) : noL T up (l.take (t + 1)) = noL T up (l.take t) ++ (if (!((l.getD t (0, 0)).1 == (l.getD t (0, 0)).2) && (ygB T (l.getD t (0, 0)).1 (l.getD t (0, 0)).2 == up)) = true then [l.getD t (0, 0)] else []) := by
  unfold noL
  rw [List.take_succ_eq_append_getElem ht, List.filter_append]
  have e : l.getD t (0, 0) = l[t] := by simp [List.getD, ht]
  rw [e]
  cases h : (!(l[t].1 == l[t].2) && (ygB T l[t].1 l[t].2 == up)) <;> simp [h]
theorem no_le (T : List Int) (up : Bool) (l : List En) : (noL T up l).length ≤ l.length := List.length_filter_le _ _
theorem no_mem {T : List Int} {up : Bool} {l : List En} {a b : Int} (h : CE (noL T up l) a b) : a ≠ b ∧ ygB T a b = up := by
  have := (List.mem_filter.1 h).2
  simpa using this
theorem no_plain (T : List Int) (up : Bool) (l : List En) : circD (noL T up l) = [] ∧ (up = true → canon (wouL T (noL T up l)) = []) ∧ (up = false → canon (deaL T (noL T up l)) = []) := by
  refine ⟨?_, fun e => canon_nil ?_, fun e => canon_nil ?_⟩
  · cases up
    · exact oneway_down fun a b h => yg_tot (no_mem h).1 (no_mem h).2
    · exact oneway_up fun a b h => (no_mem h).2
  · rw [List.eq_nil_iff_forall_not_mem]
    intro x hx
    obtain ⟨a, h1, h2⟩ := wou_mem.1 hx
    have h3 := (no_mem h1).2
    rw [e] at h3
    rw [yg_asym h3] at h2
    cases h2
  · rw [List.eq_nil_iff_forall_not_mem]
    intro x hx
    obtain ⟨a, h1, h2⟩ := dea_mem.1 hx
    have h3 := (no_mem h1).2
    rw [e] at h3
    rw [h3] at h2
    cases h2
theorem blw_drewN (w : World) (n : Nat) : Below w.heap.size w (w.drewN n) := ⟨rfl, rfl, rfl, Nat.le_refl _, fun _ _ => rfl⟩
set_option maxRecDepth 100000 in
set_option maxHeartbeats 2000000 in
theorem ruleNone_walk (a0 : Option Addr) (len0 cap0 : Nat) (T : List Int) (a1 : Option Addr) (len1 cap1 : Nat) (Z1 : Nat → Nat → Int) (up : Bool) (W : World) (s0 : SegK .i64 W a0 len0 T) (lc0 : len0 ≤ cap0) (cm0 : cap0 ≤ maxLen) (wz0 : ∀ z ∈ T, (Lit.int .i64 z).wf = true)
    (s1 : RecsB 2 W.heap.size W a1 len1 Z1) (lc1 : len1 ≤ cap1) (cm1 : cap1 ≤ maxLen) (wz1 : ∀ i, i < len1 → ∀ j, j < 2 → (Lit.int .i64 (Z1 i j)).wf = true) :
    Calls Try.prog 7 #[.slice a0 len0 cap0, .slice a1 len1 cap1, .bool up] W fun e w' => e = .returned (.bool true) ∧ Below W.heap.size W w' := by
  have R0 : Re W (.slice a1 len1 cap1) (edgesOf len1 Z1) := re_recs s1
  have hl1 := edges_len len1 Z1
  generalize edgesOf len1 Z1 = l at R0 hl1
  have G0 : Rd W (.slice a0 len0 cap0) T := rd_seg s0
  have hl0 : T.length = len0 := s0.1
  unfold maxLen at cm0 cm1
  clear s0 wz0 s1 wz1
  have C1 := hide (frs_any W)
  replace hl0 := hide hl0
  replace hl1 := hide hl1
  replace R0 := hide R0
  replace G0 := hide G0
  go_enter Try.func7, Try.ntmps7
  go_wp2_with fail
  refine (unhide C1).mono ?_
  rintro e w1 ⟨rfl, b1⟩
  have R1 := hide ((unhide R0).next b1)
  have G1 := hide ((unhide G0).next b1)
  replace b1 := hide b1
  have last : Hid (∀ P : Ending → World → Prop, (∀ w', Below W.heap.size W w' → P (.returned (.bool true)) w') → Calls Try.prog 23 #[] w1 P) := fun P h => (frs_any w1).mono (by rintro e w' ⟨rfl, b⟩; exact h _ (below_then (unhide b1) b))
  clear C1 R0 G0
  by_cases h60 : len1 ≤ 60
  · by_cases h100 : len0 ≤ 100
    · have hT : Hid (T.length ≤ 1000) := by show _ ≤ _; rw [unhide hl0]; omega
      have f1 : decide (60 < (len1 : Int)) = false := by simp; omega
      have f2 : decide (100 < (len0 : Int)) = false := by simp; omega
      go_wp2
      clear last f1 f2
      go_loopw [7, 8] (fun s7 s8 wr => ∃ (t k : Nat) (ag : Option Addr) (cg : Nat), t ≤ len1 ∧ k ≤ t ∧ s7 = .slice ag k cg ∧ s8 = .int .i64 t ∧ Hid ((noL T up (l.take t)).length = k) ∧ Hid (Pr 41 w1.heap.size (.slice ag k cg) (noL T up (l.take t)) wr) ∧ Hid (Below w1.heap.size w1 wr)) (fun _ s8 _ => len1 - (intOf s8).toNat)
      case atStart => exact ⟨0, 0, none, 0, Nat.zero_le _, Nat.le_refl _, rfl, rfl, rfl, Pr.nil _ _ _, Below.refl _ _⟩
      case round =>
        obtain ⟨t, k, ag, cg, ht, hk, rfl, rfl, hl3, I3, b3⟩ := hrel
        have hk9 : k < 10000000 := by omega
        by_cases hlt : t < len1
        · have hlt2 : t < l.length := by rw [unhide hl1]; exact hlt
          obtain ⟨g, o, rfl, _, d1, d2⟩ := ((unhide R1).next (unhide b3)).at hlt2
          obtain ⟨x, hx⟩ : ∃ x, x = l.getD t (0, 0) := ⟨_, rfl⟩
          have hs := no_succ T up l t hlt2
          rw [← hx] at d1 d2 hs
          replace hx := hide hx
          have G3 := hide ((unhide G1).next (unhide b3))
          have Y : Hid (∀ n, Calls Try.prog 31 #[.slice a0 len0 cap0, .int .i64 x.1, .int .i64 x.2] (wr.drewN n) fun e w' => e = .returned (.bool (ygB T x.1 x.2)) ∧ w' = wr.drewN n) := fun n => lyounger_any _ ((unhide G3).next (blw_drewN _ n)) (unhide hT) _ _
          cases hne : (x.1 == x.2)
          · have hne2 : (x.1 != x.2) = true := by show (!(x.1 == x.2)) = _; rw [hne]; rfl
            cases hup : (ygB T x.1 x.2 == up)
            · rw [hne, hup] at hs
              replace hs := hide (show noL T up (l.take (t + 1)) = noL T up (l.take t) by simpa using hs)
              generalize ygB T x.1 x.2 = y at *
              clear G3
              go_wp2_with fail
              go_quiet ((go_at_call 31; exact Calls.quiet_of_same (unhide Y _)))
              go_wp2
              go_roundw
              case rel => exact ⟨t + 1, k, ag, cg, by omega, by omega, rfl, by go_num, by rw [unhide hs]; exact unhide hl3, by rw [unhide hs]; exact (unhide I3).drewN nq, bt (unhide b3) (blw_drewN wr nq) (unhide b3).size⟩
              case measure => simp [intOf]; omega
            · rw [hne, hup] at hs
              replace hs := hide (show noL T up (l.take (t + 1)) = noL T up (l.take t) ++ [x] by simpa using hs)
              generalize ygB T x.1 x.2 = y at *
              clear G3
              go_wp2_with fail
              go_quiet ((go_at_call 31; exact Calls.quiet_of_same (unhide Y _)))
              obtain ⟨w5, hw5⟩ : ∃ w5, w5 = wr.drewN nq := ⟨_, rfl⟩
              rw [← hw5]
              have b5 : Below w1.heap.size w1 w5 := by rw [hw5]; exact bt (unhide b3) (blw_drewN wr nq) (unhide b3).size
              have I5 : Pr 41 w1.heap.size (.slice ag k cg) (noL T up (l.take t)) w5 := by rw [hw5]; exact (unhide I3).drewN nq
              have d1' : w5.cell? ⟨g, o + t * 2, none⟩ = some (.int .i64 x.1) := by rw [hw5]; exact d1
              have d2' : w5.cell? ⟨g, o + t * 2 + 1, none⟩ = some (.int .i64 x.2) := by rw [hw5]; exact d2
              replace b5 := hide b5
              replace I5 := hide I5
              have hb5 : Hid (w1.heap.size ≤ w5.heap.size) := (unhide b5).size
              clear hw5 d1 d2 I3 b3 Y
              go_wp2_with (at_builtin; refine wpList_pair 41 22 Try.underlying22 inf39 w5 rfl (.tmp 53) (.tmp 58) rfl w1.heap.size ag k cg _ x _ rfl rfl rfl (unhide hl3) (unhide I5) (unhide hb5) hk9 ?_; intro g7 cap7 w7 a1 a2; replace a1 := hide a1; replace a2 := hide a2)
              go_roundw
              case rel => exact ⟨t + 1, k + 1, some ⟨g7, 0, none⟩, cap7, by omega, by omega, rfl, by go_num, by
                show _ = _
                rw [unhide hs, List.length_append, unhide hl3]; rfl, by rw [unhide hs]; exact unhide a1, (unhide b5).grown (unhide a2) (unhide b5).size (fun k hk => ((unhide I5).lt k hk).1)⟩
              case measure => simp [intOf]; omega
          · rw [hne] at hs
            replace hs := hide (show noL T up (l.take (t + 1)) = noL T up (l.take t) by simpa using hs)
            have hne2 : (x.1 != x.2) = false := by show (!(x.1 == x.2)) = _; rw [hne]; rfl
            clear G3 Y
            go_wp2_with fail
            go_quiet (fail)
            go_wp2
            go_roundw
            case rel => exact ⟨t + 1, k, ag, cg, by omega, by omega, rfl, by go_num, by rw [unhide hs]; exact unhide hl3, by rw [unhide hs]; exact (unhide I3).drewN nq, bt (unhide b3) (blw_drewN wr nq) (unhide b3).size⟩
            case measure => simp [intOf]; omega
        · have e1 : l.take t = l := List.take_of_length_le (by rw [unhide hl1]; omega)
          rw [e1] at hl3 I3
          obtain ⟨m, hm⟩ : ∃ m, m = noL T up l := ⟨_, rfl⟩
          have hp := no_plain T up l
          rw [← hm] at hl3 I3 hp
          have hm9 : Hid (m.length ≤ 300) := by have := no_le T up l; show _ ≤ _; rw [hm]; have := unhide hl1; omega
          replace hl3 := hide (unhide hl3)
          replace hm := hide hm
          obtain ⟨hc, hw, hd⟩ := hp
          have hv : Hid (vicD T m = []) := vic_no hc
          replace hc := hide hc
          have G3 := hide ((unhide G1).next (unhide b3))
          have M3 := hide (unhide I3).re
          have B3 := hide (below_then (unhide b1) (unhide b3))
          clear e1 I3 b3 G1 R1
          cases up
          · have hd := hd rfl
            have C2 := hide (deaths_any wr (unhide G3) (unhide hT) (unhide M3) (Nat.le_trans (unhide hm9) (by decide)))
            rw [hd] at C2
            clear hw hd
            go_wp2_with fail
            refine (unhide C2).mono ?_
            rintro e w4 ⟨v4, rfl, i4, b4⟩
            obtain ⟨a4, c4, rfl⟩ := i4.form
            rw [show ([] : List Int).length = 0 from rfl]
            have G4 := hide ((unhide G3).next b4)
            have M4 := hide ((unhide M3).next b4)
            have B4 := hide (below_then (unhide B3) b4)
            clear i4 b4 C2 G3 M3 B3
            have C5 := hide (frs_any w4)
            go_wp2_with fail
            refine (unhide C5).mono ?_
            rintro e w5 ⟨rfl, b5⟩
            have G5 := hide ((unhide G4).next b5)
            have M5 := hide ((unhide M4).next b5)
            have B5 := hide (below_then (unhide B4) b5)
            have C6 := hide (acyclic_any w5 (unhide M5) (unhide hm9))
            rw [unhide hc] at C6
            clear G4 M4 B4 C5 b5
            go_wp2_with fail
            refine (unhide C6).mono ?_
            rintro e w6 ⟨rfl, b6⟩
            rw [show (([] : List Int).length == 0) = true from rfl]
            have G6 := hide ((unhide G5).next b6)
            have M6 := hide ((unhide M5).next b6)
            have B6 := hide (below_then (unhide B5) b6)
            have C7 := hide (victims_any w6 (unhide G6) (unhide hT) (unhide M6) (unhide hm9))
            rw [unhide hv] at C7
            clear G5 M5 B5 C6 b6
            go_wp2_with fail
            refine (unhide C7).mono ?_
            rintro e w7 ⟨v7, rfl, i7, b7⟩
            obtain ⟨a7, c7, rfl⟩ := i7.form
            rw [show ([] : List Int).length = 0 from rfl]
            have B7 := hide (below_then (unhide B6) b7)
            clear i7 b7 C7 G6 M6 B6
            go_wp2
            go_ret
            exact ⟨rfl, unhide B7⟩
          · have hw := hw rfl
            have C2 := hide (wounds_any wr (unhide G3) (unhide hT) (unhide M3) (Nat.le_trans (unhide hm9) (by decide)))
            rw [hw] at C2
            clear hw hd
            go_wp2_with fail
            refine (unhide C2).mono ?_
            rintro e w4 ⟨v4, rfl, i4, b4⟩
            obtain ⟨a4, c4, rfl⟩ := i4.form
            rw [show ([] : List Int).length = 0 from rfl]
            have G4 := hide ((unhide G3).next b4)
            have M4 := hide ((unhide M3).next b4)
            have B4 := hide (below_then (unhide B3) b4)
            clear i4 b4 C2 G3 M3 B3
            have C5 := hide (frs_any w4)
            go_wp2_with fail
            refine (unhide C5).mono ?_
            rintro e w5 ⟨rfl, b5⟩
            have G5 := hide ((unhide G4).next b5)
            have M5 := hide ((unhide M4).next b5)
            have B5 := hide (below_then (unhide B4) b5)
            have C6 := hide (acyclic_any w5 (unhide M5) (unhide hm9))
            rw [unhide hc] at C6
            clear G4 M4 B4 C5 b5
            go_wp2_with fail
            refine (unhide C6).mono ?_
            rintro e w6 ⟨rfl, b6⟩
            rw [show (([] : List Int).length == 0) = true from rfl]
            have G6 := hide ((unhide G5).next b6)
            have M6 := hide ((unhide M5).next b6)
            have B6 := hide (below_then (unhide B5) b6)
            have C7 := hide (victims_any w6 (unhide G6) (unhide hT) (unhide M6) (unhide hm9))
            rw [unhide hv] at C7
            clear G5 M5 B5 C6 b6
            go_wp2_with fail
            refine (unhide C7).mono ?_
            rintro e w7 ⟨v7, rfl, i7, b7⟩
            obtain ⟨a7, c7, rfl⟩ := i7.form
            rw [show ([] : List Int).length = 0 from rfl]
            have B7 := hide (below_then (unhide B6) b7)
            clear i7 b7 C7 G6 M6 B6
            go_wp2
            go_ret
            exact ⟨rfl, unhide B7⟩
    · go_wp2_with (go_at_call 23; refine unhide last _ ?_; intro w' hb)
      go_ret
      exact ⟨rfl, hb⟩
  · go_wp2_with (go_at_call 23; refine unhide last _ ?_; intro w' hb)
    go_ret
    exact ⟨rfl, hb⟩
end Go.Proofs.Ytjgepcifknmdhaa
