/- Texts of this claim, put together in their order. -/
import Derived.Test.YtjgepcifknmdhaaBase1
import Derived.Test.YtjgepcifknmdhaaBase2
import Derived.Test.YtjgepcifknmdhaaBase3
import Derived.Test.YtjgepcifknmdhaaBase4
import Derived.Test.YtjgepcifknmdhaaBase5
import Derived.Test.YtjgepcifknmdhaaBase6
import Derived.Test.YtjgepcifknmdhaaBase7
import Derived.Test.YtjgepcifknmdhaaBase8
/- RuleNone. -/
namespace Go.Proofs.Ytjgepcifknmdhaa
open Go.RowKit
set_option linter.unusedVariables false

/-- The edges that go the one way. -/
def noL (T : List Int) (up : Bool) (l : List En) : List En := l.filter (fun e => !(e.1 == e.2) && (ygB T e.1 e.2 == up))
theorem no_succ (T : List Int) (up : Bool) (l : List En) (t : Nat) (ht : t < l.length) : noL T up (l.take (t + 1)) = noL T up (l.take t) ++ (if (!((l.getD t (0, 0)).1 == (l.getD t (0, 0)).2) && (ygB T (l.getD t (0, 0)).1 (l.getD t (0, 0)).2 == up)) = true then [l.getD t (0, 0)] else []) := by
  unfold noL
  rw [List.take_succ_eq_append_getElem ht, List.filter_append]
  have e : l.getD t (0, 0) = l[t] := by simp [List.getD, ht]
  rw [e]
  cases h : (!(l[t].1 == l[t].2) && (ygB T l[t].1 l[t].2 == up)) <;> simp [h]
theorem no_le (T : List Int) (up : Bool) (l : List En) : (noL T up l).length ≤ l.length := List.length_filter_le _ _
theorem no_mem {T : List Int} {up : Bool} {l : List En} {a b : Int} (h : CE (noL T up l) a b) : a ≠ b ∧ ygB T a b = up := by
  have := (List.mem_filter.1 h).2
  simpa using this
theorem no_plain (T : List Int) (up : Bool) (l : List En) : circD (noL T up l) = [] ∧ (up = true → canon (wouL T (noL T up l)) = []) ∧ (up = false → canon (deaL T (noL T up l)) = []) := by
  refine ⟨?_, fun e => canon_nil ?_, fun e => canon_nil ?_⟩
  · cases up
    · exact oneway_down fun a b h => yg_tot (no_mem h).1 (no_mem h).2
    · exact oneway_up fun a b h => (no_mem h).2
  · rw [List.eq_nil_iff_forall_not_mem]
    intro x hx
    obtain ⟨a, h1, h2⟩ := wou_mem.1 hx
    have h3 := (no_mem h1).2
    rw [e] at h3
    rw [yg_asym h3] at h2
    cases h2
  · rw [List.eq_nil_iff_forall_not_mem]
    intro x hx
    obtain ⟨a, h1, h2⟩ := dea_mem.1 hx
    have h3 := (no_mem h1).2
    rw [e] at h3
    rw [h3] at h2
    cases h2
theorem blw_drewN (w : World) (n : Nat) : Below w.heap.size w (w.drewN n) := ⟨rfl, rfl, rfl, Nat.le_refl _, fun _ _ => rfl⟩
set_option maxRecDepth 100000 in
set_option maxHeartbeats 2000000 in
theorem ruleNone_walk (a0 : Option Addr) (len0 cap0 : Nat) (T : List Int) (a1 : Option Addr) (len1 cap1 : Nat) (Z1 : Nat → Nat → Int) (up : Bool) (W : World) (s0 : SegK .i64 W a0 len0 T) (lc0 : len0 ≤ cap0) (cm0 : cap0 ≤ maxLen) (wz0 : ∀ z ∈ T, (Lit.int .i64 z).wf = true)
    (s1 : RecsB 2 W.heap.size W a1 len1 Z1) (lc1 : len1 ≤ cap1) (cm1 : cap1 ≤ maxLen) (wz1 : ∀ i, i < len1 → ∀ j, j < 2 → (Lit.int .i64 (Z1 i j)).wf = true) :
    Calls Try.prog 7 #[.slice a0 len0 cap0, .slice a1 len1 cap1, .bool up] W fun e w' => e = .returned (.bool true) ∧ Below W.heap.size W w' := by
  have R0 : Re W (.slice a1 len1 cap1) (edgesOf len1 Z1) := re_recs s1
  have hl1 := edges_len len1 Z1
  generalize edgesOf len1 Z1 = l at R0 hl1
  have G0 : Rd W (.slice a0 len0 cap0) T := rd_seg s0
  have hl0 : T.length = len0 := s0.1
  unfold maxLen at cm0 cm1
  clear s0 wz0 s1 wz1
  have C1 := hide (frs_any W)
  replace hl0 := hide hl0
  replace hl1 := hide hl1
  replace R0 := hide R0
  replace G0 := hide G0
  go_enter Try.func7, Try.ntmps7
  go_wp2_with fail
  refine (unhide C1).mono ?_
  rintro e w1 ⟨rfl, b1⟩
  have R1 := hide ((unhide R0).next b1)
  have G1 := hide ((unhide G0).next b1)
  replace b1 := hide b1
  have last : Hid (∀ P : Ending → World → Prop, (∀ w', Below W.heap.size W w' → P (.returned (.bool true)) w') → Calls Try.prog 23 #[] w1 P) := fun P h => (frs_any w1).mono (by rintro e w' ⟨rfl, b⟩; exact h _ (below_then (unhide b1) b))
  clear C1 R0 G0
  by_cases h60 : len1 ≤ 60
  · by_cases h100 : len0 ≤ 100
    · have hT : Hid (T.length ≤ 1000) := by show _ ≤ _; rw [unhide hl0]; omega
      have f1 : decide (60 < (len1 : Int)) = false := by simp; omega
      have f2 : decide (100 < (len0 : Int)) = false := by simp; omega
      go_wp2
      clear last f1 f2
      go_loopw [7, 8] (fun s7 s8 wr => ∃ (t k : Nat) (ag : Option Addr) (cg : Nat), t ≤ len1 ∧ k ≤ t ∧ s7 = .slice ag k cg ∧ s8 = .int .i64 t ∧ Hid ((noL T up (l.take t)).length = k) ∧ Hid (Pr 41 w1.heap.size (.slice ag k cg) (noL T up (l.take t)) wr) ∧ Hid (Below w1.heap.size w1 wr)) (fun _ s8 _ => len1 - (intOf s8).toNat)
      case atStart => exact ⟨0, 0, none, 0, Nat.zero_le _, Nat.le_refl _, rfl, rfl, rfl, Pr.nil _ _ _, Below.refl _ _⟩
      case round =>
        obtain ⟨t, k, ag, cg, ht, hk, rfl, rfl, hl3, I3, b3⟩ := hrel
        have hk9 : k < 10000000 := by omega
        by_cases hlt : t < len1
        · have hlt2 : t < l.length := by rw [unhide hl1]; exact hlt
          obtain ⟨g, o, rfl, _, d1, d2⟩ := ((unhide R1).next (unhide b3)).at hlt2
          obtain ⟨x, hx⟩ : ∃ x, x = l.getD t (0, 0) := ⟨_, rfl⟩
          have hs := no_succ T up l t hlt2
          rw [← hx] at d1 d2 hs
          replace hx := hide hx
          have G3 := hide ((unhide G1).next (unhide b3))
          have Y : Hid (∀ n, Calls Try.prog 31 #[.slice a0 len0 cap0, .int .i64 x.1, .int .i64 x.2] (wr.drewN n) fun e w' => e = .returned (.bool (ygB T x.1 x.2)) ∧ w' = wr.drewN n) := fun n => lyounger_any _ ((unhide G3).next (blw_drewN _ n)) (unhide hT) _ _
          cases hne : (x.1 == x.2)
          · have hne2 : (x.1 != x.2) = true := by show (!(x.1 == x.2)) = _; rw [hne]; rfl
            cases hup : (ygB T x.1 x.2 == up)
            · rw [hne, hup] at hs
              replace hs := hide (show noL T up (l.take (t + 1)) = noL T up (l.take t) by simpa using hs)
              generalize ygB T x.1 x.2 = y at *
              clear G3
              go_wp2_with fail
              go_quiet ((go_at_call 31; exact Calls.quiet_of_same (unhide Y _)))
              go_wp2
              go_roundw
              case rel => exact ⟨t + 1, k, ag, cg, by omega, by omega, rfl, by go_num, by rw [unhide hs]; exact unhide hl3, by rw [unhide hs]; exact (unhide I3).drewN nq, bt (unhide b3) (blw_drewN wr nq) (unhide b3).size⟩
              case measure => simp [intOf]; omega
            · rw [hne, hup] at hs
              replace hs := hide (show noL T up (l.take (t + 1)) = noL T up (l.take t) ++ [x] by simpa using hs)
              generalize ygB T x.1 x.2 = y at *
              clear G3
              go_wp2_with fail
              go_quiet ((go_at_call 31; exact Calls.quiet_of_same (unhide Y _)))
              obtain ⟨w5, hw5⟩ : ∃ w5, w5 = wr.drewN nq := ⟨_, rfl⟩
              rw [← hw5]
              have b5 : Below w1.heap.size w1 w5 := by rw [hw5]; exact bt (unhide b3) (blw_drewN wr nq) (unhide b3).size
              have I5 : Pr 41 w1.heap.size (.slice ag k cg) (noL T up (l.take t)) w5 := by rw [hw5]; exact (unhide I3).drewN nq
              have d1' : w5.cell? ⟨g, o + t * 2, none⟩ = some (.int .i64 x.1) := by rw [hw5]; exact d1
              have d2' : w5.cell? ⟨g, o + t * 2 + 1, none⟩ = some (.int .i64 x.2) := by rw [hw5]; exact d2
              replace b5 := hide b5
              replace I5 := hide I5
              have hb5 : Hid (w1.heap.size ≤ w5.heap.size) := (unhide b5).size
              clear hw5 d1 d2 I3 b3 Y
              go_wp2_with (at_builtin; refine wpList_pair 41 22 Try.underlying22 inf39 w5 rfl (.tmp 53) (.tmp 58) rfl w1.heap.size ag k cg _ x _ rfl rfl rfl (unhide hl3) (unhide I5) (unhide hb5) hk9 ?_; intro g7 cap7 w7 a1 a2; replace a1 := hide a1; replace a2 := hide a2)
              go_roundw
              case rel => exact ⟨t + 1, k + 1, some ⟨g7, 0, none⟩, cap7, by omega, by omega, rfl, by go_num, by
                show _ = _
                rw [unhide hs, List.length_append, unhide hl3]; rfl, by rw [unhide hs]; exact unhide a1, (unhide b5).grown (unhide a2) (unhide b5).size (fun k hk => ((unhide I5).lt k hk).1)⟩
              case measure => simp [intOf]; omega
          · rw [hne] at hs
            replace hs := hide (show noL T up (l.take (t + 1)) = noL T up (l.take t) by simpa using hs)
            have hne2 : (x.1 != x.2) = false := by show (!(x.1 == x.2)) = _; rw [hne]; rfl
            clear G3 Y
            go_wp2_with fail
            go_quiet (fail)
            go_wp2
            go_roundw
            case rel => exact ⟨t + 1, k, ag, cg, by omega, by omega, rfl, by go_num, by rw [unhide hs]; exact unhide hl3, by rw [unhide hs]; exact (unhide I3).drewN nq, bt (unhide b3) (blw_drewN wr nq) (unhide b3).size⟩
            case measure => simp [intOf]; omega
        · have e1 : l.take t = l := List.take_of_length_le (by rw [unhide hl1]; omega)
          rw [e1] at hl3 I3
          obtain ⟨m, hm⟩ : ∃ m, m = noL T up l := ⟨_, rfl⟩
          have hp := no_plain T up l
          rw [← hm] at hl3 I3 hp
          have hm9 : Hid (m.length ≤ 300) := by have := no_le T up l; show _ ≤ _; rw [hm]; have := unhide hl1; omega
          replace hl3 := hide (unhide hl3)
          replace hm := hide hm
          obtain ⟨hc, hw, hd⟩ := hp
          have hv : Hid (vicD T m = []) := vic_no hc
          replace hc := hide hc
          have G3 := hide ((unhide G1).next (unhide b3))
          have M3 := hide (unhide I3).re
          have B3 := hide (below_then (unhide b1) (unhide b3))
          clear e1 I3 b3 G1 R1
          cases up
          · have hd := hd rfl
            have C2 := hide (deaths_any wr (unhide G3) (unhide hT) (unhide M3) (Nat.le_trans (unhide hm9) (by decide)))
            rw [hd] at C2
            clear hw hd
            go_wp2_with fail
            refine (unhide C2).mono ?_
            rintro e w4 ⟨v4, rfl, i4, b4⟩
            obtain ⟨a4, c4, rfl⟩ := i4.form
            rw [show ([] : List Int).length = 0 from rfl]
            have G4 := hide ((unhide G3).next b4)
            have M4 := hide ((unhide M3).next b4)
            have B4 := hide (below_then (unhide B3) b4)
            clear i4 b4 C2 G3 M3 B3
            have C5 := hide (frs_any w4)
            go_wp2_with fail
            refine (unhide C5).mono ?_
            rintro e w5 ⟨rfl, b5⟩
            have G5 := hide ((unhide G4).next b5)
            have M5 := hide ((unhide M4).next b5)
            have B5 := hide (below_then (unhide B4) b5)
            have C6 := hide (acyclic_any w5 (unhide M5) (unhide hm9))
            rw [unhide hc] at C6
            clear G4 M4 B4 C5 b5
            go_wp2_with fail
            refine (unhide C6).mono ?_
            rintro e w6 ⟨rfl, b6⟩
            rw [show (([] : List Int).length == 0) = true from rfl]
            have G6 := hide ((unhide G5).next b6)
            have M6 := hide ((unhide M5).next b6)
            have B6 := hide (below_then (unhide B5) b6)
            have C7 := hide (victims_any w6 (unhide G6) (unhide hT) (unhide M6) (unhide hm9))
            rw [unhide hv] at C7
            clear G5 M5 B5 C6 b6
            go_wp2_with fail
            refine (unhide C7).mono ?_
            rintro e w7 ⟨v7, rfl, i7, b7⟩
            obtain ⟨a7, c7, rfl⟩ := i7.form
            rw [show ([] : List Int).length = 0 from rfl]
            have B7 := hide (below_then (unhide B6) b7)
            clear i7 b7 C7 G6 M6 B6
            go_wp2
            go_ret
            exact ⟨rfl, unhide B7⟩
          · have hw := hw rfl
            have C2 := hide (wounds_any wr (unhide G3) (unhide hT) (unhide M3) (Nat.le_trans (unhide hm9) (by decide)))
            rw [hw] at C2
            clear hw hd
            go_wp2_with fail
            refine (unhide C2).mono ?_
            rintro e w4 ⟨v4, rfl, i4, b4⟩
            obtain ⟨a4, c4, rfl⟩ := i4.form
            rw [show ([] : List Int).length = 0 from rfl]
            have G4 := hide ((unhide G3).next b4)
            have M4 := hide ((unhide M3).next b4)
            have B4 := hide (below_then (unhide B3) b4)
            clear i4 b4 C2 G3 M3 B3
            have C5 := hide (frs_any w4)
            go_wp2_with fail
            refine (unhide C5).mono ?_
            rintro e w5 ⟨rfl, b5⟩
            have G5 := hide ((unhide G4).next b5)
            have M5 := hide ((unhide M4).next b5)
            have B5 := hide (below_then (unhide B4) b5)
            have C6 := hide (acyclic_any w5 (unhide M5) (unhide hm9))
            rw [unhide hc] at C6
            clear G4 M4 B4 C5 b5
            go_wp2_with fail
            refine (unhide C6).mono ?_
            rintro e w6 ⟨rfl, b6⟩
            rw [show (([] : List Int).length == 0) = true from rfl]
            have G6 := hide ((unhide G5).next b6)
            have M6 := hide ((unhide M5).next b6)
            have B6 := hide (below_then (unhide B5) b6)
            have C7 := hide (victims_any w6 (unhide G6) (unhide hT) (unhide M6) (unhide hm9))
            rw [unhide hv] at C7
            clear G5 M5 B5 C6 b6
            go_wp2_with fail
            refine (unhide C7).mono ?_
            rintro e w7 ⟨v7, rfl, i7, b7⟩
            obtain ⟨a7, c7, rfl⟩ := i7.form
            rw [show ([] : List Int).length = 0 from rfl]
            have B7 := hide (below_then (unhide B6) b7)
            clear i7 b7 C7 G6 M6 B6
            go_wp2
            go_ret
            exact ⟨rfl, unhide B7⟩
    · go_wp2_with (go_at_call 23; refine unhide last _ ?_; intro w' hb)
      go_ret
      exact ⟨rfl, hb⟩
  · go_wp2_with (go_at_call 23; refine unhide last _ ?_; intro w' hb)
    go_ret
    exact ⟨rfl, hb⟩
end Go.Proofs.Ytjgepcifknmdhaa

/- The reference: Copy, Without, SameEdges. -/
namespace Go.Proofs.Ytjgepcifknmdhaa
open Go.RowKit
set_option linter.unusedVariables false

theorem hasB_dec (x : Int) (l : List Int) : hasB x l = decide (x ∈ l) := by
  by_cases h : x ∈ l
  · obtain ⟨i, hi, e⟩ := mem_at h
    rw [has_yes x l i hi e.symm]
    simp [h]
  · rw [hasB_false h]
    simp [h]
set_option maxRecDepth 100000 in
theorem rcopy_any (w : World) {v : Value} {l : List Int} (h : Rd w v l) (hz : Nz v) (hn : l.length ≤ 1500) :
    Calls Try.prog 64 #[v] w fun e w' => ∃ v', e = .returned v' ∧ Is w.heap.size v' l w' ∧ Below w.heap.size w w' := by
  obtain ⟨a, cap, rfl, hs⟩ := h
  have BW := below_new w (.cells #[] 3)
  have own : Hid ((w.alloc (.cells #[] 3)).ownsRow w.heap.size 3 1 (.slice (some ⟨w.heap.size, 0, none⟩) 0 0) 0 (vals [])) := World.ownsRow_lit w #[] 0 (Nat.le_refl _) (Nat.zero_le _) rfl
  have hs1 := hide (hs.later BW)
  have HBW := hide BW
  have hn2 : Hid (0 + l.length ≤ 2000) := by show _ ≤ _; omega
  have hnil : Hid (a = none → cap = 0) := fun e => by subst e; exact hz _ _ rfl
  clear BW hs hz
  generalize l.length = n at *
  go_enter Try.func64, Try.ntmps64
  go_wp2_with (at_builtin; refine wpList_append_seg _ (by rfl) (.tmp 3) (.tmp 4) rfl w.heap.size _ 0 [] rfl (unhide own) _ _ _ l rfl (unhide hs1) (unhide hnil) (unhide hn2) (unhide HBW).size ?_; intro v' w' a1 a2; replace a1 := hide a1; replace a2 := hide a2)
  go_ret
  have a3 := unhide a1
  rw [Nat.zero_add, List.nil_append] at a3
  refine ⟨v', rfl, ?_, (unhide HBW).trans (grown_below (unhide a2) (unhide HBW).size (fun k hk => ((unhide own).lt k hk).1))⟩
  have e := (unhide hs1).1
  unfold Is
  rw [e]
  exact a3
set_option maxRecDepth 100000 in
set_option maxHeartbeats 2000000 in
theorem rwithout_any (w : World) {u v : Value} {gone : List Int} {l : List En} (hg : Rd w u gone) (hgn : gone.length ≤ 1500) (h : Re w v l) (hn : l.length ≤ 700) :
    Calls Try.prog 18 #[u, v] w fun e w' => ∃ v', e = .returned v' ∧ Pr 41 w.heap.size v' (woL gone l) w' ∧ Below w.heap.size w w' := by
  obtain ⟨a, cap, rfl⟩ := h.form
  have R := hide h
  have Gd := hide hg
  have hg9 : Hid (gone.length ≤ 100000) := by show _ ≤ _; omega
  clear h hg
  go_enter Try.func18, Try.ntmps18
  go_wp2
  go_loopw [5, 6] (fun s5 s6 wr => ∃ (t k : Nat) (ag : Option Addr) (cg : Nat), t ≤ l.length ∧ k ≤ t ∧ s5 = .slice ag k cg ∧ s6 = .int .i64 t ∧ Hid ((woL gone (l.take t)).length = k) ∧ Hid (Pr 41 w.heap.size (.slice ag k cg) (woL gone (l.take t)) wr) ∧ Hid (Below w.heap.size w wr)) (fun _ s6 _ => l.length - (intOf s6).toNat)
  case atStart => exact ⟨0, 0, none, 0, Nat.zero_le _, Nat.le_refl _, rfl, rfl, rfl, Pr.nil _ _ _, Below.refl _ _⟩
  case round =>
    obtain ⟨t, k, ag, cg, ht, hk, rfl, rfl, hl3, I3, b3⟩ := hrel
    have hk9 : k < 10000000 := by omega
    by_cases hlt : t < l.length
    · obtain ⟨g, o, rfl, _, d1, d2⟩ := ((unhide R).next (unhide b3)).at hlt
      obtain ⟨x, hx⟩ : ∃ x, x = l.getD t (0, 0) := ⟨_, rfl⟩
      have hs := wol_succ gone l t hlt
      rw [← hx] at d1 d2 hs
      replace hx := hide hx
      have C1 := hide (has_any x.1 wr ((unhide Gd).next (unhide b3)) (unhide hg9))
      have C2 := hide (has_any x.2 wr ((unhide Gd).next (unhide b3)) (unhide hg9))
      have hb4 : Hid (w.heap.size ≤ wr.heap.size) := (unhide b3).size
      rw [hasB_dec] at C1 C2
      cases h1 : decide (x.1 ∈ gone)
      · rw [h1] at C1 hs
        clear h1
        cases h2 : decide (x.2 ∈ gone)
        · rw [h2, if_neg (by decide)] at hs
          rw [h2] at C2
          replace hs := hide hs
          clear h2
          go_wp2_with fail
          refine (unhide C1).mono ?_
          rintro e w5 ⟨rfl, rfl⟩
          clear C1
          go_wp2_with fail
          refine (unhide C2).mono ?_
          rintro e w6 ⟨rfl, rfl⟩
          clear C2
          go_wp2_with (at_builtin; refine wpList_pair 41 22 Try.underlying22 inf39 w6 rfl (.tmp 31) (.tmp 36) rfl w.heap.size ag k cg _ x _ rfl rfl rfl (unhide hl3) (unhide I3) (unhide hb4) hk9 ?_; intro g7 cap7 w7 a1 a2; replace a1 := hide a1; replace a2 := hide a2)
          go_roundw
          case rel => exact ⟨t + 1, k + 1, some ⟨g7, 0, none⟩, cap7, by omega, by omega, rfl, by go_num, by
            show _ = _
            rw [unhide hs, List.length_append, unhide hl3]; rfl, by rw [unhide hs]; exact unhide a1, (unhide b3).trans (grown_below (unhide a2) (unhide b3).size (fun j hj => ((unhide I3).lt j hj).1))⟩
          case measure => simp [intOf]; omega
        · rw [h2, if_pos (by decide), List.append_nil] at hs
          rw [h2] at C2
          replace hs := hide hs
          clear h2
          go_wp2_with fail
          refine (unhide C1).mono ?_
          rintro e w5 ⟨rfl, rfl⟩
          clear C1
          go_wp2_with fail
          refine (unhide C2).mono ?_
          rintro e w6 ⟨rfl, rfl⟩
          clear C2
          go_wp2
          go_roundw
          case rel => exact ⟨t + 1, k, ag, cg, by omega, by omega, rfl, by go_num, by rw [unhide hs]; exact unhide hl3, by rw [unhide hs]; exact unhide I3, unhide b3⟩
          case measure => simp [intOf]; omega
      · rw [h1] at C1
        rw [h1, Bool.true_or, if_pos rfl, List.append_nil] at hs
        replace hs := hide hs
        clear h1 C2
        go_wp2_with fail
        refine (unhide C1).mono ?_
        rintro e w5 ⟨rfl, rfl⟩
        clear C1
        go_wp2
        go_roundw
        case rel => exact ⟨t + 1, k, ag, cg, by omega, by omega, rfl, by go_num, by rw [unhide hs]; exact unhide hl3, by rw [unhide hs]; exact unhide I3, unhide b3⟩
        case measure => simp [intOf]; omega
    · obtain rfl : t = l.length := by omega
      rw [List.take_length] at I3 hl3
      go_wp2
      go_ret
      exact ⟨_, rfl, unhide I3, unhide b3⟩
set_option maxRecDepth 100000 in
set_option maxHeartbeats 2000000 in
theorem same_any (w : World) {u v : Value} {l : List En} (hu : Re w u l) (hv : Re w v l) (hn : l.length ≤ 700) :
    Calls Try.prog 16 #[u, v] w fun e w' => e = .returned (.bool true) ∧ Below w.heap.size w w' := by
  obtain ⟨a, cap, rfl⟩ := hu.form
  obtain ⟨b, cb, rfl⟩ := hv.form
  have R := hide hu
  have Q := hide hv
  clear hu hv
  go_enter Try.func16, Try.ntmps16
  go_wp2
  go_loopw [5] (fun s5 wr => ∃ t : Nat, t ≤ l.length ∧ s5 = .int .i64 t ∧ Hid (Below w.heap.size w wr)) (fun s5 _ => l.length - (intOf s5).toNat)
  case atStart => exact ⟨0, Nat.zero_le _, rfl, Below.refl _ _⟩
  case round =>
    obtain ⟨t, ht, rfl, b3⟩ := hrel
    by_cases hlt : t < l.length
    · obtain ⟨g, o, rfl, _, d1, d2⟩ := ((unhide R).next (unhide b3)).at hlt
      obtain ⟨g', o', rfl, _, f1, f2⟩ := ((unhide Q).next (unhide b3)).at hlt
      obtain ⟨x, hx⟩ : ∃ x, x = l.getD t (0, 0) := ⟨_, rfl⟩
      rw [← hx] at d1 d2 f1 f2
      replace hx := hide hx
      go_wp2_with fail
      go_region
      all_goals
        go_wp2
        go_roundw
        case rel => exact ⟨t + 1, by omega, by go_num, (unhide b3).drew⟩
        case measure => simp [intOf] <;> omega
    · go_wp2
      go_ret
      exact ⟨rfl, unhide b3⟩
end Go.Proofs.Ytjgepcifknmdhaa

/- RuleEnds. -/
namespace Go.Proofs.Ytjgepcifknmdhaa
open Go.RowKit
set_option linter.unusedVariables false

/-- What the law says, but for the eldest. -/
theorem ends_plain (T : List Int) (l : List En) (h : ∀ a, ¬ CE l a a) :
    circD (woL (vicD T l) l) = [] ∧ (∀ x ∈ vicD T l, onB l x = true) ∧ (∀ e ∈ woL (canon (wouL T l)) l, ygB T e.1 e.2 = true) ∧ (∀ e ∈ woL (canon (deaL T l)) l, ygB T e.1 e.2 = false) ∧
    circD (woL (canon (wouL T l)) l) = [] ∧ circD (woL (canon (deaL T l)) l) = [] := by
  have k1 : ∀ e ∈ woL (canon (wouL T l)) l, ygB T e.1 e.2 = true := fun e he => by
    obtain ⟨h1, _, h3⟩ := wol_mem.1 he
    have hne : e.2 ≠ e.1 := fun q => h e.1 (by have h1' : (e.1, e.2) ∈ l := h1; rw [q] at h1'; exact h1')
    refine yg_tot hne ?_
    cases hq : ygB T e.2 e.1
    · rfl
    · exact absurd (((canon_facts _).1 _).2 (wou_mem.2 ⟨e.1, h1, hq⟩)) h3
  have k2 : ∀ e ∈ woL (canon (deaL T l)) l, ygB T e.1 e.2 = false := fun e he => by
    obtain ⟨h1, h2, _⟩ := wol_mem.1 he
    cases hq : ygB T e.1 e.2
    · rfl
    · exact absurd (((canon_facts _).1 _).2 (dea_mem.2 ⟨e.2, h1, hq⟩)) h2
  refine ⟨vic_ends T l, fun x hx => onB_iff.2 (vic_on T l x hx), k1, k2, oneway_up (T := T) fun a b hab => k1 (a, b) hab, oneway_down (T := T) fun a b hab => ?_⟩
  have hne : a ≠ b := fun q => h a (by have := wo_sub hab; rw [← q] at this; exact this)
  exact yg_tot hne (k2 (a, b) hab)
/-- The eldest of some. -/
def El (T : List Int) (c : List Int) (x : Int) : Prop := ∀ y ∈ c, ygB T x y = false
theorem El.step {T c : List Int} {x : Int} (h : El T c x) (z : Int) : El T (c ++ [z]) (if ygB T x z then z else x) := by
  cases e : ygB T x z
  · rw [if_neg (by decide)]
    intro y hy
    rcases List.mem_append.1 hy with k | k
    · exact h y k
    · rw [List.mem_singleton.1 k]; exact e
  · rw [if_pos rfl]
    intro y hy
    rcases List.mem_append.1 hy with k | k
    · exact yg_ntrans (yg_asym e) (h y k)
    · rw [List.mem_singleton.1 k]; exact yg_irr T z
theorem el_none {T : List Int} {l : List En} (h : ∀ a, ¬ CE l a a) {x : Int} (hx : El T (canon (nodL l)) x) : hasB x (vicD T l) = false ∧ hasB x (canon (wouL T l)) = false ∧ hasB x (canon (deaL T l)) = false := by
  have hy : ∀ y ∈ nodL l, ygB T x y = false := fun y k => hx y (((canon_facts _).1 _).2 k)
  refine ⟨hasB_false (vic_eldest h hy), hasB_false fun k => ?_, hasB_false fun k => ?_⟩
  · rw [(canon_facts _).1, wou_mem] at k
    obtain ⟨a, h1, h2⟩ := k
    rw [hy a (nod_mem.2 ⟨_, h1, .inl rfl⟩)] at h2
    cases h2
  · rw [(canon_facts _).1, dea_mem] at k
    obtain ⟨a, h1, h2⟩ := k
    rw [hy a (nod_mem.2 ⟨_, h1, .inr rfl⟩)] at h2
    cases h2
theorem ends_nil {T : List Int} {l : List En} (h : canon (nodL l) = []) : vicD T l = [] ∧ canon (wouL T l) = [] ∧ canon (deaL T l) = [] := by
  have hl : l = [] := by
    cases l with
    | nil => rfl
    | cons e r =>
      have : e.1 ∈ canon (nodL (e :: r)) := ((canon_facts _).1 _).2 (nod_mem.2 ⟨e, List.mem_cons_self .., .inl rfl⟩)
      rw [h] at this
      cases this
  subst hl
  exact ⟨vic_no circ_none, canon_nil rfl, canon_nil rfl⟩
theorem take_snocI {P : En → Prop} {l : List En} {t : Nat} (ht : t < l.length) (h : ∀ e ∈ l.take t, P e) (hx : P (l.getD t (0, 0))) : ∀ e ∈ l.take (t + 1), P e := by
  intro e he
  rw [List.take_succ_eq_append_getElem ht] at he
  rcases List.mem_append.1 he with k | k
  · exact h e k
  · rw [List.mem_singleton.1 k]
    have e2 : l.getD t (0, 0) = l[t] := by simp [List.getD, ht]
    rw [← e2]; exact hx
theorem getD_memI {l : List En} {t : Nat} (ht : t < l.length) : l.getD t (0, 0) ∈ l := by
  have e2 : l.getD t (0, 0) = l[t] := by simp [List.getD, ht]
  rw [e2]; exact List.getElem_mem ht
theorem getD_take {l : List Int} {t : Nat} (ht : t < l.length) : l.take (t + 1) = l.take t ++ [l.getD t 0] := by
  rw [List.take_succ_eq_append_getElem ht]
  simp [List.getD, ht]
set_option maxRecDepth 100000 in
set_option maxHeartbeats 4000000 in
theorem ruleEnds_walk (a0 : Option Addr) (len0 cap0 : Nat) (T : List Int) (a1 : Option Addr) (len1 cap1 : Nat) (Z1 : Nat → Nat → Int) (W : World) (s0 : SegK .i64 W a0 len0 T) (lc0 : len0 ≤ cap0) (cm0 : cap0 ≤ maxLen) (wz0 : ∀ z ∈ T, (Lit.int .i64 z).wf = true)
    (s1 : RecsB 2 W.heap.size W a1 len1 Z1) (lc1 : len1 ≤ cap1) (cm1 : cap1 ≤ maxLen) (wz1 : ∀ i, i < len1 → ∀ j, j < 2 → (Lit.int .i64 (Z1 i j)).wf = true) :
    Calls Try.prog 5 #[.slice a0 len0 cap0, .slice a1 len1 cap1] W fun e w' => e = .returned (.bool true) ∧ Below W.heap.size W w' := by
  have R0 : Re W (.slice a1 len1 cap1) (edgesOf len1 Z1) := re_recs s1
  have hl1 := edges_len len1 Z1
  generalize edgesOf len1 Z1 = l at R0 hl1
  have G0 : Rd W (.slice a0 len0 cap0) T := rd_seg s0
  have hl0 : T.length = len0 := s0.1
  unfold maxLen at cm0 cm1
  clear s0 wz0 s1 wz1
  have C1 := hide (frs_any W)
  replace hl0 := hide hl0
  replace hl1 := hide hl1
  replace R0 := hide R0
  replace G0 := hide G0
  have last : Hid (∀ w1, Below W.heap.size W w1 → ∀ P : Ending → World → Prop, (∀ w', Below W.heap.size W w' → P (.returned (.bool true)) w') → Calls Try.prog 23 #[] w1 P) := fun w1 b1 P h => (frs_any w1).mono (by rintro e w' ⟨rfl, b⟩; exact h _ (below_then b1 b))
  go_enter Try.func5, Try.ntmps5
  go_wp2_with fail
  refine (unhide C1).mono ?_
  rintro e w1 ⟨rfl, b1⟩
  have L := hide ((unhide R0).next b1)
  have G := hide ((unhide G0).next b1)
  have BB := hide b1
  clear C1 R0 G0 b1
  by_cases h0 : 60 < len1
  · go_wp2_with (go_at_call 23; refine unhide last _ (unhide BB) _ ?_; intro w9 hb9)
    go_ret
    exact ⟨rfl, hb9⟩
  by_cases h1 : 100 < len0
  · go_wp2_with (go_at_call 23; refine unhide last _ (unhide BB) _ ?_; intro w9 hb9)
    go_ret
    exact ⟨rfl, hb9⟩
  have f1 : decide (60 < (len1 : Int)) = false := by simp; omega
  have f2 : decide (100 < (len0 : Int)) = false := by simp; omega
  have hT : Hid (T.length ≤ 1000) := by show _ ≤ _; rw [unhide hl0]; omega
  have hl3 : Hid (l.length ≤ 300) := by show _ ≤ _; rw [unhide hl1]; omega
  go_wp2
  clear f1 f2
  go_loopw [5] (fun s5 wy => ∃ (t : Nat) (wz : World), t ≤ len1 ∧ s5 = .int .i64 t ∧ wz = wy ∧ Hid (Below w1.heap.size w1 wz) ∧ Hid (∀ e ∈ l.take t, e.1 ≠ e.2)) (fun s5 _ => len1 - (intOf s5).toNat)
  case atStart => exact ⟨0, _, Nat.zero_le _, rfl, rfl, Below.refl _ _, fun e he => by simp at he⟩
  case round =>
    obtain ⟨t, wz, ht, rfl, hwz, bz, ok⟩ := hrel
    subst hwz
    replace BB := hide (below_then (unhide BB) (unhide bz))
    by_cases hlt : t < len1
    · have hlt2 : t < l.length := by rw [unhide hl1]; exact hlt
      obtain ⟨g, o, rfl, _, d1, d2⟩ := ((unhide L).next (unhide bz)).at hlt2
      obtain ⟨x, hx⟩ : ∃ x, x = l.getD t (0, 0) := ⟨_, rfl⟩
      rw [← hx] at d1 d2
      have stp : Hid (x.1 ≠ x.2 → ∀ e ∈ l.take (t + 1), e.1 ≠ e.2) := fun h => take_snocI hlt2 (unhide ok) (by rw [← hx]; exact h)
      replace hx := hide hx
      cases hq : (x.1 == x.2)
      · have ok2 := hide (unhide stp (by simpa using hq))
        go_wp2_with fail
        go_quiet (fail)
        go_wp2
        go_roundw
        case rel => exact ⟨t + 1, _, by omega, by go_num, rfl, bt (unhide bz) (blw_drewN wz nq) (unhide bz).size, unhide ok2⟩
        case measure => simp [intOf]; omega
      · replace BB := hide (fun nq => below_then (unhide BB) (blw_drewN wz nq))
        go_wp2_with fail
        go_quiet (fail)
        replace BB := hide (unhide BB nq)
        go_wp2_with (go_at_call 23; refine unhide last _ (unhide BB) _ ?_; intro w9 hb9)
        go_ret
        exact ⟨rfl, hb9⟩
    · obtain rfl : t = len1 := by omega
      have e1 : l.take t = l := List.take_of_length_le (by rw [unhide hl1]; omega)
      rw [e1] at ok
      have hself : ∀ a, ¬ CE l a a := fun a h => unhide ok _ h rfl
      obtain ⟨p1, p2, p3, p4, p5, p6⟩ := ends_plain T l hself
      have p7 : Hid (∀ x, El T (canon (nodL l)) x → hasB x (vicD T l) = false ∧ hasB x (canon (wouL T l)) = false ∧ hasB x (canon (deaL T l)) = false) := fun x hx => el_none hself hx
      have p8 : Hid (canon (nodL l) = [] → vicD T l = [] ∧ canon (wouL T l) = [] ∧ canon (deaL T l) = []) := ends_nil
      replace p1 := hide p1
      replace p2 := hide p2
      replace p3 := hide p3
      replace p4 := hide p4
      replace p5 := hide p5
      replace p6 := hide p6
      replace L := hide ((unhide L).next (unhide bz))
      replace G := hide ((unhide G).next (unhide bz))
      have hl7 : Hid (l.length ≤ 700) := Nat.le_trans (unhide hl3) (by decide)
      clear e1 ok hself last bz hlt ht
      have C := hide (victims_any wz (unhide G) (unhide hT) (unhide L) (unhide hl3))
      go_wp2_with fail
      refine (unhide C).mono ?_
      rintro e w2 ⟨v2, rfl, V, bX⟩
      replace L := hide ((unhide L).next bX)
      replace G := hide ((unhide G).next bX)
      replace BB := hide (below_then (unhide BB) bX)
      clear bX C
      have Vz : Hid (Nz v2) := V.nz
      replace V := hide V.rd
      have hv9 : Hid ((vicD T l).length ≤ 300) := by have q1 := vic_len T l; have q3 := unhide hl3; show _ ≤ _; omega
      have C := hide (wounds_any w2 (unhide G) (unhide hT) (unhide L) (unhide hl7))
      go_wp2_with fail
      refine (unhide C).mono ?_
      rintro e w3 ⟨v3, rfl, U, bX⟩
      replace L := hide ((unhide L).next bX)
      replace G := hide ((unhide G).next bX)
      replace V := hide ((unhide V).next bX)
      replace BB := hide (below_then (unhide BB) bX)
      clear bX C
      have Uz : Hid (Nz v3) := U.nz
      replace U := hide U.rd
      have hu9 : Hid ((canon (wouL T l)).length ≤ 300) := by have q1 := canon_le (wouL T l); have q2 := wou_le T l; have q3 := unhide hl3; show _ ≤ _; omega
      have C := hide (deaths_any w3 (unhide G) (unhide hT) (unhide L) (unhide hl7))
      go_wp2_with fail
      refine (unhide C).mono ?_
      rintro e w4 ⟨v4, rfl, D, bX⟩
      replace L := hide ((unhide L).next bX)
      replace G := hide ((unhide G).next bX)
      replace V := hide ((unhide V).next bX)
      replace U := hide ((unhide U).next bX)
      replace BB := hide (below_then (unhide BB) bX)
      clear bX C
      have Dz : Hid (Nz v4) := D.nz
      replace D := hide D.rd
      have hd9 : Hid ((canon (deaL T l)).length ≤ 300) := by have q1 := canon_le (deaL T l); have q2 := dea_le T l; have q3 := unhide hl3; show _ ≤ _; omega
      generalize vicD T l = vl at *
      generalize canon (wouL T l) = ul at *
      generalize canon (deaL T l) = dl at *
      have C := hide (without_any w4 (unhide V) (unhide Vz) (Nat.le_trans (unhide hv9) (by decide)) (unhide L) (unhide hl7))
      go_wp2_with fail
      refine (unhide C).mono ?_
      rintro e w5 ⟨v5, rfl, X, bX⟩
      replace L := hide ((unhide L).next bX)
      replace G := hide ((unhide G).next bX)
      replace V := hide ((unhide V).next bX)
      replace U := hide ((unhide U).next bX)
      replace D := hide ((unhide D).next bX)
      replace BB := hide (below_then (unhide BB) bX)
      clear bX C
      replace X := hide X.re
      have hx9 : Hid ((woL vl l).length ≤ 300) := by have q1 := wol_le vl l; have q3 := unhide hl3; show _ ≤ _; omega
      have CX := acyclic_any w5 (unhide X) (unhide hx9)
      rw [unhide p1, show (([] : List Int).length == 0) = true from rfl] at CX
      have C := hide (CX)
      go_wp2_with fail
      refine (unhide C).mono ?_
      rintro e w6 ⟨rfl, bX⟩
      replace L := hide ((unhide L).next bX)
      replace G := hide ((unhide G).next bX)
      replace V := hide ((unhide V).next bX)
      replace U := hide ((unhide U).next bX)
      replace D := hide ((unhide D).next bX)
      replace BB := hide (below_then (unhide BB) bX)
      clear bX C
      clear CX X hx9 p1
      obtain ⟨av, cv, rfl, sv⟩ := unhide V
      clear sv Vz
      obtain ⟨kv, hkv⟩ : ∃ kv, kv = vl.length := ⟨_, rfl⟩
      rw [← hkv] at V hv9 ⊢
      have kvb : kv ≤ 300 := unhide hv9
      replace hkv := hide hkv
      go_wp2
      go_loopw [9] (fun s9 wy => ∃ (j : Nat) (wz : World), j ≤ kv ∧ s9 = .int .i64 j ∧ wz = wy ∧ Hid (Below w6.heap.size w6 wz)) (fun s9 _ => kv - (intOf s9).toNat)
      case atStart => exact ⟨0, _, Nat.zero_le _, rfl, rfl, Below.refl _ _⟩
      case round =>
        obtain ⟨j, wz, hj, rfl, hwz, bz⟩ := hrel
        subst hwz
        by_cases hlt : j < kv
        · obtain ⟨g, o, rfl, d⟩ := seg_at (by have := (unhide V).next (unhide bz); obtain ⟨a', c', e', s'⟩ := this; injection e' with e1 e2 e3; subst e1; exact s') (i := j) (by rw [← unhide hkv]; exact hlt)
          obtain ⟨x, hx⟩ : ∃ x, x = vl.getD j 0 := ⟨_, rfl⟩
          rw [← hx] at d
          have hm : x ∈ vl := by rw [hx]; exact at_mem (by rw [← unhide hkv]; exact hlt)
          have C := on_any wz ((unhide L).next (unhide bz)) (unhide hl3) x
          rw [unhide p2 x hm] at C
          replace hx := hide hx
          replace C := hide C
          clear hm
          go_wp2_with fail
          refine (unhide C).mono ?_
          rintro e w7 ⟨rfl, b7⟩
          have b8 := hide (bt (unhide bz) b7 (unhide bz).size)
          clear C b7
          go_wp2
          go_roundw
          case rel => exact ⟨j + 1, _, by omega, by go_num, rfl, unhide b8⟩
          case measure => simp [intOf]; omega
        · obtain rfl : j = kv := by omega
          replace L := hide ((unhide L).next (unhide bz))
          replace G := hide ((unhide G).next (unhide bz))
          replace V := hide ((unhide V).next (unhide bz))
          replace U := hide ((unhide U).next (unhide bz))
          replace D := hide ((unhide D).next (unhide bz))
          replace BB := hide (below_then (unhide BB) (unhide bz))
          clear bz hlt hj p2
          have C := hide (without_any wz (unhide U) (unhide Uz) (Nat.le_trans (unhide hu9) (by decide)) (unhide L) (unhide hl7))
          go_wp2_with fail
          refine (unhide C).mono ?_
          rintro e w8 ⟨v8, rfl, X, bX⟩
          replace L := hide ((unhide L).next bX)
          replace G := hide ((unhide G).next bX)
          replace V := hide ((unhide V).next bX)
          replace U := hide ((unhide U).next bX)
          replace D := hide ((unhide D).next bX)
          replace BB := hide (below_then (unhide BB) bX)
          clear bX C
          replace X := hide X.re
          have hx9 : Hid ((woL ul l).length ≤ 300) := by have q1 := wol_le ul l; have q3 := unhide hl3; show _ ≤ _; omega
          have C := hide (without_any w8 (unhide D) (unhide Dz) (Nat.le_trans (unhide hd9) (by decide)) (unhide L) (unhide hl7))
          go_wp2_with fail
          refine (unhide C).mono ?_
          rintro e w9 ⟨v9, rfl, Y, bX⟩
          replace L := hide ((unhide L).next bX)
          replace G := hide ((unhide G).next bX)
          replace V := hide ((unhide V).next bX)
          replace U := hide ((unhide U).next bX)
          replace D := hide ((unhide D).next bX)
          replace X := hide ((unhide X).next bX)
          replace BB := hide (below_then (unhide BB) bX)
          clear bX C
          replace Y := hide Y.re
          have hy9 : Hid ((woL dl l).length ≤ 300) := by have q1 := wol_le dl l; have q3 := unhide hl3; show _ ≤ _; omega
          generalize woL ul l = xl at *
          generalize woL dl l = yl at *
          obtain ⟨ax, cx, rfl⟩ := (unhide X).form
          obtain ⟨ay, cy, rfl⟩ := (unhide Y).form
          obtain ⟨kx, hkx⟩ : ∃ kx, kx = xl.length := ⟨_, rfl⟩
          obtain ⟨ky, hky⟩ : ∃ ky, ky = yl.length := ⟨_, rfl⟩
          rw [← hkx] at X hx9 ⊢
          rw [← hky] at Y hy9 ⊢
          have kxb : kx ≤ 300 := unhide hx9
          have kyb : ky ≤ 300 := unhide hy9
          replace hkx := hide hkx
          replace hky := hide hky
          go_wp2
          go_loopw [12] (fun s9 wy => ∃ (j : Nat) (wz : World), j ≤ kx ∧ s9 = .int .i64 j ∧ wz = wy ∧ Hid (Below w9.heap.size w9 wz)) (fun s9 _ => kx - (intOf s9).toNat)
          case atStart => exact ⟨0, _, Nat.zero_le _, rfl, rfl, Below.refl _ _⟩
          case round =>
            obtain ⟨i12, w10, hj, rfl, hwz, bz⟩ := hrel
            subst hwz
            by_cases hlt : i12 < kx
            · have hlt2 : i12 < xl.length := by rw [← unhide hkx]; exact hlt
              obtain ⟨g, o, rfl, _, d1, d2⟩ := ((unhide X).next (unhide bz)).at hlt2
              obtain ⟨x, hx⟩ : ∃ x, x = xl.getD i12 (0, 0) := ⟨_, rfl⟩
              rw [← hx] at d1 d2
              have hm : x ∈ xl := by rw [hx]; exact getD_memI hlt2
              have H1 : ∀ n, Calls Try.prog 31 #[.slice a0 len0 cap0, .int .i64 x.1, .int .i64 x.2] (w10.drewN n) fun e w' => e = .returned (.bool (ygB T x.1 x.2)) ∧ w' = w10.drewN n := fun n => lyounger_any _ (((unhide G).next (unhide bz)).next (blw_drewN _ n)) (unhide hT) _ _
              rw [unhide p3 x hm] at H1
              replace hx := hide hx
              clear hm hlt2
              go_wp2_with fail
              go_quiet ((go_at_call 31; with_reducible exact Calls.quiet_of_same (H1 _)))
              go_wp2
              go_roundw
              case rel => exact ⟨i12 + 1, _, by omega, by go_num, rfl, bt (unhide bz) (blw_drewN w10 nq) (unhide bz).size⟩
              case measure => simp [intOf]; omega
            · obtain rfl : i12 = kx := by omega
              replace L := hide ((unhide L).next (unhide bz))
              replace G := hide ((unhide G).next (unhide bz))
              replace V := hide ((unhide V).next (unhide bz))
              replace U := hide ((unhide U).next (unhide bz))
              replace D := hide ((unhide D).next (unhide bz))
              replace X := hide ((unhide X).next (unhide bz))
              replace Y := hide ((unhide Y).next (unhide bz))
              replace BB := hide (below_then (unhide BB) (unhide bz))
              clear bz hlt hj p3
              go_wp2
              go_loopw [13] (fun s9 wy => ∃ (j : Nat) (wz : World), j ≤ ky ∧ s9 = .int .i64 j ∧ wz = wy ∧ Hid (Below w10.heap.size w10 wz)) (fun s9 _ => ky - (intOf s9).toNat)
              case atStart => exact ⟨0, _, Nat.zero_le _, rfl, rfl, Below.refl _ _⟩
              case round =>
                obtain ⟨i13, w11, hj, rfl, hwz, bz⟩ := hrel
                subst hwz
                by_cases hlt : i13 < ky
                · have hlt2 : i13 < yl.length := by rw [← unhide hky]; exact hlt
                  obtain ⟨g, o, rfl, _, d1, d2⟩ := ((unhide Y).next (unhide bz)).at hlt2
                  obtain ⟨x, hx⟩ : ∃ x, x = yl.getD i13 (0, 0) := ⟨_, rfl⟩
                  rw [← hx] at d1 d2
                  have hm : x ∈ yl := by rw [hx]; exact getD_memI hlt2
                  have H1 : ∀ n, Calls Try.prog 31 #[.slice a0 len0 cap0, .int .i64 x.1, .int .i64 x.2] (w11.drewN n) fun e w' => e = .returned (.bool (ygB T x.1 x.2)) ∧ w' = w11.drewN n := fun n => lyounger_any _ (((unhide G).next (unhide bz)).next (blw_drewN _ n)) (unhide hT) _ _
                  rw [unhide p4 x hm] at H1
                  replace hx := hide hx
                  clear hm hlt2
                  go_wp2_with fail
                  go_quiet ((go_at_call 31; with_reducible exact Calls.quiet_of_same (H1 _)))
                  go_wp2
                  go_roundw
                  case rel => exact ⟨i13 + 1, _, by omega, by go_num, rfl, bt (unhide bz) (blw_drewN w11 nq) (unhide bz).size⟩
                  case measure => simp [intOf]; omega
                · obtain rfl : i13 = ky := by omega
                  replace L := hide ((unhide L).next (unhide bz))
                  replace G := hide ((unhide G).next (unhide bz))
                  replace V := hide ((unhide V).next (unhide bz))
                  replace U := hide ((unhide U).next (unhide bz))
                  replace D := hide ((unhide D).next (unhide bz))
                  replace X := hide ((unhide X).next (unhide bz))
                  replace Y := hide ((unhide Y).next (unhide bz))
                  replace BB := hide (below_then (unhide BB) (unhide bz))
                  clear bz hlt hj p4
                  have C := hide (nodes_any w11 (unhide L) (unhide hl7))
                  go_wp2_with fail
                  refine (unhide C).mono ?_
                  rintro e w12 ⟨v12, rfl, M, bX⟩
                  replace L := hide ((unhide L).next bX)
                  replace G := hide ((unhide G).next bX)
                  replace V := hide ((unhide V).next bX)
                  replace U := hide ((unhide U).next bX)
                  replace D := hide ((unhide D).next bX)
                  replace X := hide ((unhide X).next bX)
                  replace Y := hide ((unhide Y).next bX)
                  replace BB := hide (below_then (unhide BB) bX)
                  clear bX C
                  replace M := hide M.rd
                  obtain ⟨am, cm, rfl, sm⟩ := unhide M
                  clear sm
                  have hn9 : Hid ((canon (nodL l)).length ≤ 1000) := by have q1 := canon_le (nodL l); rw [nod_len] at q1; have q3 := unhide hl3; show _ ≤ _; omega
                  generalize canon (nodL l) = ml at *
                  obtain ⟨km, hkm⟩ : ∃ km, km = ml.length := ⟨_, rfl⟩
                  rw [← hkm] at M hn9 ⊢
                  have kmb : km ≤ 1000 := unhide hn9
                  by_cases h0 : km = 0
                  · subst h0
                    obtain ⟨q1, q2, q3⟩ := unhide p8 (List.eq_nil_of_length_eq_zero hkm.symm)
                    have kv0 : j = 0 := by rw [unhide hkv, q1]; rfl
                    subst kv0
                    obtain ⟨au, cu, rfl, _⟩ := unhide U
                    obtain ⟨ad, cd, rfl, _⟩ := unhide D
                    have ku0 : ul.length = 0 := by rw [q2]; rfl
                    have kd0 : dl.length = 0 := by rw [q3]; rfl
                    rw [ku0, kd0]
                    have C := hide (frs_any w12)
                    clear q1 q2 q3 ku0 kd0 hkm
                    go_wp2_with fail
                    refine (unhide C).mono ?_
                    rintro e w13 ⟨rfl, bX⟩
                    replace BB := hide (below_then (unhide BB) bX)
                    clear bX C
                    go_wp2
                    go_ret
                    exact ⟨rfl, unhide BB⟩
                  have hb0 : (km == 0) = false := beq_eq_false_iff_ne.2 h0
                  have hb1 : ((km : Int) == 0) = false := beq_eq_false_iff_ne.2 (by omega)
                  obtain ⟨g, o, rfl, d⟩ := seg_at (by have := (unhide M); obtain ⟨a', c', e', s'⟩ := this; injection e' with e1 e2 e3; subst e1; exact s') (i := 0) (by rw [← hkm]; omega)
                  obtain ⟨x0, hx0⟩ : ∃ x, x = ml.getD 0 0 := ⟨_, rfl⟩
                  have t1 := getD_take (l := ml) (t := 0) (by rw [← hkm]; omega)
                  rw [← hx0] at d t1
                  rw [List.take_zero, List.nil_append] at t1
                  have el0 : Hid (El T (ml.take 1) x0) := by
                    show El _ _ _
                    rw [show (0 : Nat) + 1 = 1 from rfl] at t1
                    rw [t1]
                    intro y hy
                    rw [List.mem_singleton.1 hy]; exact yg_irr T x0
                  rw [Nat.add_zero] at d
                  replace hkm := hide hkm
                  replace hx0 := hide hx0
                  clear t1
                  go_wp2
                  clear d hb0 hb1
                  go_loopw [15, 16] (fun s15 s16 wy => ∃ (i : Nat) (x : Int) (wz : World), 1 ≤ i ∧ i ≤ km ∧ s15 = .int .i64 x ∧ s16 = .int .i64 i ∧ wz = wy ∧ wz = w12 ∧ Hid (El T (ml.take i) x)) (fun _ s16 _ => km - (intOf s16).toNat)
                  case atStart => exact ⟨1, x0, _, by omega, by omega, rfl, rfl, rfl, rfl, unhide el0⟩
                  case round =>
                    clear el0
                    obtain ⟨i, x, wz, hi1, hi, rfl, rfl, hwz, hwz2, el⟩ := hrel
                    subst hwz
                    subst hwz2
                    by_cases hlt : i < km
                    · obtain ⟨g', o', e', d⟩ := seg_at (by have := (unhide M); obtain ⟨a', c', e', s'⟩ := this; injection e' with e1 e2 e3; subst e1; exact s') (i := i) (by rw [← unhide hkm]; exact hlt)
                      obtain ⟨rfl, rfl⟩ : g = g' ∧ o = o' := by simpa using e'
                      clear e'
                      obtain ⟨z, hz⟩ : ∃ z, z = ml.getD i 0 := ⟨_, rfl⟩
                      have t1 := getD_take (l := ml) (t := i) (by rw [← unhide hkm]; exact hlt)
                      rw [← hz] at d t1
                      have st := (unhide el).step z
                      rw [← t1] at st
                      replace hz := hide hz
                      have C := hide (lyounger_any _ (unhide G) (unhide hT) x z)
                      clear t1
                      go_wp2_with fail
                      refine (unhide C).mono ?_
                      rintro e w13 ⟨rfl, rfl⟩
                      clear C
                      cases hg : ygB T x z
                      · rw [hg, if_neg (by decide)] at st
                        replace st := hide st
                        go_wp2
                        go_roundw
                        case rel => exact ⟨i + 1, x, _, by omega, by omega, rfl, by go_num, rfl, rfl, unhide st⟩
                        case measure => simp [intOf]; omega
                      · rw [hg, if_pos rfl] at st
                        replace st := hide st
                        go_wp2
                        go_roundw
                        case rel => exact ⟨i + 1, z, _, by omega, by omega, rfl, by go_num, rfl, rfl, unhide st⟩
                        case measure => simp [intOf]; omega
                    · obtain rfl : i = km := by omega
                      have e1 : ml.take i = ml := List.take_of_length_le (by rw [← unhide hkm]; omega)
                      rw [e1] at el
                      obtain ⟨q1, q2, q3⟩ := unhide p7 x (unhide el)
                      replace q1 := hide q1
                      replace q2 := hide q2
                      replace q3 := hide q3
                      clear e1 el hlt hi hi1 p7 p8
                      have C := hide (frs_any wz)
                      go_wp2_with fail
                      refine (unhide C).mono ?_
                      rintro e w20 ⟨rfl, bX⟩
                      replace L := hide ((unhide L).next bX)
                      replace G := hide ((unhide G).next bX)
                      replace V := hide ((unhide V).next bX)
                      replace U := hide ((unhide U).next bX)
                      replace D := hide ((unhide D).next bX)
                      replace X := hide ((unhide X).next bX)
                      replace Y := hide ((unhide Y).next bX)
                      replace BB := hide (below_then (unhide BB) bX)
                      clear bX C
                      have CX := has_any x _ (unhide V) (by rw [← unhide hkv]; exact Nat.le_trans (unhide hv9) (by decide))
                      rw [unhide q1] at CX
                      have C := hide CX
                      clear CX
                      go_wp2_with fail
                      refine (unhide C).mono ?_
                      rintro e wP ⟨rfl, rfl⟩
                      clear C
                      have CX := has_any x _ (unhide U) (Nat.le_trans (unhide hu9) (by decide))
                      rw [unhide q2] at CX
                      have C := hide CX
                      clear CX
                      go_wp2_with fail
                      refine (unhide C).mono ?_
                      rintro e wP ⟨rfl, rfl⟩
                      clear C
                      have CX := has_any x _ (unhide D) (Nat.le_trans (unhide hd9) (by decide))
                      rw [unhide q3] at CX
                      have C := hide CX
                      clear CX
                      go_wp2_with fail
                      refine (unhide C).mono ?_
                      rintro e wP ⟨rfl, rfl⟩
                      clear C
                      have CX := acyclic_any _ (unhide X) (by rw [← unhide hkx]; exact unhide hx9)
                      rw [unhide p5, show (([] : List Int).length == 0) = true from rfl] at CX
                      have C := hide (CX)
                      go_wp2_with fail
                      refine (unhide C).mono ?_
                      rintro e w21 ⟨rfl, bX⟩
                      replace Y := hide ((unhide Y).next bX)
                      replace BB := hide (below_then (unhide BB) bX)
                      clear bX C
                      clear CX
                      have CX := acyclic_any _ (unhide Y) (by rw [← unhide hky]; exact unhide hy9)
                      rw [unhide p6, show (([] : List Int).length == 0) = true from rfl] at CX
                      have C := hide (CX)
                      go_wp2_with fail
                      refine (unhide C).mono ?_
                      rintro e w22 ⟨rfl, bX⟩
                      replace BB := hide (below_then (unhide BB) bX)
                      clear bX C
                      clear CX
                      go_wp2
                      go_ret
                      exact ⟨rfl, unhide BB⟩
end Go.Proofs.Ytjgepcifknmdhaa
