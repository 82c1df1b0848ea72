/- Texts of this claim, put together in their order. -/
import Derived.Test.YtfnepbpopemonaaOfGraphparts1
import Derived.Test.YtfnepbpopemonaaOfGraphparts2
import Derived.Test.YtfnepbpopemonaaOfGraphparts3
import Derived.Test.YtfnepbpopemonaaOfGraphparts4
import Derived.Test.YtfnepbpopemonaaOfGraphparts5
import Derived.Test.YtfnepbpopemonaaOfGraphparts6
import Derived.Test.YtfnepbpopemonaaOfGraphparts7
/- GraphParts: the walk. -/
namespace Go.Proofs.Ytfnepbpopemonaa
open Go.RowKit
set_option linter.unusedVariables false

theorem Pr.nz {t : TypeId} {B : Nat} {a : Option Addr} {n c : Nat} {l : List En} {w : World} (h : Pr t B (.slice a n c) l w) : a = none → c = 0 := by
  rintro rfl
  rcases h.2 with ⟨e, _⟩ | ⟨g, cap, cur, e, _⟩
  · injection e
  · injection e with e1; cases e1
theorem mk4_def (y : Int) : bits .and .i64 y 15 = mk4 y := rfl
set_option maxRecDepth 100000 in
set_option maxHeartbeats 4000000 in
theorem graphParts_walk (a0 : Option Addr) (len0 cap0 : Nat) (Z0 : Nat → Nat → Int) (a1 : Option Addr) (len1 cap1 : Nat) (Z1 : Nat → Nat → Int) (W : World) (s0 : RecsB 2 W.heap.size W a0 len0 Z0) (lc0 : len0 ≤ cap0) (cm0 : cap0 ≤ maxLen)
    (wz0 : ∀ i, i < len0 → ∀ j, j < 2 → (Lit.int .i64 (Z0 i j)).wf = true) (s1 : RecsB 2 W.heap.size W a1 len1 Z1) (lc1 : len1 ≤ cap1) (cm1 : cap1 ≤ maxLen) (wz1 : ∀ i, i < len1 → ∀ j, j < 2 → (Lit.int .i64 (Z1 i j)).wf = true) :
    Calls Try.prog 7 #[.slice a0 len0 cap0, .slice a1 len1 cap1] W fun e w' => e = .returned (.bool true) ∧ Below W.heap.size W w' := by
  have R0 : Re W (.slice a0 len0 cap0) (edgesOf len0 Z0) := re_recs s0
  have hl0 := edges_len len0 Z0
  generalize edgesOf len0 Z0 = l at R0 hl0
  have S0 : Re W (.slice a1 len1 cap1) (edgesOf len1 Z1) := re_recs s1
  have hl1 := edges_len len1 Z1
  generalize edgesOf len1 Z1 = m at S0 hl1
  unfold maxLen at cm0 cm1
  clear s0 wz0 s1 wz1
  have C1 := hide (fst_any W)
  replace hl0 := hide hl0
  replace hl1 := hide hl1
  replace R0 := hide R0
  replace S0 := hide S0
  go_enter Try.func7, Try.ntmps7
  go_wp2_with fail
  refine (unhide C1).mono ?_
  rintro e w1 ⟨rfl, b1⟩
  have R1 := hide ((unhide R0).next b1)
  have S1 := hide ((unhide S0).next b1)
  replace b1 := hide b1
  clear C1 R0 S0
  by_cases h60 : len0 ≤ 30
  · by_cases h61 : len1 ≤ 30
    · have h60z : decide ((30 : Int) < (len0 : Int)) = false := by simp; omega
      have h61z : decide ((30 : Int) < (len1 : Int)) = false := by simp; omega
      go_wp2
      go_loopw [5, 7] (fun s5 s7 wr => ∃ (t : Nat) (ag : Option Addr) (cg : Nat), t ≤ len0 ∧ s5 = .slice ag t cg ∧ s7 = .int .i64 t ∧ Hid (Pr 39 w1.heap.size (.slice ag t cg) (partL 0 (l.take t)) wr) ∧ Hid (Below w1.heap.size w1 wr)) (fun _ s7 _ => len0 - (intOf s7).toNat)
      case atStart => exact ⟨0, none, 0, Nat.zero_le _, rfl, rfl, Pr.nil _ _ _, Below.refl _ _⟩
      case round =>
        obtain ⟨t, ag, cg, ht, rfl, rfl, I1, b4⟩ := hrel
        by_cases hlt : t < len0
        · have hpl : t < l.length := by rw [unhide hl0]; exact hlt
          obtain ⟨g, o, rfl, hgw, d1, d2⟩ := ((unhide R1).next (unhide b4)).at hpl
          obtain ⟨x, hx⟩ : ∃ x, x = l.getD t (0, 0) := ⟨_, rfl⟩
          have hbk := part_succ 0 l t hpl
          rw [← hx] at d1 d2 hbk
          obtain ⟨y1, hy1⟩ : ∃ y1, y1 = mk4 x.1 := ⟨_, rfl⟩
          obtain ⟨y2, hy2⟩ : ∃ y2, y2 = mk4 x.2 := ⟨_, rfl⟩
          rw [← hy1, ← hy2, Int.zero_add, Int.zero_add] at hbk
          have q1 : bits .and .i64 x.1 15 = y1 := by rw [hy1]; rfl
          have q2 : bits .and .i64 x.2 15 = y2 := by rw [hy2]; rfl
          replace hbk := hide hbk
          have I2 := hide ((unhide I1).next (below_dnew wr (.cells #[.int .i64 y1, .int .i64 y2] 39)))
          have hb5 : Hid (w1.heap.size ≤ (wr.drew.alloc (.cells #[.int .i64 y1, .int .i64 y2] 39)).heap.size) := Nat.le_trans (unhide b4).size (below_dnew wr _).size
          have hlen2 : Hid ((partL 0 (l.take t)).length + 1 = t + 1) := by show _ = _; rw [part_len, List.length_take]; omega
          have hk9 : Hid (t + 1 < 10000000) := by show _ < _; omega
          replace hx := hide hx
          replace hy1 := hide hy1
          replace hy2 := hide hy2
          clear hpl
          go_wp2_with fail
          go_region_law (refine step_new rfl (.tmp 29) (.tmp 43) rfl w1.heap.size (.slice ag t cg) (partL 0 (l.take t)) [(y1, y2)] 1 (t + 1) rfl (unhide I2) wr.heap.size rfl (heap_dnew wr _ _) rfl (unhide hlen2) (by decide) (unhide hb5) (unhide hk9) ?_; intro g5 cap5 w5 a1' a2'; replace a1' := hide a1'; replace a2' := hide a2')
          all_goals
            go_wp2
            go_roundw
            case rel => exact ⟨t + 1, some ⟨g5, 0, none⟩, cap5, by omega, rfl, by go_num, by rw [unhide hbk]; exact unhide a1', (unhide b4).trans (grown_below (grown_trans (grown_of_below (below_dnew wr _) _) (unhide a2')) (unhide b4).size (fun j hj => ((unhide I1).lt j hj).1))⟩
            case measure => simp [intOf] <;> omega
        · have htl : t = l.length := by have := unhide hl0; omega
          have e9 : l.take t = l := by rw [htl]; exact List.take_length
          rw [e9] at I1
          have ht0 : t = len0 := by omega
          subst ht0
          have J1 := I1
          have b5 := hide (below_then (unhide b1) (unhide b4))
          have T1 := hide ((unhide S1).next (unhide b4))
          obtain ⟨w2, hw2⟩ : ∃ w2, w2 = wr := ⟨_, rfl⟩
          rw [← hw2] at I1 J1 b4 b5 T1 ⊢
          clear htl e9 R1 S1 b1 b4 I1 hw2
          go_wp2
          go_loopw [6, 8] (fun s6 s8 wr => ∃ (i : Nat) (ah : Option Addr) (ch : Nat), i ≤ len1 ∧ s6 = .slice ah i ch ∧ s8 = .int .i64 i ∧ Hid (Pr 39 w2.heap.size (.slice ah i ch) (partL 100 (m.take i)) wr) ∧ Hid (Below w2.heap.size w2 wr)) (fun _ s8 _ => len1 - (intOf s8).toNat)
          case atStart => exact ⟨0, none, 0, Nat.zero_le _, rfl, rfl, Pr.nil _ _ _, Below.refl _ _⟩
          case round =>
            obtain ⟨i, ah, ch, hi, rfl, rfl, I1, b4⟩ := hrel
            by_cases hlt2 : i < len1
            · have hpl : i < m.length := by rw [unhide hl1]; exact hlt2
              obtain ⟨g, o, rfl, hgw, d1, d2⟩ := ((unhide T1).next (unhide b4)).at hpl
              obtain ⟨x, hx⟩ : ∃ x, x = m.getD i (0, 0) := ⟨_, rfl⟩
              have hbk := part_succ 100 m i hpl
              rw [← hx] at d1 d2 hbk
              obtain ⟨y1, hy1⟩ : ∃ y1, y1 = mk4 x.1 := ⟨_, rfl⟩
              obtain ⟨y2, hy2⟩ : ∃ y2, y2 = mk4 x.2 := ⟨_, rfl⟩
              rw [← hy1, ← hy2] at hbk
              have m1 := mk4_le x.1
              have m2 := mk4_le x.2
              rw [← hy1] at m1
              rw [← hy2] at m2
              have q1 : bits .and .i64 x.1 15 = y1 := by rw [hy1]; rfl
              have q2 : bits .and .i64 x.2 15 = y2 := by rw [hy2]; rfl
              have q3 : IntKind.i64.wrap (100 + y1) = 100 + y1 := by rw [IntKind.wrap_i64]; omega
              have q4 : IntKind.i64.wrap (100 + y2) = 100 + y2 := by rw [IntKind.wrap_i64]; omega
              replace hbk := hide hbk
              have I2 := hide ((unhide I1).next (below_dnew wr (.cells #[.int .i64 (100 + y1), .int .i64 (100 + y2)] 39)))
              have hb5 : Hid (w2.heap.size ≤ (wr.drew.alloc (.cells #[.int .i64 (100 + y1), .int .i64 (100 + y2)] 39)).heap.size) := Nat.le_trans (unhide b4).size (below_dnew wr _).size
              have hlen2 : Hid ((partL 100 (m.take i)).length + 1 = i + 1) := by show _ = _; rw [part_len, List.length_take]; omega
              have hk9 : Hid (i + 1 < 10000000) := by show _ < _; omega
              replace hx := hide hx
              replace hy1 := hide hy1
              replace hy2 := hide hy2
              clear hpl m1 m2
              go_wp2_with fail
              go_region_law (refine step_new rfl (.tmp 51) (.tmp 67) rfl w2.heap.size (.slice ah i ch) (partL 100 (m.take i)) [(100 + y1, 100 + y2)] 1 (i + 1) rfl (unhide I2) wr.heap.size rfl (heap_dnew wr _ _) rfl (unhide hlen2) (by decide) (unhide hb5) (unhide hk9) ?_; intro g5 cap5 w5 a1' a2'; replace a1' := hide a1'; replace a2' := hide a2')
              all_goals
                go_wp2
                go_roundw
                case rel => exact ⟨i + 1, some ⟨g5, 0, none⟩, cap5, by omega, rfl, by go_num, by rw [unhide hbk]; exact unhide a1', (unhide b4).trans (grown_below (grown_trans (grown_of_below (below_dnew wr _) _) (unhide a2')) (unhide b4).size (fun j hj => ((unhide I1).lt j hj).1))⟩
                case measure => simp [intOf] <;> omega
            · have htl : i = m.length := by have := unhide hl1; omega
              have e9 : m.take i = m := by rw [htl]; exact List.take_length
              rw [e9] at I1
              have ht1 : i = len1 := by omega
              subst ht1
              have A1 := hide ((unhide J1).next (unhide b4))
              have k4 := hide (below_then (unhide b5) (unhide b4))
              have nl : Hid ((partL 0 l).length ≤ 300) := by show _ ≤ _; rw [part_len, unhide hl0]; omega
              have h9 : Hid ((partL 100 m).length + (partL 0 l).length ≤ 300) := by show _ ≤ _; rw [part_len, part_len, unhide hl0, unhide hl1]; omega
              have nm : Hid ((partL 100 m).length ≤ 300) := by show _ ≤ _; rw [part_len, unhide hl1]; omega
              have pe := hide (@parts_eq l m)
              generalize partL 0 l = L at A1 nl h9 pe
              generalize partL 100 m = H at I1 nm h9 pe
              have C3 := hide (circle_any wr (unhide A1).re (unhide nl))
              clear J1 b4 b5 T1 htl e9
              go_wp2_with fail
              refine (unhide C3).mono ?_
              rintro e w3 ⟨v9, rfl, i9, c9, n9, k9⟩
              have A3 := hide ((unhide A1).next k9)
              have B3 := hide ((unhide I1).next k9)
              replace k9 := hide (below_then (unhide k4) k9)
              have C4 := hide (circle_any w3 (unhide B3).re (unhide nm))
              replace i9 := hide i9
              replace c9 := hide c9
              replace n9 := hide n9
              clear C3 A1 I1 k4
              go_wp2_with fail
              refine (unhide C4).mono ?_
              rintro e w4 ⟨v10, rfl, i10, c10, n10, k10⟩
              have A4 := hide ((unhide A3).next k10)
              have B4 := hide ((unhide B3).next k10)
              have j9 := hide ((unhide i9).next k10)
              replace k10 := hide (below_then (unhide k9) k10)
              replace pe := hide (unhide pe (unhide c9) c10)
              replace i10 := hide i10
              replace n10 := hide n10
              clear C4 A3 B3 i9 c9 c10
              by_cases h0 : (circD L).length = 0
              · have e0 := hide h0
                have pe2 := unhide pe
                rw [if_pos h0] at pe2
                replace pe2 := hide pe2
                obtain ⟨a9, q9, rfl⟩ := (unhide j9).form
                rw [h0] at j9 ⊢
                clear pe h0 j9
                have C5 := hide (fst_any w4)
                go_wp2_with fail
                refine (unhide C5).mono ?_
                rintro e w6 ⟨rfl, k6⟩
                have A6 := hide ((unhide A4).next k6)
                have B6 := hide ((unhide B4).next k6)
                have j6 := hide (((unhide i10).rd).next k6)
                replace k6 := hide (below_then (unhide k10) k6)
                have P1 := hide (pr_lit w6)
                have bn := hide (below_new w6 (.cells #[] 39))
                have B7 := hide ((unhide B6).re.next (unhide bn))
                have nzB := hide ((unhide B6).nz)
                have nzA := hide ((unhide A6).nz)
                have h1 : Hid (([] : List En).length + H.length ≤ 10000) := by have := unhide nm; show 0 + _ ≤ _; omega
                have h2 : Hid (([] ++ H).length + L.length ≤ 10000) := by have h3 := unhide nm; have h4 := unhide nl; show _ ≤ _; rw [List.nil_append]; omega
                have hb1 : Hid (w6.heap.size ≤ (w6.alloc (.cells #[] 39)).heap.size) := (unhide bn).size
                clear C5 A4 B4 i10
                go_wp2_with (first
                  | (at_builtin; refine wpList_app_re _ (by rfl) (.tmp 80) (.tmp 81) rfl w6.heap.size _ [] H rfl (unhide P1) _ _ _ rfl (unhide B7) (unhide nzB) (unhide h1) (unhide hb1) ?_; intro v8 w8 x1 x2; have x3 := hide ((unhide bn).trans x2); have A8 := hide (((unhide A6).re.next (unhide x3))); have hb8 : Hid (w6.heap.size ≤ w8.heap.size) := (unhide x3).size; replace x1 := hide x1; clear x2)
                  | (at_builtin; refine wpList_app_re _ (by rfl) (.tmp 82) (.tmp 83) rfl w6.heap.size _ _ L rfl (unhide x1) _ _ _ rfl (unhide A8) (unhide nzA) (unhide h2) (unhide hb8) ?_; intro v9' w9 y1 y2; have y3 := hide ((unhide x3).trans y2); replace y1 := hide y1; clear y2))
                have y4 := unhide y1
                rw [List.nil_append] at y4
                have C6 := hide (circle_any w9 y4.re (by rw [List.length_append]; have h3 := unhide h9; omega))
                rw [unhide pe2] at C6
                have k9' := hide (below_then (unhide k6) (unhide y3))
                have j9' := hide ((unhide j6).next (unhide y3))
                clear y1 y4 y3 x1 x3 A8 hb8 A6 B6 B7 nzA nzB bn P1 h1 h2 hb1 k6 j6
                go_wp2_with fail
                refine (unhide C6).mono ?_
                rintro e w12 ⟨v12, rfl, i12, c12, n12, k12⟩
                have C7 := hide (ints_any v12 v10 (circD H) (circD H) w12 i12.rd ((unhide j9').next k12) (by omega) (by have := n12; omega))
                rw [show ((circD H) == (circD H)) = true from beq_self_eq_true _] at C7
                replace k12 := hide (below_then (unhide k9') k12)
                clear C6 i12 c12 n12
                go_wp2_with fail
                refine (unhide C7).mono ?_
                rintro e w13 ⟨rfl, k13⟩
                replace k13 := hide (below_then (unhide k12) k13)
                clear C7
                go_wp2
                go_ret
                exact ⟨rfl, unhide k13⟩
              · have pe2 := unhide pe
                rw [if_neg h0] at pe2
                replace pe2 := hide pe2
                obtain ⟨a9, q9, rfl⟩ := (unhide j9).form
                obtain ⟨nc, hnc⟩ : ∃ nc, nc = (circD L).length := ⟨_, rfl⟩
                rw [← hnc] at j9 h0 ⊢
                have hnc9 : nc ≤ 1000 := by rw [hnc]; exact unhide n9
                replace hnc := hide hnc
                clear pe i10
                have C5 := hide (fst_any w4)
                go_wp2_with fail
                refine (unhide C5).mono ?_
                rintro e w6 ⟨rfl, k6⟩
                have A6 := hide ((unhide A4).next k6)
                have B6 := hide ((unhide B4).next k6)
                have j6 := hide (((unhide j9).rd).next k6)
                replace k6 := hide (below_then (unhide k10) k6)
                have P1 := hide (pr_lit w6)
                have bn := hide (below_new w6 (.cells #[] 39))
                have B7 := hide ((unhide B6).re.next (unhide bn))
                have nzB := hide ((unhide B6).nz)
                have nzA := hide ((unhide A6).nz)
                have h1 : Hid (([] : List En).length + H.length ≤ 10000) := by have := unhide nm; show 0 + _ ≤ _; omega
                have h2 : Hid (([] ++ H).length + L.length ≤ 10000) := by have h3 := unhide nm; have h4 := unhide nl; show _ ≤ _; rw [List.nil_append]; omega
                have hb1 : Hid (w6.heap.size ≤ (w6.alloc (.cells #[] 39)).heap.size) := (unhide bn).size
                clear C5 A4 B4 j9
                go_wp2_with (first
                  | (at_builtin; refine wpList_app_re _ (by rfl) (.tmp 80) (.tmp 81) rfl w6.heap.size _ [] H rfl (unhide P1) _ _ _ rfl (unhide B7) (unhide nzB) (unhide h1) (unhide hb1) ?_; intro v8 w8 x1 x2; have x3 := hide ((unhide bn).trans x2); have A8 := hide (((unhide A6).re.next (unhide x3))); have hb8 : Hid (w6.heap.size ≤ w8.heap.size) := (unhide x3).size; replace x1 := hide x1; clear x2)
                  | (at_builtin; refine wpList_app_re _ (by rfl) (.tmp 82) (.tmp 83) rfl w6.heap.size _ _ L rfl (unhide x1) _ _ _ rfl (unhide A8) (unhide nzA) (unhide h2) (unhide hb8) ?_; intro v9' w9 y1 y2; have y3 := hide ((unhide x3).trans y2); replace y1 := hide y1; clear y2))
                have y4 := unhide y1
                rw [List.nil_append] at y4
                have C6 := hide (circle_any w9 y4.re (by rw [List.length_append]; have h3 := unhide h9; omega))
                rw [unhide pe2] at C6
                have k9' := hide (below_then (unhide k6) (unhide y3))
                have j9' := hide ((unhide j6).next (unhide y3))
                clear y1 y4 y3 x1 x3 A8 hb8 A6 B6 B7 nzA nzB bn P1 h1 h2 hb1 k6 j6
                go_wp2_with fail
                refine (unhide C6).mono ?_
                rintro e w12 ⟨v12, rfl, i12, c12, n12, k12⟩
                have C7 := hide (ints_any v12 (.slice a9 nc q9) (circD L) (circD L) w12 i12.rd ((unhide j9').next k12) (by omega) (by have := n12; omega))
                rw [show ((circD L) == (circD L)) = true from beq_self_eq_true _] at C7
                replace k12 := hide (below_then (unhide k9') k12)
                clear C6 i12 c12 n12
                go_wp2_with fail
                refine (unhide C7).mono ?_
                rintro e w13 ⟨rfl, k13⟩
                replace k13 := hide (below_then (unhide k12) k13)
                clear C7
                go_wp2
                go_ret
                exact ⟨rfl, unhide k13⟩
    · have h60z : decide ((30 : Int) < (len0 : Int)) = false := by simp; omega
      have C2 := hide (fst_any w1)
      go_wp2_with fail
      refine (unhide C2).mono ?_
      rintro e w3 ⟨rfl, k3⟩
      replace k3 := hide (below_then (unhide b1) k3)
      go_wp2
      go_ret
      exact ⟨rfl, unhide k3⟩
  · have C2 := hide (fst_any w1)
    go_wp2_with fail
    refine (unhide C2).mono ?_
    rintro e w3 ⟨rfl, k3⟩
    replace k3 := hide (below_then (unhide b1) k3)
    go_wp2
    go_ret
    exact ⟨rfl, unhide k3⟩
end Go.Proofs.Ytfnepbpopemonaa
