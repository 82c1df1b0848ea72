/- The walk of PlainOwn: it answers true. -/
import Derived.Test.YtdhfpfkcbcgnaaaFirst
import Derived.Test.YtdhfpfkcbcgnaaaPure
import Derived.Test.YtdhfpfkcbcgnaaaFew
namespace Go.Proofs.Ytdhfpfkcbcgnaaa
open Go.RowKit

theorem run_pos {c : Cf} {H : List Int} {ps : List In} (hx : (runD c H ps).x = 0) : 0 < H.length ∧ (H.length : Int) ≤ 4096 := by
  have hl := (run_own hx).1
  unfold runD at hx
  by_cases h1 : chB c ps = true
  · have hok := (ch_iff h1).1
    have hw := nw_in (okB_hp hok)
    unfold wordsD at hl
    rw [hok, if_pos rfl] at hl
    omega
  · rw [if_neg h1] at hx
    exact absurd hx (by decide)
theorem mem_at {α : Type} {l : List α} {p z : α} (h : p ∈ l) : ∃ t, t < l.length ∧ l.getD t z = p := by
  obtain ⟨t, ht, e⟩ := List.getElem_of_mem h
  exact ⟨t, ht, by simp [ht, e]⟩
theorem at_mem {α : Type} {l : List α} {z : α} {t : Nat} (h : t < l.length) : l.getD t z ∈ l := by
  have : l.getD t z = l[t] := by simp [h]
  rw [this]; exact List.getElem_mem h
theorem take_snoc {α : Type} {l : List α} {z : α} {k : Nat} (h : k < l.length) : l.take (k + 1) = l.take k ++ [l.getD k z] := by
  rw [List.take_add_one, List.getElem?_eq_getElem h]
  simp [h]
set_option maxRecDepth 100000 in
set_option maxHeartbeats 4000000 in
theorem plainOwn_walk (c : Cf) (a : Option Addr) (n cap : Nat) (H : List Int) (a' : Option Addr) (n' cap' : Nat) (ps : List In) (w : World) (hH : Ls w.heap.size w (.slice a n cap) H) (_hwf : ∀ x ∈ H, (Lit.int .i64 x).wf = true) (hp : Ps w.heap.size w (.slice a' n' cap') ps) (_hfi : ∀ x ∈ ps, Fi x) :
    Calls Try.prog 4 #[cv c, .slice a n cap, .slice a' n' cap'] w fun e w' => e = .returned (.bool true) ∧ Below w.heap.size w w' := by
  have hnH : n = H.length := by obtain ⟨_, _, e, _⟩ := ls_len hH; cases e; rfl
  replace hnH := hide hnH
  have hmax : maxLen = 9223372036854775807 := rfl
  have hnl : n ≤ cap ∧ cap ≤ maxLen := by obtain ⟨_, _, _, e, h1, h2, _⟩ := hH; cases e; exact ⟨h1, h2⟩
  have hx := hide (bx_new c w)
  have g0 := below_new w (.cells #[.int .i64 c.r, .int .i64 c.o, .int .i64 c.s, .int .i64 c.d, .int .i64 c.t, .int .i64 c.l, .int .i64 c.g, .int .i64 c.k, .int .i64 c.u, .int .i64 c.e, .int .i64 c.i, .int .i64 c.p] 23)
  unfold cv
  go_enter Try.func4, Try.ntmps4
  go_wp2_with fail
  refine (first_any _).mono ?_
  rintro e w1 ⟨rfl, c1⟩
  have g1 := below_then g0 c1
  have hx := hide ((unhide hx).next c1)
  have hH1 := hH.next g1
  have hp1 := hp.next g1
  have kF := few_any ps _ w1 hp1
  obtain ⟨R, hR⟩ : ∃ R, runD c H ps = R := ⟨_, rfl⟩
  have kR := run_out c H _ ps _ w1 hH1 hp1 hR
  replace g1 := hide g1
  replace hR := hide hR
  replace hH := hide hH
  replace hp := hide hp
  clear c1 hH1 hp1 g0
  go_wp2_with fail
  refine kF.mono ?_
  rintro e _ ⟨bF, rfl, _, rfl⟩
  clear kF
  cases bF
  · go_wp2_with fail
    refine (first_any _).mono ?_
    rintro e w2 ⟨rfl, c2⟩
    have g2 := hide (below_then (unhide g1) c2)
    clear c2
    go_wp2
    go_ret
    exact ⟨rfl, unhide g2⟩
  by_cases h5 : 5000 < n
  · have d5 : decide ((5000 : Int) < (n : Int)) = true := decide_eq_true (by omega)
    go_wp2_with fail
    refine (first_any _).mono ?_
    rintro e w2 ⟨rfl, c2⟩
    have g2 := hide (below_then (unhide g1) c2)
    clear c2
    go_wp2
    go_ret
    exact ⟨rfl, unhide g2⟩
  have d5 : decide ((5000 : Int) < (n : Int)) = false := decide_eq_false (by omega)
  obtain ⟨l1, hl1⟩ : ∃ l, R.r.length = l := ⟨_, rfl⟩
  obtain ⟨l2, hl2⟩ : ∃ l, R.rd.length = l := ⟨_, rfl⟩
  obtain ⟨l3, hl3⟩ : ∃ l, R.wr.length = l := ⟨_, rfl⟩
  obtain ⟨l4, hl4⟩ : ∃ l, R.h.length = l := ⟨_, rfl⟩
  obtain ⟨x, hxx⟩ : ∃ x, R.x = x := ⟨_, rfl⟩
  rw [hl1, hl2, hl3, hl4, hxx] at kR
  replace hl1 := hide hl1
  replace hl2 := hide hl2
  replace hl3 := hide hl3
  replace hl4 := hide hl4
  replace hxx := hide hxx
  obtain ⟨z0, z1, z2, z3, z4, z5, z6, z7, z8, z9, z10, z11⟩ := (unhide hx).cells
  go_wp2_with fail
  refine kR.mono ?_
  rintro e w2 ⟨ra1, rc1, da1, dc1, wa1, wc1, ha1, hc1, rfl, hh1, c2⟩
  have bo := below_new w2 (.cells #[.int .i64 R.e, .slice ra1 l1 rc1, .slice da1 l2 dc1, .slice wa1 l3 wc1] 30)
  have ho1 := hide (show Ob R.e (.slice ra1 l1 rc1) (.slice da1 l2 dc1) (.slice wa1 l3 wc1) w2.heap.size (w2.alloc (.cells #[.int .i64 R.e, .slice ra1 l1 rc1, .slice da1 l2 dc1, .slice wa1 l3 wc1] 30)) from heap_alloc_new w2 _)
  have g2 := below_then (unhide g1) (below_then c2 bo)
  have hh1 := hide (hh1.next bo)
  have hx := hide ((unhide hx).next (below_then c2 bo))
  replace g2 := hide g2
  clear kR c2 bo z0 z1 z2 z3 z4 z5 z6 z7 z8 z9 z10 z11
  by_cases ex : x = 0
  case neg =>
    have xb : (x == 0) = false := by simpa using ex
    have q4 : l4 = 0 := by
      rw [← unhide hl4, ← unhide hR, run_fails (by rw [unhide hR, unhide hxx]; exact ex)]
      rfl
    have b4 : ((l4 : Int) == 0) = true := by rw [q4]; rfl
    replace q4 := hide q4
    go_wp2_with fail
    refine (first_any _).mono ?_
    rintro e w6 ⟨rfl, c6⟩
    have g6 := hide (below_then (unhide g2) c6)
    clear c6
    go_wp2
    go_ret
    exact ⟨by first | rfl | simp, unhide g6⟩
  subst ex
  have hx0 : (runD c H ps).x = 0 := by rw [unhide hR]; exact unhide hxx
  obtain ⟨hlen, ok, how⟩ := run_own hx0
  have pos := run_pos hx0
  rw [unhide hR] at ok how
  rw [← unhide hnH] at hlen pos
  have q4 : l4 = n := by
    rw [← unhide hl4]
    rcases how with ⟨_, e⟩ | ⟨_, e⟩
    · rw [e, setAll_len, unhide hnH]
    · rw [e, unhide hnH]
  subst q4
  have eW : ((l4 : Int) == wordsD c) = true := by simpa using hlen
  have n0 : 0 < l4 := pos.1
  have n4 : l4 ≤ 4096 := by omega
  replace ok := hide ok
  replace how := hide how
  clear hlen pos hx0
  have kW := words_any c (w2.alloc (.cells #[.int .i64 R.e, .slice ra1 l1 rc1, .slice da1 l2 dc1, .slice wa1 l3 wc1] 30))
  unfold cv at kW
  obtain ⟨z0, z1, z2, z3, z4, z5, z6, z7, z8, z9, z10, z11⟩ := (unhide hx).cells
  go_wp2_with fail
  refine kW.mono ?_
  rintro e w4 ⟨rfl, c4⟩
  have g4 := below_then (unhide g2) c4
  have ho1 := hide ((unhide ho1).next c4)
  have hh1 := hide ((unhide hh1).next c4)
  have hH4 := (unhide hH).next g4
  have kC := copy_any _ H w4 hH4 (by have := unhide hnH; omega)
  rw [← unhide hnH] at kC
  replace hH4 := hide hH4
  replace g4 := hide g4
  clear kW c4 z0 z1 z2 z3 z4 z5 z6 z7 z8 z9 z10 z11 hx g2
  go_wp2_with fail
  refine kC.mono ?_
  rintro e w5 ⟨a5, c5, rfl, b5, own5⟩
  obtain ⟨gw, rfl, hr5, hgB, _, _⟩ : ∃ g, a5 = some ⟨g, 0, none⟩ ∧ Rb g H w5 ∧ w4.heap.size ≤ g ∧ H.length ≤ c5 ∧ c5 ≤ maxLen := own_rb (by rw [← unhide hnH]; exact own5) (by have := unhide hnH; omega)
  replace b5 := hide b5
  replace hr5 := hide hr5
  clear own5 kC
  go_wp2_with fail
  go_loopw [11] (fun i wr => ∃ k : Nat, k ≤ l3 ∧ i = .int .i64 k ∧ Below w4.heap.size w4 wr ∧ Rb gw (setAll H (R.wr.take k)) wr) (fun i _ => l3 - (RowKit.intOf i).toNat)
  case atStart => exact ⟨0, Nat.zero_le _, rfl, unhide b5, unhide hr5⟩
  case round =>
    obtain ⟨k, hk, rfl, hb, hrb⟩ := hrel
    clear b5 hr5
    obtain ⟨x0, x1, x2, x3⟩ := ((unhide ho1).next hb).cells
    by_cases hlt : k < l3
    · have kd : decide ((k : Int) < (l3 : Int)) = true := decide_eq_true (by omega)
      have kl : (k : Int) < (l3 : Int) := by omega
      have hk2 : k < R.wr.length := by rw [unhide hl3]; exact hlt
      obtain ⟨_, _, q1, _, q2⟩ := ((unhide hh1).next hb).t
      cases q1
      rcases q2 with q2 | ⟨wb, wo, rfl, hwb, q2⟩
      · exact absurd q2 (by omega)
      obtain ⟨m0, m1⟩ := q2 k hk2
      have hin := (unhide ok).w _ (at_mem (z := (0, 0)) hk2)
      have tk := take_snoc (z := (0, 0)) hk2
      obtain ⟨p, hpp⟩ : ∃ p, R.wr.getD k (0, 0) = p := ⟨_, rfl⟩
      rw [hpp] at m0 m1 hin tk
      obtain ⟨pa, pv⟩ := p
      obtain ⟨ja, rfl⟩ := Int.eq_ofNat_of_zero_le hin.1
      have hja : ja < l4 := by have := hin.2; have := unhide hnH; simp only at *; omega
      have hja2 : (ja : Int) < (l4 : Int) := by omega
      have jd : decide ((l4 : Int) ≤ (ja : Int)) = false := decide_eq_false (by omega)
      have hjl : ja < (setAll H (R.wr.take k)).length := by rw [setAll_len, ← unhide hnH]; exact hja
      have rc := hrb.cell hjl
      have rf := hrb.free ja
      have nb : wb ≠ gw := by
        have h4 := (unhide hh1).t
        obtain ⟨_, _, e1, _, e2⟩ := h4
        injection e1 with e3 e4 e5
        rcases e2 with e2 | ⟨b', o', e6, e7, _⟩
        · exact absurd e2 (by omega)
        · rw [e6] at e3
          injection e3 with e3
          injection e3 with e3
          omega
      have nb' := Ne.symm nb
      have rb2 := hide (hrb.set hjl pv)
      have hb2 := hide (hb.setCell (p := ⟨gw, ja, none⟩) hgB (.int .i64 pv))
      replace tk := hide tk
      replace hb := hide hb
      replace hrb := hide hrb
      clear q2 hin hpp
      simp only at m0 m1
      go_wp2
      go_roundw
      case rel => exact ⟨k + 1, by omega, by go_num, unhide hb2, by rw [unhide tk, setAll_snoc]; exact unhide rb2⟩
      case measure => first | omega | (simp; omega) | (simp [RowKit.intOf]; omega)
    · have kd : decide ((k : Int) < (l3 : Int)) = false := decide_eq_false (by omega)
      rw [List.take_of_length_le (by have := unhide hl3; omega)] at hrb
      replace hb := hide hb
      replace hrb := hide hrb
      go_wp2_with fail
      clear x0 x1 x2 x3
      go_loopw [13] (fun i wr => ∃ k : Nat, k ≤ l2 ∧ i = .int .i64 k ∧ Below w4.heap.size w4 wr ∧ Rb gw (setAll H R.wr) wr) (fun i _ => l2 - (RowKit.intOf i).toNat)
      case atStart => exact ⟨0, Nat.zero_le _, rfl, unhide hb, unhide hrb⟩
      case round =>
        obtain ⟨k2, hk2, rfl, hb2, hrb2⟩ := hrel
        clear hb hrb
        obtain ⟨x0, x1, x2, x3⟩ := ((unhide ho1).next hb2).cells
        by_cases hlt2 : k2 < l2
        · have kd2 : decide ((k2 : Int) < (l2 : Int)) = true := decide_eq_true (by omega)
          have kl2 : (k2 : Int) < (l2 : Int) := by omega
          have hk3 : k2 < R.rd.length := by rw [unhide hl2]; exact hlt2
          obtain ⟨_, _, q1, _, q2⟩ := ((unhide hh1).next hb2).d
          cases q1
          rcases q2 with q2 | ⟨rb, ro, rfl, hrb0, q2⟩
          · exact absurd q2 (by omega)
          obtain ⟨m0, m1⟩ := q2 k2 hk3
          have hin := (unhide ok).r _ (at_mem (z := (0, 0)) hk3)
          obtain ⟨p, hpp⟩ : ∃ p, R.rd.getD k2 (0, 0) = p := ⟨_, rfl⟩
          rw [hpp] at m0 m1 hin
          obtain ⟨pa, pv⟩ := p
          obtain ⟨ja, rfl⟩ := Int.eq_ofNat_of_zero_le hin.1
          have hja : ja < l4 := by have := hin.2.1; have := unhide hnH; simp only at *; omega
          have hja2 : (ja : Int) < (l4 : Int) := by omega
          have jd : decide ((l4 : Int) ≤ (ja : Int)) = false := decide_eq_false (by omega)
          obtain ⟨_, _, q3, _, _, _, q4⟩ := ls_len ((unhide hH4).later hb2)
          have q5 := unhide hnH
          injection q3 with q31 q32 q33
          obtain ⟨pb, po, rfl, _, hcell⟩ := q4.at (i := ja) (by omega)
          replace hin := hin.2.2
          simp only [Int.toNat_natCast] at hin
          obtain ⟨y, hy⟩ : ∃ y, H.getD ja 0 = y := ⟨_, rfl⟩
          rw [hy] at hcell hin
          replace hy := hide hy
          replace hin := hide hin
          subst q31
          replace q32 := hide q32
          replace q33 := hide q33
          replace q5 := hide q5
          have hb3 := hide hb2.drew
          have hrb3 := hide (show Rb gw (setAll H R.wr) _ from hrb2.drew)
          replace hb2 := hide hb2
          replace hrb2 := hide hrb2
          clear q2 q4 hpp
          simp only at m0 m1
          go_wp2_with fail
          go_region
          go_wp2_with fail
          go_loopw [16, 17] (fun bv j ws => ∃ (m : Nat) (t : Bool), m ≤ l3 ∧ j = .int .i64 m ∧ bv = .bool t ∧ Below w4.heap.size w4 ws ∧ Rb gw (setAll H R.wr) ws ∧ ((pv = y ∨ ∃ q, q < m ∧ R.wr.getD q (0, 0) = ((ja : Int), pv)) → t = true)) (fun _ j _ => l3 - (RowKit.intOf j).toNat)
          case atStart => exact ⟨0, (pv == y), Nat.zero_le _, rfl, by first | rfl | simp, unhide hb3, unhide hrb3, fun h => by
            rcases h with h | ⟨q, hq, _⟩
            · simpa using h
            · exact absurd hq (Nat.not_lt_zero _)⟩
          case round =>
            obtain ⟨m, t, hm, rfl, rfl, hb5, hrb5, himp⟩ := hrel
            clear hb3 hrb3 x0 x1 x2 x3 m0 m1 hcell hb2 hrb2
            obtain ⟨x0, x1, x2, x3⟩ := ((unhide ho1).next hb5).cells
            by_cases hlt5 : m < l3
            · have kd5 : decide ((m : Int) < (l3 : Int)) = true := decide_eq_true (by omega)
              have kl5 : (m : Int) < (l3 : Int) := by omega
              have hm3 : m < R.wr.length := by rw [unhide hl3]; exact hlt5
              obtain ⟨_, _, q1, _, q2⟩ := ((unhide hh1).next hb5).t
              cases q1
              rcases q2 with q2 | ⟨wb, wo, rfl, _, q2⟩
              · exact absurd q2 (by omega)
              obtain ⟨m0, m1⟩ := q2 m hm3
              obtain ⟨p, hpp⟩ : ∃ p, R.wr.getD m (0, 0) = p := ⟨_, rfl⟩
              rw [hpp] at m0 m1
              obtain ⟨ua, uv⟩ := p
              simp only at m0 m1
              have step : ∀ t' : Bool, (t = true → t' = true) → (((ua, uv) : Int × Int) = ((ja : Int), pv) → t' = true) → ((pv = y ∨ ∃ q, q < m + 1 ∧ R.wr.getD q (0, 0) = ((ja : Int), pv)) → t' = true) := by
                intro t' h1 h2 h3
                rcases h3 with h3 | ⟨q, hq, h3⟩
                · exact h1 (himp (.inl h3))
                · by_cases hqm : q < m
                  · exact h1 (himp (.inr ⟨q, hqm, h3⟩))
                  · obtain rfl : q = m := by omega
                    rw [hpp] at h3
                    exact h2 h3
              replace step := hide step
              replace himp := hide himp
              replace hb5 := hide hb5
              replace hrb5 := hide hrb5
              replace hpp := hide hpp
              clear q2
              cases t
              · by_cases e1 : ua = (ja : Int)
                · by_cases e2 : uv = pv
                  · subst e1; subst e2
                    go_wp2
                    go_roundw
                    case rel => exact ⟨m + 1, true, by omega, by go_num, by first | rfl | simp, unhide hb5, unhide hrb5, unhide step true (fun _ => rfl) (fun _ => rfl)⟩
                    case measure => first | omega | (simp; omega) | (simp [RowKit.intOf]; omega)
                  · have f2 : (uv == pv) = false := by simpa using e2
                    subst e1
                    go_wp2
                    go_roundw
                    case rel => exact ⟨m + 1, false, by omega, by go_num, by first | rfl | simp [f2], unhide hb5, unhide hrb5, unhide step false (fun h => h) (fun h => absurd (congrArg Prod.snd h) e2)⟩
                    case measure => first | omega | (simp; omega) | (simp [RowKit.intOf]; omega)
                · have f1 : (ua == (ja : Int)) = false := by simpa using e1
                  go_wp2
                  go_roundw
                  case rel => exact ⟨m + 1, false, by omega, by go_num, by first | rfl | simp [f1], unhide hb5, unhide hrb5, unhide step false (fun h => h) (fun h => absurd (congrArg Prod.fst h) e1)⟩
                  case measure => first | omega | (simp; omega) | (simp [RowKit.intOf]; omega)
              · go_wp2
                go_roundw
                case rel => exact ⟨m + 1, true, by omega, by go_num, by first | rfl | simp, unhide hb5, unhide hrb5, unhide step true (fun _ => rfl) (fun _ => rfl)⟩
                case measure => first | omega | (simp; omega) | (simp [RowKit.intOf]; omega)
            · have kd5 : decide ((m : Int) < (l3 : Int)) = false := decide_eq_false (by omega)
              obtain rfl : m = l3 := by omega
              have ht : t = true := himp (by
                rcases unhide hin with h | h
                · exact .inl h
                · obtain ⟨q, hq, h2⟩ := mem_at (z := (0, 0)) h
                  exact .inr ⟨q, by have := unhide hl3; omega, h2⟩)
              subst ht
              replace himp := hide himp
              replace hb5 := hide hb5
              replace hrb5 := hide hrb5
              go_wp2
              go_roundw
              case rel => exact ⟨k2 + 1, by omega, by go_num, unhide hb5, unhide hrb5⟩
              case measure => first | omega | (simp; omega) | (simp [RowKit.intOf]; omega)
        · have kd2 : decide ((k2 : Int) < (l2 : Int)) = false := decide_eq_false (by omega)
          have hb3 := hide hb2
          have hrb3 := hide hrb2
          have ho3 := hide ((unhide ho1).next hb2)
          have hh3 := hide ((unhide hh1).next hb2)
          have g5 := hide (below_then (unhide g4) hb2)
          clear hb2 hrb2
          by_cases e1 : R.e = 1
          · have hRh : Hid (R.h = setAll H R.wr) := hide (by
              rcases unhide how with ⟨_, h⟩ | ⟨h, _⟩
              · exact h
              · omega)
            rw [e1] at x0
            go_wp2_with fail
            refine (first_any _).mono ?_
            rintro e w7 ⟨rfl, c7⟩
            have g7 := hide (below_then (unhide g5) c7)
            have q := ((unhide hrb3).keep (c7.block _ (unhide hrb3).lt)).ls (cap := c5) (by rw [setAll_len]; assumption) (by assumption)
            rw [setAll_len, ← unhide hnH] at q
            have kI := ints_any _ _ _ _ _ ((unhide hh3).next c7).h q
            rw [unhide hRh, beq_self_eq_true] at kI
            clear c7 q x0 x1 x2 x3
            go_wp2_with fail
            refine kI.mono ?_
            rintro e w8 ⟨rfl, c8⟩
            have g8 := hide (below_then (unhide g7) c8)
            clear c8 kI
            go_wp2
            go_ret
            exact ⟨rfl, unhide g8⟩
          · have eb : (R.e == 1) = false := by simpa using e1
            obtain ⟨h23, hRh⟩ : (R.e = 2 ∨ R.e = 3) ∧ R.h = H := by
              rcases unhide how with ⟨h, _⟩ | h
              · exact absurd h e1
              · exact h
            replace hRh := hide hRh
            go_wp2_with fail
            refine (first_any _).mono ?_
            rintro e w7 ⟨rfl, c7⟩
            have g7 := below_then (unhide g5) c7
            have ho7 := hide ((unhide ho3).next c7)
            have kI := ints_any _ _ _ _ _ ((unhide hh3).next c7).h ((unhide hH).next g7)
            rw [unhide hRh, beq_self_eq_true] at kI
            replace g7 := hide g7
            clear c7 x0 x1 x2 x3
            go_wp2_with fail
            refine kI.mono ?_
            rintro e w8 ⟨rfl, c8⟩
            have g8 := hide (below_then (unhide g7) c8)
            obtain ⟨x0, x1, x2, x3⟩ := ((unhide ho7).next c8).cells
            clear c8 kI
            rcases h23 with h2 | h3
            · rw [h2] at x0
              go_wp2
              go_ret
              exact ⟨by first | rfl | simp, unhide g8⟩
            · rw [h3] at x0
              go_wp2
              go_ret
              exact ⟨by first | rfl | simp, unhide g8⟩
end Go.Proofs.Ytdhfpfkcbcgnaaa
