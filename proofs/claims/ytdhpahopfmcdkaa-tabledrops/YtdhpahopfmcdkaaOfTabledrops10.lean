/- Texts of this claim, put together in their order. -/
import Derived.Test.YtdhpahopfmcdkaaOfTabledrops1
import Derived.Test.YtdhpahopfmcdkaaOfTabledrops2
import Derived.Test.YtdhpahopfmcdkaaOfTabledrops3
import Derived.Test.YtdhpahopfmcdkaaOfTabledrops4
import Derived.Test.YtdhpahopfmcdkaaOfTabledrops5
import Derived.Test.YtdhpahopfmcdkaaOfTabledrops6
import Derived.Test.YtdhpahopfmcdkaaOfTabledrops7
import Derived.Test.YtdhpahopfmcdkaaOfTabledrops8
import Derived.Test.YtdhpahopfmcdkaaOfTabledrops9
/- TableDrops' walk. -/
namespace Go.Proofs.Ytdhpahopfmcdkaa
open Go.RowKit
set_option linter.unusedVariables false
theorem gone_of {S L : List Int} (h : ∀ x ∈ S, x ∈ L) : S.filter (fun z => !(L.contains z)) = [] := by
  rw [List.filter_eq_nil_iff]
  intro x hx
  simp [h x hx]
theorem gone_step (S L : List Int) (j : Nat) (hj : j < L.length) : (S.filter (fun z => !((L.take j).contains z))).filter (fun z => z != L.getD j 0) = S.filter (fun z => !((L.take (j + 1)).contains z)) := by
  rw [List.filter_filter, List.take_succ_eq_append_getElem hj]
  congr 1
  funext z
  simp only [List.getD_eq_getElem?_getD, List.getElem?_eq_getElem hj, Option.getD_some, List.contains_append]
  by_cases e : z = L[j]
  · subst e; simp
  · have e2 : (z == L[j]) = false := beq_eq_false_iff_ne.2 e
    simp [bne, e2]
    exact fun _ => e
set_option maxRecDepth 100000 in
set_option maxHeartbeats 20000000 in
theorem drops_in (n : Nat) (a1 : Option Addr) (n1 c1 : Nat) (Z : Nat → Nat → Int) (a2 : Option Addr) (n2 c2 : Nat) (l2 : List Int) (w : World) (s1 : RecsB 4 w.heap.size w a1 n1 Z) (s2 : SegK .i64 w a2 n2 l2) (hn2 : a2 = none → c2 = 0) (h0 : 1 ≤ n) (h1 : n ≤ 60) (h2 : n1 ≤ 300) (h3 : n2 ≤ 100) :
    Calls Try.prog 5 #[.int .i64 (n : Int), .slice a1 n1 c1, .slice a2 n2 c2] w fun e w' => e = .returned (.bool true) ∧ Below w.heap.size w w' := by
  obtain ⟨N, hN⟩ : ∃ N, N = w.heap.size := ⟨_, rfl⟩
  rw [← hN] at s1
  replace s1 := hide s1
  replace s2 := hide s2
  replace hn2 := hide hn2
  have k1 : (n : Int) ≥ 1 := by omega
  have k2 : (n : Int) ≤ 60 := by omega
  have k3 : (n1 : Int) ≤ 300 := by omega
  have k4 : (n2 : Int) ≤ 100 := by omega
  go_enter Try.func5, Try.ntmps5
  go_wp2_with fail
  refine (firstt_any w).mono ?_
  rintro e w1 ⟨rfl, b1⟩
  rw [← hN] at b1
  replace b1 := hide b1
  replace hN := hide hN
  go_wp2_with fail
  refine (new_n n 4096 w1 h0 (by omega) (by decide) (by decide)).mono ?_
  rintro e w2 ⟨b, rfl, L2, b2⟩
  obtain ⟨B, hB⟩ : ∃ B, B = w1.heap.size := ⟨_, rfl⟩
  rw [← hB] at L2 b2
  have hNb : Hid (N ≤ B) := by have := (unhide b1).size; rw [unhide hN, hB]; exact this
  replace b2 := hide ((unhide b1).trans (b2.mono (unhide hNb)))
  replace hB := hide hB
  replace L2 := hide L2
  go_wp2_with fail
  go_loopw [9, 10] (fun s9 s10 wr => ∃ (i : Nat) (T : Nat → Lv) (ag : Option Addr) (cg : Nat) (S : List Int) (wz : World), i ≤ n1 ∧ s9 = .slice ag i cg ∧ s10 = .int .i64 i ∧ wz = wr ∧ Hid (S.length = i) ∧ Hid (Is B (.slice ag i cg) S wz) ∧ Hid (Tn B n 4096 T b wz) ∧ Hid (Sf n i T) ∧ Hid (Nam n T S) ∧ Hid (∀ z ∈ S, ok1000 z) ∧ Hid (Below N w wz)) (fun _ s10 _ => n1 - (intOf s10).toNat)
  case atStart => exact ⟨0, none0, none, 0, [], _, Nat.zero_le _, rfl, rfl, rfl, rfl, is_nil _ _, unhide L2, sf_none _ _, nam_none _ _, fun z h => (by cases h), unhide b2⟩
  case round =>
    obtain ⟨i, T, ag, cg, S, wr, hi, rfl, rfl, hwz, hS, I3, L3, F3, M3, O3, b3⟩ := hrel
    subst hwz
    by_cases hlt : i < n1
    · have hfew : Hid (Few n 1000 T) := (unhide F3).gd.few (by omega)
      obtain ⟨g, o, rfl, hg, hc⟩ := ((unhide s1).later (unhide b3)).at hlt
      have d1 := hc 1 (by decide)
      have d2 := hc 2 (by decide)
      have d3 := hc 3 (by decide)
      obtain ⟨z1, hz1⟩ : ∃ z, z = Z i 1 := ⟨_, rfl⟩
      obtain ⟨z2, hz2⟩ : ∃ z, z = Z i 2 := ⟨_, rfl⟩
      obtain ⟨z3, hz3⟩ : ∃ z, z = Z i 3 := ⟨_, rfl⟩
      rw [← hz1] at d1
      rw [← hz2] at d2
      rw [← hz3] at d3
      have hgB := hide (Nat.lt_of_lt_of_le hg (unhide hNb))
      clear hc hz1 hz2 hz3 hg
      have ways : z1 < 0 ∨ (¬ z1 < 0 ∧ 1000 < z1) ∨ (¬ z1 < 0 ∧ ¬ 1000 < z1) := by omega
      rcases ways with e1 | ⟨e1, e2⟩ | ⟨e1, e2⟩
      case inr.inr =>
        have hz : Hid (ok1000 z1) := ⟨by omega, by omega⟩
        have hsrt : Hid (∀ j, j < n → Srt (T j).1) := fun j hj => (unhide L3).srt hj
        obtain ⟨r, hr⟩ : ∃ r, r = askT n 4096 T z1 z2 z3 := ⟨_, rfl⟩
        have F5 := hide ((unhide F3).ask (most := 4096) (unhide hsrt) (by omega) z1 z2 z3)
        have M5 := hide (nam_ask (most := 4096) z1 z2 z3 (unhide hsrt) (unhide F3).gd (unhide M3))
        rw [← hr] at F5 M5
        obtain ⟨⟨r1, r2⟩, T'⟩ := r
        dsimp only at F5 M5
        replace hr := hide hr
        have I3d : Hid (Is B (.slice ag i cg) S wr.drew) := (unhide I3).next (Below.refl _ _).drew
        go_wp2_with fail
        go_region_held3 (fun wz => wz.cell? ⟨g, o + i * 4 + 1, none⟩ = some (.int .i64 z1) ∧ wz.cell? ⟨g, o + i * 4 + 2, none⟩ = some (.int .i64 z2) ∧ wz.cell? ⟨g, o + i * 4 + 3, none⟩ = some (.int .i64 z3))
          (first | exact ⟨d1, d2, d3⟩ | exact ⟨m1, m2, m3⟩)
          (first | (go_at_call 29; refine Calls.mono (ask_n (B := B) _ (unhide L3).drew (unhide hfew) (by omega) z1 z2 z3 (unhide hr).symm) ?_; rintro e w5 ⟨rfl, L5, b5, st5⟩; have m1 := (b5.cell (p := ⟨g, o + i * 4 + 1, none⟩) (unhide hgB)).trans d1; have m2 := (b5.cell (p := ⟨g, o + i * 4 + 2, none⟩) (unhide hgB)).trans d2; have m3 := (b5.cell (p := ⟨g, o + i * 4 + 3, none⟩) (unhide hgB)).trans d3; have I5 := hide ((unhide I3d).stay st5); have B5 := hide ((unhide b3).drew.trans (b5.mono (unhide hNb))); replace L5 := hide L5; clear b5 st5))
        have hsz : Hid (B ≤ w5.heap.size) := (unhide L5).low
        have hi9 : i < 10000000 := by omega
        clear d1 d2 d3 I3d
        go_wp2_with (at_builtin; refine wpList_push w5 rfl (.tmp 87) (.tmp 93) rfl B ag i cg S z1 _ rfl rfl rfl (unhide hS) (unhide I5) (unhide hsz) hi9 ?_; intro g7 cap7 w7 a1 a2; replace a1 := hide a1; replace a2 := hide a2)
        have L7 := hide ((unhide L5).cy (cy_is (unhide I5) (unhide a2)))
        have B7 := hide ((unhide B5).trans ((grown_below (unhide a2) (unhide hsz) (fun k hk => ((unhide I5).lt k hk).1)).mono (unhide hNb)))
        have S7 : Hid ((S ++ [z1]).length = i + 1) := by show _ = _; rw [List.length_append, unhide hS]; rfl
        have O7 : Hid (∀ z ∈ S ++ [z1], ok1000 z) := fun z hm => by
          rcases List.mem_append.1 hm with h | h
          · exact unhide O3 z h
          · rw [List.mem_singleton.1 h]; exact unhide hz
        go_roundw
        case rel => exact ⟨i + 1, T', some ⟨g7, 0, none⟩, cap7, S ++ [z1], _, by omega, rfl, by go_num, rfl, unhide S7, unhide a1, unhide L7, unhide F5, unhide M5, unhide O7, unhide B7⟩
        case measure => simp [intOf]; omega
      all_goals
        go_wp2_with fail
        refine (firstt_any wr).mono ?_
        rintro e w5 ⟨rfl, b5⟩
        replace b5 := hide (bt (unhide b3) b5 (Nat.le_trans (unhide hNb) (unhide L3).low))
        go_wp2
        go_ret
        exact ⟨rfl, by rw [← unhide hN]; exact unhide b5⟩
    · obtain rfl : i = n1 := by omega
      obtain ⟨rb, lb, hv, qv, tb0⟩ := unhide L3
      have hBw : Hid (B ≤ wr.heap.size) := tb0.low
      have seg2 : Hid (SegK .i64 wr a2 n2 l2) := (unhide s2).later (by rw [← unhide hN]; exact unhide b3)
      obtain ⟨w4, hw4⟩ : ∃ w4, w4 = wr.alloc (.cells #[] 3) := ⟨_, rfl⟩
      obtain ⟨P, hP⟩ : ∃ P, P = wr.heap.size := ⟨_, rfl⟩
      have bw4 : Below wr.heap.size wr w4 := by rw [hw4]; exact below_new wr _
      have own1 : Hid ((wr.alloc (.cells #[] 3)).ownsRow P 3 1 (.slice (some ⟨wr.heap.size, 0, none⟩) 0 0) 0 (vals [])) := by
        rw [hP]
        exact ⟨rfl, .inr ⟨wr.heap.size, 0, #[], rfl, Nat.le_refl _, heap_alloc_new wr _, Nat.le_refl _, by decide, rfl, rfl⟩⟩
      have seg4 := hide ((unhide seg2).later bw4)
      have I4 := hide ((unhide I3).next bw4)
      have L4 := hide (tb0.next bw4)
      have B4 := hide (bt (unhide b3) bw4 (Nat.le_trans (unhide hNb) (unhide hBw)))
      have hP4 : Hid (P ≤ w4.heap.size) := by rw [hP]; exact bw4.size
      have hNP : Hid (N ≤ P) := by rw [hP]; exact Nat.le_trans (unhide hNb) (unhide hBw)
      have hPw : Hid (wr.heap.size = P) := hP.symm
      have hPI : Hid (∀ k, (Value.slice ag i cg).ownBlock = some k → k < P) := fun k hk => by rw [hP]; exact ((unhide I3).lt k hk).2
      have hcg : Hid (ag = none → cg = 0) := fun e => by
        rcases (unhide I3).2 with ⟨e2, _⟩ | ⟨_, _, _, e2, _⟩
        · injection e2
        · injection e2 with e3 _ _
          rw [e] at e3; cases e3
      clear bw4 tb0
      rw [hw4] at seg4 I4 L4 B4 hP4
      clear hw4 hP
      go_wp2_with (at_builtin; first
        | (refine wpList_append_seg _ (by rfl) (.tmp 95) (.tmp 96) rfl P _ 0 [] rfl (unhide own1) a2 n2 c2 l2 rfl (unhide seg4) (unhide hn2) (by omega) (unhide hP4) ?_; intro v5 w5 o5 g5; have I5 := hide ((unhide I4).keep fun g hg => g5.block g ((unhide I4).lt g hg).2 (fun e => Nat.lt_irrefl _ (Nat.lt_of_lt_of_le (unhide hPI g hg) (by have e2 : some g = some wr.heap.size := e; injection e2 with e3; rw [e3, unhide hPw]; exact Nat.le_refl _)))); replace o5 : Is P v5 l2 w5 := (by have h9 := o5; rw [List.nil_append, Nat.zero_add, ← (unhide seg4).1] at h9; exact h9); have L5 := hide ((unhide L4).cy (cy_is (M := P) (l := []) (by have h9 := unhide own1; exact h9) g5)); have B5 := hide ((unhide B4).trans (grown_below g5 (Nat.le_trans (unhide hNP) (unhide hP4)) (fun g hg => by have e2 : some wr.heap.size = some g := hg; injection e2 with e3; rw [← e3, unhide hPw]; exact unhide hNP))); have hP5 := hide (Nat.le_trans (unhide hP4) g5.size); replace o5 := hide o5; clear g5)
        | (refine wpList_append_seg _ (by rfl) (.tmp 97) (.tmp 98) rfl P _ n2 l2 rfl (by have h9 := unhide o5; unfold Is at h9; rw [(unhide seg4).1] at h9; exact h9) ag i cg S rfl (is_seg (unhide I5) (unhide hS)) (unhide hcg) (by omega) (unhide hP5) ?_; intro v6 w6 o6 g6; have I6 := hide ((unhide I5).keep fun g hg => g6.block g ((unhide I5).lt g hg).2 (fun e => Nat.lt_irrefl _ (Nat.lt_of_lt_of_le (unhide hPI g hg) ((unhide o5).lt g e.symm).1))); replace o6 : Is P v6 (l2 ++ S) w6 := (by have h9 := o6; unfold Is; rw [List.length_append, (unhide seg4).1, unhide hS]; exact h9); have L6 := hide ((unhide L5).cy (cy_is (unhide o5) g6)); have B6 := hide ((unhide B5).trans (grown_below g6 (Nat.le_trans (unhide hNP) (unhide hP5)) (fun g hg => Nat.le_trans (unhide hNP) ((unhide o5).lt g hg).1))); replace o6 := hide o6; clear g6))
      obtain ⟨v6a, v6c, hv6⟩ := (unhide o6).form
      obtain ⟨LL, hLL⟩ : ∃ LL, LL = l2 ++ S := ⟨_, rfl⟩
      have hLn : LL.length ≤ 400 := by rw [hLL, List.length_append, (unhide seg4).1, unhide hS]; omega
      have hLS : Hid (∀ x ∈ S, x ∈ LL) := fun x hx => by rw [hLL]; exact List.mem_append.2 (.inr hx)
      rw [← hLL] at o6 hv6
      subst hv6
      replace hLL := hide hLL
      clear own1 seg4 I4 L4 B4 hP4 L5 B5 hP5 I5 o5 seg2 L3
      go_wp2_with fail
      go_loopw [12] (fun s12 wx => ∃ (j : Nat) (T' : Nat → Lv) (hv1 qv1 : Nat → Value) (wz : World), j ≤ LL.length ∧ s12 = .int .i64 j ∧ wz = wx ∧ Hid (Tb B n 4096 T' b rb lb hv1 qv1 wz) ∧ Hid (Sf n 400 T') ∧ Hid (Nam n T' (S.filter (fun z => !((LL.take j).contains z)))) ∧ Hid (Is P (.slice v6a LL.length v6c) LL wz) ∧ Hid (Is B (.slice ag i cg) S wz) ∧ Hid (Below N w wz)) (fun s12 _ => LL.length - (intOf s12).toNat)
      case atStart => exact ⟨0, T, hv, qv, _, Nat.zero_le _, rfl, rfl, unhide L6, (unhide F3).up (by omega), by rw [show S.filter (fun z => !((LL.take 0).contains z)) = S from by simp]; exact unhide M3, unhide o6, unhide I6, unhide B6⟩
      case round =>
        obtain ⟨j, T', hv1, qv1, wx, hj, rfl, hwz, L7, F7, M7, o7, I7, B7⟩ := hrel
        subst hwz
        have hfew : Hid (Few n 1000 T') := (unhide F7).gd.few (by decide)
        have hgd : Hid (Gd n 1000 T') := (unhide F7).gd.up (by decide)
        have hsrt : Hid (∀ t, t < n → Srt (T' t).1) := fun t ht => ((unhide L7).ls.la t ht).srt
        by_cases hjl : j < LL.length
        · have hmk := make1001 wx
          obtain ⟨W1, hW1⟩ : ∃ W1, W1 = wx.alloc (.cells (madeCells #[.bool false] 1001) 4) := ⟨_, rfl⟩
          obtain ⟨D, hD⟩ : ∃ D, D = wx.heap.size := ⟨_, rfl⟩
          have bw : Below wx.heap.size wx W1 := by rw [hW1]; exact below_new wx _
          have Ws : Hid (Was D n T' S 0 W1) := by rw [hW1, hD]; exact was_new wx T' S
          have L8 := hide ((unhide L7).next bw)
          have o8 := hide ((unhide o7).next bw)
          have I8 := hide ((unhide I7).next bw)
          have B8 := hide (bt (unhide B7) bw (Nat.le_trans (unhide hNb) (unhide L7).low))
          have hND : Hid (N ≤ D) := by rw [hD]; exact Nat.le_trans (unhide hNb) (unhide L7).low
          go_wp2_with fail
          rw [← hW1, ← hD]
          replace hW1 := hide hW1
          replace hD := hide hD
          clear hmk bw L7 o7 I7 B7
          go_loopw [14] (fun s14 wy => ∃ (k : Nat) (wz : World), k ≤ S.length ∧ s14 = .int .i64 k ∧ wz = wy ∧ Hid (Was D n T' S k wz) ∧ Hid (Tb B n 4096 T' b rb lb hv1 qv1 wz) ∧ Hid (Is P (.slice v6a LL.length v6c) LL wz) ∧ Hid (Is B (.slice ag i cg) S wz) ∧ Hid (Below N w wz)) (fun s14 _ => S.length - (intOf s14).toNat)
          case atStart => exact ⟨0, _, Nat.zero_le _, rfl, rfl, unhide Ws, unhide L8, unhide o8, unhide I8, unhide B8⟩
          case round =>
            obtain ⟨k, wy, hk, rfl, hwz, Ws, L9, o9, I9, B9⟩ := hrel
            subst hwz
            have hSi := unhide hS
            by_cases hks : k < S.length
            · have hki : k < i := by omega
              obtain ⟨g0, g1, rfl, d1, hgw⟩ := (unhide I9).elem' hks
              obtain ⟨z, hz, hz9⟩ : ∃ z : Nat, S.getD k 0 = (z : Int) ∧ z < 1001 := by
                have hm : S.getD k 0 ∈ S := by simp [List.getD, hks]
                obtain ⟨q1, q2⟩ := unhide O3 _ hm
                exact ⟨(S.getD k 0).toNat, by omega, by omega⟩
              rw [hz] at d1
              have hzi : (z : Int) < 1001 := by omega
              replace hz := hide hz
              have L9n := hide (show Tn B n 4096 T' b wy from ⟨_, _, _, _, unhide L9⟩)
              obtain ⟨x, y, v, hwv⟩ : ∃ (x y : Int) (v : Bool), waitV (z : Int) n T' (atW (z : Int) T' n) = .tuple #[.agg #[.int .i64 x, .int .i64 y], .bool v] := ⟨_, _, _, rfl⟩
              have hvv : Hid (decide (atW (z : Int) T' n < n) = v) := by
                have := hwv
                unfold waitV at this
                injection this with this
                injection this with this
                injection this with _ this
                injection this with this _
                injection this
              replace hwv := hide hwv
              obtain ⟨cur9, hD9, _⟩ := (unhide Ws).row
              have hne : Hid (g0 ≠ D) := fun e => by
                obtain ⟨c, hc⟩ := (unhide I9).ty g0 rfl
                rw [e, hD9] at hc
                cases hc
              clear hD9
              go_wp2_with fail
              go_region_held3 (fun wz => wz.cell? ⟨g0, g1 + k, none⟩ = some (.int .i64 z))
                (first | exact d1 | exact m1 | exact (set4_cell (unhide hne)).trans m1)
                (first | (go_at_call 31; refine Calls.mono (waits_tb _ (unhide L9).drew (unhide hfew) (by omega) (z : Int)) ?_; rw [unhide hwv]; rintro e w10 ⟨rfl, b10⟩; have m1 := (b10.cell (p := ⟨g0, g1 + k, none⟩) hgw).trans d1; have W10 := hide (((unhide Ws).next (Below.drew (Below.refl _ _))).next b10); obtain ⟨⟨xx, k1⟩, k2⟩ := (unhide W10).cell hz9; have bb := hide (bt (Below.refl wy.heap.size wy).drew b10 (Nat.le_refl _)); clear b10))
              all_goals
                obtain ⟨cur8, hD8, _⟩ := (unhide W10).row
                have W11 : Hid (Was D n T' S (k + 1) (w10.setCell ⟨D, z, none⟩ (.bool v))) := by
                  have h9 := (unhide W10).put hz9 (unhide hz) (fun m hm => (unhide O3 _ (by have : m < S.length := (by omega); simp [List.getD, this])).1)
                  rw [unhide hvv] at h9
                  exact h9
                have L11 := hide (tb_set ((unhide L9).next (unhide bb)) hD8 z (.bool v))
                have o11 := hide (is_set ((unhide o9).next (unhide bb)) hD8 z (.bool v))
                have I11 := hide (is_set ((unhide I9).next (unhide bb)) hD8 z (.bool v))
                have B11 := hide ((bt (unhide B9) (unhide bb) (Nat.le_trans (unhide hNb) (unhide L9).low)).setCell (p := ⟨D, z, none⟩) (unhide hND) (.bool v))
                clear hD8
                go_wp2
                go_roundw
                case rel => exact ⟨k + 1, _, by omega, by go_num, rfl, unhide W11, unhide L11, unhide o11, unhide I11, unhide B11⟩
                case measure => simp [intOf] <;> omega
            · obtain rfl : k = S.length := by omega
              obtain ⟨ga, oa, rfl, d1, hga⟩ := (unhide o9).elem' hjl
              obtain ⟨who, hwho⟩ : ∃ who, who = LL.getD j 0 := ⟨_, rfl⟩
              rw [← hwho] at d1
              obtain ⟨r, hr⟩ : ∃ r, r = dropD who T' (dn n 0) := ⟨_, rfl⟩
              have F12 := hide ((unhide F7).drop (unhide hsrt) who)
              have M12 := hide (nam_drop who (unhide hsrt) (unhide F7).gd (unhide M7))
              rw [hwho, gone_step S LL j hjl, ← hwho] at M12
              have G12 := hide (fun g hg => drop_granted (who := who) (g := g) (unhide hsrt) (unhide F7).gd (unhide F7).one hg)
              rw [← hr] at F12 M12 G12
              have hrl : Hid (r.1.length ≤ 100000) := by
                rw [hr]
                have h9 := drop_few who (unhide F7).gd
                have h8 : n * 400 ≤ 60 * 400 := Nat.mul_le_mul_right _ h1
                show _ ≤ _
                omega
              replace hr := hide hr
              replace hwho := hide hwho
              have hX := hide (fn_cells (X := fun q => (some ga = some q) ∨ (Value.slice ag S.length cg).ownBlock = some q ∨ q = D) (unhide L9) (fun q hq => by
                rcases hq with hq | hq | rfl
                · obtain ⟨c, hc⟩ := (unhide o9).ty q hq
                  exact ⟨c, 3, hc, by decide, by decide⟩
                · obtain ⟨c, hc⟩ := (unhide I9).ty q (by have := unhide hS; rw [← this]; exact hq)
                  exact ⟨c, 3, hc, by decide, by decide⟩
                · obtain ⟨c, hc, _⟩ := (unhide Ws).row
                  exact ⟨c, 4, hc, by decide, by decide⟩))
              go_wp2_with fail
              refine (drop_w wy (unhide L9) (unhide hgd) (by omega) who (unhide hX) (unhide hr).symm).mono ?_
              rintro e w12 ⟨gv, rfl, Ig, ⟨hv2, qv2, L12⟩, B12, K12⟩
              have W12 := hide ((unhide Ws).kr K12 (.inr (.inr rfl)))
              have o12 := hide ((unhide o9).kr K12 (fun g hg => .inl hg))
              have I12 := hide ((unhide I9).kr K12 (fun g hg => .inr (.inl (by have := unhide hS; rw [this]; exact hg))))
              replace B12 := hide ((unhide B9).trans (B12.mono (unhide hNb)))
              obtain ⟨gva, gvc, rfl⟩ := Ig.form
              replace Ig := hide Ig
              replace L12 := hide L12
              have hfew2 : Hid (Few n 1000 r.2) := (unhide F12).gd.few (by decide)
              clear d1 K12 L9 o9 I9 B9 Ws hX
              go_wp2_with fail
              go_loopw [16] (fun s16 wv => ∃ (k : Nat) (wz : World), k ≤ r.1.length ∧ s16 = .int .i64 k ∧ wz = wv ∧ Hid (Below w12.heap.size w12 wz)) (fun s16 _ => r.1.length - (intOf s16).toNat)
              case atStart => exact ⟨0, _, Nat.zero_le _, rfl, rfl, Below.refl _ _⟩
              case round =>
                obtain ⟨k, wv, hk2, rfl, hwz, bk⟩ := hrel
                subst hwz
                have hrl9 := unhide hrl
                by_cases hkr : k < r.1.length
                · obtain ⟨g3, o3, rfl, m0, hg3⟩ := ((unhide Ig).next (unhide bk)).elem' hkr
                  obtain ⟨g, hg⟩ : ∃ g, g = r.1.getD k 0 := ⟨_, rfl⟩
                  rw [← hg] at m0
                  have hgr : g ∈ r.1 := by rw [hg]; simp [List.getD, hkr]
                  obtain ⟨_, hat, hno, jj, hjj, xx, hxx, hxg⟩ := unhide G12 g hgr
                  have hgS : g ∈ S := by
                    have h9 := (unhide M7 jj hjj).2 xx hxx
                    rw [hxg] at h9
                    exact (List.mem_filter.1 h9).1
                  obtain ⟨q1, q2⟩ := unhide O3 g hgS
                  obtain ⟨mm, hmm, hme⟩ := List.getElem_of_mem hgS
                  obtain ⟨gz, hgz⟩ : ∃ gz : Nat, g = (gz : Int) := ⟨g.toNat, by omega⟩
                  have hgi : (gz : Int) < 1001 := by omega
                  have hg1 : ¬ (1000 : Int) < (gz : Int) := by omega
                  have hg2 : ¬ 1000 < gz := by omega
                  have cw : Hid (∀ wd, Below w12.heap.size w12 wd → wd.cell? ⟨D, gz, none⟩ = some (.bool true)) := fun wd kk => by
                    obtain ⟨cur, h5, h6, h7, h8⟩ := ((unhide W12).next kk).row
                    have h9 := h8 mm hmm
                    have h10 : S.getD mm 0 = g := by simp [List.getD, hmm, hme]
                    rw [h10, decide_eq_true hat, hgz, Int.toNat_natCast] at h9
                    simp [World.cell?, h5, h9]
                  have hwn := hide (wait_none g hno)
                  rw [hgz] at m0 hwn
                  replace hg := hide hg
                  replace hgz := hide hgz
                  clear hgr hat hno hxx hxg hgS q1 q2 hmm hme hjj
                  have Lk := hide ((unhide L12).next (unhide bk))
                  have hsz : Hid (g3 < wv.heap.size) := hg3
                  go_upto_region 29 with fail
                  go_cut [17, 18] from 142 to 177 (fun s t wd => ∃ Q, s = .pointer (some ⟨Q, 0, none⟩) ∧ t = .bool false ∧ Hid (Below wv.heap.size wv wd))
                  case first => as_aux_lemma =>
                    have ca : ∀ o, (wv.drew.alloc o).cell? ⟨g3, o3 + k, none⟩ = some (.int .i64 (gz : Int)) := fun o => ((below_new wv.drew o).cell (p := ⟨g3, o3 + k, none⟩) (unhide hsz)).trans m0
                    go_region_held3 (fun wz => wz.cell? ⟨g3, o3 + k, none⟩ = some (.int .i64 (gz : Int)))
                      (first | exact m0 | exact ca _ | exact m1 | exact ma _ | exact mb | exact (set4_cell (Nat.ne_of_lt (unhide hsz))).trans m1)
                      (first | (go_at_call 31; refine Calls.mono (waits_tb _ (unhide Lk).drew (unhide hfew2) (by omega) (gz : Int)) ?_; rw [unhide hwn]; rintro e w13 ⟨rfl, b13⟩; have m1 := (b13.cell (p := ⟨g3, o3 + k, none⟩) (unhide hsz)).trans m0; have ma : ∀ o, (w13.alloc o).cell? ⟨g3, o3 + k, none⟩ = some (.int .i64 (gz : Int)) := (fun o => ((below_new w13 o).cell (p := ⟨g3, o3 + k, none⟩) (Nat.lt_of_lt_of_le (unhide hsz) b13.size)).trans m1); have PB := hide (fun o => below_then (bt (Below.refl wv.heap.size wv).drew b13 (Nat.le_refl _)) (below_new w13 o)); clear b13) | (go_at_call 31; refine Calls.mono (waits_tb _ ((unhide Lk).dal _) (unhide hfew2) (by omega) (gz : Int)) ?_; rw [unhide hwn]; rintro e w13 ⟨rfl, b13⟩; have m1 := (b13.cell (p := ⟨g3, o3 + k, none⟩) (Nat.lt_of_lt_of_le (unhide hsz) (below_new wv.drew _).size)).trans (ca _); obtain ⟨x1, x2, x3, x4⟩ := lock_cells (p := wv.heap.size) ((b13.block _ (by simp)).trans (heap_alloc_new wv.drew _)); have mb := (set50_cell (w := w13) (P := wv.heap.size) (o := o3 + k) (Nat.ne_of_lt (unhide hsz)) (.int .i64 0) (.int .i64 0)).trans m1; have PB := hide (((bt (bt (Below.refl wv.heap.size wv).drew (below_new wv.drew _) (Nat.le_refl _)) b13 (below_new wv.drew _).size).setCell (p := ⟨wv.heap.size, 0, none⟩) (Nat.le_refl _) (.int .i64 0)).setCell (p := ⟨wv.heap.size, 1, none⟩) (Nat.le_refl _) (.int .i64 0)); clear b13))
                    all_goals
                      go_wp2
                      go_meet
                      case rel => first | exact ⟨_, rfl, rfl, unhide PB _⟩ | exact ⟨_, rfl, rfl, unhide PB⟩
                  obtain ⟨Q, rfl, rfl, b14⟩ := hcut
                  have bk2 := hide (below_then (unhide bk) (unhide b14))
                  have m2 := ((unhide b14).cell (p := ⟨g3, o3 + k, none⟩) (unhide hsz)).trans m0
                  have m3 := unhide cw _ (unhide bk2)
                  clear m0 hg3
                  go_wp2
                  go_roundw
                  case rel => exact ⟨k + 1, _, by omega, by go_num, rfl, unhide bk2⟩
                  case measure => simp [intOf] <;> omega
                · obtain rfl : k = r.1.length := by omega
                  have L15 := hide ((unhide L12).next (unhide bk))
                  have o15 := hide ((unhide o12).next (unhide bk))
                  have I15 := hide ((unhide I12).next (unhide bk))
                  have B15 := hide (bt (unhide B12) (unhide bk) (Nat.le_trans (unhide hNb) (unhide L12).low))
                  go_wp2
                  go_roundw
                  case rel => exact ⟨j + 1, r.2, hv2, qv2, _, by omega, by go_num, rfl, unhide L15, unhide F12, unhide M12, unhide o15, unhide I15, unhide B15⟩
                  case measure => simp [intOf] <;> omega
        · obtain rfl : j = LL.length := by omega
          rw [List.take_length, gone_of (unhide hLS)] at M7
          have hnil := nam_nil (unhide M7)
          have hl0 : lenD T' n = 0 := len_nil n hnil
          have he0 : edgesD T' n = [] := edges_nil hnil
          have hs4 : ∀ t, t < n → (T' t).1.length + (T' t).2.length ≤ 400 := fun t ht => (unhide F7).gd.sum t ht
          have L16 := hide (fun (w' : World) (kk : Below wx.heap.size wx w') => (unhide L7).next kk)
          clear hnil
          go_wp2_with fail
          refine (firstt_any wx).mono ?_
          rintro e w16 ⟨rfl, b16⟩
          have C1 := hide (len_t w16 (unhide L16 w16 b16) (unhide hfew) (by omega))
          rw [hl0] at C1
          go_wp2_with fail
          refine (unhide C1).mono ?_
          rintro e w17 ⟨rfl, b17⟩
          have b18 := below_then b16 b17
          have C2 := hide (edges_t w17 (unhide L16 w17 b18) hs4 (by omega))
          rw [he0] at C2
          go_wp2_with fail
          refine (unhide C2).mono ?_
          rintro e w18 ⟨v18, rfl, P18, b19⟩
          obtain ⟨a18, c18, rfl⟩ := P18.form
          have BE := hide (bt (unhide B7) (below_then b18 b19) (Nat.le_trans (unhide hNb) (unhide L7).low))
          go_wp2
          go_ret
          exact ⟨rfl, by rw [← unhide hN]; exact unhide BE⟩
end Go.Proofs.Ytdhpahopfmcdkaa

/- TableDrops: all arguments. -/
namespace Go.Proofs.Ytdhpahopfmcdkaa
open Go.RowKit
set_option maxRecDepth 100000 in
set_option maxHeartbeats 4000000 in
theorem drops_early (a0 : Int) (a1 : Option Addr) (n1 c1 : Nat) (a2 : Option Addr) (n2 c2 : Nat) (w : World) (hl1 : n1 ≤ maxLen) (hl2 : n2 ≤ maxLen) (h : a0 < 1 ∨ (1 ≤ a0 ∧ 60 < a0) ∨ (1 ≤ a0 ∧ a0 ≤ 60 ∧ 300 < n1) ∨ (1 ≤ a0 ∧ a0 ≤ 60 ∧ n1 ≤ 300 ∧ 100 < n2)) :
    Calls Try.prog 5 #[.int .i64 a0, .slice a1 n1 c1, .slice a2 n2 c2] w fun e w' => e = .returned (.bool true) ∧ Below w.heap.size w w' := by
  unfold maxLen at hl1 hl2
  have C1 := hide (firstt_any w)
  have k1 : (n1 : Int) ≤ 300 ∨ (300 : Int) < (n1 : Int) := by omega
  have k2 : (n2 : Int) ≤ 100 ∨ (100 : Int) < (n2 : Int) := by omega
  rcases h with h | ⟨h, h2⟩ | ⟨h, h2, h3⟩ | ⟨h, h2, h3, h4⟩
  all_goals
    rcases k1 with k1 | k1
    all_goals
      rcases k2 with k2 | k2
      all_goals first
        | omega
        | (go_enter Try.func5, Try.ntmps5
           go_wp2_with fail
           refine (unhide C1).mono ?_
           rintro e w1 ⟨rfl, b1⟩
           clear C1
           have C2 := hide (firstt_any w1)
           go_wp2_with fail
           refine (unhide C2).mono ?_
           rintro e w2 ⟨rfl, b2⟩
           replace b2 := hide (below_then b1 b2)
           clear C2
           go_wp2
           go_ret
           exact ⟨rfl, unhide b2⟩)
theorem tableDrops_walk (a0 : Int) (a1 : Option Addr) (len1 cap1 : Nat) (Z1 : Nat → Nat → Int) (a2 : Option Addr) (len2 cap2 : Nat) (l2 : List Int) (W : World) (_w0 : (Lit.int .i64 a0).wf = true) (s1 : RecsB 4 W.heap.size W a1 len1 Z1) (lc1 : len1 ≤ cap1) (cm1 : cap1 ≤ maxLen)
    (_wz1 : ∀ i, i < len1 → ∀ j, j < 4 → (Lit.int .i64 (Z1 i j)).wf = true) (s2 : SegK .i64 W a2 len2 l2) (lc2 : len2 ≤ cap2) (cm2 : cap2 ≤ maxLen) (nil2 : a2 = none → cap2 = 0) (_wz2 : ∀ z ∈ l2, (Lit.int .i64 z).wf = true) :
    Calls Try.prog 5 #[.int .i64 a0, .slice a1 len1 cap1, .slice a2 len2 cap2] W fun e w' => e = .returned (.bool true) ∧ Below W.heap.size W w' := by
  by_cases h : a0 < 1 ∨ (1 ≤ a0 ∧ 60 < a0) ∨ (1 ≤ a0 ∧ a0 ≤ 60 ∧ 300 < len1) ∨ (1 ≤ a0 ∧ a0 ≤ 60 ∧ len1 ≤ 300 ∧ 100 < len2)
  · exact drops_early a0 a1 len1 cap1 a2 len2 cap2 W (Nat.le_trans lc1 cm1) (Nat.le_trans lc2 cm2) h
  obtain ⟨n, rfl⟩ : ∃ n : Nat, a0 = n := ⟨a0.toNat, by omega⟩
  exact drops_in n a1 len1 cap1 Z1 a2 len2 cap2 l2 W s1 s2 nil2 (by omega) (by omega) (by omega) (by omega)
end Go.Proofs.Ytdhpahopfmcdkaa
