/- Texts of this claim, put together in their order. -/
import Derived.Deep.RegionHeld3
import Derived.Deep.CutRange
import Derived.Test.YtdhpahopfmcdkaaOfTableonce1
import Derived.Test.YtdhpahopfmcdkaaOfTableonce2
import Derived.Test.YtdhpahopfmcdkaaOfTableonce3
import Derived.Test.YtdhpahopfmcdkaaOfTableonce4
import Derived.Test.YtdhpahopfmcdkaaOfTableonce5
import Derived.Test.YtdhpahopfmcdkaaOfTableonce6
import Derived.Test.YtdhpahopfmcdkaaOfTableonce7
import Derived.Test.YtdhpahopfmcdkaaOfTableonce8
/- TableOnce's walk. -/
namespace Go.Proofs.Ytdhpahopfmcdkaa
open Go.RowKit

theorem Tn.dal {B n : Nat} {most : Int} {T : Nat → Lv} {b : Nat} {w : World} (h : Tn B n most T b w) (o : Obj) : Tn B n most T b (w.drew.alloc o) := h.drew.next (below_new _ _)
theorem set1_cell {w : World} {P p j o : Nat} (h : p ≠ P) (u : Value) (_ : Unit) : (w.setCell ⟨P, j, none⟩ u).cell? ⟨p, o, none⟩ = w.cell? ⟨p, o, none⟩ := by
  have a := set_other w P j p u h
  simp only [World.cell?, a]
theorem set2_cell {w : World} {P p o : Nat} (h : p ≠ P) (u v : Value) : ((w.setCell ⟨P, 0, none⟩ u).setCell ⟨P, 1, none⟩ v).cell? ⟨p, o, none⟩ = w.cell? ⟨p, o, none⟩ := by
  have a := set_other (w.setCell ⟨P, 0, none⟩ u) P 1 p v h
  have c := set_other w P 0 p u h
  simp only [World.cell?, a, c]
theorem set2_own {w : World} {P : Nat} {x u v : Value} (h : w.cell? ⟨P, 0, none⟩ = some x) : ((w.setCell ⟨P, 0, none⟩ u).setCell ⟨P, 1, none⟩ v).cell? ⟨P, 0, none⟩ = some u := by
  rw [World.cell?_setCell_other _ _ _ _ (by simp), World.cell?_setCell_same _ _ _ h]
/-- A lane, and the two numbers of an edge. -/
def Se (B : Nat) (H Q : List En) (l g i : Nat) (x y : Int) (w : World) : Prop :=
  Ln B H Q l w ∧ w.cell? ⟨g, i, none⟩ = some (.int .i64 x) ∧ w.cell? ⟨g, i + 1, none⟩ = some (.int .i64 y) ∧ g < w.heap.size
theorem Se.next {B : Nat} {H Q : List En} {l g i : Nat} {x y : Int} (w w' : World) (h : Se B H Q l g i x y w) (k : Below w.heap.size w w') : Se B H Q l g i x y w' :=
  ⟨h.1.next k, (k.cell (p := ⟨g, i, none⟩) h.2.2.2).trans h.2.1, (k.cell (p := ⟨g, i + 1, none⟩) h.2.2.2).trans h.2.2.1, Nat.lt_of_lt_of_le h.2.2.2 k.size⟩
theorem cy_r (w : World) : Cy w w := fun _ _ _ _ h _ _ => h
theorem cy_t {a b c : World} (h : Cy a b) (k : Cy b c) : Cy a c := fun j u t f hj h1 h2 => k j u t f (h j u t f hj h1 h2) h1 h2
theorem cy_b {w w' : World} (h : Below w.heap.size w w') : Cy w w' := fun j _ _ _ hj _ _ => (h.block j (heap_lt hj)).trans hj
theorem rb_cy {g cap : Nat} {l : List En} {w w' : World} (r : Rb g cap l w) (k : Cy w w') : Rb g cap l w' := r.keep (by
  obtain ⟨cur, h, _⟩ := r.blk
  rw [k _ _ _ _ h (by decide) (by decide), h])
set_option maxRecDepth 100000 in
set_option maxHeartbeats 30000000 in
theorem once_in (n : Nat) (most : Int) (a2 : Option Addr) (n2 c2 : Nat) (Z : Nat → Nat → Int) (w : World) (s2 : RecsB 4 w.heap.size w a2 n2 Z) (h0 : 1 ≤ n) (h1 : n ≤ 60) (h2 : n2 ≤ 300) (h3 : 1 ≤ most) (h4 : most ≤ 4096) :
    Calls Try.prog 4 #[.int .i64 (n : Int), .int .i64 most, .slice a2 n2 c2] w fun e w' => e = .returned (.bool true) ∧ Below w.heap.size w w' := by
  obtain ⟨N, hN⟩ : ∃ N, N = w.heap.size := ⟨_, rfl⟩
  rw [← hN] at s2
  replace s2 := hide s2
  have k1 : (n : Int) ≥ 1 := by omega
  have k2 : (n : Int) ≤ 60 := by omega
  have k3 : (n2 : Int) ≤ 300 := by omega
  go_enter Try.func4, Try.ntmps4
  go_wp2_with fail
  refine (firstt_any w).mono ?_
  rintro e w1 ⟨rfl, b1⟩
  rw [← hN] at b1
  replace b1 := hide b1
  replace hN := hide hN
  go_wp2_with fail
  refine (new_n n most w1 h0 (by omega) h3 h4).mono ?_
  rintro e w2 ⟨b, rfl, L2, b2⟩
  obtain ⟨B, hB⟩ : ∃ B, B = w1.heap.size := ⟨_, rfl⟩
  rw [← hB] at L2 b2
  have hNb : Hid (N ≤ B) := by have := (unhide b1).size; rw [unhide hN, hB]; exact this
  replace b2 := hide ((unhide b1).trans (b2.mono (unhide hNb)))
  replace hB := hide hB
  replace L2 := hide L2
  go_wp2_with fail
  go_loopw [9] (fun s wr => ∃ (i : Nat) (T : Nat → Lv), i ≤ n2 ∧ s = .int .i64 i ∧ Hid (Tn B n most T b wr) ∧ Hid (On n most i T) ∧ Hid (Below N w wr)) (fun s _ => n2 - (intOf s).toNat)
  case atStart => exact ⟨0, none0, Nat.zero_le _, rfl, unhide L2, on_none n 0 (by omega), unhide b2⟩
  case round =>
    obtain ⟨i, T0, hi, rfl, L3, O3, b3⟩ := hrel
    by_cases hlt : i < n2
    · obtain ⟨g, o, rfl, hg, hc⟩ := ((unhide s2).later (unhide b3)).at hlt
      have d0 := hc 0 (by decide)
      have d1 := hc 1 (by decide)
      have d2 := hc 2 (by decide)
      have d3 := hc 3 (by decide)
      rw [Nat.add_zero] at d0
      obtain ⟨z0, hz0⟩ : ∃ z, z = Z i 0 := ⟨_, rfl⟩
      obtain ⟨z1, hz1⟩ : ∃ z, z = Z i 1 := ⟨_, rfl⟩
      obtain ⟨z2, hz2⟩ : ∃ z, z = Z i 2 := ⟨_, rfl⟩
      obtain ⟨z3, hz3⟩ : ∃ z, z = Z i 3 := ⟨_, rfl⟩
      rw [← hz0] at d0
      rw [← hz1] at d1
      rw [← hz2] at d2
      rw [← hz3] at d3
      clear hc hz0 hz1 hz2 hz3 hg
      go_upto_if 66 with fail
      obtain ⟨w3, hw3⟩ : ∃ w3, w3 = wr.alloc (.cells #[.int .i64 z0, .int .i64 z1, .int .i64 z2, .int .i64 z3] 46) := ⟨_, rfl⟩
      obtain ⟨p, hp⟩ : ∃ p, p = wr.heap.size := ⟨_, rfl⟩
      have ob : w3.heap[p]? = some (.cells #[.int .i64 z0, .int .i64 z1, .int .i64 z2, .int .i64 z3] 46 (0, 0)) := by rw [hw3, hp]; exact heap_alloc_new wr _
      have bw : Below wr.heap.size wr w3 := by rw [hw3]; exact below_new wr _
      have L4 := hide ((unhide L3).next bw)
      have b4 := hide (bt (unhide b3) bw (Nat.le_trans (unhide hNb) (unhide L3).low))
      rw [← hw3, ← hp]
      replace ob := hide ob
      replace hw3 := hide hw3
      replace hp := hide hp
      clear bw d0 d1 d2 d3
      go_cut [11, 12, 13, 14] from 54 to 244 (fun _ _ _ _ wc => ∃ T : Nat → Lv, Hid (Tn B n most T b wc) ∧ Hid (On n most (i + 1) T) ∧ Hid (Below N w wc))
      case first => as_aux_lemma =>
        have hsrt : ∀ j, j < n → Srt (T0 j).1 := fun j hj => (unhide L4).srt hj
        obtain ⟨c0, c1, c2, c3⟩ := opw_cells (unhide ob)
        cases hz : (z0 == 0)
        · have hgd := hide ((unhide O3).gd.up (show i ≤ 1000 by omega))
          obtain ⟨q1, q2, q3⟩ := on_drop z1 hsrt (unhide O3)
          obtain ⟨r, hr⟩ : ∃ r, r = dropD z1 T0 (dn n 0) := ⟨_, rfl⟩
          rw [← hr] at q1 q2 q3
          replace q1 := hide q1
          replace q2 := hide q2
          replace q3 := hide q3
          replace hr := hide hr
          clear hsrt
          go_wp2_with fail
          refine (drop_k w3 (unhide L4) (unhide hgd) (by omega) z1 (unhide hr).symm).mono ?_
          rintro e w5 ⟨gv, rfl, L5, b5, kr⟩
          have ob5 := hide (kr _ _ _ (unhide ob) (by decide))
          replace L5 := hide L5
          replace b5 := hide ((unhide b4).trans (b5.mono (unhide hNb)))
          have hfew5 : Hid (Few n 1000 r.2) := (unhide q1).gd.few (by omega)
          clear c0 c1 c2 c3 kr
          obtain ⟨c0, c1, c2, c3⟩ := opw_cells (unhide ob5)
          have hsz5 : Hid (p < w5.heap.size) := heap_lt (unhide ob5)
          clear c0 c2 c3
          go_upto_region 17 with fail
          go_cut [13, 14] from 66 to 244 (fun _ t wc => t = .bool false ∧ Hid (Below w5.heap.size w5 wc))
          case first =>
            have ca : ∀ o, (w5.drew.alloc o).cell? ⟨p, 1, none⟩ = some (.int .i64 z1) := fun o => ((below_new w5.drew o).cell (p := ⟨p, 1, none⟩) (unhide hsz5)).trans c1
            go_region_held3 (fun wz => wz.cell? ⟨p, 1, none⟩ = some (.int .i64 z1))
              (first | exact c1 | exact ca _ | exact m1 | exact ma _ | exact mb | exact (set1_cell (Nat.ne_of_lt (unhide hsz5)) _ ()).trans m1)
              (first | (go_at_call 31; refine Calls.mono (waits_none (B := B) _ (unhide L5).drew (unhide hfew5) (by omega) z1 (unhide q2)) ?_; rintro e w6 ⟨rfl, b6⟩; have m1 := (b6.cell (p := ⟨p, 1, none⟩) (unhide hsz5)).trans c1; have ma : ∀ o, (w6.alloc o).cell? ⟨p, 1, none⟩ = some (.int .i64 z1) := (fun o => ((below_new w6 o).cell (p := ⟨p, 1, none⟩) (Nat.lt_of_lt_of_le (unhide hsz5) b6.size)).trans m1); have PB := hide (fun o => below_then (bt (Below.refl w5.heap.size w5).drew b6 (Nat.le_refl _)) (below_new w6 o)); clear b6) | (go_at_call 31; refine Calls.mono (waits_none (B := B) _ ((unhide L5).dal _) (unhide hfew5) (by omega) z1 (unhide q2)) ?_; rintro e w6 ⟨rfl, b6⟩; have m1 := (b6.cell (p := ⟨p, 1, none⟩) (Nat.lt_of_lt_of_le (unhide hsz5) (below_new w5.drew _).size)).trans (ca _); obtain ⟨x1, x2, x3, x4⟩ := lock_cells (p := w5.heap.size) ((b6.block _ (by simp)).trans (heap_alloc_new w5.drew _)); have mb := (set2_cell (w := w6) (P := w5.heap.size) (o := 1) (Nat.ne_of_lt (unhide hsz5)) (.int .i64 0) (.int .i64 0)).trans m1; have PB := hide (((bt (bt (Below.refl w5.heap.size w5).drew (below_new w5.drew _) (Nat.le_refl _)) b6 (below_new w5.drew _).size).setCell (p := ⟨w5.heap.size, 0, none⟩) (Nat.le_refl _) (.int .i64 0)).setCell (p := ⟨w5.heap.size, 1, none⟩) (Nat.le_refl _) (.int .i64 0)); clear b6))
            all_goals
              go_wp2
              go_meet
              case rel => first | exact ⟨rfl, unhide PB _⟩ | exact ⟨rfl, unhide PB⟩
          obtain ⟨rfl, b6⟩ := hcut
          have L6 := hide ((unhide L5).next (unhide b6))
          have B6 := hide (bt (unhide b5) (unhide b6) (Nat.le_trans (unhide hNb) (unhide L5).low))
          have c6 : wc.cell? ⟨p, 1, none⟩ = some (.int .i64 z1) := ((unhide b6).cell (p := ⟨p, 1, none⟩) (unhide hsz5)).trans c1
          have hsz6 : Hid (p < wc.heap.size) := Nat.lt_of_lt_of_le (unhide hsz5) (unhide b6).size
          clear c1
          go_wp2_with fail
          go_region_held3 (fun wz => wz.cell? ⟨p, 1, none⟩ = some (.int .i64 z1))
            (first | exact c6 | exact m1)
            (first | (go_at_call 32; refine Calls.mono (held_n (B := B) _ (unhide L6).drew (unhide hfew5) (by omega) z1) ?_; rw [unhide q3]; rintro e w7 ⟨v7, rfl, P7, b7⟩; obtain ⟨a7, c7, rfl⟩ := P7.form; have m1 := (b7.cell (p := ⟨p, 1, none⟩) (unhide hsz6)).trans c6; have L7 := hide ((unhide L6).drew.next b7); have B7 := hide (bt (unhide B6).drew b7 (Nat.le_trans (unhide hNb) (unhide L6).low)); clear b7 P7))
          all_goals
            go_wp2
            go_meet
            case rel => exact ⟨r.2, unhide L7, (unhide q1).up (by omega), unhide B7⟩
        · have hfew : Hid (Few n 1000 T0) := (unhide O3).gd.few (by omega)
          have q0 := on_ask z1 z2 z3 hsrt (unhide O3)
          obtain ⟨r, hr⟩ : ∃ r, r = askT n most T0 z1 z2 z3 := ⟨_, rfl⟩
          rw [← hr] at q0
          obtain ⟨⟨r1, r2⟩, T1⟩ := r
          dsimp only at q0
          obtain ⟨q1, q2, q3⟩ := q0
          replace q1 := hide q1
          replace hr := hide hr
          have q4 := hide q2
          have q5 := hide q3
          clear hsrt q2 q3
          go_wp2_with fail
          refine (ask_n w3 (unhide L4) (unhide hfew) (by omega) z1 z2 z3 (unhide hr).symm).mono ?_
          rintro e w5 ⟨rfl, L5, b5, st⟩
          replace L5 := hide L5
          replace b5 := hide ((unhide b4).trans (b5.mono (unhide hNb)))
          clear c0 c1 c2 c3 st
          dsimp only
          cases he : (r2 == 0)
          · have e1 : r1 = 0 := unhide q5 (by simpa using he)
            have e2 : (r2 != 0) = true := by unfold bne; rw [he]; rfl
            subst e1
            go_wp2
            go_meet
            case rel => exact ⟨T1, unhide L5, unhide q1, unhide b5⟩
          · have e0 : r2 = 0 := by simpa using he
            have e1 : (r1 == 0) = false := by
              have := unhide q4 e0
              simpa using this
            subst e0
            go_wp2
            go_meet
            case rel => exact ⟨T1, unhide L5, unhide q1, unhide b5⟩
      obtain ⟨T, L5, O5, b5⟩ := hcut
      have hfew : Hid (Few n 1000 T) := (unhide O5).gd.few (by omega)
      have hsum : ∀ j, j < n → (T j).1.length + (T j).2.length ≤ 300 := fun j hj => by have := (unhide O5).gd.sum j hj; omega
      replace hsum := hide hsum
      obtain ⟨rb, lb, hv, qv, TB⟩ := unhide L5
      have LQ : Hid (∀ j, j < n → Ln B (T j).1 (T j).2 (lb j) wc) := fun j hj => ⟨_, _, TB.ls.la j hj⟩
      replace TB := hide TB
      have hNw : Hid (N ≤ wc.heap.size) := Nat.le_trans (unhide hNb) (unhide L5).low
      go_wp2_with fail
      go_loopw [15, 16, 17] (fun s15 s16 s17 wq => ∃ (t c m : Nat) (ag : Option Addr) (cg : Nat) (l : List Int) (wz : World), t ≤ n ∧ c ≤ t * 300 ∧ m ≤ t * 300 ∧ s15 = .slice ag c cg ∧ s16 = .int .i64 m ∧ s17 = .int .i64 t ∧ wz = wq ∧ Hid (lenD T t = m) ∧ Hid (l.length = c) ∧ Hid (Is wc.heap.size (.slice ag c cg) l wz) ∧ Hid (Seen T t 0 l) ∧ Hid (Below wc.heap.size wc wz)) (fun _ _ s17 _ => n - (intOf s17).toNat)
      case atStart => exact ⟨0, 0, 0, none, 0, [], _, Nat.zero_le _, Nat.zero_le _, Nat.zero_le _, rfl, rfl, rfl, rfl, rfl, rfl, is_nil _ _, seen_nil T, Below.refl _ _⟩
      case round =>
        obtain ⟨t, c, m, ag, cg, l, wq, ht, hc9, hm9, rfl, rfl, rfl, hwz, hlen, hl, I6, S6, b6⟩ := hrel
        subst hwz
        by_cases hlt2 : t < n
        · have hgs := unhide hsum t hlt2
          obtain ⟨H, hH⟩ : ∃ H, H = (T t).1 := ⟨_, rfl⟩
          obtain ⟨Q, hQ⟩ : ∃ Q, Q = (T t).2 := ⟨_, rfl⟩
          have K7 := lane_t wq ((unhide TB).next (unhide b6)) (t : Int) (by omega) (by omega)
          have K8 := unhide LQ t hlt2
          rw [← hH, ← hQ] at K8 hgs
          replace K7 := hide K7
          replace K8 := hide K8
          have hstep : Hid (lenD T (t + 1) = lenD T t + (H.length + (newD H Q).length)) := by
            show _ = _
            rw [hH, hQ]; rfl
          have hno : Hid (∀ q, q < Q.length → ∀ l, Seen T t q l → l.any (fun y => y == (Q.getD q (0, 0)).1) = false) := fun q hq l hs => by
            rw [hQ] at hq ⊢
            exact seen_no (unhide O5) hlt2 hq hs
          have hone : Hid (∀ q l, Seen T t q l → Seen T t (q + 1) (l ++ [(Q.getD q (0, 0)).1])) := fun q l hs => by
            rw [hQ]; exact seen_one hs
          have hend : Hid (∀ l, Seen T t Q.length l → Seen T (t + 1) 0 l) := fun l hs => by
            rw [hQ] at hs; exact seen_end hs
          replace hH := hide hH
          replace hQ := hide hQ
          go_wp2_with fail
          refine (unhide K7).mono ?_
          rintro e w7 ⟨rfl, rfl⟩
          go_wp2_with fail
          refine (holders_ln _ ((unhide K8).next (unhide b6)) (by omega)).mono ?_
          rintro e w8 ⟨v8, rfl, E8, b8⟩
          obtain ⟨a8, n8, c8, rfl, hn8⟩ := slice_form' E8
          have hnb8 : n8 ≤ 300 := by omega
          have Hn8 := hide hn8
          clear hn8
          have B8 := hide (bt (unhide b6) b8 (unhide b6).size)
          have I8 := hide ((unhide I6).next b8)
          clear E8 b8
          go_wp2_with fail
          refine (queue_ln _ ((unhide K8).next (unhide B8)) (by omega)).mono ?_
          rintro e w9 ⟨v9, rfl, E9, b9⟩
          obtain ⟨a9, n9, c9, rfl, hn9⟩ := slice_form' E9
          have B9 := hide (bt (unhide B8) b9 (unhide B8).size)
          have I9 := hide ((unhide I8).next b9)
          have hnn : n8 + n9 ≤ 300 := by have := unhide Hn8; omega
          replace E9 := hide E9
          have Hn9 := hide hn9
          have hgs9 := hide hgs
          clear b9 hn9 hgs
          go_wp2_with fail
          go_loopw [15, 16, 21] (fun s15 s16 s21 wk => ∃ (q c2 m2 : Nat) (ag : Option Addr) (cg : Nat) (l : List Int) (wz : World), q ≤ n9 ∧ c2 ≤ t * 300 + q ∧ m2 ≤ t * 300 + n8 + q ∧ s15 = .slice ag c2 cg ∧ s16 = .int .i64 m2 ∧ s21 = .int .i64 q ∧ wz = wk ∧ Hid (m2 = m + n8 + (newD H (Q.take q)).length) ∧ Hid (l.length = c2) ∧ Hid (Is wc.heap.size (.slice ag c2 cg) l wz) ∧ Hid (Seen T t q l) ∧ Hid (Cy w9 wz) ∧ Hid (Below wc.heap.size wc wz)) (fun _ _ s21 _ => n9 - (intOf s21).toNat)
          case atStart => exact ⟨0, c, m + n8, ag, cg, l, _, Nat.zero_le _, by omega, by omega, rfl, by go_num, rfl, rfl, by show _ = _; rw [List.take_zero]; rfl, unhide hl, unhide I9, unhide S6, cy_r _, unhide B9⟩
          case round => as_aux_lemma =>
            obtain ⟨q, c2, m2, ag2, cg2, l2, wk, hq, hc29, hm29, rfl, rfl, rfl, hwz, hm2, hl2, I10, S10, C10, B10⟩ := hrel
            subst hwz
            by_cases hlq : q < n9
            · have hlq2 : q < Q.length := by have := unhide Hn9; omega
              obtain ⟨g9, rfl, r⟩ : ∃ g, a9 = some ⟨g, 0, none⟩ ∧ Rb g c9 Q wk := by
                rcases (unhide E9).cy (unhide C10) with ⟨_, e⟩ | ⟨g, cap', e, _, r⟩
                · rw [e] at hlq2; simp at hlq2
                · injection e with e1 _ e2
                  subst e1 e2
                  exact ⟨g, rfl, r⟩
              obtain ⟨x, hx⟩ : ∃ x, x = Q.getD q (0, 0) := ⟨_, rfl⟩
              have d1 : wk.cell? ⟨g9, q * 2, none⟩ = some (.int .i64 x.1) := by rw [hx]; exact r.fst hlq2
              have no := unhide hno q hlq2 l2 (unhide S10)
              have S11 := unhide hone q l2 (unhide S10)
              have hns := new_succ H Q q hlq2
              rw [← hx] at no S11 hns
              replace S11 := hide S11
              replace no := hide no
              have hc29' : c2 < 10000000 := by omega
              have hsz := hide (unhide B10).size
              have hgl9 := hide r.lt
              have hR := hide (fun (h : l2.length < 100000000) => hasl_any _ l2 x.1 wk (unhide I10).rd h)
              have hl29 : Hid (l2.length < 100000000) := by have := unhide hl2; show _ < _; omega
              replace hx := hide hx
              go_wp2_with fail
              refine (unhide hR (unhide hl29)).mono ?_
              rw [unhide no]
              rintro e w10 ⟨rfl, rfl⟩
              have hrk := hide r
              clear r
              go_upto_region 36 with (at_builtin; refine wpList_push _ rfl (.tmp 149) (.tmp 155) rfl wc.heap.size ag2 c2 cg2 l2 x.1 _ rfl rfl rfl (unhide hl2) (unhide I10) (unhide hsz) hc29' ?_; intro g7 cap7 w7 a1 a2; replace a1 := hide a1; replace a2 := hide a2)
              have C11 := hide (cy_t (unhide C10) (cy_is (unhide I10) (unhide a2)))
              have B11 := hide ((unhide B10).trans (grown_below (unhide a2) (unhide hsz) (fun k hk => ((unhide I10).lt k hk).1)))
              clear d1
              have d1 : w7.cell? ⟨g9, q * 2, none⟩ = some (.int .i64 x.1) := by
                rw [unhide hx]
                exact (rb_cy (unhide hrk) (cy_is (unhide I10) (unhide a2))).fst hlq2
              go_wp2_with fail
              refine (holds_ln w7 ((unhide K8).next (unhide B11)) (by have := unhide hgs9; omega) x.1 rfl).mono ?_
              rintro e w11 ⟨rfl, b11⟩
              have a11 := hide ((unhide a1).next b11)
              have C12 := hide (cy_t (unhide C11) (cy_b b11))
              have B12 := hide (bt (unhide B11) b11 (unhide B11).size)
              have hl11 : Hid ((l2 ++ [x.1]).length = c2 + 1) := by show _ = _; rw [List.length_append, unhide hl2]; rfl
              clear d1 b11
              obtain ⟨v, hv9⟩ : ∃ v, v = lookD x.1 H := ⟨_, rfl⟩
              rw [← hv9] at hns ⊢
              clear hv9
              cases hv0 : (v == 0)
              · rw [hv0] at hns
                have hm3 : Hid (m2 = m + n8 + (newD H (Q.take (q + 1))).length) := by have := unhide hm2; show _ = _; rw [hns]; simpa using this
                clear hns
                go_wp2
                go_roundw
                case rel => exact ⟨q + 1, c2 + 1, m2, _, _, l2 ++ [x.1], _, by omega, by omega, by omega, rfl, rfl, by go_num, rfl, unhide hm3, unhide hl11, unhide a11, unhide S11, unhide C12, unhide B12⟩
                case measure => simp [intOf]; omega
              · rw [hv0] at hns
                have hm3 : Hid (m2 + 1 = m + n8 + (newD H (Q.take (q + 1))).length) := by have := unhide hm2; show _ = _; rw [hns]; simp; omega
                clear hns
                go_wp2
                go_roundw
                case rel => exact ⟨q + 1, c2 + 1, m2 + 1, _, _, l2 ++ [x.1], _, by omega, by omega, by omega, rfl, by go_num, by go_num, rfl, unhide hm3, unhide hl11, unhide a11, unhide S11, unhide C12, unhide B12⟩
                case measure => simp [intOf]; omega
            · obtain rfl : q = n9 := by omega
              have hm3 : Hid (lenD T (t + 1) = m2) := by
                have h1 := unhide hm2
                have h2 := unhide hstep
                have h3 := unhide Hn8
                have h4 := unhide hlen
                rw [List.take_of_length_le (by have := unhide Hn9; omega)] at h1
                show _ = _
                omega
              have S11 : Hid (Seen T (t + 1) 0 l2) := unhide hend l2 (by rw [← unhide Hn9]; exact unhide S10)
              go_wp2
              go_roundw
              case rel => exact ⟨t + 1, c2, m2, _, _, l2, _, by omega, by omega, by omega, rfl, rfl, by go_num, rfl, unhide hm3, unhide hl2, unhide I10, unhide S11, unhide B10⟩
              case measure => simp [intOf]; omega
        · obtain rfl : t = n := by omega
          have hroom : (m : Int) ≤ most := by have := (unhide O5).room; rw [unhide hlen] at this; exact this
          have L6 := hide (show Tn B t most T b wq from ⟨_, _, _, _, (unhide TB).next (unhide b6)⟩)
          go_wp2_with fail
          refine (len_n wq (unhide L6) (unhide hfew) (by omega) (unhide hlen)).mono ?_
          rintro e w7 ⟨rfl, b7⟩
          have B7 := hide (bt (unhide b6) b7 (unhide b6).size)
          have L7 := hide ((unhide L6).next b7)
          clear b7
          go_wp2_with fail
          refine (edges_n w7 (unhide L7) (fun j hj => Nat.le_trans (unhide hsum j hj) (by decide)) (Nat.le_trans h1 (by decide)) rfl).mono ?_
          rintro e w8 ⟨v8, rfl, P8, b8⟩
          have B8 := hide (bt (unhide B7) b8 (unhide B7).size)
          obtain ⟨a8, n8, c8, hn8, rfl⟩ : ∃ a n c, (edgesD T t).length = n ∧ v8 = .slice a n c := by
            obtain ⟨a, c, e⟩ := P8.form
            exact ⟨a, _, c, rfl, e⟩
          have hn8m : n8 ≤ 9223372036854775807 := by
            rcases P8.2 with ⟨_, e⟩ | ⟨_, _, _, _, _, _, e1, e2, _, _⟩
            · omega
            · unfold maxLen at e2; omega
          replace P8 := hide P8
          replace hn8 := hide hn8
          clear b8
          go_wp2_with fail
          go_loopw [23] (fun s wk => ∃ (q : Nat) (wz : World), q ≤ n8 ∧ s = .int .i64 q ∧ wz = wk ∧ Hid (Below w8.heap.size w8 wz)) (fun s _ => n8 - (intOf s).toNat)
          case atStart => exact ⟨0, _, Nat.zero_le _, rfl, rfl, Below.refl _ _⟩
          case round =>
            obtain ⟨q, wk, hq, rfl, hwz, b9⟩ := hrel
            subst hwz
            by_cases hlq : q < n8
            · have hlq2 : q < (edgesD T t).length := by have := unhide hn8; omega
              obtain ⟨g9, rfl, e1, e2, hg9⟩ := ((unhide P8).next (unhide b9)).elem hlq2
              obtain ⟨y, hy⟩ : ∃ y, y = (edgesD T t).getD q (0, 0) := ⟨_, rfl⟩
              have hym : y ∈ edgesD T t := by rw [hy]; exact getD_mem hlq2
              rw [← hy] at e1 e2
              clear hy hlq2
              obtain ⟨j, hj, hat, hlk, hne⟩ := edge_fact (unhide O5) hym
              clear hym
              have B9 := hide (bt (unhide B8) (unhide b9) (unhide B8).size)
              have L9 := hide (show Tn B t most T b wk from ⟨_, _, _, _, (unhide TB).next (unhide B9)⟩)
              replace hat := hide hat
              replace hlk := hide hlk
              have hney : (y.1 == y.2) = false := by simpa using hne
              clear hne
              have hg9' := hide hg9
              clear hg9
              go_upto_region 44 with fail
              go_cut [24, 25] from 182 to 244 (fun s t wc => ∃ P, s = .pointer (some ⟨P, 0, none⟩) ∧ t = .bool true ∧ wc.cell? ⟨P, 0, none⟩ = some (.int .i64 (j : Int)) ∧ Hid (Below wk.heap.size wk wc))
              case first => as_aux_lemma =>
                obtain ⟨mm, hmm⟩ : ∃ mm, mm = lookD y.1 (T j).2 := ⟨_, rfl⟩
                replace hmm := hide hmm
                have ca : ∀ o, (wk.drew.alloc o).cell? ⟨g9, q * 2, none⟩ = some (.int .i64 y.1) := fun o => ((below_new wk.drew o).cell (p := ⟨g9, q * 2, none⟩) (unhide hg9')).trans e1
                go_region_held3 (fun wz => wz.cell? ⟨g9, q * 2, none⟩ = some (.int .i64 y.1))
                  (first | exact e1 | exact ca _ | exact m1 | exact ma _ | exact mb)
                  (first | (go_at_call 31; refine Calls.mono (waits_yes (B := B) _ (unhide L9).drew (unhide hfew) (by omega) y.1 hj (unhide hat)) ?_; rw [← unhide hmm]; rintro e w10 ⟨rfl, b10⟩; have m1 := (b10.cell (p := ⟨g9, q * 2, none⟩) (unhide hg9')).trans e1; have ma : ∀ o, (w10.alloc o).cell? ⟨g9, q * 2, none⟩ = some (.int .i64 y.1) := (fun o => ((below_new w10 o).cell (p := ⟨g9, q * 2, none⟩) (Nat.lt_of_lt_of_le (unhide hg9') b10.size)).trans m1); have PB := hide (fun o => below_then (bt (Below.refl wk.heap.size wk).drew b10 (Nat.le_refl _)) (below_new w10 o)); have PC := hide (lock_cells (heap_alloc_new w10 (.cells #[.int .i64 (j : Int), .int .i64 mm] 50))).1; clear b10) | (go_at_call 31; refine Calls.mono (waits_yes (B := B) _ ((unhide L9).dal _) (unhide hfew) (by omega) y.1 hj (unhide hat)) ?_; rw [← unhide hmm]; rintro e w10 ⟨rfl, b10⟩; have m1 := (b10.cell (p := ⟨g9, q * 2, none⟩) (Nat.lt_of_lt_of_le (unhide hg9') (below_new wk.drew _).size)).trans (ca _); obtain ⟨x1, x2, x3, x4⟩ := lock_cells (p := wk.heap.size) ((b10.block _ (by simp)).trans (heap_alloc_new wk.drew _)); have mb := (set2_cell (w := w10) (P := wk.heap.size) (o := q * 2) (Nat.ne_of_lt (unhide hg9')) (.int .i64 (j : Int)) (.int .i64 mm)).trans m1; have PC := hide (set2_own (u := .int .i64 (j : Int)) (v := .int .i64 mm) x1); have PB := hide (((bt (bt (Below.refl wk.heap.size wk).drew (below_new wk.drew _) (Nat.le_refl _)) b10 (below_new wk.drew _).size).setCell (p := ⟨wk.heap.size, 0, none⟩) (Nat.le_refl _) (.int .i64 (j : Int))).setCell (p := ⟨wk.heap.size, 1, none⟩) (Nat.le_refl _) (.int .i64 mm)); clear b10))
                all_goals
                  go_wp2
                  go_meet
                  case rel => first | exact ⟨_, rfl, rfl, unhide PC, unhide PB _⟩ | exact ⟨_, rfl, rfl, unhide PC, unhide PB⟩
              obtain ⟨P, rfl, rfl, x0, b10⟩ := hcut
              have KL : Hid (∀ W, Below wk.heap.size wk W → Calls Try.prog 33 #[.pointer (some ⟨b, 0, none⟩), .int .i64 (j : Int)] W fun e w' => e = .returned (.pointer (some ⟨lb j, 0, none⟩)) ∧ w' = W) := fun W h => lane_t W ((unhide TB).next (bt (unhide B9) h (unhide B9).size)) (j : Int) (by omega) (by omega)
              obtain ⟨H, hH⟩ : ∃ H, H = (T j).1 := ⟨_, rfl⟩
              obtain ⟨Q, hQ⟩ : ∃ Q, Q = (T j).2 := ⟨_, rfl⟩
              have S0 : Se B H Q (lb j) g9 (q * 2) y.1 y.2 wc := ⟨by rw [hH, hQ]; exact (unhide LQ j hj).next (bt (unhide B9) (unhide b10) (unhide B9).size), ((unhide b10).cell (p := ⟨g9, q * 2, none⟩) (unhide hg9')).trans e1, ((unhide b10).cell (p := ⟨g9, q * 2 + 1, none⟩) (unhide hg9')).trans e2, Nat.lt_of_lt_of_le (unhide hg9') (unhide b10).size⟩
              have hsj := unhide hsum j hj
              have hl2 := unhide hlk
              rw [← hH, ← hQ] at hsj hl2
              clear e1 e2 hH hQ
              go_wp2_with fail
              go_region_held3 (fun wz => wz.cell? ⟨P, 0, none⟩ = some (.int .i64 (j : Int)))
                (exact x0)
                (first | (go_at_call 33; refine Calls.mono (unhide KL _ (unhide b10).drew) ?_; rintro e w11 ⟨rfl, rfl⟩))
              clear x0
              have hne : Nonempty (Wc (Se B H Q (lb j) g9 (q * 2) y.1 y.2) wc) := ⟨⟨_, S0, Below.refl _ wc⟩⟩
              have q1 : ∀ x : Wc (Se B H Q (lb j) g9 (q * 2) y.1 y.2) wc, x.w.cell? ⟨g9, q * 2, none⟩ = some (.int .i64 y.1) := fun x => x.ok.2.1
              have q2 : ∀ x : Wc (Se B H Q (lb j) g9 (q * 2) y.1 y.2) wc, x.w.cell? ⟨g9, q * 2 + 1, none⟩ = some (.int .i64 y.2) := fun x => x.ok.2.2.1
              obtain ⟨v1, hv1⟩ : ∃ v, v = lookD y.2 H := ⟨_, rfl⟩
              obtain ⟨v2, hv2⟩ : ∃ v, v = lookD y.2 Q := ⟨_, rfl⟩
              have cH := hide (fun x : Wc (Se B H Q (lb j) g9 (q * 2) y.1 y.2) wc => holds_ln x.w x.ok.1 (by omega) y.2 hv1.symm)
              have cW := hide (fun x : Wc (Se B H Q (lb j) g9 (q * 2) y.1 y.2) wc => waits_ln x.w x.ok.1 (by omega) y.2 hv2.symm)
              rw [← hv1, ← hv2] at hl2
              clear hv1 hv2 hsj
              go_upto_region 46 with fail
              clear k3 b1 hN b2 b3 s2 b4 ob hw3 hp b5 hNw hc9 hm9 hlen hl I6 S6 b6 hroom L6 B7 L7 B8 hn8 P8 B9 L9 hat hlk hg9' KL L2 L3 O3 L4 L5 O5 hfew hsum LQ TB hNb k1 k2 h2 h3 h4 hlt hlt2 hj hB hi
              cases hh : (v1 == 0)
              · clear hl2 cW
                refine wp_region_wc (S := Se B H Q (lb j) g9 (q * 2) y.1 y.2) (w0 := wc) (Se.next _ _ S0 (by first | exact (Below.refl _ _).drew | exact (Below.refl _ _).drew.drew)) (by first | exact Below.refl _ _ | exact (Below.refl _ _).drew) (by kernel_rfl) (by kernel_rfl) ?_
                try simp only [List.append]
                repeat (go_big_quiet_step (first | (go_at_call 17; with_reducible exact Wc.call Se.next (unhide cH _))))
                refine wpQuiet_nil ?_
                intro w12 hw'
                have b12 : Hid (Below wc.heap.size wc w12) := by
                  obtain ⟨x, hx⟩ := hw'
                  rw [hx]
                  exact x.bel
                clear hw' q1 q2 hne S0 cH
                go_wp2
                go_roundw
                case rel => exact ⟨q + 1, _, by omega, by go_num, rfl, below_then (below_then (unhide b9) (unhide b10)) (unhide b12)⟩
                case measure => simp [intOf]; omega
              · have hh2 : (v2 == 0) = false := by
                  have e1 : v1 = 0 := by simpa using hh
                  rcases hl2 with h | h
                  · exact absurd e1 h
                  · simpa using h
                clear hl2
                refine wp_region_wc (S := Se B H Q (lb j) g9 (q * 2) y.1 y.2) (w0 := wc) (Se.next _ _ S0 (by first | exact (Below.refl _ _).drew | exact (Below.refl _ _).drew.drew)) (by first | exact Below.refl _ _ | exact (Below.refl _ _).drew) (by kernel_rfl) (by kernel_rfl) ?_
                try simp only [List.append]
                repeat (go_big_quiet_step (first | (go_at_call 17; with_reducible exact Wc.call Se.next (unhide cH _)) | (go_at_call 19; with_reducible exact Wc.call Se.next (unhide cW _))))
                refine wpQuiet_nil ?_
                intro w12 hw'
                have b12 : Hid (Below wc.heap.size wc w12) := by
                  obtain ⟨x, hx⟩ := hw'
                  rw [hx]
                  exact x.bel
                clear hw' q1 q2 hne S0 cH
                go_wp2
                go_roundw
                case rel => exact ⟨q + 1, _, by omega, by go_num, rfl, below_then (below_then (unhide b9) (unhide b10)) (unhide b12)⟩
                case measure => simp [intOf]; omega
            · obtain rfl : q = n8 := by omega
              have B9 := hide (bt (unhide B8) (unhide b9) (unhide B8).size)
              have L9 : Hid (Tn B t most T b wk) := ⟨_, _, _, _, (unhide TB).next (unhide B9)⟩
              have BN := hide (bt (unhide b5) ((unhide B9)) (unhide hNw))
              go_wp2
              go_roundw
              case rel => exact ⟨i + 1, T, by omega, by go_num, unhide L9, unhide O5, unhide BN⟩
              case measure => simp [intOf]; omega
    · obtain rfl : i = n2 := by omega
      go_wp2_with fail
      refine (firstt_any wr).mono ?_
      rintro e w4 ⟨rfl, b4⟩
      replace b4 := hide (bt (unhide b3) b4 (Nat.le_trans (unhide hNb) (unhide L3).low))
      go_wp2
      go_ret
      exact ⟨rfl, by rw [← unhide hN]; exact unhide b4⟩
set_option maxRecDepth 100000 in
set_option maxHeartbeats 4000000 in
theorem once_out (n0 most : Int) (a2 : Option Addr) (n2 c2 : Nat) (w : World) (hn : n2 ≤ 9223372036854775807) (h : 300 < n2 ∨ (n2 ≤ 300 ∧ 60 < n0) ∨ (n2 ≤ 300 ∧ n0 ≤ 60 ∧ n0 < 1) ∨ (n2 ≤ 300 ∧ 1 ≤ n0 ∧ n0 ≤ 60 ∧ most < 1) ∨ (n2 ≤ 300 ∧ 1 ≤ n0 ∧ n0 ≤ 60 ∧ 4096 < most)) :
    Calls Try.prog 4 #[.int .i64 n0, .int .i64 most, .slice a2 n2 c2] w fun e w' => e = .returned (.bool true) ∧ Below w.heap.size w w' := by
  rcases h with h | ⟨h, h2⟩ | ⟨h, h2, h3⟩ | ⟨h, h2, h3, h4⟩ | ⟨h, h2, h3, h4⟩
  case inr.inr.inr.inl | inr.inr.inr.inr =>
    have k1 : ¬ (n0 < 1) := by omega
    have k2 : ¬ (60 < n0) := by omega
    have k3 : ¬ (300 < (n2 : Int)) := by omega
    have hb := newt_bad n0 most
    go_enter Try.func4, Try.ntmps4
    go_wp2_with fail
    refine (firstt_any w).mono ?_
    rintro e w1 ⟨rfl, b1⟩
    replace b1 := hide b1
    go_wp2_with fail
    refine (hb w1 (by omega)).mono ?_
    rintro e w2 ⟨rfl, rfl⟩
    go_wp2_with fail
    refine (firstt_any _).mono ?_
    rintro e w3 ⟨rfl, b3⟩
    replace b3 := hide (below_then (unhide b1) b3)
    go_wp2
    go_ret
    exact ⟨rfl, unhide b3⟩
  all_goals
    go_enter Try.func4, Try.ntmps4
    go_wp2_with fail
    refine (firstt_any w).mono ?_
    rintro e w1 ⟨rfl, b1⟩
    replace b1 := hide b1
    go_wp2_with fail
    refine (firstt_any w1).mono ?_
    rintro e w3 ⟨rfl, b3⟩
    replace b3 := hide (below_then (unhide b1) b3)
    go_wp2
    go_ret
    exact ⟨rfl, unhide b3⟩
theorem tableOnce_walk (n0 most : Int) (a2 : Option Addr) (n2 c2 : Nat) (Z : Nat → Nat → Int) (w : World) (_ : (Lit.int .i64 n0).wf = true) (_ : (Lit.int .i64 most).wf = true) (s2 : RecsB 4 w.heap.size w a2 n2 Z) (lc2 : n2 ≤ c2) (cm2 : c2 ≤ maxLen) (_ : ∀ i, i < n2 → ∀ j, j < 4 → (Lit.int .i64 (Z i j)).wf = true) :
    Calls Try.prog 4 #[.int .i64 n0, .int .i64 most, .slice a2 n2 c2] w fun e w' => e = .returned (.bool true) ∧ Below w.heap.size w w' := by
  unfold maxLen at cm2
  by_cases h : 1 ≤ n0 ∧ n0 ≤ 60 ∧ n2 ≤ 300 ∧ 1 ≤ most ∧ most ≤ 4096
  · obtain ⟨k, rfl⟩ : ∃ k : Nat, n0 = (k : Int) := ⟨n0.toNat, by omega⟩
    exact once_in k most a2 n2 c2 Z w s2 (by omega) (by omega) h.2.2.1 h.2.2.2.1 h.2.2.2.2
  · exact once_out n0 most a2 n2 c2 w (by omega) (by omega)
end Go.Proofs.Ytdhpahopfmcdkaa
