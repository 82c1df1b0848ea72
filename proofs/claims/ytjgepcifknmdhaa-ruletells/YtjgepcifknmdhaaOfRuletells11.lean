/- Texts of this claim, put together in their order. -/
import Derived.Test.YtjgepcifknmdhaaBase1
import Derived.Test.YtjgepcifknmdhaaBase2
import Derived.Test.YtjgepcifknmdhaaBase3
import Derived.Test.YtjgepcifknmdhaaBase4
import Derived.Test.YtjgepcifknmdhaaBase5
import Derived.Test.YtjgepcifknmdhaaBase6
import Derived.Test.YtjgepcifknmdhaaBase7
import Derived.Test.YtjgepcifknmdhaaBase8
import Derived.Test.YtjgepcifknmdhaaOfRuletells9
import Derived.Test.YtjgepcifknmdhaaOfRuletells10
/- The reference's Circle; its Younger, Wounds, Deaths, Victims. -/
namespace Go.Proofs.Ytjgepcifknmdhaa
open Go.RowKit
set_option linter.unusedVariables false

set_option maxRecDepth 100000 in
set_option maxHeartbeats 1000000 in
theorem rcircle_any (w : World) {v : Value} {l : List En} (h : Re w v l) (hn : l.length ≤ 300) :
    Calls Try.prog 20 #[v] w fun e w' => ∃ v', e = .returned v' ∧ Is w.heap.size v' (circD l) w' ∧ (circD l).length ≤ 600 ∧ Below w.heap.size w w' := by
  have C0 := hide (rnodes_any w h (by omega))
  obtain ⟨av, cv, rfl⟩ := h.form
  have L := hide h
  have hl3 : Hid (l.length ≤ 300) := hn
  have c6 : Hid ((circD l).length ≤ 600) := by have := circ_small l; show _ ≤ _; omega
  have hin : Hid (∀ n, On (CE l) n → n ∈ canon (nodL l)) := fun n hn => ((canon_facts _).1 _).2 (on_node hn)
  have hup : Hid (Up (canon (nodL l))) := canon_up _
  have hN9 : (canon (nodL l)).length ≤ 600 := by have q1 := canon_le (nodL l); rw [nod_len] at q1; omega
  clear h
  obtain ⟨nl, hnl⟩ : ∃ nl, nl = l.length := ⟨_, rfl⟩
  rw [← hnl] at L hn C0 ⊢
  clear hnl
  generalize canon (nodL l) = N at *
  go_enter Try.func20, Try.ntmps20
  go_wp2_with fail
  refine (unhide C0).mono ?_
  rintro e w1 ⟨v1, rfl, I, b1⟩
  obtain ⟨a1, c1, rfl⟩ := I.form
  obtain ⟨n, hn⟩ : ∃ n, n = N.length := ⟨_, rfl⟩
  rw [← hn] at I hN9 ⊢
  replace hn := hide hn
  replace I := hide I
  replace L := hide ((unhide L).next b1)
  replace b1 := hide b1
  clear C0
  go_wp2
  go_loopw [4] (fun s4 wq => ∃ (i : Nat) (wr : World), i ≤ n ∧ s4 = .int .i64 i ∧ wr = wq ∧ Hid (∀ j, j < i → ¬ On (CE l) (N.getD j 0)) ∧ Hid (Below w1.heap.size w1 wr)) (fun s4 _ => n - (intOf s4).toNat)
  case atStart => exact ⟨0, _, Nat.zero_le _, rfl, rfl, (fun j hj => by omega), Below.refl _ _⟩
  case round =>
    obtain ⟨i, wr, hi, rfl, hwr, no, B⟩ := hrel
    subst hwr
    by_cases hlt : i < n
    · obtain ⟨y, hy⟩ : ∃ y, y = N.getD i 0 := ⟨_, rfl⟩
      obtain ⟨g, of, rfl, d, _⟩ := ((unhide I).next (unhide B)).elem' (i := i) (by rw [← unhide hn]; exact hlt)
      rw [← hy] at d
      have C := hide (ron_any wr y ((unhide L).next (unhide B)) (unhide hl3))
      have hle : Hid (∀ m, On (CE l) m → y ≤ m) := fun m hm => by
        obtain ⟨j, hj, ej⟩ := mem_at (unhide hin m hm)
        rcases (show j < i ∨ j = i ∨ i < j by omega) with h | h | h
        · exact absurd (by rw [ej]; exact hm) (unhide no j h)
        · rw [hy, ← ej, h]; exact Int.le_refl _
        · have := up_lt (unhide hup) h hj
          rw [ej, ← hy] at this
          omega
      have no2 : Hid (¬ On (CE l) y → ∀ j, j < i + 1 → ¬ On (CE l) (N.getD j 0)) := fun h j hj => by
        rcases (show j < i ∨ j = i by omega) with h1 | rfl
        · exact unhide no j h1
        · rw [← hy]; exact h
      replace hy := hide hy
      cases hq : onB l y
      · rw [hq] at C
        have hno : ¬ On (CE l) y := fun h => by rw [onB_iff.2 h] at hq; cases hq
        have no3 := hide (unhide no2 hno)
        clear hno hq hle no2 no
        go_wp2_with fail
        refine (unhide C).mono ?_
        rintro e w4 ⟨rfl, b4⟩
        have B4 := hide (bt (unhide B) b4 (unhide B).size)
        clear b4 C
        go_wp2
        go_roundw
        case rel => exact ⟨i + 1, _, by omega, by go_num, rfl, unhide no3, unhide B4⟩
        case measure => simp [intOf]; omega
      · rw [hq] at C
        have hon := hide (onB_iff.1 hq)
        clear hq no2 no
        have d4 : Hid (∀ W, Below wr.heap.size wr W → W.cell? ⟨g, of + i, none⟩ = some (.int .i64 y)) := fun W b => (b.cell (World.block_lt_of_cell? _ _ d)).trans d
        go_wp2_with fail
        refine (unhide C).mono ?_
        rintro e w4 ⟨rfl, b4⟩
        have B4 := hide (bt (unhide B) b4 (unhide B).size)
        have d5 := unhide d4 _ b4
        have C5 := hide (rcirc_any w4 y ((unhide L).next (unhide B4)) (unhide hl3) (unhide hon) (unhide hle))
        clear b4 C d d4 hon hle B
        go_wp2_with fail
        refine (unhide C5).mono ?_
        rintro e w5 ⟨v5, rfl, i5, b5⟩
        have B5 := hide (below_then (unhide b1) (bt (unhide B4) b5 (unhide B4).size))
        have I5 := hide (i5.down (B := w.heap.size) (Nat.le_trans (unhide b1).size (unhide B4).size))
        clear i5 b5 C5 d5
        go_wp2
        go_ret
        exact ⟨v5, rfl, unhide I5, unhide c6, unhide B5⟩
    · obtain rfl : i = n := by omega
      have e0 : Hid (circD l = []) := circ_none' fun m hm => by
        obtain ⟨j, hj, ej⟩ := mem_at (unhide hin m hm)
        exact unhide no j (by rw [unhide hn]; exact hj) (by rw [ej]; exact hm)
      have B5 := hide (below_then (unhide b1) (unhide B))
      clear no hin
      go_wp2
      go_ret
      exact ⟨_, rfl, by rw [unhide e0]; exact is_nil _ _, unhide c6, unhide B5⟩
set_option maxRecDepth 100000 in
theorem rticket_any (w : World) {v : Value} {T : List Int} (h : Rd w v T) (hT : T.length ≤ 1000) (n : Int) :
    Calls Try.prog 68 #[v, .int .i64 n] w fun e w' => e = .returned (.int .i64 (tkD T n)) ∧ w' = w := by
  obtain ⟨a, cap, rfl, hs⟩ := h
  by_cases h0 : n < 0
  · rw [tk_low h0]
    have hd : decide (n < 0) = true := by simpa using h0
    clear hs
    go_enter Try.func68, Try.ntmps68
    go_wp2
    go_ret
    exact ⟨rfl, rfl⟩
  · obtain ⟨k, rfl⟩ : ∃ k : Nat, n = (k : Int) := ⟨n.toNat, by omega⟩
    have hd : decide ((k : Int) < 0) = false := by simp
    by_cases h1 : k < T.length
    · rw [tk_at h1]
      obtain ⟨b, off, rfl, hc⟩ := seg_at hs h1
      obtain ⟨x, hx⟩ : ∃ x, x = T.getD k 0 := ⟨_, rfl⟩
      rw [← hx] at hc ⊢
      generalize T.length = m at *
      clear hs hx
      have hd2 : decide ((m : Int) ≤ (k : Int)) = false := by simpa using h1
      go_enter Try.func68, Try.ntmps68
      go_wp2
      go_ret
      exact ⟨rfl, rfl⟩
    · rw [tk_high (by omega)]
      generalize T.length = m at *
      clear hs
      have hd2 : decide ((m : Int) ≤ (k : Int)) = true := by simpa using h1
      go_enter Try.func68, Try.ntmps68
      go_wp2
      go_ret
      exact ⟨rfl, rfl⟩
set_option maxRecDepth 100000 in
theorem ryounger_any (w : World) {v : Value} {T : List Int} (h : Rd w v T) (hT : T.length ≤ 1000) (p q : Int) :
    Calls Try.prog 43 #[v, .int .i64 p, .int .i64 q] w fun e w' => e = .returned (.bool (ygB T p q)) ∧ w' = w := by
  have A := hide (rticket_any w h hT p)
  have B := hide (rticket_any w h hT q)
  obtain ⟨x, hx⟩ : ∃ x, x = tkD T p := ⟨_, rfl⟩
  obtain ⟨y, hy⟩ : ∃ y, y = tkD T q := ⟨_, rfl⟩
  have hr : ygB T p q = (decide (y < x) || (decide (x = y) && decide (q < p))) := by unfold ygB; rw [hx, hy]
  rw [← hx] at A
  rw [← hy] at B
  obtain ⟨r, hr2⟩ : ∃ r, r = ygB T p q := ⟨_, rfl⟩
  rw [← hr2] at hr ⊢
  obtain ⟨a, cap, rfl, _⟩ := h
  generalize T.length = m at *
  clear hx hy hr2 hT
  have fin : Hid ((decide (y < x) = true ∧ r = true) ∨ (decide (y < x) = false ∧ (x == y) = true ∧ decide (q < p) = true ∧ r = true) ∨ (decide (y < x) = false ∧ (x == y) = true ∧ decide (q < p) = false ∧ r = false) ∨ (decide (y < x) = false ∧ (x == y) = false ∧ r = false)) := by
    show _ ∨ _
    by_cases h1 : y < x
    · exact .inl (by simp [hr, h1])
    · by_cases h2 : x = y
      · by_cases h3 : q < p
        · exact .inr (.inl (by simp [hr, h2, h3]))
        · exact .inr (.inr (.inl (by simp [hr, h2, h3])))
      · exact .inr (.inr (.inr (by simp [hr, h1, h2])))
  clear hr
  rcases unhide fin with ⟨f1, rfl⟩ | ⟨f1, f2, f3, rfl⟩ | ⟨f1, f2, f3, rfl⟩ | ⟨f1, f2, rfl⟩
  all_goals
    clear fin
    go_enter Try.func43, Try.ntmps43
    go_wp2_with fail
    refine (unhide A).mono ?_
    rintro e w1 ⟨rfl, rfl⟩
    go_wp2_with fail
    refine (unhide B).mono ?_
    rintro e w2 ⟨rfl, rfl⟩
    go_wp2
    go_ret
    refine ⟨?_, rfl⟩
    first | rfl | exact ret_bool f3 | exact ret_bool (by simpa using f3)
set_option maxRecDepth 100000 in
set_option maxHeartbeats 1000000 in
theorem rdeaths_any (w : World) {u v : Value} {T : List Int} {l : List En} (hu : Rd w u T) (hT : T.length ≤ 1000) (h : Re w v l) (hn : l.length ≤ 700) :
    Calls Try.prog 29 #[u, v] w fun e w' => ∃ v', e = .returned v' ∧ Is w.heap.size v' (canon (deaL T l)) w' ∧ Below w.heap.size w w' := by
  obtain ⟨a, cap, rfl⟩ := h.form
  have R := hide h
  have U : Hid (∀ W, Below w.heap.size w W → ∀ p q n, Calls Try.prog 43 #[u, .int .i64 p, .int .i64 q] (W.drewN n) fun e w' => e = .returned (.bool (ygB T p q)) ∧ w' = W.drewN n) := fun W b p q n => ryounger_any _ ((hu.next b).next (blw_drewN _ n)) hT p q
  clear h hu
  go_enter Try.func29, Try.ntmps29
  go_wp2
  go_loopw [5, 6] (fun s5 s6 wq => ∃ (t k : Nat) (ag : Option Addr) (cg : Nat) (wr : World), t ≤ l.length ∧ k ≤ t ∧ s5 = .slice ag k cg ∧ s6 = .int .i64 t ∧ wr = wq ∧ Hid ((deaL T (l.take t)).length = k) ∧ Hid (Is w.heap.size (.slice ag k cg) (deaL T (l.take t)) wr) ∧ Hid (Below w.heap.size w wr)) (fun _ s6 _ => l.length - (intOf s6).toNat)
  case atStart => exact ⟨0, 0, none, 0, _, Nat.zero_le _, Nat.le_refl _, rfl, rfl, rfl, rfl, is_nil _ _, Below.refl _ _⟩
  case round =>
    obtain ⟨t, k, ag, cg, wr, ht, hk, rfl, rfl, hwr, hl3, I3, b3⟩ := hrel
    subst hwr
    have hk9 : k < 10000000 := by omega
    by_cases hlt : t < l.length
    · obtain ⟨g, o, rfl, _, d1, d2⟩ := ((unhide R).next (unhide b3)).at hlt
      obtain ⟨x, hx⟩ : ∃ x, x = l.getD t (0, 0) := ⟨_, rfl⟩
      have hs := dea_succ T l t hlt
      rw [← hx] at d1 d2 hs
      replace hx := hide hx
      have Y := unhide U wr (unhide b3) x.1 x.2
      cases hq : ygB T x.1 x.2
      · rw [hq, if_neg (by decide), List.append_nil] at hs
        rw [hq] at Y
        replace hs := hide hs
        go_wp2_with fail
        go_quiet ((go_at_call 43; with_reducible exact Calls.quiet_of_same (Y _)))
        go_wp2
        go_roundw
        case rel => exact ⟨t + 1, k, ag, cg, _, by omega, by omega, rfl, by go_num, rfl, by rw [unhide hs]; exact unhide hl3, by rw [unhide hs]; exact (unhide I3).next (blw_drewN _ nq), bt (unhide b3) (blw_drewN wr nq) (unhide b3).size⟩
        case measure => simp [intOf]; omega
      · rw [hq, if_pos rfl] at hs
        rw [hq] at Y
        replace hs := hide hs
        go_wp2_with fail
        go_quiet ((go_at_call 43; with_reducible exact Calls.quiet_of_same (Y _)))
        obtain ⟨w5, hw5⟩ : ∃ w5, w5 = wr.drewN nq := ⟨_, rfl⟩
        rw [← hw5]
        have b5 : Below w.heap.size w w5 := by rw [hw5]; exact bt (unhide b3) (blw_drewN wr nq) (unhide b3).size
        have I5 : Is w.heap.size (.slice ag k cg) (deaL T (l.take t)) w5 := by rw [hw5]; exact (unhide I3).next (blw_drewN _ nq)
        have d1' : w5.cell? ⟨g, o + t * 2, none⟩ = some (.int .i64 x.1) := by rw [hw5]; exact d1
        replace b5 := hide b5
        replace I5 := hide I5
        have hb5 : Hid (w.heap.size ≤ w5.heap.size) := (unhide b5).size
        clear hw5 d1 d2 I3 b3 Y
        go_wp2_with (at_builtin; refine wpList_push w5 rfl (.tmp 25) (.tmp 31) rfl w.heap.size ag k cg _ x.1 _ rfl rfl rfl (unhide hl3) (unhide I5) (unhide hb5) hk9 ?_; intro g5 cap5 w7 a1 a2; replace a1 := hide a1; replace a2 := hide a2)
        go_roundw
        case rel => exact ⟨t + 1, k + 1, some ⟨g5, 0, none⟩, cap5, _, by omega, by omega, rfl, by go_num, rfl, by
          show _ = _
          rw [unhide hs, List.length_append, unhide hl3]; rfl, by rw [unhide hs]; exact unhide a1, (unhide b5).grown (unhide a2) (unhide b5).size (fun k hk => ((unhide I5).lt k hk).1)⟩
        case measure => simp [intOf]; omega
    · obtain rfl : t = l.length := by omega
      rw [List.take_length] at I3 hl3
      have hl4 : Hid ((deaL T l).length ≤ 900) := by have := unhide hl3; show _ ≤ _; omega
      go_wp2_with fail
      refine (rsorted_any wr (unhide I3).rd (unhide hl4)).mono ?_
      rintro e w5 ⟨v5, rfl, I5, b5⟩
      have b6 := hide ((unhide b3).trans (b5.mono (unhide b3).size))
      have I6 := hide (I5.down (unhide b3).size)
      clear I5 b5
      go_wp2
      go_ret
      exact ⟨v5, rfl, unhide I6, unhide b6⟩
end Go.Proofs.Ytjgepcifknmdhaa

/- The reference's Wounds and Victims. -/
namespace Go.Proofs.Ytjgepcifknmdhaa
open Go.RowKit
set_option linter.unusedVariables false

theorem wou_yg {T : List Int} {a b : Int} (h : (a == b) = false) : ygB T b a = !ygB T a b := by
  have hne : a ≠ b := by simpa using h
  cases hq : ygB T a b
  · rw [yg_tot hne hq]; rfl
  · rw [yg_asym hq]; rfl
set_option maxRecDepth 100000 in
set_option maxHeartbeats 1000000 in
theorem rwounds_any (w : World) {u v : Value} {T : List Int} {l : List En} (hu : Rd w u T) (hT : T.length ≤ 1000) (h : Re w v l) (hn : l.length ≤ 700) :
    Calls Try.prog 27 #[u, v] w fun e w' => ∃ v', e = .returned v' ∧ Is w.heap.size v' (canon (wouL T l)) w' ∧ Below w.heap.size w w' := by
  obtain ⟨a, cap, rfl⟩ := h.form
  have R := hide h
  have U : Hid (∀ W, Below w.heap.size w W → ∀ p q n, Calls Try.prog 43 #[u, .int .i64 p, .int .i64 q] (W.drewN n) fun e w' => e = .returned (.bool (ygB T p q)) ∧ w' = W.drewN n) := fun W b p q n => ryounger_any _ ((hu.next b).next (blw_drewN _ n)) hT p q
  clear h hu
  go_enter Try.func27, Try.ntmps27
  go_wp2
  go_loopw [5, 6] (fun s5 s6 wq => ∃ (t k : Nat) (ag : Option Addr) (cg : Nat) (wr : World), t ≤ l.length ∧ k ≤ t ∧ s5 = .slice ag k cg ∧ s6 = .int .i64 t ∧ wr = wq ∧ Hid ((wouL T (l.take t)).length = k) ∧ Hid (Is w.heap.size (.slice ag k cg) (wouL T (l.take t)) wr) ∧ Hid (Below w.heap.size w wr)) (fun _ s6 _ => l.length - (intOf s6).toNat)
  case atStart => exact ⟨0, 0, none, 0, _, Nat.zero_le _, Nat.le_refl _, rfl, rfl, rfl, rfl, is_nil _ _, Below.refl _ _⟩
  case round =>
    obtain ⟨t, k, ag, cg, wr, ht, hk, rfl, rfl, hwr, hl3, I3, b3⟩ := hrel
    subst hwr
    have hk9 : k < 10000000 := by omega
    by_cases hlt : t < l.length
    · obtain ⟨g, o, rfl, _, d1, d2⟩ := ((unhide R).next (unhide b3)).at hlt
      obtain ⟨x, hx⟩ : ∃ x, x = l.getD t (0, 0) := ⟨_, rfl⟩
      have hs := wou_succ T l t hlt
      rw [← hx] at d1 d2 hs
      replace hx := hide hx
      have Y := unhide U wr (unhide b3) x.1 x.2
      cases hne : (x.1 == x.2)
      · have hne2 : (x.1 != x.2) = true := by show (!(x.1 == x.2)) = _; rw [hne]; rfl
        rw [wou_yg hne] at hs
        cases hq : ygB T x.1 x.2
        · rw [hq, show (!false) = true from rfl, if_pos rfl] at hs
          rw [hq] at Y
          replace hs := hide hs
          go_wp2_with fail
          go_quiet ((go_at_call 43; with_reducible exact Calls.quiet_of_same (Y _)))
          obtain ⟨w5, hw5⟩ : ∃ w5, w5 = wr.drewN nq := ⟨_, rfl⟩
          rw [← hw5]
          have b5 : Below w.heap.size w w5 := by rw [hw5]; exact bt (unhide b3) (blw_drewN wr nq) (unhide b3).size
          have I5 : Is w.heap.size (.slice ag k cg) (wouL T (l.take t)) w5 := by rw [hw5]; exact (unhide I3).next (blw_drewN _ nq)
          have d1' : w5.cell? ⟨g, o + t * 2 + 1, none⟩ = some (.int .i64 x.2) := by rw [hw5]; exact d2
          replace b5 := hide b5
          replace I5 := hide I5
          have hb5 : Hid (w.heap.size ≤ w5.heap.size) := (unhide b5).size
          clear hw5 d1 d2 I3 b3 Y
          go_wp2_with (at_builtin; refine wpList_push w5 rfl (.tmp 39) (.tmp 45) rfl w.heap.size ag k cg _ x.2 _ rfl rfl rfl (unhide hl3) (unhide I5) (unhide hb5) hk9 ?_; intro g5 cap5 w7 a1 a2; replace a1 := hide a1; replace a2 := hide a2)
          go_roundw
          case rel => exact ⟨t + 1, k + 1, some ⟨g5, 0, none⟩, cap5, _, by omega, by omega, rfl, by go_num, rfl, by
            show _ = _
            rw [unhide hs, List.length_append, unhide hl3]; rfl, by rw [unhide hs]; exact unhide a1, (unhide b5).grown (unhide a2) (unhide b5).size (fun k hk => ((unhide I5).lt k hk).1)⟩
          case measure => simp [intOf]; omega
        · rw [hq, if_neg (by decide), List.append_nil] at hs
          rw [hq] at Y
          replace hs := hide hs
          go_wp2_with fail
          go_quiet ((go_at_call 43; with_reducible exact Calls.quiet_of_same (Y _)))
          go_wp2
          go_roundw
          case rel => exact ⟨t + 1, k, ag, cg, _, by omega, by omega, rfl, by go_num, rfl, by rw [unhide hs]; exact unhide hl3, by rw [unhide hs]; exact (unhide I3).next (blw_drewN _ nq), bt (unhide b3) (blw_drewN wr nq) (unhide b3).size⟩
          case measure => simp [intOf]; omega
      · have hne2 : (x.1 != x.2) = false := by show (!(x.1 == x.2)) = _; rw [hne]; rfl
        have he : x.1 = x.2 := by simpa using hne
        rw [he, yg_irr, if_neg (by decide), List.append_nil] at hs
        replace hs := hide hs
        clear he Y
        go_wp2_with fail
        go_quiet (fail)
        go_wp2
        go_roundw
        case rel => exact ⟨t + 1, k, ag, cg, _, by omega, by omega, rfl, by go_num, rfl, by rw [unhide hs]; exact unhide hl3, by rw [unhide hs]; exact (unhide I3).next (blw_drewN _ nq), bt (unhide b3) (blw_drewN wr nq) (unhide b3).size⟩
        case measure => simp [intOf]; omega
    · obtain rfl : t = l.length := by omega
      rw [List.take_length] at I3 hl3
      have hl4 : Hid ((wouL T l).length ≤ 900) := by have := unhide hl3; show _ ≤ _; omega
      go_wp2_with fail
      refine (rsorted_any wr (unhide I3).rd (unhide hl4)).mono ?_
      rintro e w5 ⟨v5, rfl, I5, b5⟩
      have b6 := hide ((unhide b3).trans (b5.mono (unhide b3).size))
      have I6 := hide (I5.down (unhide b3).size)
      clear I5 b5
      go_wp2
      go_ret
      exact ⟨v5, rfl, unhide I6, unhide b6⟩
theorem vic_next {T : List Int} {l : List En} {out : List Int} (h : vicD T l = out ++ vicD T (woL out l)) (hne : circD (woL out l) ≠ []) : vicD T l = (out ++ [mxD T (circD (woL out l))]) ++ vicD T (woL (out ++ [mxD T (circD (woL out l))]) l) := by
  rw [vic_yes hne, wo_more] at h
  rw [h, List.append_assoc]
  rfl
set_option maxRecDepth 100000 in
set_option maxHeartbeats 2000000 in
theorem rvictims_any (w : World) {u v : Value} {T : List Int} {l : List En} (hu : Rd w u T) (hT : T.length ≤ 1000) (h : Re w v l) (hn : l.length ≤ 300) :
    Calls Try.prog 25 #[u, v] w fun e w' => ∃ v', e = .returned v' ∧ Is w.heap.size v' (vicD T l) w' ∧ Below w.heap.size w w' := by
  obtain ⟨a, cap, rfl⟩ := h.form
  have R := hide h
  have U := hide hu
  have hl7 : Hid (l.length ≤ 700) := by show _ ≤ _; omega
  have hl3 : Hid (l.length ≤ 300) := hn
  have hT9 : Hid (T.length ≤ 1000) := hT
  clear h hu hT
  obtain ⟨nl, hnl⟩ : ∃ nl, nl = l.length := ⟨_, rfl⟩
  rw [← hnl] at R hn ⊢
  replace hnl := hide hnl
  have fin0 : Hid (vicD T l = [] ++ vicD T (woL [] l)) := by show _ = _; rw [wo_no]; rfl
  have vl : Hid ((vicD T l).length ≤ nl) := by rw [unhide hnl]; exact vic_len T l
  go_enter Try.func25, Try.ntmps25
  go_wp2
  go_loopw [5] (fun s5 wq => ∃ (k : Nat) (ag : Option Addr) (cg : Nat) (out : List Int) (wr : World), k ≤ nl ∧ s5 = .slice ag k cg ∧ wr = wq ∧ Hid (out.length = k) ∧ Hid (vicD T l = out ++ vicD T (woL out l)) ∧ Hid (Is w.heap.size (.slice ag k cg) out wr) ∧ Hid (Below w.heap.size w wr)) (fun s5 _ => 400 - lenOf s5)
  case atStart => exact ⟨0, none, 0, [], _, Nat.zero_le _, rfl, rfl, rfl, unhide fin0, is_nil _ _, Below.refl _ _⟩
  case round =>
    obtain ⟨k, ag, cg, out, wr, hk, rfl, hwr, ho, hv, I3, b3⟩ := hrel
    subst hwr
    have C := hide (rwithout_any wr (gone := out) (by have := (unhide I3).rd; exact this) (by rw [unhide ho]; omega) ((unhide R).next (unhide b3)) (unhide hl7))
    go_wp2_with fail
    refine (unhide C).mono ?_
    rintro e w4 ⟨v4, rfl, p4, b4⟩
    have I4 := hide ((unhide I3).next b4)
    have b5 := hide (bt (unhide b3) b4 (unhide b3).size)
    have C2 := hide (rcircle_any w4 p4.re (Nat.le_trans (wol_le _ _) (unhide hl3)))
    clear b4 I3 C p4
    go_wp2_with fail
    refine (unhide C2).mono ?_
    rintro e w5 ⟨ov, rfl, i5, hc9, b6⟩
    have I5 := hide ((unhide I4).next b6)
    have b7 := hide (bt (unhide b5) b6 (unhide b5).size)
    have U7 := hide ((unhide U).next (unhide b7))
    obtain ⟨a4, c4, rfl⟩ := i5.form
    obtain ⟨c, hc⟩ : ∃ c, c = circD (woL out l) := ⟨_, rfl⟩
    rw [← hc] at i5 hc9 ⊢
    obtain ⟨q, hq⟩ : ∃ q, q = c.length := ⟨_, rfl⟩
    rw [← hq] at i5 hc9 ⊢
    clear b6 C2 I4 b5 b3
    by_cases h0 : q = 0
    · subst h0
      have e0 : circD (woL out l) = [] := by rw [← hc]; exact List.eq_nil_of_length_eq_zero hq.symm
      have fin := unhide hv
      rw [vic_no e0, List.append_nil] at fin
      replace fin := hide fin
      clear i5 hq hc9 e0 hc
      go_wp2
      go_ret
      exact ⟨_, rfl, by rw [unhide fin]; exact unhide I5, unhide b7⟩
    · have hne : circD (woL out l) ≠ [] := by
        intro e
        rw [← hc] at e
        rw [e] at hq
        exact h0 hq
      have hb : ((q : Int) == 0) = false := beq_eq_false_iff_ne.2 (by omega)
      have hb2 : (q == 0) = false := beq_eq_false_iff_ne.2 h0
      have fin := vic_next (unhide hv) hne
      rw [← hc] at fin
      have hk1 : k + 1 ≤ nl := by
        have h1 := congrArg List.length fin
        have h2 := unhide vl
        rw [List.length_append, List.length_append, unhide ho] at h1
        simp at h1
        omega
      obtain ⟨y, hy⟩ : ∃ y, y = mxD T c := ⟨_, rfl⟩
      rw [← hy] at fin
      obtain ⟨g, of, rfl, d, _⟩ := i5.elem' (i := 0) (by omega)
      obtain ⟨x0, hx0⟩ : ∃ x, x = c.getD 0 0 := ⟨_, rfl⟩
      have m1 := mx_take1 T c (by omega)
      rw [← hx0] at d m1
      rw [Nat.add_zero] at d
      replace m1 := hide m1
      replace hx0 := hide hx0
      replace fin := hide fin
      replace hy := hide hy
      replace hc := hide hc
      replace i5 := hide i5
      have hqc : Hid (q = c.length) := hq
      clear hq hne
      go_wp2
      clear hb hb2 d
      go_loopw [7, 8] (fun s7 s8 wq => ∃ (i : Nat) (x : Int) (wz : World), 0 < i ∧ i ≤ q ∧ s7 = .int .i64 x ∧ s8 = .int .i64 i ∧ wz = wq ∧ wz = w5 ∧ Hid (x = mxD T (c.take i))) (fun _ s8 _ => q - (intOf s8).toNat)
      case atStart => exact ⟨1, x0, _, by omega, by omega, rfl, rfl, rfl, rfl, (unhide m1).symm⟩
      case round =>
        obtain ⟨i, x, wz, hi0, hi, rfl, rfl, hwz, hwz2, hx⟩ := hrel
        subst hwz
        subst hwz2
        by_cases hlt : i < q
        · obtain ⟨g', of', e', d, _⟩ := (unhide i5).elem' (i := i) (by rw [← unhide hqc]; exact hlt)
          obtain ⟨rfl, rfl⟩ : g = g' ∧ of = of' := by simpa using e'
          clear e'
          obtain ⟨z, hz⟩ : ∃ z, z = c.getD i 0 := ⟨_, rfl⟩
          have st := mx_take T c i hi0 (by rw [← unhide hqc]; exact hlt)
          rw [← hz, ← unhide hx] at st
          rw [← hz] at d
          replace hz := hide hz
          have C := ryounger_any _ (unhide U7) (unhide hT9) z x
          cases hg : ygB T z x
          · rw [hg] at C
            rw [hg, if_neg (by decide)] at st
            replace st := hide st
            go_wp2_with fail
            refine C.mono ?_
            rintro e w6 ⟨rfl, rfl⟩
            clear C
            go_wp2
            go_roundw
            case rel => exact ⟨i + 1, x, _, by omega, by omega, rfl, by go_num, rfl, rfl, (unhide st).symm⟩
            case measure => simp [intOf]; omega
          · rw [hg] at C
            rw [hg, if_pos rfl] at st
            replace st := hide st
            go_wp2_with fail
            refine C.mono ?_
            rintro e w6 ⟨rfl, rfl⟩
            clear C
            go_wp2
            go_roundw
            case rel => exact ⟨i + 1, z, _, by omega, by omega, rfl, by go_num, rfl, rfl, (unhide st).symm⟩
            case measure => simp [intOf]; omega
        · obtain rfl : i = q := by omega
          have ex : x = y := by
            have := unhide hx
            rw [unhide hqc, List.take_length] at this
            rw [this, unhide hy]
          subst ex
          have hb7 : Hid (w.heap.size ≤ wz.heap.size) := (unhide b7).size
          have hk9 : k < 10000000 := by omega
          clear hx m1
          go_wp2_with (at_builtin; refine wpList_push wz rfl (.tmp 37) (.tmp 39) rfl w.heap.size ag k cg _ x _ rfl rfl rfl (unhide ho) (unhide I5) (unhide hb7) hk9 ?_; intro g5 cap5 w8 a8 a9; replace a8 := hide a8; replace a9 := hide a9)
          go_roundw
          case rel => exact ⟨k + 1, some ⟨g5, 0, none⟩, cap5, out ++ [x], _, hk1, rfl, rfl, by show _ = _; rw [List.length_append, unhide ho]; rfl, unhide fin, unhide a8, (unhide b7).grown (unhide a9) (unhide b7).size (fun j hj => ((unhide I5).lt j hj).1)⟩
          case measure => simp [lenOf]; omega
end Go.Proofs.Ytjgepcifknmdhaa

/- RuleTells. -/
namespace Go.Proofs.Ytjgepcifknmdhaa
open Go.RowKit
set_option linter.unusedVariables false

set_option maxRecDepth 100000 in
set_option maxHeartbeats 4000000 in
theorem ruleTells_walk (a0 : Option Addr) (len0 cap0 : Nat) (T : List Int) (a1 : Option Addr) (len1 cap1 : Nat) (Z1 : Nat → Nat → Int) (W : World) (s0 : SegK .i64 W a0 len0 T) (lc0 : len0 ≤ cap0) (cm0 : cap0 ≤ maxLen) (wz0 : ∀ z ∈ T, (Lit.int .i64 z).wf = true)
    (s1 : RecsB 2 W.heap.size W a1 len1 Z1) (lc1 : len1 ≤ cap1) (cm1 : cap1 ≤ maxLen) (wz1 : ∀ i, i < len1 → ∀ j, j < 2 → (Lit.int .i64 (Z1 i j)).wf = true) :
    Calls Try.prog 4 #[.slice a0 len0 cap0, .slice a1 len1 cap1] W fun e w' => e = .returned (.bool true) ∧ Below W.heap.size W w' := by
  have R0 : Re W (.slice a1 len1 cap1) (edgesOf len1 Z1) := re_recs s1
  have hl1 := edges_len len1 Z1
  generalize edgesOf len1 Z1 = l at R0 hl1
  have G0 : Rd W (.slice a0 len0 cap0) T := rd_seg s0
  have hl0 : T.length = len0 := s0.1
  clear s0 wz0 s1 wz1
  unfold maxLen at cm0 cm1
  have C1 := hide (frs_any W)
  replace hl0 := hide hl0
  replace hl1 := hide hl1
  replace R0 := hide R0
  replace G0 := hide G0
  go_enter Try.func4, Try.ntmps4
  go_wp2_with fail
  refine (unhide C1).mono ?_
  rintro e w1 ⟨rfl, b1⟩
  have L := hide ((unhide R0).next b1)
  have T0 := hide ((unhide G0).next b1)
  have BB := hide b1
  clear C1 R0 G0 b1
  by_cases h0 : 60 < len1
  · have C := hide (frs_any w1)
    go_wp2_with fail
    refine (unhide C).mono ?_
    rintro e w2 ⟨rfl, b2⟩
    have b3 := hide (below_then (unhide BB) b2)
    go_wp2
    go_ret
    exact ⟨rfl, unhide b3⟩
  by_cases h1 : 100 < len0
  · have C := hide (frs_any w1)
    go_wp2_with fail
    refine (unhide C).mono ?_
    rintro e w2 ⟨rfl, b2⟩
    have b3 := hide (below_then (unhide BB) b2)
    go_wp2
    go_ret
    exact ⟨rfl, unhide b3⟩
  have f1 : decide (60 < (len1 : Int)) = false := by simp; omega
  have f2 : decide (100 < (len0 : Int)) = false := by simp; omega
  have hT : Hid (T.length ≤ 1000) := by show _ ≤ _; rw [unhide hl0]; omega
  have hl3 : Hid (l.length ≤ 300) := by show _ ≤ _; rw [unhide hl1]; omega
  have hl7 : Hid (l.length ≤ 700) := Nat.le_trans (unhide hl3) (by decide)
  have hv : Hid ((vicD T l).length < 100000000) := by have q1 := vic_len T l; have q3 := unhide hl3; show _ < _; omega
  have hw : Hid ((canon (wouL T l)).length < 100000000) := by have q1 := canon_le (wouL T l); have q2 := wou_le T l; have q3 := unhide hl3; show _ < _; omega
  have hd : Hid ((canon (deaL T l)).length < 100000000) := by have q1 := canon_le (deaL T l); have q2 := dea_le T l; have q3 := unhide hl3; show _ < _; omega
  have same : Hid (∀ c : List Int, (c == c) = true) := fun c => by simp
  have CX := frs_any w1
  have C := hide CX
  clear CX
  go_wp2_with fail
  refine (unhide C).mono ?_
  rintro e w2 ⟨rfl, bX⟩
  replace L := hide ((unhide L).next bX)
  replace T0 := hide ((unhide T0).next bX)
  replace BB := hide (below_then (unhide BB) bX)
  clear bX C
  have CX := victims_any w2 (unhide T0) (unhide hT) (unhide L) (unhide hl3)
  have C := hide CX
  clear CX
  go_wp2_with fail
  refine (unhide C).mono ?_
  rintro e w3 ⟨vA, rfl, iA, bX⟩
  replace L := hide ((unhide L).next bX)
  replace T0 := hide ((unhide T0).next bX)
  replace BB := hide (below_then (unhide BB) bX)
  clear bX C
  replace iA := hide iA.rd
  have CX := rvictims_any w3 (unhide T0) (unhide hT) (unhide L) (unhide hl3)
  have C := hide CX
  clear CX
  go_wp2_with fail
  refine (unhide C).mono ?_
  rintro e w4 ⟨vB, rfl, iB, bX⟩
  replace L := hide ((unhide L).next bX)
  replace T0 := hide ((unhide T0).next bX)
  replace iA := hide ((unhide iA).next bX)
  replace BB := hide (below_then (unhide BB) bX)
  clear bX C
  have CX := ints_any vA vB _ _ w4 (unhide iA) iB.rd (unhide hv) (unhide hv)
  rw [unhide same _] at CX
  have C := hide CX
  clear CX
  go_wp2_with fail
  refine (unhide C).mono ?_
  rintro e w5 ⟨rfl, bX⟩
  replace L := hide ((unhide L).next bX)
  replace T0 := hide ((unhide T0).next bX)
  replace BB := hide (below_then (unhide BB) bX)
  clear bX C
  clear iA iB
  have CX := wounds_any w5 (unhide T0) (unhide hT) (unhide L) (unhide hl7)
  have C := hide CX
  clear CX
  go_wp2_with fail
  refine (unhide C).mono ?_
  rintro e w6 ⟨vA, rfl, iA, bX⟩
  replace L := hide ((unhide L).next bX)
  replace T0 := hide ((unhide T0).next bX)
  replace BB := hide (below_then (unhide BB) bX)
  clear bX C
  replace iA := hide iA.rd
  have CX := rwounds_any w6 (unhide T0) (unhide hT) (unhide L) (unhide hl7)
  have C := hide CX
  clear CX
  go_wp2_with fail
  refine (unhide C).mono ?_
  rintro e w7 ⟨vB, rfl, iB, bX⟩
  replace L := hide ((unhide L).next bX)
  replace T0 := hide ((unhide T0).next bX)
  replace iA := hide ((unhide iA).next bX)
  replace BB := hide (below_then (unhide BB) bX)
  clear bX C
  have CX := ints_any vA vB _ _ w7 (unhide iA) iB.rd (unhide hw) (unhide hw)
  rw [unhide same _] at CX
  have C := hide CX
  clear CX
  go_wp2_with fail
  refine (unhide C).mono ?_
  rintro e w8 ⟨rfl, bX⟩
  replace L := hide ((unhide L).next bX)
  replace T0 := hide ((unhide T0).next bX)
  replace BB := hide (below_then (unhide BB) bX)
  clear bX C
  clear iA iB
  have CX := deaths_any w8 (unhide T0) (unhide hT) (unhide L) (unhide hl7)
  have C := hide CX
  clear CX
  go_wp2_with fail
  refine (unhide C).mono ?_
  rintro e w9 ⟨vA, rfl, iA, bX⟩
  replace L := hide ((unhide L).next bX)
  replace T0 := hide ((unhide T0).next bX)
  replace BB := hide (below_then (unhide BB) bX)
  clear bX C
  replace iA := hide iA.rd
  have CX := rdeaths_any w9 (unhide T0) (unhide hT) (unhide L) (unhide hl7)
  have C := hide CX
  clear CX
  go_wp2_with fail
  refine (unhide C).mono ?_
  rintro e w10 ⟨vB, rfl, iB, bX⟩
  replace L := hide ((unhide L).next bX)
  replace T0 := hide ((unhide T0).next bX)
  replace iA := hide ((unhide iA).next bX)
  replace BB := hide (below_then (unhide BB) bX)
  clear bX C
  have CX := ints_any vA vB _ _ w10 (unhide iA) iB.rd (unhide hd) (unhide hd)
  rw [unhide same _] at CX
  have C := hide CX
  clear CX
  go_wp2_with fail
  refine (unhide C).mono ?_
  rintro e w11 ⟨rfl, bX⟩
  replace L := hide ((unhide L).next bX)
  replace T0 := hide ((unhide T0).next bX)
  replace BB := hide (below_then (unhide BB) bX)
  clear bX C
  clear iA iB
  have CX := acyclic_any w11 (unhide L) (unhide hl3)
  have C := hide CX
  clear CX
  go_wp2_with fail
  refine (unhide C).mono ?_
  rintro e w12 ⟨rfl, bX⟩
  replace L := hide ((unhide L).next bX)
  replace T0 := hide ((unhide T0).next bX)
  replace BB := hide (below_then (unhide BB) bX)
  clear bX C
  have CX := rcircle_any w12 (unhide L) (unhide hl3)
  have C := hide CX
  clear CX
  go_wp2_with fail
  refine (unhide C).mono ?_
  rintro e w13 ⟨vA, rfl, iA, hc6, bX⟩
  replace L := hide ((unhide L).next bX)
  replace T0 := hide ((unhide T0).next bX)
  replace BB := hide (below_then (unhide BB) bX)
  clear bX C
  obtain ⟨aA, cA, rfl⟩ := iA.form
  clear iA
  generalize (circD l).length = k at *
  cases hk : (k == 0)
  · have hk2 : ((k : Int) == 0) = false := by rw [nat_eq0]; exact hk
    clear hk
    go_wp2
    go_ret
    exact ⟨rfl, unhide BB⟩
  · have hk2 : ((k : Int) == 0) = true := by rw [nat_eq0]; exact hk
    go_wp2
    go_ret
    exact ⟨rfl, unhide BB⟩
end Go.Proofs.Ytjgepcifknmdhaa
