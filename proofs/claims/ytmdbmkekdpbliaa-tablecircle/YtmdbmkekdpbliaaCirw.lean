/- TableCircle's walk. -/
import Derived.Test.YtmdbmkekdpbliaaCirb
namespace Go.Proofs.Ytmdbmkekdpbliaa
open Go.RowKit

theorem ints_one (w : World) {B : Nat} {v : Value} {x : Int} (h : Is B v [x] w) (W : World) (hW : W = w.alloc (.cells #[.int .i64 x] 3)) (N : Nat) (hN : N = w.heap.size) :
    Calls Try.prog 14 #[v, .slice (some ⟨N, 0, none⟩) 1 1] W fun e w' => e = .returned (.bool true) ∧ Below w.heap.size w w' := by
  have := ints_is w h (by simp) x W hW N hN
  have e : ([x] == [x]) = true := by simp
  rw [e] at this
  exact this
theorem waits_no {B n : Nat} {most : Int} {T : Nat → Lv} {b : Nat} (w : World) (h : Tn B n most T b w) (hf : Few n 1000 T) (hn : n ≤ 10000) (who : Int) (hs : atW who T n = n) :
    Calls Try.prog 32 #[.pointer (some ⟨b, 0, none⟩), .int .i64 who] w fun e w' => e = .returned (.tuple #[.agg #[.int .i64 0, .int .i64 0], .bool false]) ∧ Below w.heap.size w w' := by
  have e : waitV who n T n = .tuple #[.agg #[.int .i64 0, .int .i64 0], .bool false] := by
    unfold waitV; rw [if_neg (Nat.lt_irrefl n), if_neg (Nat.lt_irrefl n), decide_eq_false (Nat.lt_irrefl n)]
  have := waits_n w h hf hn who hs
  rw [e] at this
  exact this
set_option maxRecDepth 100000 in
set_option maxHeartbeats 8000000 in
theorem circle_in (n g : Nat) (w : World) (h0 : 2 ≤ n) (h1 : n ≤ 30) (h2 : g < n) :
    Calls Try.prog 7 #[.int .i64 (n : Int), .int .i64 (g : Int)] w fun e w' => e = .returned (.bool true) ∧ Below w.heap.size w w' := by
  obtain ⟨N, hN⟩ : ∃ N, N = w.heap.size := ⟨_, rfl⟩
  have k1 : (n : Int) ≥ 2 := by omega
  have k2 : (n : Int) ≤ 30 := by omega
  have k3 : (g : Int) < (n : Int) := by omega
  have hgw := prv_mod h2
  obtain ⟨pw, hpw⟩ : ∃ pw, pw = prv n g := ⟨_, rfl⟩
  rw [← hpw] at hgw
  have hpn : pw < n := by rw [hpw]; exact prv_lt h2
  have E0 := hide (cir_edges h0)
  have D0 := hide (cir_drop h0 h2)
  have W0 := hide (dT_none h2)
  have H0 := hide (dT_holds n g)
  have L0 := hide (dT_edges h0 h2)
  rw [← hpw] at D0 W0 H0
  have GD := hide (dT_good (g := g) h0)
  have GC := hide (fun k => cT_good (k := k) h0)
  replace hpw := hide hpw
  replace hgw := hide hgw
  go_enter Try.func7, Try.ntmps7
  go_wp2_with fail
  refine (firstt_any w).mono ?_
  rintro e w1 ⟨rfl, b1⟩
  rw [← hN] at b1
  replace b1 := hide b1
  replace hN := hide hN
  go_wp2_with fail
  refine (new_n n 100 w1 (by omega) (by omega) (by decide) (by decide)).mono ?_
  rintro e w2 ⟨b, rfl, L2, b2⟩
  obtain ⟨B, hB⟩ : ∃ B, B = w1.heap.size := ⟨_, rfl⟩
  rw [← hB] at L2 b2
  have hNb : Hid (N ≤ B) := by have := (unhide b1).size; rw [unhide hN, hB]; exact this
  replace b2 := hide ((unhide b1).trans (b2.mono (unhide hNb)))
  replace hB := hide hB
  replace L2 := hide L2
  go_wp2_with fail
  go_loopw [7] (fun s wr => ∃ i : Nat, i ≤ n ∧ s = .int .i64 i ∧ Hid (Tn B n 100 (gT (fun j => decide (j < i)) (fun j => ((j : Int), 5))) b wr) ∧ Hid (Below N w wr)) (fun s _ => n - (intOf s).toNat)
  case atStart => exact ⟨0, Nat.zero_le _, rfl, by
    have : gT (fun j => decide (j < 0)) (fun j => ((j : Int), 5)) = none0 := by funext j; unfold gT none0; simp
    show Tn _ _ _ _ _ _
    rw [this]; exact unhide L2, unhide b2⟩
  case round =>
    obtain ⟨i, hi, rfl, L3, b3⟩ := hrel
    by_cases hlt : i < n
    · have ha := hide (own_ask hlt h1)
      have hfew := hide ((gT_good (fun j => decide (j < i)) (fun j => ((j : Int), 5)) n (fun j _ => md5)).few (by decide))
      go_wp2_with fail
      refine (ask_n wr (unhide L3) (unhide hfew) (by omega) (i : Int) (i : Int) 5 (unhide ha)).mono ?_
      rintro e w5 ⟨rfl, L5, b5, _⟩
      replace L5 := hide L5
      replace b5 := hide ((unhide b3).trans (b5.mono (unhide hNb)))
      go_wp2
      go_roundw
      case rel => exact ⟨i + 1, by omega, by go_num, unhide L5, unhide b5⟩
      case measure => simp [intOf]; omega
    · obtain rfl : i = n := by omega
      rw [own_all] at L3
      go_wp2_with fail
      go_loopw [8] (fun s wr => ∃ (k : Nat) (wz : World), k ≤ i ∧ s = .int .i64 k ∧ wz = wr ∧ Hid (Tn B i 100 (cT i k) b wz) ∧ Hid (Below N w wz)) (fun s _ => i - (intOf s).toNat)
      case atStart => exact ⟨0, _, Nat.zero_le _, rfl, rfl, unhide L3, unhide b3⟩
      case round =>
        obtain ⟨k, wq, hk, rfl, hwz, L4, b4⟩ := hrel
        subst hwz
        by_cases hlk : k < i
        · have ha := hide (cir_ask hlk h0 h1)
          have hb := hide (cir_err hlk)
          have hmod := nxt_mod hlk
          obtain ⟨x, hx⟩ : ∃ x, x = nxt i k := ⟨_, rfl⟩
          rw [← hx] at hmod ha
          replace hx := hide hx
          go_wp2_with fail
          refine (ask_n wq (unhide L4) ((unhide GC k).few (by decide)) (by omega) (k : Int) (x : Nat) 5 (unhide ha)).mono ?_
          rintro e w5 ⟨rfl, L5, b5, _⟩
          replace L5 := hide L5
          replace b5 := hide ((unhide b4).trans (b5.mono (unhide hNb)))
          go_wp2_with fail
          refine (ask_n w5 (unhide L5) ((unhide GC (k + 1)).few (by decide)) (by omega) (k : Int) (k : Int) 5 (unhide hb)).mono ?_
          rintro e w6 ⟨rfl, L6, b6, _⟩
          replace L6 := hide L6
          replace b6 := hide ((unhide b5).trans (b6.mono (unhide hNb)))
          go_wp2
          go_roundw
          case rel => exact ⟨k + 1, _, by omega, by go_num, rfl, unhide L6, unhide b6⟩
          case measure => simp [intOf]; omega
        · obtain rfl : k = i := by omega
          go_wp2_with fail
          refine (edges_n wq (unhide L4) (fun j hj => Nat.le_trans ((unhide GC k).sum j hj) (by decide)) (by omega) (unhide E0)).mono ?_
          rintro e w5 ⟨v5, rfl, P5, b5⟩
          have L5 := hide ((unhide L4).next b5)
          replace b5 := hide (bt (unhide b4) b5 (Nat.le_trans (unhide hNb) (unhide L4).low))
          obtain ⟨a5, c5, rfl⟩ := P5.form
          rw [tgt_len] at P5 ⊢
          replace P5 := hide P5
          go_wp2_with fail
          go_loopw [14] (fun s wr => ∃ (j : Nat) (wz : World), j ≤ k ∧ s = .int .i64 j ∧ wz = wr ∧ Hid (Below w5.heap.size w5 wz)) (fun s _ => k - (intOf s).toNat)
          case atStart => exact ⟨0, _, Nat.zero_le _, rfl, rfl, Below.refl _ _⟩
          case round =>
            obtain ⟨j, wj, hj, rfl, hwz, b6⟩ := hrel
            subst hwz
            by_cases hlj : j < k
            · obtain ⟨ga, rfl, c1, c2, _⟩ := ((unhide P5).next (unhide b6)).elem (i := j) (by rw [tgt_len]; exact hlj)
              rw [tgt_at hlj] at c1 c2
              dsimp only at c1 c2
              have hmod := nxt_mod hlj
              obtain ⟨x, hx⟩ : ∃ x, x = nxt k j := ⟨_, rfl⟩
              rw [← hx] at hmod c2
              replace hx := hide hx
              go_wp2_with fail
              go_region
              all_goals
                go_wp2
                go_roundw
                case rel => exact ⟨j + 1, _, by omega, by go_num, rfl, (unhide b6).drew⟩
                case measure => simp [intOf]; omega
            · obtain rfl : j = k := by omega
              have L6 := hide ((unhide L5).next (unhide b6))
              have b7 := hide (bt (unhide b5) (unhide b6) (Nat.le_trans (unhide hNb) (unhide L5).low))
              have hgw2 := unhide hgw
              go_wp2_with fail
              refine (drop_n wj (unhide L6) ((unhide GC j).up (by decide)) (by omega) (g : Int) (unhide D0)).mono ?_
              rintro e w8 ⟨gv, rfl, I8, L8, b8⟩
              replace L8 := hide L8
              replace b8 := hide ((unhide b7).trans (b8.mono (unhide hNb)))
              obtain ⟨ag, cg, rfl⟩ := I8.form
              replace I8 := hide (I8.down (Nat.zero_le _))
              go_wp2_with fail
              refine (waits_no w8 (unhide L8) ((unhide GD).few (by decide)) (by omega) (pw : Int) (unhide W0)).mono ?_
              rintro e w9 ⟨rfl, b9⟩
              have bn := below_then b9 (below_new w9 (.cells #[.int .i64 0, .int .i64 0] 53))
              have L9 := hide ((unhide L8).next bn)
              have I9 := hide ((unhide I8).next bn)
              replace b9 := hide (bt (unhide b8) bn (Nat.le_trans (unhide hNb) (unhide L8).low))
              clear bn
              go_wp2_with fail
              refine (firstt_any _).mono ?_
              rintro e w10 ⟨rfl, b10⟩
              have L10 := hide ((unhide L9).next b10)
              have I10 := hide ((unhide I9).next b10)
              replace b10 := hide (bt (unhide b9) b10 (Nat.le_trans (unhide hNb) (unhide L9).low))
              go_wp2_with fail
              refine (ints_one w10 (v := .slice ag 1 cg) (unhide I10) _ rfl _ rfl).mono ?_
              rintro e w11 ⟨rfl, b11⟩
              have L11 := hide ((unhide L10).next b11)
              replace b11 := hide (bt (unhide b10) b11 (Nat.le_trans (unhide hNb) (unhide L10).low))
              go_wp2_with fail
              refine (holds_n w11 (unhide L11) ((unhide GD).few (by decide)) (pw : Int) (g : Int) (by omega) (by omega) (r := 5) (unhide H0)).mono ?_
              rintro e w12 ⟨rfl, b12⟩
              have L12 := hide ((unhide L11).next b12)
              replace b12 := hide (bt (unhide b11) b12 (Nat.le_trans (unhide hNb) (unhide L11).low))
              go_wp2_with fail
              refine (edges_n w12 (unhide L12) (fun q hq => Nat.le_trans ((unhide GD).sum q hq) (by decide)) (by omega) rfl).mono ?_
              rintro e w13 ⟨v13, rfl, P13, b13⟩
              obtain ⟨a13, n13, c13, hn13, rfl⟩ : ∃ a n c, (edgesD (dT j g) j).length = n ∧ v13 = .slice a n c := by
                obtain ⟨a, c, e⟩ := P13.form
                exact ⟨a, _, c, rfl, e⟩
              have hfin : (n13 : Int) = (j : Int) - 2 := by have := unhide L0; omega
              replace b13 := hide (bt (unhide b12) b13 (Nat.le_trans (unhide hNb) (unhide L12).low))
              clear P13 hn13
              go_wp2
              go_ret
              exact ⟨rfl, by rw [← unhide hN]; exact unhide b13⟩
set_option maxRecDepth 100000 in
set_option maxHeartbeats 4000000 in
theorem circle_out (n g : Int) (w : World) (h : n < 2 ∨ (2 ≤ n ∧ 30 < n) ∨ (2 ≤ n ∧ n ≤ 30 ∧ g < 0) ∨ (2 ≤ n ∧ n ≤ 30 ∧ 0 ≤ g ∧ n ≤ g)) :
    Calls Try.prog 7 #[.int .i64 n, .int .i64 g] w fun e w' => e = .returned (.bool true) ∧ Below w.heap.size w w' := by
  rcases h with h | ⟨h, h2⟩ | ⟨h, h2, h3⟩ | ⟨h, h2, h3, h4⟩
  all_goals
    go_enter Try.func7, Try.ntmps7
    go_wp2_with fail
    refine (firstt_any w).mono ?_
    rintro e w1 ⟨rfl, b1⟩
    replace b1 := hide b1
    go_wp2_with fail
    refine (firstt_any w1).mono ?_
    rintro e w3 ⟨rfl, b3⟩
    replace b3 := hide (below_then (unhide b1) b3)
    go_wp2
    go_ret
    exact ⟨rfl, unhide b3⟩
theorem tableCircle_walk (n g : Int) (w : World) (_ : (Lit.int .i64 n).wf = true) (_ : (Lit.int .i64 g).wf = true) :
    Calls Try.prog 7 #[.int .i64 n, .int .i64 g] w fun e w' => e = .returned (.bool true) ∧ Below w.heap.size w w' := by
  by_cases h : 2 ≤ n ∧ n ≤ 30 ∧ 0 ≤ g ∧ g < n
  · obtain ⟨k, rfl⟩ : ∃ k : Nat, n = (k : Int) := ⟨n.toNat, by omega⟩
    obtain ⟨l, rfl⟩ : ∃ l : Nat, g = (l : Int) := ⟨g.toNat, by omega⟩
    exact circle_in k l w (by omega) (by omega) (by omega)
  · exact circle_out n g w (by omega)
end Go.Proofs.Ytmdbmkekdpbliaa
