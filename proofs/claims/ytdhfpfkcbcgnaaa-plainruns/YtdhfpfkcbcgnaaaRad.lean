/- The reference's Addr and Args. -/
import Derived.Test.YtdhfpfkcbcgnaaaRlf
import Derived.Test.YtdhfpfkcbcgnaaaRfw
import Derived.Test.YtdhfpfkcbcgnaaaReck
import Derived.Test.YtdhfpfkcbcgnaaaProgs
import Derived.Test.YtdhfpfkcbcgnaaaRefc
namespace Go.Proofs.Ytdhfpfkcbcgnaaa
open Go.RowKit

set_option maxRecDepth 100000 in
set_option maxHeartbeats 1000000 in
theorem raddr_any (c : Cf) (x : In) (va : Option Addr) (vl vc : Nat) (r : Value) (rs : List Int) (w : World) (hr : Ls w.heap.size w r rs) :
    Calls Try.prog 23 #[cv c, iv x (.slice va vl vc), r] w fun e w' => e = .returned (.int .i64 (addrD c x rs)) ∧ Below w.heap.size w w' := by
  obtain ⟨p, len, cap, rfl, h1, h2, _, h3⟩ := hr
  have hmax : maxLen = 9223372036854775807 := rfl
  have hll : rs.length = len := h3.1
  have hi := words_in c
  have hi2 : wordsD c ≤ 100000 := by omega
  clear hi
  obtain ⟨k, a, b, d, l⟩ := x
  have b2 := below_then (below_new w (.cells #[.int .i64 c.r, .int .i64 c.o, .int .i64 c.s, .int .i64 c.d, .int .i64 c.t, .int .i64 c.l, .int .i64 c.g, .int .i64 c.k, .int .i64 c.u, .int .i64 c.e, .int .i64 c.i, .int .i64 c.p] 23)) (below_new _ (.cells #[.int .i64 k, .int .i64 a, .int .i64 b, .int .i64 d, .slice va vl vc] 44))
  have hx := (bx_new c w).next (below_new _ (.cells #[.int .i64 k, .int .i64 a, .int .i64 b, .int .i64 d, .slice va vl vc] 44))
  have hy : Ix ⟨k, a, b, d, l⟩ (.slice va vl vc) (w.heap.size + 1) ((w.alloc (.cells #[.int .i64 c.r, .int .i64 c.o, .int .i64 c.s, .int .i64 c.d, .int .i64 c.t, .int .i64 c.l, .int .i64 c.g, .int .i64 c.k, .int .i64 c.u, .int .i64 c.e, .int .i64 c.i, .int .i64 c.p] 23)).alloc (.cells #[.int .i64 k, .int .i64 a, .int .i64 b, .int .i64 d, .slice va vl vc] 44)) := by
    have := ix_new ⟨k, a, b, d, l⟩ (.slice va vl vc) (w.alloc (.cells #[.int .i64 c.r, .int .i64 c.o, .int .i64 c.s, .int .i64 c.d, .int .i64 c.t, .int .i64 c.l, .int .i64 c.g, .int .i64 c.k, .int .i64 c.u, .int .i64 c.e, .int .i64 c.i, .int .i64 c.p] 23))
    simpa using this
  have h3' := h3.later b2
  have kW := rwords_any c ((w.alloc (.cells #[.int .i64 c.r, .int .i64 c.o, .int .i64 c.s, .int .i64 c.d, .int .i64 c.t, .int .i64 c.l, .int .i64 c.g, .int .i64 c.k, .int .i64 c.u, .int .i64 c.e, .int .i64 c.i, .int .i64 c.p] 23)).alloc (.cells #[.int .i64 k, .int .i64 a, .int .i64 b, .int .i64 d, .slice va vl vc] 44))
  unfold cv at kW
  obtain ⟨z0, z1, z2, z3, z4, z5, z6, z7, z8, z9, z10, z11⟩ := hx.cells
  obtain ⟨y0, y1, y2, y3, y4⟩ := hy.cells
  replace b2 := hide b2
  replace h3 := hide h3
  clear hx hy
  unfold cv iv
  by_cases hc : d = -1
  · subst hc
    have r : Hid (addrD c ⟨k, a, b, -1, l⟩ rs = wrapD b (wordsD c)) := hide (by unfold addrD; rw [if_pos rfl])
    clear h3'
    go_enter Try.func23, Try.ntmps23
    go_wp2_with fail
    refine kW.mono ?_
    rintro e w1 ⟨rfl, hb⟩
    have b3 := hide (below_then (unhide b2) hb)
    clear hb kW
    go_wp2_with fail
    refine (rwrap_any b (wordsD c) hi2 _).mono ?_
    rintro e _ ⟨rfl, rfl⟩
    go_wp2
    go_ret
    exact ⟨by rw [unhide r]; rfl, unhide b3⟩
  · have nd : (d == -1) = false := by simpa using hc
    by_cases d0 : d < 0
    · have dd : decide (d < 0) = true := decide_eq_true d0
      have r : Hid (addrD c ⟨k, a, b, d, l⟩ rs = 0) := hide (by
        unfold addrD
        rw [if_neg hc, if_neg]
        rw [wi_one]
        simp only [Bool.and_eq_true, decide_eq_true_eq]
        show ¬ (0 ≤ d ∧ d < _)
        omega)
      clear h3' kW
      go_enter Try.func23, Try.ntmps23
      go_wp2
      go_ret
      exact ⟨by rw [unhide r]; rfl, unhide b2⟩
    · have dd : decide (d < 0) = false := decide_eq_false d0
      obtain ⟨j, rfl⟩ := Int.eq_ofNat_of_zero_le (show 0 ≤ d by omega)
      by_cases d1 : (len : Int) ≤ (j : Int)
      · have de : decide ((len : Int) ≤ (j : Int)) = true := decide_eq_true d1
        have r : Hid (addrD c ⟨k, a, b, (j : Int), l⟩ rs = 0) := hide (by
          unfold addrD
          rw [if_neg hc, if_neg]
          rw [wi_one]
          simp only [Bool.and_eq_true, decide_eq_true_eq]
          show ¬ (0 ≤ (j : Int) ∧ (j : Int) < _)
          omega)
        clear h3' kW
        go_enter Try.func23, Try.ntmps23
        go_wp2
        go_ret
        exact ⟨by rw [unhide r]; rfl, unhide b2⟩
      · have de : decide ((len : Int) ≤ (j : Int)) = false := decide_eq_false d1
        have hj : j < len := by omega
        have hj2 : (j : Int) < (len : Int) := by omega
        obtain ⟨pb, po, rfl, hpb, hcell⟩ := h3'.at hj
        obtain ⟨y, hyy⟩ : ∃ y, rs.getD j 0 = y := ⟨_, rfl⟩
        rw [hyy] at hcell
        have r : Hid (addrD c ⟨k, a, b, (j : Int), l⟩ rs = wrapD (wrap64 (b + y)) (wordsD c)) := hide (by
          unfold addrD
          rw [if_neg hc, if_pos]
          · show wrapD (wrap64 (b + rs.getD (j : Int).toNat 0)) _ = _
            rw [Int.toNat_natCast, hyy]
          · rw [wi_one]
            simp only [Bool.and_eq_true, decide_eq_true_eq]
            show 0 ≤ (j : Int) ∧ (j : Int) < _
            omega)
        have ek := wrap_kin (b + y)
        replace hyy := hide hyy
        clear h3'
        go_enter Try.func23, Try.ntmps23
        go_wp2_with fail
        refine kW.mono ?_
        rintro e w1 ⟨rfl, hb⟩
        have b3 := hide (below_then (unhide b2) hb)
        clear hb kW
        go_wp2_with fail
        refine (rwrap_any _ (wordsD c) hi2 _).mono ?_
        rintro e _ ⟨rfl, rfl⟩
        go_wp2
        go_ret
        exact ⟨by rw [unhide r]; rfl, unhide b3⟩

theorem own_slice {w : World} {B e q n : Nat} {v : Value} {xs : List Value} (h : w.ownsRow B e q v n xs) : ∃ a c, v = .slice a n c := by
  rcases h.2 with ⟨rfl, rfl⟩ | ⟨g, cap, cur, rfl, _⟩
  · exact ⟨_, _, rfl⟩
  · exact ⟨_, _, rfl⟩
set_option maxRecDepth 100000 in
set_option maxHeartbeats 1000000 in
theorem rargs_any (x : In) (v : Value) (r : Value) (rs : List Int) (w : World) (hv : Ls w.heap.size w v x.l) (hr : Ls w.heap.size w r rs) (hl : x.l.length ≤ 8) (hin : ∀ y ∈ x.l, 0 ≤ y ∧ y < rs.length) :
    Calls Try.prog 25 #[iv x v, r] w fun e w' => ∃ a cap, e = .returned (.slice a (regsD rs x.l).length cap) ∧ Ls w'.heap.size w' (.slice a (regsD rs x.l).length cap) (regsD rs x.l) ∧ Below w.heap.size w w' := by
  obtain ⟨k0, a0, b0, d0, l⟩ := x
  replace hl : l.length ≤ 8 := hl
  replace hin : ∀ y ∈ l, 0 ≤ y ∧ y < rs.length := hin
  replace hv : Ls w.heap.size w v l := hv
  obtain ⟨n, hnn⟩ : ∃ n, n = l.length := ⟨_, rfl⟩
  obtain ⟨m, hm⟩ : ∃ m, rs.length = m := ⟨_, rfl⟩
  have hv0 := hv
  have hr0 := hr
  obtain ⟨a, cap, rfl, h1, h2, _, _⟩ := ls_len hv
  obtain ⟨ra, rcap, rfl, g1, g2, _, _⟩ := ls_len hr
  have hmax : maxLen = 9223372036854775807 := rfl
  rw [← hnn] at h1 hl ⊢
  rw [hm] at g1 ⊢
  have b1 := below_new w (.cells #[.int .i64 k0, .int .i64 a0, .int .i64 b0, .int .i64 d0, .slice a n cap] 44)
  have hy := ix_new ⟨k0, a0, b0, d0, l⟩ (.slice a n cap) w
  replace hnn := hide hnn
  have hnl : (n : Int) ≤ 9223372036854775807 := by omega
  have hml : (m : Int) ≤ 9223372036854775807 := by omega
  replace hv0 := hide hv0
  replace hr0 := hide hr0
  replace hin := hide hin
  replace hm := hide hm
  replace hy := hide hy
  replace b1 := hide b1
  clear hv hr
  unfold iv
  go_enter Try.func25, Try.ntmps25
  go_wp2_with fail
  go_loopw [5, 6] (fun u i wr => ∃ (k : Nat), k ≤ n ∧ i = .int .i64 k ∧ Below w.heap.size w wr ∧ Ix ⟨k0, a0, b0, d0, l⟩ (.slice a n cap) w.heap.size wr ∧ wr.ownsRow (w.heap.size + 1) 3 1 u k (vals (regsD rs (l.take k)))) (fun _ i _ => n - (RowKit.intOf i).toNat)
  case atStart => exact ⟨0, Nat.zero_le _, rfl, unhide b1, unhide hy, ⟨rfl, .inl ⟨rfl, rfl⟩⟩⟩
  case round =>
    obtain ⟨k, hk, rfl, hb, hyk, hown⟩ := hrel
    clear b1 hy
    obtain ⟨y0, y1, y2, y3, y4⟩ := hyk.cells
    by_cases hlt : k < n
    · have kd : decide ((k : Int) < (n : Int)) = true := decide_eq_true (by omega)
      have kl : (k : Int) < (n : Int) := by omega
      have hk2 : k < l.length := by have := unhide hnn; omega
      obtain ⟨_, _, hv, _, _, _, h3⟩ := ls_len ((unhide hv0).later hb)
      cases hv
      obtain ⟨_, _, hr, _, _, _, g3⟩ := ls_len ((unhide hr0).later hb)
      cases hr
      obtain ⟨pb, po, rfl, hpb, hcell⟩ := h3.at hk2
      obtain ⟨x, hx⟩ : ∃ x, l.getD k 0 = x := ⟨_, rfl⟩
      have hmem : x ∈ l := by
        rw [← hx]
        have : l.getD k 0 = l[k] := by simp [hk2]
        rw [this]; exact List.getElem_mem hk2
      obtain ⟨x0, x1⟩ := unhide hin x hmem
      obtain ⟨j, rfl⟩ := Int.eq_ofNat_of_zero_le x0
      have hj : j < rs.length := by omega
      rw [hx] at hcell
      obtain ⟨qb, qo, rfl, hqb, mreg⟩ := g3.at hj
      have hjm : (j : Int) < (m : Int) := by have := unhide hm; omega
      obtain ⟨y, hyy⟩ : ∃ y, rs.getD j 0 = y := ⟨_, rfl⟩
      rw [hyy] at mreg
      have hs := hide (regs_snoc (r := rs) hk2)
      have bA := below_new wr (.cells #[.int .i64 y] 3)
      have ownA := own_next hown bA
      have gA := hide (below_then hb bA)
      have newsA := news_new wr [.int .i64 y] 3 1 1 1 wr.heap.size rfl rfl (fun q hq => by simp at hq; subst hq; rfl)
      have sA := (unhide gA).size
      have yA := hide (hyk.next bA)
      have lA : w.heap.size + 1 ≤ (wr.alloc (.cells #[.int .i64 y] 3)).heap.size := (unhide yA).lt
      replace hx := hide hx
      replace hyy := hide hyy
      replace ownA := hide ownA
      replace newsA := hide newsA
      clear hown h3 g3 hb bA hmem x0 x1 hj hyk
      go_wp2_with (at_builtin; refine wpList_app elInt _ rfl _ _ rfl (w.heap.size + 1) _ k (vals (regsD rs (l.take k))) rfl (unhide ownA) _ 1 [.int .i64 y] rfl (unhide newsA) (by omega) (by omega) lA ?_; intro v6 w6 hown6 hgr6)
      have g6 := hide ((unhide gA).grown hgr6 sA (fun q hq => by have := ((unhide ownA).lt q hq).1; omega))
      have y6 : Ix ⟨k0, a0, b0, d0, l⟩ (.slice (some ⟨pb, po, none⟩) n cap) w.heap.size w6 := (hgr6.block _ (unhide yA).lt (fun e => by have := ((unhide ownA).lt _ e.symm).1; omega)).trans (unhide yA)
      have hown7 : w6.ownsRow (w.heap.size + 1) 3 1 v6 (k + 1) (vals (regsD rs (l.take (k + 1)))) := by
        rw [unhide hs, unhide hx, Int.toNat_natCast, unhide hyy]
        unfold vals at hown6 ⊢; rw [List.map_append]; exact hown6
      replace hown7 := hide hown7
      replace y6 := hide y6
      clear hown6 hgr6 newsA ownA gA yA
      go_wp2
      go_roundw
      case rel => exact ⟨k + 1, by omega, by go_num, unhide g6, unhide y6, unhide hown7⟩
      case measure => first | omega | (simp; omega) | (simp [RowKit.intOf]; omega)
    · have kd : decide ((k : Int) < (n : Int)) = false := decide_eq_false (by omega)
      have el : l.take k = l := List.take_of_length_le (by have := unhide hnn; omega)
      have ek : k = (regsD rs l).length := by unfold regsD; rw [List.length_map]; have := unhide hnn; omega
      rw [el] at hown
      have hL := own_ls hown
      obtain ⟨ua, uc, rfl⟩ := own_slice hown
      replace hb := hide hb
      replace hL := hide hL
      replace el := hide el
      replace ek := hide ek
      clear hown hyk
      go_wp2
      go_ret
      exact ⟨ua, uc, by rw [← unhide ek]; rfl, by show Ls _ _ (.slice ua (regsD rs l).length uc) (regsD rs l); rw [← unhide ek]; exact unhide hL, unhide hb⟩

theorem revalLs_any (kind : Int) (v : Value) (l : List Int) (w : World) (h : Ls w.heap.size w v l) :
    Calls Try.prog 24 #[.int .i64 kind, v] w fun e w' => e = .returned (.tuple #[.int .i64 (Calc.evalL kind l).1, .int .i64 (Calc.evalL kind l).2]) ∧ Below w.heap.size w w' := by
  obtain ⟨a, cap, rfl, h1, h2, h3⟩ := ls_seg h
  refine (Calc.ref_any kind a l.length cap l w h3 (by omega)).mono ?_
  rintro e w' ⟨rfl, n, rfl⟩
  exact ⟨rfl, drewN_below _ _⟩
end Go.Proofs.Ytdhfpfkcbcgnaaa
