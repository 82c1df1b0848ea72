/- alike and Same of package prog. -/
import Derived.Test.YtanieihnkajpdaaDoorFirst
namespace Go.Proofs.YtanieihnkajpdaaDoor
open Go.RowKit

theorem drewN_below (w : World) (q : Nat) : Below w.heap.size w (w.drewN q) := by
  have := Lib.below_grow w.heap.size w (Nat.le_refl _) q #[]
  simpa using this
theorem eqInts_any (u v : Value) (l m : List Int) (w : World) (hu : Ls w.heap.size w u l) (hv : Ls w.heap.size w v m) :
    Calls Tryd.prog 43 #[u, v] w fun e w' => e = .returned (.bool (l == m)) ∧ Below w.heap.size w w' := by
  obtain ⟨a, ca, rfl, h1, h2, _, h3⟩ := ls_len hu
  obtain ⟨b, cb, rfl, g1, g2, _, g3⟩ := ls_len hv
  have hmax : maxLen = 9223372036854775807 := rfl
  by_cases hl : l.length = m.length
  · by_cases h0 : l.length = 0
    · have e1 : l = [] := List.length_eq_zero_iff.1 h0
      have e2 : m = [] := List.length_eq_zero_iff.1 (by omega)
      subst e1; subst e2
      refine (Tryd.slices_Equal_int_empty a b ca 0 cb w (by omega)).mono ?_
      rintro e w' ⟨rfl, rfl⟩
      exact ⟨rfl, Below.refl _ _⟩
    · obtain ⟨b1, o1, rfl, _, _⟩ := h3.at (show 0 < l.length by omega)
      obtain ⟨b2, o2, rfl, _, _⟩ := g3.at (show 0 < m.length by omega)
      refine (Tryd.slices_Equal_int b1 o1 l.length ca b2 o2 m.length cb l m w (Nat.le_refl _) (Nat.le_refl _) (by omega) (by omega) (fun j hj => ?_) (fun j hj => ?_)).mono ?_
      · obtain ⟨b', off', e, _, hc⟩ := h3.at hj
        obtain ⟨rfl, rfl⟩ : b1 = b' ∧ o1 = off' := by simpa using e
        exact hc
      · obtain ⟨b', off', e, _, hc⟩ := g3.at hj
        obtain ⟨rfl, rfl⟩ : b2 = b' ∧ o2 = off' := by simpa using e
        exact hc
      · rintro e w' ⟨rfl, q, rfl⟩
        rw [List.take_length, List.take_length]
        exact ⟨rfl, drewN_below w q⟩
  · refine (Tryd.slices_Equal_int_lens a b l.length ca m.length cb w hl).mono ?_
    rintro e w' ⟨rfl, rfl⟩
    have : (l == m) = false := by
      rw [beq_eq_false_iff_ne]
      exact fun e => hl (by rw [e])
    rw [this]
    exact ⟨rfl, Below.refl _ _⟩
/-- Are they alike in all? -/
def sameB (x y : In) : Bool := (x.k == y.k) && ((x.a == y.a) && ((x.b == y.b) && ((x.c == y.c) && (x.l == y.l))))
theorem sameB_iff (x y : In) : sameB x y = true ↔ x = y := by
  obtain ⟨k, a, b, c, l⟩ := x
  obtain ⟨k', a', b', c', l'⟩ := y
  simp [sameB]
set_option maxRecDepth 100000 in
set_option maxHeartbeats 1000000 in
theorem alike_any (x y : In) (xa : Option Addr) (xl xc : Nat) (ya : Option Addr) (yl yc : Nat) (w : World) (hx : Ls w.heap.size w (.slice xa xl xc) x.l) (hy : Ls w.heap.size w (.slice ya yl yc) y.l) :
    Calls Tryd.prog 29 #[iv x (.slice xa xl xc), iv y (.slice ya yl yc)] w fun e w' => e = .returned (.bool (sameB x y)) ∧ Below w.heap.size w w' := by
  have b1 := below_new w (.cells #[.int .i64 x.k, .int .i64 x.a, .int .i64 x.b, .int .i64 x.c, .slice xa xl xc] 32)
  have b2 := below_then b1 (below_new _ (.cells #[.int .i64 y.k, .int .i64 y.a, .int .i64 y.b, .int .i64 y.c, .slice ya yl yc] 32))
  have kE := eqInts_any _ _ _ _ _ (hx.next b2) (hy.next b2)
  replace b2 := hide b2
  replace kE := hide kE
  clear b1 hx hy
  unfold iv
  cases e1 : (x.k == y.k)
  · have r : Hid (sameB x y = false) := hide (by simp [sameB, e1])
    go_enter Tryd.func29, Tryd.ntmps29
    go_wp2
    go_ret
    exact ⟨by rw [unhide r]; rfl, unhide b2⟩
  cases e2 : (x.a == y.a)
  · have r : Hid (sameB x y = false) := hide (by simp [sameB, e2])
    go_enter Tryd.func29, Tryd.ntmps29
    go_wp2
    go_ret
    exact ⟨by rw [unhide r]; rfl, unhide b2⟩
  cases e3 : (x.b == y.b)
  · have r : Hid (sameB x y = false) := hide (by simp [sameB, e3])
    go_enter Tryd.func29, Tryd.ntmps29
    go_wp2
    go_ret
    exact ⟨by rw [unhide r]; rfl, unhide b2⟩
  cases e4 : (x.c == y.c)
  · have r : Hid (sameB x y = false) := hide (by simp [sameB, e4])
    go_enter Tryd.func29, Tryd.ntmps29
    go_wp2
    go_ret
    exact ⟨by rw [unhide r]; rfl, unhide b2⟩
  have r : Hid (sameB x y = (x.l == y.l)) := hide (by simp [sameB, e1, e2, e3, e4])
  go_enter Tryd.func29, Tryd.ntmps29
  go_wp2_with fail
  refine (unhide kE).mono ?_
  rintro e w3 ⟨rfl, hb3⟩
  have b3 := hide (below_then (unhide b2) hb3)
  clear hb3
  go_wp2
  go_ret
  exact ⟨by rw [unhide r]; rfl, unhide b3⟩
/-- One by one. -/
def sameL : List In → List In → Bool
  | [], [] => true
  | x :: r, y :: q => sameB x y && sameL r q
  | _, _ => false
theorem sameL_iff : ∀ (a b : List In), sameL a b = true ↔ a = b
  | [], [] => by simp [sameL]
  | [], y :: q => by simp [sameL]
  | x :: r, [] => by simp [sameL]
  | x :: r, y :: q => by simp [sameL, sameB_iff, sameL_iff r q]
set_option maxRecDepth 100000 in
set_option maxHeartbeats 1000000 in
theorem equalFunc_any (pa pb : List In) (u v : Value) (w : World) (hu : Ps w.heap.size w u pa) (hv : Ps w.heap.size w v pb) :
    Calls Tryd.prog 28 #[u, v, .func (.func 29) #[] #[]] w fun e w' => e = .returned (.bool (sameL pa pb)) ∧ Below w.heap.size w w' := by
  have hmax : maxLen = 9223372036854775807 := rfl
  have hu0 := hide hu
  have hv0 := hide hv
  obtain ⟨a, ca, rfl, a1, a2, a3⟩ := hu
  obtain ⟨b, cb, rfl, b1, b2, b3⟩ := hv
  obtain ⟨n, hn⟩ : ∃ n, n = pa.length := ⟨_, rfl⟩
  obtain ⟨m, hm⟩ : ∃ m, m = pb.length := ⟨_, rfl⟩
  rw [← hn] at a1 ⊢
  rw [← hm] at b1 ⊢
  replace a3 := hide a3
  replace b3 := hide b3
  replace hn := hide hn
  replace hm := hide hm
  have nl : (n : Int) ≤ 9223372036854775807 := by omega
  have ml : (m : Int) ≤ 9223372036854775807 := by omega
  by_cases hnm : n = m
  · subst hnm
    go_enter Tryd.func28, Tryd.ntmps28
    go_wp2_with fail
    go_loopw [17] (fun i wr => ∃ k : Nat, k ≤ n ∧ i = .int .i64 k ∧ Below w.heap.size w wr ∧ pa.take k = pb.take k) (fun i _ => n - (RowKit.intOf i).toNat)
    case atStart => exact ⟨0, Nat.zero_le _, rfl, Below.refl _ _, by simp⟩
    case round =>
      obtain ⟨k, hk, rfl, hb, htk⟩ := hrel
      replace htk := hide htk
      by_cases hlt : k < n
      · have kd : decide ((k : Int) < (n : Int)) = true := decide_eq_true (by omega)
        have kl : (k : Int) < (n : Int) := by omega
        obtain ⟨_, _, e, _, _, h3'⟩ := (unhide hu0).later hb
        cases e
        rcases h3' with h0 | ⟨ba, oa, rfl, hba, hca⟩
        · have := unhide hn; omega
        obtain ⟨_, _, e, _, _, h3'⟩ := (unhide hv0).later hb
        cases e
        rcases h3' with h0 | ⟨bb, ob, rfl, hbb, hcb⟩
        · have := unhide hm; omega
        have hIa := hca k (by have := unhide hn; omega)
        have hIb := hcb k (by have := unhide hm; omega)
        obtain ⟨x, hxx⟩ : ∃ x, pa.getD k z0 = x := ⟨_, rfl⟩
        obtain ⟨y, hyy⟩ : ∃ y, pb.getD k z0 = y := ⟨_, rfl⟩
        rw [hxx] at hIa
        rw [hyy] at hIb
        obtain ⟨c0, c1, c2, c3, ux, c4, hux⟩ := hIa
        obtain ⟨xa, xl, xc, rfl⟩ : ∃ xa xl xc, ux = .slice xa xl xc := by obtain ⟨xa, xl, xc, e, _⟩ := hux; exact ⟨xa, xl, xc, e⟩
        obtain ⟨d0, d1, d2, d3, uy, d4, huy⟩ := hIb
        obtain ⟨ya, yl, yc, rfl⟩ : ∃ ya yl yc, uy = .slice ya yl yc := by obtain ⟨ya, yl, yc, e, _⟩ := huy; exact ⟨ya, yl, yc, e⟩
        have bX := below_new wr (.cells #[.int .i64 x.k, .int .i64 x.a, .int .i64 x.b, .int .i64 x.c, .slice xa xl xc] 32)
        have bY := below_then bX (below_new _ (.cells #[.int .i64 y.k, .int .i64 y.a, .int .i64 y.b, .int .i64 y.c, .slice ya yl yc] 32))
        have lbb : bb < wr.heap.size := Nat.lt_of_lt_of_le hbb hb.size
        have e0 := (bX.cell lbb).trans d0
        have e1 := (bX.cell lbb).trans d1
        have e2 := (bX.cell lbb).trans d2
        have e3 := (bX.cell lbb).trans d3
        have e4 := (bX.cell lbb).trans d4
        have kA := alike_any x y xa xl xc ya yl yc _ ((hux.up hb.size).next bY) ((huy.up hb.size).next bY)
        unfold iv at kA
        have gY := hide (below_then hb bY)
        have hk2 : k < pa.length := by have := unhide hn; omega
        have hk3 : k < pb.length := by have := unhide hm; omega
        have ta : pa.take (k + 1) = pa.take k ++ [x] := by
          have : pa.getD k z0 = pa[k] := by simp [hk2]
          rw [List.take_add_one, List.getElem?_eq_getElem hk2, ← hxx, this]; rfl
        have tb : pb.take (k + 1) = pb.take k ++ [y] := by
          have : pb.getD k z0 = pb[k] := by simp [hk3]
          rw [List.take_add_one, List.getElem?_eq_getElem hk3, ← hyy, this]; rfl
        replace ta := hide ta
        replace tb := hide tb
        replace hux := hide hux
        replace huy := hide huy
        replace hca := hide hca
        replace hcb := hide hcb
        replace hb := hide hb
        clear bX bY hxx hyy
        cases hs : sameB x y
        · have r : Hid (sameL pa pb = false) := hide (by
            cases hc : sameL pa pb
            · rfl
            · have e := (sameL_iff pa pb).1 hc
              have e2 : pa.take (k + 1) = pb.take (k + 1) := by rw [e]
              rw [unhide ta, unhide tb, unhide htk] at e2
              have e3 : x = y := by simpa using e2
              rw [(sameB_iff x y).2 e3] at hs
              cases hs)
          rw [hs] at kA
          go_wp2_with fail
          refine kA.mono ?_
          rintro e w5 ⟨rfl, hb5⟩
          have g5 := hide (below_then (unhide gY) hb5)
          clear hb5 kA c0 c1 c2 c3 c4 e0 e1 e2 e3 e4 d0 d1 d2 d3 d4
          go_wp2
          go_ret
          exact ⟨by rw [unhide r]; rfl, unhide g5⟩
        · have exy := (sameB_iff x y).1 hs
          rw [hs] at kA
          replace exy := hide exy
          go_wp2_with fail
          refine kA.mono ?_
          rintro e w5 ⟨rfl, hb5⟩
          have g5 := hide (below_then (unhide gY) hb5)
          clear hb5 kA c0 c1 c2 c3 c4 e0 e1 e2 e3 e4 d0 d1 d2 d3 d4
          go_wp2
          go_roundw
          case rel => exact ⟨k + 1, by omega, by go_num, unhide g5, by rw [unhide ta, unhide tb, unhide htk, unhide exy]⟩
          case measure => first | omega | (simp; omega) | (simp [RowKit.intOf]; omega)
      · have kd : decide ((k : Int) < (n : Int)) = false := decide_eq_false (by omega)
        have r : Hid (sameL pa pb = true) := hide ((sameL_iff pa pb).2 (by
          have e := unhide htk
          rw [List.take_of_length_le (by have := unhide hn; omega), List.take_of_length_le (by have := unhide hm; omega)] at e
          exact e))
        replace hb := hide hb
        go_wp2
        go_ret
        exact ⟨by rw [unhide r]; rfl, unhide hb⟩
  · have r : Hid (sameL pa pb = false) := hide (by
      cases hc : sameL pa pb
      · rfl
      · have e := (sameL_iff pa pb).1 hc
        exact absurd (by rw [unhide hn, unhide hm, e]) hnm)
    have q1 : ((n : Int) == (m : Int)) = false := by simpa using fun e : (n : Int) = (m : Int) => hnm (by omega)
    have q2 : ((n : Int) != (m : Int)) = true := by simpa using fun e : (n : Int) = (m : Int) => hnm (by omega)
    go_enter Tryd.func28, Tryd.ntmps28
    go_wp2
    go_ret
    exact ⟨by rw [unhide r]; rfl, Below.refl _ _⟩
set_option maxRecDepth 100000 in
theorem same_any (pa pb : List In) (u v : Value) (w : World) (hu : Ps w.heap.size w u pa) (hv : Ps w.heap.size w v pb) :
    Calls Tryd.prog 17 #[u, v] w fun e w' => e = .returned (.bool (sameL pa pb)) ∧ Below w.heap.size w w' := by
  go_enter Tryd.func17, Tryd.ntmps17
  go_wp2_with fail
  refine (equalFunc_any pa pb u v _ hu hv).mono ?_
  rintro e w1 ⟨rfl, hb⟩
  go_wp2
  go_ret
  exact ⟨rfl, hb⟩
end Go.Proofs.YtanieihnkajpdaaDoor
