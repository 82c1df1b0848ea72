/- The walk of LatchAlone: it answers true. -/
import Derived.Test.YtlhmpkeljagihaaEnds
import Derived.Deep.Cut
import Derived.Deep.CutRange
namespace Go.Proofs.Ytlhmpkeljagihaa
open Go.RowKit

theorem and_one (y : Int) : bits .and .i64 y 1 = 0 ∨ bits .and .i64 y 1 = 1 := by
  rw [and_i64, show B 1 = BitVec.ofNat 64 (2 ^ 1 - 1) from rfl, BitVec.toNat_and, BitVec.toNat_ofNat, show (2 ^ 1 - 1) % 2 ^ 64 = 2 ^ 1 - 1 from rfl, Nat.and_two_pow_sub_one_eq_mod]
  unfold wrap64
  omega
theorem hasR_has (ph : Ph) : ((hasOf ph : Int) == 1) = hasR ph := by
  cases ph with
  | idle h =>
    show ((h : Int) == 1) = (h == 1)
    by_cases e : h = 1
    · subst e; rfl
    · have e2 : ((h : Int) == 1) = false := by simp; omega
      have e3 : (h == 1) = false := by simp; exact e
      rw [e2, e3]
  | read p => rfl
  | write rd p wd => cases rd <;> rfl
  | endR => rfl
  | endW => rfl
theorem idle_of {ph : Ph} (h : live ph = false) : ∃ k, ph = .idle k := by
  cases ph with
  | idle k => exact ⟨k, rfl⟩
  | _ => cases h

theorem alone_start {W : World} {c : Cf} {B cb r sl : Nat} {m : Mm} {w : World} (h : Env W c B cb r 9 m w) :
    Al W c B cb r w.heap.size (w.heap.size + 1) (w.heap.size + 1 + 1) sl 16 (fun _ => .idle 0) m (fun _ => 0) (fun _ => 0) (((w.alloc (.cells #[.pointer none, .pointer none, .pointer none, .pointer none, .pointer none, .pointer none, .pointer none, .pointer none, .pointer none, .pointer none, .pointer none, .pointer none, .pointer none, .pointer none, .pointer none, .pointer none] 35)).alloc (.cells #[.int .i64 0, .int .i64 0, .int .i64 0, .int .i64 0, .int .i64 0, .int .i64 0, .int .i64 0, .int .i64 0, .int .i64 0, .int .i64 0, .int .i64 0, .int .i64 0, .int .i64 0, .int .i64 0, .int .i64 0, .int .i64 0] 54)).alloc (.cells #[.int .i64 0, .int .i64 0, .int .i64 0, .int .i64 0, .int .i64 0, .int .i64 0, .int .i64 0, .int .i64 0, .int .i64 0, .int .i64 0, .int .i64 0, .int .i64 0, .int .i64 0, .int .i64 0, .int .i64 0, .int .i64 0] 54)) ∧ Ak W B cb r w.heap.size (w.heap.size + 1) (w.heap.size + 1 + 1) := by
  have b1 := below_new w (.cells #[.pointer none, .pointer none, .pointer none, .pointer none, .pointer none, .pointer none, .pointer none, .pointer none, .pointer none, .pointer none, .pointer none, .pointer none, .pointer none, .pointer none, .pointer none, .pointer none] 35)
  have r1 : (w.alloc (.cells #[.pointer none, .pointer none, .pointer none, .pointer none, .pointer none, .pointer none, .pointer none, .pointer none, .pointer none, .pointer none, .pointer none, .pointer none, .pointer none, .pointer none, .pointer none, .pointer none] 35)).rowIs w.heap.size 35 16 (fun _ => .pointer none) := row16g w (fun _ => .pointer none) 35
  have s1 : (w.alloc (.cells #[.pointer none, .pointer none, .pointer none, .pointer none, .pointer none, .pointer none, .pointer none, .pointer none, .pointer none, .pointer none, .pointer none, .pointer none, .pointer none, .pointer none, .pointer none, .pointer none] 35)).heap.size = w.heap.size + 1 := by simp
  generalize w.alloc (.cells #[.pointer none, .pointer none, .pointer none, .pointer none, .pointer none, .pointer none, .pointer none, .pointer none, .pointer none, .pointer none, .pointer none, .pointer none, .pointer none, .pointer none, .pointer none, .pointer none] 35) = w1 at *
  have b2 := below_new w1 (.cells #[.int .i64 0, .int .i64 0, .int .i64 0, .int .i64 0, .int .i64 0, .int .i64 0, .int .i64 0, .int .i64 0, .int .i64 0, .int .i64 0, .int .i64 0, .int .i64 0, .int .i64 0, .int .i64 0, .int .i64 0, .int .i64 0] 54)
  have r2 : (w1.alloc (.cells #[.int .i64 0, .int .i64 0, .int .i64 0, .int .i64 0, .int .i64 0, .int .i64 0, .int .i64 0, .int .i64 0, .int .i64 0, .int .i64 0, .int .i64 0, .int .i64 0, .int .i64 0, .int .i64 0, .int .i64 0, .int .i64 0] 54)).rowIs w1.heap.size 54 16 (fun _ => .int .i64 0) := row16g w1 (fun _ => .int .i64 0) 54
  have s2 : (w1.alloc (.cells #[.int .i64 0, .int .i64 0, .int .i64 0, .int .i64 0, .int .i64 0, .int .i64 0, .int .i64 0, .int .i64 0, .int .i64 0, .int .i64 0, .int .i64 0, .int .i64 0, .int .i64 0, .int .i64 0, .int .i64 0, .int .i64 0] 54)).heap.size = w1.heap.size + 1 := by simp
  generalize w1.alloc (.cells #[.int .i64 0, .int .i64 0, .int .i64 0, .int .i64 0, .int .i64 0, .int .i64 0, .int .i64 0, .int .i64 0, .int .i64 0, .int .i64 0, .int .i64 0, .int .i64 0, .int .i64 0, .int .i64 0, .int .i64 0, .int .i64 0] 54) = w2 at *
  have b3 := below_new w2 (.cells #[.int .i64 0, .int .i64 0, .int .i64 0, .int .i64 0, .int .i64 0, .int .i64 0, .int .i64 0, .int .i64 0, .int .i64 0, .int .i64 0, .int .i64 0, .int .i64 0, .int .i64 0, .int .i64 0, .int .i64 0, .int .i64 0] 54)
  have r3 : (w2.alloc (.cells #[.int .i64 0, .int .i64 0, .int .i64 0, .int .i64 0, .int .i64 0, .int .i64 0, .int .i64 0, .int .i64 0, .int .i64 0, .int .i64 0, .int .i64 0, .int .i64 0, .int .i64 0, .int .i64 0, .int .i64 0, .int .i64 0] 54)).rowIs w2.heap.size 54 16 (fun _ => .int .i64 0) := row16g w2 (fun _ => .int .i64 0) 54
  generalize w2.alloc (.cells #[.int .i64 0, .int .i64 0, .int .i64 0, .int .i64 0, .int .i64 0, .int .i64 0, .int .i64 0, .int .i64 0, .int .i64 0, .int .i64 0, .int .i64 0, .int .i64 0, .int .i64 0, .int .i64 0, .int .i64 0, .int .i64 0] 54) = w3 at *
  have hb := below_then (below_then b1 b2) b3
  have lc := h.s.lt
  have lr := h.s.rlt
  have lB := h.x.lt
  have lW := h.b.size
  rw [s1] at r2
  rw [s2, s1] at r3
  refine ⟨⟨h.next hb, (r1.of_block (b2.block _ (by omega))).of_block (b3.block _ (by omega)), r2.of_block (b3.block _ (by omega)), r3, (fun u hu => by cases hu), (fun u _ hu => by cases hu), (fun u hu => by cases hu), (fun u v hu => by cases hu)⟩, ⟨⟨by omega, by omega, by omega, by omega⟩, ⟨by omega, by omega, by omega, by omega⟩, ⟨by omega, by omega, by omega, by omega⟩, by omega, by omega, by omega⟩⟩

theorem ptr_live {ph : Ph} (b : Nat) (h : live ph = true) : ptr ph b = .pointer (some ⟨b, 0, none⟩) := by unfold ptr; rw [h]; rfl
section
variable {W : World} {c : Cf} {B cb r A K H sl x : Nat} {P : Nat → Ph} {m : Mm} {bs : Nat → Nat} {kd : Nat → Int} {w : World}
theorem Al.ends2 (h : Al W c B cb r A K H sl x P m bs kd w) (ak : Ak W B cb r A K H) (v y : Nat) : Al W c B cb r A K H sl y (upP P x (.idle v)) m bs kd ((w.setCell ⟨H, x, none⟩ (.int .i64 (v : Int))).setCell ⟨A, x, none⟩ (.pointer none)) := by
  refine h.ends v y ((h.env.one ak.h (touch_set H x w _)).one ak.a (touch_set A x _ _)) (fun k hA hH => ?_) ak ?_ ?_
  · exact ((touch_set A x _ _).block k hA hA).trans ((touch_set H x w _).block k hH hH)
  · exact ((h.ra.setOther ak.ah _).set x _).congr (fun u _ => by split <;> rfl)
  · exact ((h.rh.set x _).setOther (fun e => ak.ah e.symm) _).congr (fun u _ => by split <;> rfl)
theorem Al.ends3 (h : Al W c B cb r A K H sl x P m bs kd w) (ak : Ak W B cb r A K H) (y : Nat) : Al W c B cb r A K H sl y (upP P x (.idle (hasOf (P x)))) m bs kd (w.setCell ⟨A, x, none⟩ (.pointer none)) := by
  refine h.ends _ y (h.env.one ak.a (touch_set A x _ _)) (fun k hA hH => ?_) ak ?_ ?_
  · exact (touch_set A x _ _).block k hA hA
  · exact (h.ra.set x _).congr (fun u _ => by split <;> rfl)
  · exact (h.rh.setOther (fun e => ak.ah e.symm) _).congr (fun u _ => by split; rename_i e; rw [e]; rfl)
/-- The kind is written down, then the latch is made. -/
theorem Al.kind (h : Al W c B cb r A K H sl x P m bs kd w) (ak : Ak W B cb r A K H) (n : Nat) (v : Int) : Env W c B cb r 9 m (w.setCell ⟨K, n, none⟩ (.int .i64 v)) ∧ (w.setCell ⟨K, n, none⟩ (.int .i64 v)).rowIs A 35 16 (fun u => ptr (P u) (bs u)) ∧ (w.setCell ⟨K, n, none⟩ (.int .i64 v)).rowIs K 54 16 (fun u => if u = n then .int .i64 v else .int .i64 (kd u)) ∧ (w.setCell ⟨K, n, none⟩ (.int .i64 v)).rowIs H 54 16 (fun u => .int .i64 (hasOf (P u) : Int)) :=
  ⟨h.env.one ak.k (touch_set K n w _), h.ra.setOther ak.ak _, (h.rk.set n _).congr (fun u _ => by split <;> rfl), h.rh.setOther (fun e => ak.kh e.symm) _⟩
theorem Al.kindD (h : Al W c B cb r A K H sl x P m bs kd w) (ak : Ak W B cb r A K H) (n : Nat) (v : Int) : Env W c B cb r 9 m (w.setCell ⟨K, n, none⟩ (.int .i64 v)).drew ∧ (w.setCell ⟨K, n, none⟩ (.int .i64 v)).drew.rowIs A 35 16 (fun u => ptr (P u) (bs u)) ∧ (w.setCell ⟨K, n, none⟩ (.int .i64 v)).drew.rowIs H 54 16 (fun u => .int .i64 (hasOf (P u) : Int)) ∧ A < (w.setCell ⟨K, n, none⟩ (.int .i64 v)).drew.heap.size ∧ H < (w.setCell ⟨K, n, none⟩ (.int .i64 v)).drew.heap.size := by
  obtain ⟨e, k1, _, k3⟩ := h.kind ak n v
  exact ⟨e.drew, k1, k3, k1.lt, k3.lt⟩
theorem Al.born2 (h : Al W c B cb r A K H sl x P m bs kd w) (ak : Ak W B cb r A K H) {n b : Nat} (hx : live (P x) = false) (hn : live (P n) = false) {hh k : Nat} (hP : P n = .idle hh) (bo : Born hh k) {w1 : World} (hE : Env W c B cb r 9 m w1) (ob : Own W B cb r b) (hs0 : (w.setCell ⟨K, n, none⟩ (.int .i64 (k : Int))).drew.heap.size ≤ b) (fl0 : Below (w.setCell ⟨K, n, none⟩ (.int .i64 (k : Int))).drew.heap.size (w.setCell ⟨K, n, none⟩ (.int .i64 (k : Int))).drew w1) {L : LS} (hl : Lat w1 b L) (hf : Fit sl n L (bornP hh k)) (ok : Ok 9 L) (y : Nat) :
    Al W c B cb r A K H sl y (upP P n (bornP hh k)) m (fun u => if u = n then b else bs u) (fun u => if u = n then (k : Int) else kd u) (w1.setCell ⟨A, n, none⟩ (.pointer (some ⟨b, 0, none⟩))) := by
  obtain ⟨_, k1, k2, k3⟩ := h.kind ak n (k : Int)
  have sz : (w.setCell ⟨K, n, none⟩ (.int .i64 (k : Int))).heap.size = w.heap.size := (touch_set K n w _).size
  have hs : w.heap.size ≤ b := by rw [← sz]; exact hs0
  have fl : ∀ q, q < w.heap.size → w1.heap[q]? = (w.setCell ⟨K, n, none⟩ (.int .i64 (k : Int))).heap[q]? := fun q hq => fl0.block q (by rw [← sz] at hq; exact hq)
  have lA := h.ra.lt
  have lK := h.rk.lt
  have lH := h.rh.lt
  have bA : b ≠ A := by omega
  refine h.born hx hn hP bo (hE.one ak.a (touch_set A n w1 _)) ak ob bA (by omega) (by omega) (fun u hu => ?_) (fun q hq qA qK => ?_) (hl.stays (touch_set A n w1 _) bA bA) hf ok ?_ ?_ y
  · obtain ⟨L', e1, _⟩ := h.lat u (fun e => by rw [e, hx] at hu; cases hu) hu
    have := e1.lt
    omega
  · exact ((touch_set A n w1 _).block q qA qA).trans ((fl q hq).trans ((touch_set K n w _).block q qK qK))
  · exact ((k1.of_block (fl A lA)).set n _).congr (fun u _ => by split <;> rfl)
  · exact (k2.of_block (fl K lK)).setOther (fun e => ak.ak e.symm) _
end
theorem isW_has {ph : Ph} (h : hasOf ph ≠ 2) : isW ph = false := by
  cases ph with
  | idle k => exact decide_eq_false h
  | read p => rfl
  | write rd p wd => rfl
  | endR => rfl
  | endW => rfl
theorem has_two {ph : Ph} (h : hasOf ph = 2) : ph = .idle 2 ∨ ph = .endW := by
  cases ph with
  | idle k => exact .inl (by rw [show k = 2 from h])
  | read p => cases h
  | write rd p wd => cases rd <;> cases h
  | endR => cases h
  | endW => exact .inr rfl
theorem cnt_next (R : Nat → Bool) (k : Nat) : cnt 0 R (k + 1) = cnt 0 R k + if R k = true then 1 else 0 := by
  show cnt 0 R k + _ = _
  by_cases e : R k = true
  · rw [if_pos ⟨Nat.zero_le _, e⟩, if_pos e]
  · rw [if_neg (fun h => e h.2), if_neg e]

set_option maxRecDepth 100000 in
set_option maxHeartbeats 4000000 in
theorem alone_in (T sl : Nat) (x : Option Addr) (len cap : Nat) (l : List Int) (x2 : Option Addr) (len2 cap2 : Nat) (l2 : List Int) (w : World) (hT1 : 1 ≤ T) (hT : T ≤ 16) (hsl : sl ≤ 48) (hlen : len ≤ 600) (hlen2 : len2 ≤ 100) (hs : SegK .i64 w x len l) (hs2 : SegK .i64 w x2 len2 l2) :
    Calls Try.prog 4 #[.int .i64 T, .int .i64 sl, .slice x len cap, .slice x2 len2 cap2] w fun e w' => e = .returned (.bool true) ∧ Below w.heap.size w w' := by
  have hn6 : (9 : Nat) ≤ 65536 := by decide
  have hTi : (T : Int) ≤ 16 := by omega
  have hok := one_ok (t := (T : Int)) (s := (sl : Int)) (by omega) (by omega) (by omega) (by omega)
  obtain ⟨c, hcE⟩ : ∃ c, c = oneC (T : Int) (sl : Int) := ⟨_, rfl⟩
  have hn : cellsD c = ((9 : Nat) : Int) := by rw [hcE]; exact one_cells hok
  have hl1 : latchD c 2 = 1 := by rw [hcE]; exact one_latch hok
  replace hl1 := hide hl1
  clear hok
  have hcT := hide hcE
  have d0 : decide ((T : Int) < 1) = false := decide_eq_false (by omega)
  have d1 : decide (16 < (T : Int)) = false := decide_eq_false (by omega)
  have d2 : decide ((sl : Int) < 0) = false := decide_eq_false (by omega)
  have d3 : decide (48 < (sl : Int)) = false := decide_eq_false (by omega)
  have d4 : decide (600 < (len : Int)) = false := decide_eq_false (by omega)
  have d5 : decide (100 < (len2 : Int)) = false := decide_eq_false (by omega)
  have Hs := hide hs.low
  have Hs2 := hide hs2.low
  clear hs hs2
  go_enter Try.func4, Try.ntmps4
  go_wp2_with fail
  refine (first_any _).mono ?_
  rintro e w1 ⟨rfl, hb1⟩
  go_wp2_with fail
  refine (one_any (T : Int) (sl : Int) _).mono ?_
  rw [← hcE]
  have hcE' := hide hcE
  clear hcE
  rintro e w2 ⟨rfl, hb2⟩
  have hb2' := below_then hb1 hb2
  clear hb1 hb2
  unfold cv
  go_wp2_with fail
  have hx := bx_new c w2
  refine (cells_any c _).mono ?_
  rw [hn]
  rintro e w3 ⟨rfl, hb3⟩
  have hx3 := hx.next hb3
  have lB : w.heap.size ≤ w2.heap.size := hb2'.size
  have hb3' := below_then hb2' (below_call hb3)
  clear hb2' hb3 hx
  generalize w2.heap.size = B at hx3 lB ⊢
  go_wp2_with fail
  refine (new_any 9 _ hn6).mono ?_
  rintro e w4 ⟨cb, r, rfl, hcb, hr, hc, hb4⟩
  have hE : Env w c B cb r 9 m0 w4 := ⟨hx3.next hb4, hc, below_then hb3' hb4, lB, Nat.le_trans hb3'.size hcb, Nat.le_trans hb3'.size hr, by have := hx3.lt; omega, by have := hx3.lt; omega⟩
  clear hx3 hc hb3' hb4 hcb hr
  replace hE := hide hE
  go_upto_region 11 with fail
  obtain ⟨hA, ak⟩ := alone_start (sl := sl) (unhide hE)
  replace hA := hide hA
  clear hE
  generalize w4.heap.size = A at *
  have I0 := hide (inv_zero sl T)
  have a0 : Ab sl 0 (mkR (fun _ => .idle 0)) m0.f := ab_zero sl
  replace a0 := hide a0
  go_wp2_with fail
  go_loopw [15, 16] (fun wi i wr => ∃ (j wish : Nat) (P : Nat → Ph) (own : Int) (m : Mm) (bs : Nat → Nat) (kd : Nat → Int), j ≤ len ∧ wi = .int .i64 wish ∧ i = .int .i64 j ∧ wish ≤ j ∧ Inv sl T P own ∧ Ab sl own (mkR P) m.f ∧ Al w c B cb r A (A + 1) (A + 1 + 1) sl 16 P m bs kd wr) (fun _ i _ => len - (intOf i).toNat)
  case atStart => exact ⟨0, 0, _, 0, m0, _, _, Nat.zero_le _, rfl, rfl, Nat.le_refl _, unhide I0, unhide a0, unhide hA⟩
  case round =>
    obtain ⟨j, wish, P, own, m, bs, kd, hj, rfl, rfl, hwj, hI, ha, hA1⟩ := hrel
    clear hA I0 a0
    have hA := hA1
    clear hA1
    by_cases hlt : j < len
    · obtain ⟨b1, off, rfl, hlt1, hcell⟩ := ((unhide Hs).later hA.env.b).at hlt
      obtain ⟨y, hy⟩ : ∃ y, l.getD j 0 = y := ⟨_, rfl⟩
      rw [hy] at hcell
      clear hy
      replace hI := hide hI
      replace ha := hide ha
      have jl : (j : Int) < (len : Int) := by omega
      have jd : decide ((j : Int) < (len : Int)) = true := decide_eq_true jl
      by_cases hy0 : y < 0
      · replace hA := hide hA
        have kd4 : decide (y < 0) = true := decide_eq_true hy0
        go_wp2
        go_roundw
        case rel => exact ⟨j + 1, wish, P, own, m, bs, kd, by omega, rfl, by go_num, by omega, unhide hI, unhide ha, unhide hA⟩
        case measure => first | omega | (simp; omega) | (simp [intOf]; omega)
      · have kd4 : decide (y < 0) = false := decide_eq_false hy0
        by_cases hyk : (T : Int) ≤ y
        · replace hA := hide hA
          have kd5 : decide ((T : Int) ≤ y) = true := decide_eq_true hyk
          go_wp2
          go_roundw
          case rel => exact ⟨j + 1, wish, P, own, m, bs, kd, by omega, rfl, by go_num, by omega, unhide hI, unhide ha, unhide hA⟩
          case measure => first | omega | (simp; omega) | (simp [intOf]; omega)
        · have kd5 : decide ((T : Int) ≤ y) = false := decide_eq_false hyk
          obtain ⟨n, rfl⟩ := Int.eq_ofNat_of_zero_le (Int.not_lt.1 hy0)
          have hnT : n < T := by omega
          have n16 : (n : Int) < 16 := by omega
          clear hy0 hyk
          have cA := hA.ra.cell (show n < 16 by omega)
          replace hA := hide hA
          go_upto_region 17 with fail
          go_cut [84] from 64 to 224 (fun t84 wc => t84 = .bool (!(live (P n))) ∧ Al w c B cb r A (A + 1) (A + 1 + 1) sl 16 P m bs kd wc)
          case first => as_aux_lemma =>
            unfold ptr at cA
            rcases hlive : live (P n)
            · rw [hlive] at cA
              rw [if_neg (by simp)] at cA
              replace hlive := hide hlive
              go_wp2
              go_meet
              case rel => exact ⟨by rw [unhide hlive]; rfl, unhide hA⟩
            · rw [hlive] at cA
              rw [if_pos rfl] at cA
              replace hlive := hide hlive
              go_wp2
              go_meet
              case rel => exact ⟨by rw [unhide hlive]; rfl, unhide hA⟩
          clear cA hcell hA
          obtain ⟨rfl, hA⟩ := hcut
          replace hA := hide hA
          go_upto_if 84 with fail
          go_cut [15, 18] from 64 to 224 (fun wi _ wc => ∃ (wish1 : Nat) (P1 : Nat → Ph) (bs1 : Nat → Nat) (kd1 : Nat → Int), wi = .int .i64 wish1 ∧ wish1 ≤ j + 1 ∧ live (P1 n) = true ∧ Inv sl T P1 own ∧ Ab sl own (mkR P1) m.f ∧ Al w c B cb r A (A + 1) (A + 1 + 1) sl 16 P1 m bs1 kd1 wc)
          case first => as_aux_lemma =>
            rcases hlive : live (P n)
            · obtain ⟨h, hP⟩ := idle_of hlive
              have h2 : h ≤ 2 := by have := (unhide hI).wf n; rw [hP] at this; exact this
              have cH := (unhide hA).rh.cell (show n < 16 by omega)
              rw [hP] at cH
              replace cH : World.cell? _ ⟨A + 1 + 1, n, none⟩ = some (Value.int .i64 (h : Int)) := cH
              replace hlive := hide hlive
              replace hP := hide hP
              replace h2 := hide h2
              go_upto_if 87 with fail
              go_cut [15, 18] from 64 to 224 (fun wi k18 wc => ∃ (wish1 kx : Nat), wi = .int .i64 wish1 ∧ wish1 ≤ j + 1 ∧ k18 = .int .i64 kx ∧ (kx = 1 ∨ kx = 2) ∧ Al w c B cb r A (A + 1) (A + 1 + 1) sl 16 P m bs kd wc)
              case first => as_aux_lemma =>
                by_cases hl2 : 0 < len2
                · have ld : decide (0 < (len2 : Int)) = true := decide_eq_true (by omega)
                  have hmod := Nat.mod_lt wish hl2
                  obtain ⟨b2, off2, rfl, hlt2, hcell2⟩ := ((unhide Hs2).later (unhide hA).env.b).at hmod
                  obtain ⟨z, hz⟩ : ∃ z, l2.getD (wish % len2) 0 = z := ⟨_, rfl⟩
                  rw [hz] at hcell2
                  clear hz
                  have em : Int.tmod (wish : Int) (len2 : Int) = ((wish % len2 : Nat) : Int) := by rw [Int.tmod_eq_emod_of_nonneg (by omega)]; omega
                  obtain ⟨q, hq⟩ : ∃ q, wish % len2 = q := ⟨_, rfl⟩
                  rw [hq] at hmod hcell2 em
                  replace hq := hide hq
                  have ql : (q : Int) < (len2 : Int) := by omega
                  have l0 : ((len2 : Int) == 0) = false := by simp; omega
                  have l0p : ¬ (len2 : Int) = 0 := by omega
                  rcases and_one z with hz | hz
                  · have dz := hz
                    go_wp2
                    go_meet
                    case rel => exact ⟨wish + 1, 1, by go_num, by omega, rfl, by omega, unhide hA⟩
                  · have dz := hz
                    go_wp2
                    go_meet
                    case rel => exact ⟨wish + 1, 2, by go_num, by omega, rfl, by omega, unhide hA⟩
                · have ld : decide (0 < (len2 : Int)) = false := decide_eq_false (by omega)
                  go_wp2
                  go_meet
                  case rel => exact ⟨wish, 1, rfl, by omega, rfl, by omega, unhide hA⟩
              clear cH hA
              obtain ⟨wish1, kx, rfl, hw1, rfl, hkx, hA⟩ := hcut
              replace hkx := hide hkx
              have cH := hA.rh.cell (show n < 16 by omega)
              rw [unhide hP] at cH
              replace cH : World.cell? _ ⟨A + 1 + 1, n, none⟩ = some (Value.int .i64 (h : Int)) := cH
              replace hA := hide hA
              have h012 : h = 0 ∨ h = 1 ∨ h = 2 := by have := unhide h2; omega
              replace h012 := hide h012
              go_upto_region 22 with fail
              go_cut [112] from 64 to 224 (fun t112 wc => t112 = .bool (decide (0 < h) && ((kx == 1) || (h == 2))) ∧ Al w c B cb r A (A + 1) (A + 1 + 1) sl 16 P m bs kd wc)
              case first => as_aux_lemma =>
                rcases unhide hkx with rfl | rfl <;> rcases unhide h012 with rfl | rfl | rfl
                · have dz := hnT
                  go_wp2
                  go_meet
                  case rel => exact ⟨rfl, unhide hA⟩
                · have dz := hnT
                  go_wp2
                  go_meet
                  case rel => exact ⟨rfl, unhide hA⟩
                · have dz := hnT
                  go_wp2
                  go_meet
                  case rel => exact ⟨rfl, unhide hA⟩
                · have dz := hnT
                  go_wp2
                  go_meet
                  case rel => exact ⟨rfl, unhide hA⟩
                · have dz := hnT
                  go_wp2
                  go_meet
                  case rel => exact ⟨rfl, unhide hA⟩
                · have dz := hnT
                  go_wp2
                  go_meet
                  case rel => exact ⟨rfl, unhide hA⟩
              clear cH hA
              obtain ⟨rfl, hA⟩ := hcut
              have cH := hA.rh.cell (show n < 16 by omega)
              rw [unhide hP] at cH
              replace cH : World.cell? _ ⟨A + 1 + 1, n, none⟩ = some (Value.int .i64 (h : Int)) := cH
              replace hA := hide hA
              go_upto_if 112 with fail
              go_cut [18] from 64 to 224 (fun k18 wc => ∃ k : Nat, k18 = .int .i64 k ∧ Born h k ∧ Al w c B cb r A (A + 1) (A + 1 + 1) sl 16 P m bs kd wc)
              case first => as_aux_lemma =>
                rcases unhide hkx with rfl | rfl <;> rcases unhide h012 with rfl | rfl | rfl
                · have dz := hnT
                  go_wp2
                  go_meet
                  case rel => exact ⟨1, by first | rfl | (simp; rfl) | (congr 1), by unfold Born; omega, unhide hA⟩
                · have dz := hnT
                  go_wp2
                  go_meet
                  case rel => exact ⟨3, by first | rfl | (simp; rfl) | (congr 1), by unfold Born; omega, unhide hA⟩
                · have dz := hnT
                  go_wp2
                  go_meet
                  case rel => exact ⟨4, by first | rfl | (simp; rfl) | (congr 1), by unfold Born; omega, unhide hA⟩
                · have dz := hnT
                  go_wp2
                  go_meet
                  case rel => exact ⟨2, by first | rfl | (simp; rfl) | (congr 1), by unfold Born; omega, unhide hA⟩
                · have dz := hnT
                  go_wp2
                  go_meet
                  case rel => exact ⟨2, by first | rfl | (simp; rfl) | (congr 1), by unfold Born; omega, unhide hA⟩
                · have dz := hnT
                  go_wp2
                  go_meet
                  case rel => exact ⟨4, by first | rfl | (simp; rfl) | (congr 1), by unfold Born; omega, unhide hA⟩
              clear cH hA
              obtain ⟨k, rfl, hbo, hA⟩ := hcut
              have hbk := born_all hbo
              obtain ⟨_, _, _, _, _, _, _, _, k1, k4⟩ := hbk
              have hJ := (unhide hI).born hnT (unhide hP) hbo
              have okb : Ok 9 (beginL k c (n : Int) (h == 1)) := begin_ok hn k (n : Int) (h == 1)
              have fb : Fit sl n (beginL k c (n : Int) (h == 1)) (bornP h k) := born_fit (unhide hcT) (unhide hl1) hnT hbo
              have eh : ((h : Int) == 1) = (h == 1) := by by_cases e : h = 1; subst e; rfl; rw [show ((h : Int) == 1) = false by simp; omega, show (h == 1) = false by simp; exact e]
              generalize (h == 1) = fl at *
              replace hJ := hide hJ
              replace okb := hide okb
              replace fb := hide fb
              replace hbo := hide hbo
              have cH := hA.rh.cell (show n < 16 by omega)
              rw [unhide hP] at cH
              replace cH : World.cell? _ ⟨A + 1 + 1, n, none⟩ = some (Value.int .i64 (h : Int)) := cH
              have cK := hA.rk.cell (show n < 16 by omega)
              have fK := hA.rk.frozen n
              replace hA := hide hA
              go_upto_region 25 with fail
              have nHA : A + 1 + 1 ≠ A := by omega
              obtain ⟨hE0, ra0, rh0, lA0, lH0⟩ := (unhide hA).kindD ak n (k : Int)
              have cH0 := rh0.cell (show n < 16 by omega)
              rw [unhide hP] at cH0
              replace cH0 : World.cell? _ ⟨A + 1 + 1, n, none⟩ = some (Value.int .i64 (h : Int)) := cH0
              obtain ⟨z0, z1, z2, z3, z4, z5, z6, z7, z8, z9, z10, z11⟩ := hE0.x.cells
              have kO := env_made (opens_any k k1 k4 c (n : Int) fl _) hE0
              unfold cv at kO
              replace hE0 := hide hE0
              replace ra0 := hide ra0
              replace rh0 := hide rh0
              clear cH cK
              go_region_held3 (fun wz => wz.cell? ⟨B, 0, none⟩ = some (.int .i64 c.r) ∧ wz.cell? ⟨B, 1, none⟩ = some (.int .i64 c.o) ∧ wz.cell? ⟨B, 2, none⟩ = some (.int .i64 c.s) ∧ wz.cell? ⟨B, 3, none⟩ = some (.int .i64 c.d) ∧ wz.cell? ⟨B, 4, none⟩ = some (.int .i64 c.t) ∧ wz.cell? ⟨B, 5, none⟩ = some (.int .i64 c.l) ∧ wz.cell? ⟨B, 6, none⟩ = some (.int .i64 c.g) ∧ wz.cell? ⟨B, 7, none⟩ = some (.int .i64 c.k) ∧ wz.cell? ⟨B, 8, none⟩ = some (.int .i64 c.u) ∧ wz.cell? ⟨B, 9, none⟩ = some (.int .i64 c.e) ∧ wz.cell? ⟨B, 10, none⟩ = some (.int .i64 c.i) ∧ wz.cell? ⟨B, 11, none⟩ = some (.int .i64 c.p) ∧ wz.cell? ⟨A + 1 + 1, n, none⟩ = some (.int .i64 (h : Int))) (first | exact ⟨z0, z1, z2, z3, z4, z5, z6, z7, z8, z9, z10, z11, cH0⟩ | exact ⟨y0, y1, y2, y3, y4, y5, y6, y7, y8, y9, y10, y11, y12⟩ | exact ⟨v0, v1, v2, v3, v4, v5, v6, v7, v8, v9, v10, v11, v12⟩)
                (first
                  | (go_at_call 13; with_reducible refine Calls.mono kO ?_; rintro e wl ⟨bl, rfl, ol, sl1, ll, hE1, fl1⟩; obtain ⟨y0, y1, y2, y3, y4, y5, y6, y7, y8, y9, y10, y11⟩ := hE1.x.cells; have y12 := ((unhide rh0).of_block (fl1.block (A + 1 + 1) lH0)).cell (show n < 16 by omega); rw [unhide hP] at y12; have fA1 := ((unhide ra0).of_block (fl1.block A lA0)).frozen n; have cA1 := ((unhide ra0).of_block (fl1.block A lA0)).cell (show n < 16 by omega); obtain ⟨v0, v1, v2, v3, v4, v5, v6, v7, v8, v9, v10, v11⟩ := (hE1.one ak.a (touch_set A n wl (.pointer (some ⟨bl, 0, none⟩)))).x.cells; have v12 := (((unhide rh0).of_block (fl1.block (A + 1 + 1) lH0)).setOther (a := ⟨A, n, none⟩) nHA (.pointer (some ⟨bl, 0, none⟩))).cell (show n < 16 by omega); rw [unhide hP] at v12))
              have hA1 := (unhide hA).born2 ak (by rw [(unhide hI).out 16 hT]; rfl) (unhide hlive) (unhide hP) (unhide hbo) hE1 ol sl1 fl1 ll (unhide fb) (unhide okb) 16
              go_wp2
              go_meet
              case rel => exact ⟨wish1, _, _, _, rfl, by omega, by rw [upP_at]; exact (born_all (unhide hbo)).1, (unhide hJ).1, by rw [(unhide hJ).2]; exact unhide ha, hA1⟩
            · replace hlive := hide hlive
              go_wp2
              go_meet
              case rel => exact ⟨wish, P, bs, kd, rfl, by omega, unhide hlive, unhide hI, unhide ha, unhide hA⟩
          obtain ⟨wish1, P1, bs1, kd1, rfl, hw1, hlive, hI1, ha1, hA1⟩ := hcut
          clear hI ha hA
          have hkd := hA1.kk n hlive
          obtain ⟨hA, L, hL, hF, hO⟩ := hA1.opens n (by omega) (by rw [hI1.out 16 hT]; rfl) hlive
          clear hA1
          have cK := hA.rk.cell (show n < 16 by omega)
          replace hkd := hide hkd
          replace hlive := hide hlive
          replace hI1 := hide hI1
          replace ha1 := hide ha1
          replace hF := hide hF
          replace hO := hide hO
          replace hA := hide hA
          replace hL := hide hL
          go_upto_region 28 with fail
          go_cut [148] from 64 to 224 (fun t148 wc => ∃ b : Bool, t148 = .bool b ∧ (b = true → kd1 n = 2) ∧ Al w c B cb r A (A + 1) (A + 1 + 1) sl n P1 m bs1 kd1 wc ∧ Lat wc (bs1 n) L)
          case first => as_aux_lemma =>
            obtain ⟨q, hq⟩ : ∃ q : Int, Int.tmod (wish1 : Int) 7 = q := ⟨_, rfl⟩
            obtain ⟨q5, hq5⟩ : ∃ q : Int, Int.tmod (j : Int) 5 = q := ⟨_, rfl⟩
            rcases h1 : (q == 3)
            · go_wp2
              go_meet
              case rel => exact ⟨_, rfl, (fun h => by cases h), unhide hA, unhide hL⟩
            · rcases h2 : (kd1 n == 2)
              · go_wp2
                go_meet
                case rel => exact ⟨_, rfl, (fun h => by cases h), unhide hA, unhide hL⟩
              · have h2p := hide (show kd1 n = 2 by simpa using h2)
                rcases h3 : (q5 == 0)
                · go_wp2
                  go_meet
                  case rel => exact ⟨_, rfl, (fun _ => unhide h2p), unhide hA, unhide hL⟩
                · go_wp2
                  go_meet
                  case rel => exact ⟨_, rfl, (fun _ => unhide h2p), unhide hA, unhide hL⟩
          clear cK hA hL
          obtain ⟨b, rfl, hb2, hA, hL⟩ := hcut
          have cA := hA.ra.cell (show n < 16 by omega)
          rw [ptr_live _ (unhide hlive)] at cA
          replace hb2 := hide hb2
          replace hA := hide hA
          replace hL := hide hL
          go_upto_if 148 with fail
          go_cut [18] from 64 to 224 (fun _ wc => ∃ L1 : LS, Al w c B cb r A (A + 1) (A + 1 + 1) sl n P1 m bs1 kd1 wc ∧ Lat wc (bs1 n) L1 ∧ Ok 9 L1 ∧ Stepped sl T n P1 L1 m)
          case first => as_aux_lemma =>
            rcases b
            · go_wp2
              go_meet
              case rel => exact ⟨L, unhide hA, unhide hL, unhide hO, inv_step (unhide hI1) hT hnT (unhide ha1) (unhide hF)⟩
            · have hk2 := hide (unhide hb2 rfl)
              clear hb2
              go_wp2_with fail
              refine (cancel_any (bs1 n) L _ (unhide hL)).mono ?_
              rintro e w8 ⟨rfl, hl8, ht8⟩
              have hA8 := hide ((unhide hA).one (unhide hlive) ht8)
              replace hl8 := hide hl8
              clear ht8
              go_wp2
              go_meet
              case rel => exact ⟨cancelL L, unhide hA8, unhide hl8, cancel_ok (unhide hO), cancel_step (unhide hI1) hT hnT (unhide ha1) (unhide hF) (by have e1 := unhide hkd; have e2 := unhide hk2; omega)⟩
          clear cA hA hL hF hO hb2
          obtain ⟨L1, hA, hL, hO, hSt⟩ := hcut
          have cA := hA.ra.cell (show n < 16 by omega)
          rw [ptr_live _ (unhide hlive)] at cA
          have hOw := hide (hA.ow n (unhide hlive)).1
          have hE := hide hA.env
          replace hA := hide hA
          replace hO := hide hO
          replace hSt := hide hSt
          go_wp2_with fail
          refine (env_step (unhide hE) hL (unhide hOw) (unhide hO)).mono ?_
          obtain ⟨dn, hdn⟩ : ∃ dn : Bool, decide (8 ≤ (itL 1 L1 m).p) = dn := ⟨_, rfl⟩
          rw [hdn]
          replace hdn := hide hdn
          rintro e w8 ⟨rfl, hl8, hE8, ht8⟩
          have hA8 := (unhide hA).tri ak (unhide hlive) hE8 ht8
          clear hA hE hE8 ht8 cA hL
          have cA := hA8.ra.cell (show n < 16 by omega)
          rw [ptr_live _ (unhide hlive)] at cA
          have cK := hA8.rk.cell (show n < 16 by omega)
          have fH := hA8.rh.frozen n
          have cH := hA8.rh.cell (show n < 16 by omega)
          have cA2 : ∀ v, (w8.setCell ⟨A + 1 + 1, n, none⟩ v).cell? ⟨A, n, none⟩ = some (.pointer (some ⟨bs1 n, 0, none⟩)) := fun v => by have := (hA8.ra.setOther (a := ⟨A + 1 + 1, n, none⟩) ak.ah v).cell (show n < 16 by omega); rw [ptr_live _ (unhide hlive)] at this; exact this
          have fA := hA8.ra.frozen n
          have fA2 : ∀ v, (w8.setCell ⟨A + 1 + 1, n, none⟩ v).frozen? ⟨A, n, none⟩ = false := fun v => (hA8.ra.setOther ak.ah _).frozen n
          replace hA8 := hide hA8
          go_upto_if 157 with fail
          go_cut [18] from 64 to 224 (fun _ wc => ∃ (P2 : Nat → Ph) (own2 : Int) (m2 : Mm), Inv sl T P2 own2 ∧ Ab sl own2 (mkR P2) m2.f ∧ Al w c B cb r A (A + 1) (A + 1 + 1) sl 16 P2 m2 bs1 kd1 wc)
          case first => as_aux_lemma =>
            obtain ⟨ph, own2, I2, a2, h3⟩ := unhide hSt
            clear hSt
            replace I2 := hide I2
            replace a2 := hide a2
            rcases h3 with ⟨g1, g2, g3, g4, _⟩ | ⟨g1, g2⟩ | ⟨g1, g2, g3⟩
            · have dd : dn = false := by rw [← unhide hdn]; exact decide_eq_false (by omega)
              subst dd
              clear hdn
              have hA9 := hide ((unhide hA8).goes (unhide hlive) hl8 g2 (it_ok (unhide hO) 1) g3 g4 16)
              clear g1 g2 g3 g4 hl8
              go_wp2
              go_meet
              case rel => exact ⟨_, _, _, unhide I2, unhide a2, unhide hA9⟩
            · have dd : dn = true := by rw [← unhide hdn]; exact decide_eq_true (by omega)
              subst dd
              clear hdn
              have g9 : ((itL 1 L1 m).p == 9) = true := by rw [g1]; rfl
              replace g9 := hide g9
              clear g1
              by_cases hk : kindOf (P1 n) ≤ 2
              · rw [if_pos hk] at g2
                subst g2
                have dk : decide (2 < kd1 n) = false := decide_eq_false (by have := unhide hkd; omega)
                have hA9 := (unhide hA8).ends2 ak (kindOf (P1 n)) 16
                rw [← unhide hkd] at hA9
                replace hA9 := hide hA9
                clear hk
                go_wp2_with fail
                refine (got_any (bs1 n) _ _ hl8).mono ?_
                rw [unhide g9]
                rintro e _ ⟨rfl, rfl⟩
                clear hl8
                go_wp2
                go_meet
                case rel => exact ⟨_, _, _, unhide I2, unhide a2, unhide hA9⟩
              · rw [if_neg hk] at g2
                subst g2
                have dk : decide (2 < kd1 n) = true := decide_eq_true (by have := unhide hkd; omega)
                have hA9 := hide ((unhide hA8).ends2 ak 0 16)
                clear hk
                go_wp2_with fail
                refine (got_any (bs1 n) _ _ hl8).mono ?_
                rw [unhide g9]
                rintro e _ ⟨rfl, rfl⟩
                clear hl8
                go_wp2
                go_meet
                case rel => exact ⟨_, _, _, unhide I2, unhide a2, unhide hA9⟩
            · have dd : dn = true := by rw [← unhide hdn]; exact decide_eq_true (by omega)
              subst dd
              clear hdn
              have g9 : ((itL 1 L1 m).p == 9) = false := by rw [g1]; rfl
              replace g9 := hide g9
              clear g1
              subst g3
              have dk : decide (2 < kd1 n) = false := decide_eq_false (by have := unhide hkd; omega)
              have hA9 := hide ((unhide hA8).ends3 ak 16)
              clear g2
              go_wp2_with fail
              refine (got_any (bs1 n) _ _ hl8).mono ?_
              rw [unhide g9]
              rintro e _ ⟨rfl, rfl⟩
              clear hl8
              go_wp2
              go_meet
              case rel => exact ⟨_, _, _, unhide I2, unhide a2, unhide hA9⟩
          clear cA cK cH cA2 fH fA fA2 hA8 hl8 hSt hO hOw hlive hkd hI1 ha1
          obtain ⟨P2, own2, m2, hI, ha, hA⟩ := hcut
          replace hI := hide hI
          replace ha := hide ha
          replace hA := hide hA
          go_wp2_with fail
          go_loopw [19, 20, 21] (fun a b i wi => ∃ k : Nat, k ≤ T ∧ a = .int .i64 (cnt 0 (fun u => isW (P2 u)) k) ∧ b = .int .i64 (cnt 0 (fun u => hasR (P2 u)) k) ∧ i = .int .i64 k ∧ Al w c B cb r A (A + 1) (A + 1 + 1) sl 16 P2 m2 bs1 kd1 wi) (fun _ _ i _ => T - (intOf i).toNat)
          case atStart => exact ⟨0, Nat.zero_le _, rfl, rfl, rfl, unhide hA⟩
          case round =>
            obtain ⟨k, hk, rfl, rfl, rfl, hA1⟩ := hrel
            clear hA
            have hA := hA1
            clear hA1
            obtain ⟨a0, ha0⟩ : ∃ a0 : Int, a0 = cnt 0 (fun u => isW (P2 u)) k := ⟨_, rfl⟩
            obtain ⟨b0, hb0⟩ : ∃ b0 : Int, b0 = cnt 0 (fun u => hasR (P2 u)) k := ⟨_, rfl⟩
            have a0i := cnt_in 0 (fun u => isW (P2 u)) k
            have b0i := cnt_in 0 (fun u => hasR (P2 u)) k
            rw [← ha0] at a0i ⊢
            rw [← hb0] at b0i ⊢
            replace ha0 := hide ha0
            replace hb0 := hide hb0
            by_cases hkT : k < T
            · have kdT : decide ((k : Int) < (T : Int)) = true := decide_eq_true (by omega)
              have k16 : (k : Int) < 16 := by omega
              have cH := hA.rh.cell (show k < 16 by omega)
              have cK := hA.rk.cell (show k < 16 by omega)
              have cA := hA.ra.cell (show k < 16 by omega)
              have hkk := hide (hA.kk k)
              replace hA := hide hA
              go_upto_region 42 with fail
              go_cut [206] from 180 to 214 (fun t wc => t = .bool (isW (P2 k)) ∧ Al w c B cb r A (A + 1) (A + 1 + 1) sl 16 P2 m2 bs1 kd1 wc)
              case first => as_aux_lemma =>
                by_cases h2 : hasOf (P2 k) = 2
                · rw [h2] at cH
                  replace cH : World.cell? _ ⟨A + 1 + 1, k, none⟩ = some (Value.int .i64 2) := cH
                  rcases has_two h2 with e | e
                  · rw [e] at cA
                    replace cA : World.cell? _ ⟨A, k, none⟩ = some (Value.pointer none) := cA
                    replace h2 := hide h2
                    replace e := hide e
                    by_cases h4 : kd1 k = 4
                    · rw [h4] at cK
                      replace h4 := hide h4
                      go_wp2
                      go_meet
                      case rel => exact ⟨by rw [unhide e]; rfl, unhide hA⟩
                    · have h5 : (kd1 k != 4) = true := by simpa using h4
                      have h6 : (kd1 k == 4) = false := by simpa using h4
                      go_wp2
                      go_meet
                      case rel => exact ⟨by rw [unhide e]; rfl, unhide hA⟩
                  · have h4 := unhide hkk (by rw [e]; rfl)
                    rw [e] at cA h4
                    replace h4 : kd1 k = 4 := h4
                    rw [h4] at cK
                    replace cA : World.cell? _ ⟨A, k, none⟩ = some (Value.pointer (some ⟨bs1 k, 0, none⟩)) := cA
                    replace h2 := hide h2
                    replace e := hide e
                    replace h4 := hide h4
                    go_wp2
                    go_meet
                    case rel => exact ⟨by rw [unhide e]; rfl, unhide hA⟩
                · have h3 : ((hasOf (P2 k) : Int) == 2) = false := by simp; omega
                  replace h2 := hide h2
                  go_wp2
                  go_meet
                  case rel => exact ⟨by rw [isW_has (unhide h2)], unhide hA⟩
              clear cH cK cA hA hkk
              obtain ⟨rfl, hA⟩ := hcut
              have cH := hA.rh.cell (show k < 16 by omega)
              have e1 := hasR_has (P2 k)
              replace hA := hide hA
              have n1 := hide (cnt_next (fun u => isW (P2 u)) k)
              have n2 := hide (cnt_next (fun u => hasR (P2 u)) k)
              obtain ⟨f1, hf1⟩ : ∃ f : Bool, isW (P2 k) = f := ⟨_, rfl⟩
              obtain ⟨f2, hf2⟩ : ∃ f : Bool, hasR (P2 k) = f := ⟨_, rfl⟩
              rw [hf2] at e1
              rw [hf1]
              replace hf1 := hide hf1
              replace hf2 := hide hf2
              rcases f1 <;> rcases f2
              · have dz := hnT
                go_wp2
                go_roundw
                case rel => exact ⟨k + 1, by omega, by rw [unhide n1, ← unhide ha0]; simp only [unhide hf1] <;> first | go_num | simp, by rw [unhide n2, ← unhide hb0]; simp only [unhide hf2] <;> first | go_num | simp, by go_num, unhide hA⟩
                case measure => first | omega | (simp; omega) | (simp [intOf]; omega)
              · have dz := hnT
                go_wp2
                go_roundw
                case rel => exact ⟨k + 1, by omega, by rw [unhide n1, ← unhide ha0]; simp only [unhide hf1] <;> first | go_num | simp, by rw [unhide n2, ← unhide hb0]; simp only [unhide hf2] <;> first | go_num | simp, by go_num, unhide hA⟩
                case measure => first | omega | (simp; omega) | (simp [intOf]; omega)
              · have dz := hnT
                go_wp2
                go_roundw
                case rel => exact ⟨k + 1, by omega, by rw [unhide n1, ← unhide ha0]; simp only [unhide hf1] <;> first | go_num | simp, by rw [unhide n2, ← unhide hb0]; simp only [unhide hf2] <;> first | go_num | simp, by go_num, unhide hA⟩
                case measure => first | omega | (simp; omega) | (simp [intOf]; omega)
              · have dz := hnT
                go_wp2
                go_roundw
                case rel => exact ⟨k + 1, by omega, by rw [unhide n1, ← unhide ha0]; simp only [unhide hf1] <;> first | go_num | simp, by rw [unhide n2, ← unhide hb0]; simp only [unhide hf2] <;> first | go_num | simp, by go_num, unhide hA⟩
                case measure => first | omega | (simp; omega) | (simp [intOf]; omega)
            · have kdT : decide ((k : Int) < (T : Int)) = false := decide_eq_false (by omega)
              obtain ⟨v1, v2⟩ := (unhide hI).fine hT k hk
              rw [← unhide ha0] at v1 v2
              rw [← unhide hb0] at v2
              have kw : a0 = 0 ∨ a0 = 1 := by omega
              replace hA := hide hA
              rcases kw with rfl | rfl
              · have dz := hnT
                clear v1 v2
                go_wp2
                go_roundw
                case rel => exact ⟨j + 1, wish1, P2, own2, m2, bs1, kd1, by omega, rfl, by go_num, by omega, unhide hI, unhide ha, unhide hA⟩
                case measure => first | omega | (simp; omega) | (simp [intOf]; omega)
              · have v0 : b0 = 0 := v2 (by decide)
                subst v0
                clear v1 v2
                go_wp2
                go_roundw
                case rel => exact ⟨j + 1, wish1, P2, own2, m2, bs1, kd1, by omega, rfl, by go_num, by omega, unhide hI, unhide ha, unhide hA⟩
                case measure => first | omega | (simp; omega) | (simp [intOf]; omega)
    · as_aux_lemma =>
      have jd : decide ((j : Int) < (len : Int)) = false := decide_eq_false (by omega)
      obtain ⟨ga, hga⟩ : ∃ ga : Nat → Value, ∀ u, ga u = ptr (P u) (bs u) := ⟨_, fun _ => rfl⟩
      obtain ⟨gk, hgk⟩ : ∃ gk : Nat → Value, ∀ u, gk u = .int .i64 (kd u) := ⟨_, fun _ => rfl⟩
      obtain ⟨gh, hgh⟩ : ∃ gh : Nat → Value, ∀ u, gh u = .int .i64 (hasOf (P u) : Int) := ⟨_, fun _ => rfl⟩
      have ca0 := hA.ra.cell (show 0 < 16 by decide)
      rw [← hga 0] at ca0
      have ca1 := hA.ra.cell (show 1 < 16 by decide)
      rw [← hga 1] at ca1
      have ca2 := hA.ra.cell (show 2 < 16 by decide)
      rw [← hga 2] at ca2
      have ca3 := hA.ra.cell (show 3 < 16 by decide)
      rw [← hga 3] at ca3
      have ca4 := hA.ra.cell (show 4 < 16 by decide)
      rw [← hga 4] at ca4
      have ca5 := hA.ra.cell (show 5 < 16 by decide)
      rw [← hga 5] at ca5
      have ca6 := hA.ra.cell (show 6 < 16 by decide)
      rw [← hga 6] at ca6
      have ca7 := hA.ra.cell (show 7 < 16 by decide)
      rw [← hga 7] at ca7
      have ca8 := hA.ra.cell (show 8 < 16 by decide)
      rw [← hga 8] at ca8
      have ca9 := hA.ra.cell (show 9 < 16 by decide)
      rw [← hga 9] at ca9
      have ca10 := hA.ra.cell (show 10 < 16 by decide)
      rw [← hga 10] at ca10
      have ca11 := hA.ra.cell (show 11 < 16 by decide)
      rw [← hga 11] at ca11
      have ca12 := hA.ra.cell (show 12 < 16 by decide)
      rw [← hga 12] at ca12
      have ca13 := hA.ra.cell (show 13 < 16 by decide)
      rw [← hga 13] at ca13
      have ca14 := hA.ra.cell (show 14 < 16 by decide)
      rw [← hga 14] at ca14
      have ca15 := hA.ra.cell (show 15 < 16 by decide)
      rw [← hga 15] at ca15
      have ck0 := hA.rk.cell (show 0 < 16 by decide)
      rw [← hgk 0] at ck0
      have ck1 := hA.rk.cell (show 1 < 16 by decide)
      rw [← hgk 1] at ck1
      have ck2 := hA.rk.cell (show 2 < 16 by decide)
      rw [← hgk 2] at ck2
      have ck3 := hA.rk.cell (show 3 < 16 by decide)
      rw [← hgk 3] at ck3
      have ck4 := hA.rk.cell (show 4 < 16 by decide)
      rw [← hgk 4] at ck4
      have ck5 := hA.rk.cell (show 5 < 16 by decide)
      rw [← hgk 5] at ck5
      have ck6 := hA.rk.cell (show 6 < 16 by decide)
      rw [← hgk 6] at ck6
      have ck7 := hA.rk.cell (show 7 < 16 by decide)
      rw [← hgk 7] at ck7
      have ck8 := hA.rk.cell (show 8 < 16 by decide)
      rw [← hgk 8] at ck8
      have ck9 := hA.rk.cell (show 9 < 16 by decide)
      rw [← hgk 9] at ck9
      have ck10 := hA.rk.cell (show 10 < 16 by decide)
      rw [← hgk 10] at ck10
      have ck11 := hA.rk.cell (show 11 < 16 by decide)
      rw [← hgk 11] at ck11
      have ck12 := hA.rk.cell (show 12 < 16 by decide)
      rw [← hgk 12] at ck12
      have ck13 := hA.rk.cell (show 13 < 16 by decide)
      rw [← hgk 13] at ck13
      have ck14 := hA.rk.cell (show 14 < 16 by decide)
      rw [← hgk 14] at ck14
      have ck15 := hA.rk.cell (show 15 < 16 by decide)
      rw [← hgk 15] at ck15
      have ch0 := hA.rh.cell (show 0 < 16 by decide)
      rw [← hgh 0] at ch0
      have ch1 := hA.rh.cell (show 1 < 16 by decide)
      rw [← hgh 1] at ch1
      have ch2 := hA.rh.cell (show 2 < 16 by decide)
      rw [← hgh 2] at ch2
      have ch3 := hA.rh.cell (show 3 < 16 by decide)
      rw [← hgh 3] at ch3
      have ch4 := hA.rh.cell (show 4 < 16 by decide)
      rw [← hgh 4] at ch4
      have ch5 := hA.rh.cell (show 5 < 16 by decide)
      rw [← hgh 5] at ch5
      have ch6 := hA.rh.cell (show 6 < 16 by decide)
      rw [← hgh 6] at ch6
      have ch7 := hA.rh.cell (show 7 < 16 by decide)
      rw [← hgh 7] at ch7
      have ch8 := hA.rh.cell (show 8 < 16 by decide)
      rw [← hgh 8] at ch8
      have ch9 := hA.rh.cell (show 9 < 16 by decide)
      rw [← hgh 9] at ch9
      have ch10 := hA.rh.cell (show 10 < 16 by decide)
      rw [← hgh 10] at ch10
      have ch11 := hA.rh.cell (show 11 < 16 by decide)
      rw [← hgh 11] at ch11
      have ch12 := hA.rh.cell (show 12 < 16 by decide)
      rw [← hgh 12] at ch12
      have ch13 := hA.rh.cell (show 13 < 16 by decide)
      rw [← hgh 13] at ch13
      have ch14 := hA.rh.cell (show 14 < 16 by decide)
      rw [← hgh 14] at ch14
      have ch15 := hA.rh.cell (show 15 < 16 by decide)
      rw [← hgh 15] at ch15
      obtain ⟨x0, x1, x2, x3, x4, x5, x6, x7, x8, x9, x10, x11⟩ := hA.env.x.cells
      have kE := ends_any w c B cb r A (A + 1) (A + 1 + 1) sl T P own m bs kd ga gk gh _ hA hga hgk hgh hI ha hT (unhide hcT) (unhide hl1) hn
      unfold cv at kE
      replace hI := hide hI
      replace ha := hide ha
      replace hA := hide hA
      replace hga := hide hga
      replace hgk := hide hgk
      replace hgh := hide hgh
      go_wp2_with fail
      with_reducible refine Calls.mono kE ?_
      rintro e w8 ⟨rfl, hb8⟩
      clear kE
      go_wp2_with fail
      refine (first_any _).mono ?_
      rintro e w9 ⟨rfl, hb9⟩
      go_wp2
      go_ret
      exact ⟨rfl, below_then hb8 hb9⟩
end Go.Proofs.Ytlhmpkeljagihaa
