/- step of a machine. -/
import Derived.Test.YtdhfpfkcbcgnaaaAct
import Derived.Test.YtdhfpfkcbcgnaaaReck
import Derived.Deep.RegionHeld3
namespace Go.Proofs.Ytdhfpfkcbcgnaaa
open Go.RowKit

/-- One instruction, which is no Retry and no Abort: the state behind it, and which one is next. -/
def stepD (c : Cf) (x : In) (i : Nat) (s : St) : St × Nat :=
  if x.k = 1 then ({ readD s (addrD c x s.r).toNat with r := s.r.set x.a.toNat (s.h.getD (addrD c x s.r).toNat 0) }, i + 1) else
  if x.k = 2 then (writeD s (addrD c x s.r).toNat (s.r.getD x.a.toNat 0), i + 1) else
  if x.k = 3 then ({ s with r := s.r.set x.a.toNat x.b }, i + 1) else
  if x.k = 4 then ({ s with r := s.r.set x.a.toNat (Calc.evalL x.b (regsD s.r x.l)).1 }, i + 1) else
  if x.k = 5 then (if s.r.getD x.a.toNat 0 = 0 then (s, i + 1) else (s, x.b.toNat)) else (s, i + 1)
theorem addr_in {c : Cf} (h : okB c = true) (x : In) (rs : List Int) : 0 ≤ addrD c x rs ∧ addrD c x rs < wordsD c := by
  have h1 : 1 ≤ wordsD c := by unfold wordsD; rw [h, if_pos rfl]; exact (nw_in (okB_hp h)).1
  unfold addrD
  split
  · exact wrapD_in h1
  · split
    · exact wrapD_in h1
    · omega
/-- The facts on a state that hold all along. -/
structure Wf (c : Cf) (s : St) : Prop where
  ok : okB c = true
  h : (s.h.length : Int) = wordsD c
  r : (s.r.length : Int) = c.g
theorem Wf.reg {c : Cf} {s : St} (h : Wf c s) (i : Nat) (x : Int) : Wf c { s with r := s.r.set i x } := ⟨h.ok, h.h, by show (((s.r.set i x).length : Nat) : Int) = _; rw [List.length_set]; exact h.r⟩
theorem Wf.step {c : Cf} {s : St} (h : Wf c s) (x : In) (i : Nat) : Wf c (stepD c x i s).1 := by
  unfold stepD
  split
  · exact ⟨h.ok, h.h, by show (((s.r.set _ _).length : Nat) : Int) = _; rw [List.length_set]; exact h.r⟩
  · split
    · exact ⟨h.ok, by show (((s.h.set _ _).length : Nat) : Int) = _; rw [List.length_set]; exact h.h, h.r⟩
    · split
      · exact h.reg _ _
      · split
        · exact h.reg _ _
        · split
          · split <;> exact h
          · exact h
/-- What step answers. -/
def Stepped (B : Nat) (c : Cf) (x : In) (i : Nat) (s : St) (b gh gr ch : Nat) (e : Int) (w : World) (r : Ending) (w' : World) : Prop :=
  ∃ dv' wv', r = .returned (.int .i64 ((stepD c x i s).2 : Nat)) ∧ Ma B c (stepD c x i s).1 b gh gr ch e dv' wv' w' ∧ Below B w w' ∧ Stay w w'

set_option maxRecDepth 100000 in
set_option maxHeartbeats 2000000 in
theorem step_read {B : Nat} {c : Cf} {s : St} {b gh gr ch : Nat} {e : Int} {dv wv : Value} {w : World} (h : Ma B c s b gh gr ch e dv wv w) (hw : Wf c s) (a b' d : Int) (l : List Int) (va : Option Addr) (vl vc : Nat) (i n : Nat) (hv : Ls w.heap.size w (.slice va vl vc) l) (hst : stB c.g ⟨1, a, b', d, l⟩ i n = true) (hd : s.rd.length ≤ 100) (_hwr : s.wr.length ≤ 100) (hi : i ≤ 100) :
    Calls Try.prog 32 #[.pointer (some ⟨b, 0, none⟩), iv ⟨1, a, b', d, l⟩ (.slice va vl vc), .int .i64 i] w (Stepped B c ⟨1, a, b', d, l⟩ i s b gh gr ch e w) := by
  have hwi : wiB c.g [a] = true := by
    unfold stB at hst
    simp at hst; exact hst.2.1
  rw [wi_one] at hwi
  simp only [Bool.and_eq_true, decide_eq_true_eq] at hwi
  obtain ⟨ja, rfl⟩ := Int.eq_ofNat_of_zero_le hwi.1
  have hja : ja < s.r.length := by have := hw.r; omega
  have hja2 : (ja : Int) < (s.r.length : Int) := by omega
  clear hwi
  have hx := ix_new ⟨1, (ja : Int), b', d, l⟩ (.slice va vl vc) w
  have b1 := below_new w (.cells #[.int .i64 1, .int .i64 (ja : Int), .int .i64 b', .int .i64 d, .slice va vl vc] 44)
  have h1 := h.next b1
  have hv1 := hv.next b1
  have low := h.low
  obtain ⟨m, hm⟩ : ∃ m, s.r.length = m := ⟨_, rfl⟩
  have m14 := h1.blk.c14
  rw [hm] at m14
  have lN : w.heap.size < (w.alloc (.cells #[.int .i64 1, .int .i64 (ja : Int), .int .i64 b', .int .i64 d, .slice va vl vc] 44)).heap.size := hx.lt
  obtain ⟨ia, hia⟩ := Int.eq_ofNat_of_zero_le (addr_in hw.ok ⟨1, (ja : Int), b', d, l⟩ s.r).1
  have hia2 : ia < s.h.length := by have := (addr_in hw.ok ⟨1, (ja : Int), b', d, l⟩ s.r).2; have := hw.h; omega
  have eS : Hid (stepD c ⟨1, (ja : Int), b', d, l⟩ i s = ({ readD s ia with r := s.r.set ja (s.h.getD ia 0) }, i + 1)) := hide (by unfold stepD; rw [if_pos rfl, hia, Int.toNat_natCast, Int.toNat_natCast])
  have kA := addr_any c ⟨1, (ja : Int), b', d, l⟩ va vl vc (.slice (some ⟨gr, 0, none⟩) m m) s.r (w.alloc (.cells #[.int .i64 1, .int .i64 (ja : Int), .int .i64 b', .int .i64 d, .slice va vl vc] 44)).drew (by rw [← hm]; exact h1.drew.rg.ls (Nat.le_refl _) (by have := h1.rm; unfold maxLen; omega))
  unfold cv iv at kA
  rw [hia] at kA
  obtain ⟨z0, z1, z2, z3, z4, z5, z6, z7, z8, z9, z10, z11⟩ := h1.drew.blk.conf
  obtain ⟨u0, u1, u2, u3, u4⟩ := hx.cells
  have H1 := hide h1
  have X1 := hide hx
  rw [hm] at hja2
  have hjm : (ja : Int) < (m : Int) := hja2
  obtain ⟨v, hvv⟩ : ∃ v, s.h.getD ia 0 = v := ⟨_, rfl⟩
  replace hvv := hide hvv
  replace hm := hide hm
  replace hia := hide hia
  replace b1 := hide b1
  clear h hx h1 hv hv1 hst _hwr
  unfold iv
  go_enter Try.func32, Try.ntmps32
  go_wp2_with fail
  go_region_held3 (fun wz => wz.cell? ⟨b, 0, none⟩ = some (.int .i64 c.r) ∧ wz.cell? ⟨b, 1, none⟩ = some (.int .i64 c.o) ∧ wz.cell? ⟨b, 2, none⟩ = some (.int .i64 c.s) ∧ wz.cell? ⟨b, 3, none⟩ = some (.int .i64 c.d) ∧ wz.cell? ⟨b, 4, none⟩ = some (.int .i64 c.t) ∧ wz.cell? ⟨b, 5, none⟩ = some (.int .i64 c.l) ∧ wz.cell? ⟨b, 6, none⟩ = some (.int .i64 c.g) ∧ wz.cell? ⟨b, 7, none⟩ = some (.int .i64 c.k) ∧ wz.cell? ⟨b, 8, none⟩ = some (.int .i64 c.u) ∧ wz.cell? ⟨b, 9, none⟩ = some (.int .i64 c.e) ∧ wz.cell? ⟨b, 10, none⟩ = some (.int .i64 c.i) ∧ wz.cell? ⟨b, 11, none⟩ = some (.int .i64 c.p) ∧ wz.cell? ⟨w.heap.size, 0, none⟩ = some (.int .i64 1) ∧ wz.cell? ⟨w.heap.size, 1, none⟩ = some (.int .i64 (ja : Int)) ∧ wz.cell? ⟨w.heap.size, 2, none⟩ = some (.int .i64 b') ∧ wz.cell? ⟨w.heap.size, 3, none⟩ = some (.int .i64 d) ∧ wz.cell? ⟨w.heap.size, 4, none⟩ = some (.slice va vl vc)) (first | exact ⟨z0, z1, z2, z3, z4, z5, z6, z7, z8, z9, z10, z11, u0, u1, u2, u3, u4⟩ | exact ⟨p0, p1, p2, p3, p4, p5, p6, p7, p8, p9, p10, p11, r0, r1, r2, r3, r4⟩ | exact ⟨q0, q1, q2, q3, q4, q5, q6, q7, q8, q9, q10, q11, s0, s1, s2, s3, s4⟩ | exact ⟨k0, k1, k2, k3, k4, k5, k6, k7, k8, k9, k10, k11, l0, l1, l2, l3, l4⟩)
    (first
      | (go_at_call 46; (with_reducible refine Calls.mono kA ?_); rintro e1 w1 ⟨rfl, hb1⟩; have h2 := (unhide H1).drew.next hb1; have x2 := (unhide X1).drew.next hb1; obtain ⟨p0, p1, p2, p3, p4, p5, p6, p7, p8, p9, p10, p11⟩ := h2.blk.conf; obtain ⟨r0, r1, r2, r3, r4⟩ := x2.cells; have kR := read_any h2 ia hia2 hd; rw [unhide hvv] at kR; have X2 := hide x2; have B2 := hide (below_then (unhide b1).drew hb1); clear x2 hb1 h2)
      | (go_at_call 45; (with_reducible refine Calls.mono kR ?_); rintro e1 w2 ⟨dv2, rfl, h3, b3, t3⟩; have x3 : Ix ⟨1, (ja : Int), b', d, l⟩ (.slice va vl vc) w.heap.size w2 := (t3 _ _ 44 _ (.inl rfl) (unhide X2)).trans (unhide X2); obtain ⟨q0, q1, q2, q3, q4, q5, q6, q7, q8, q9, q10, q11⟩ := h3.blk.conf; obtain ⟨s0, s1, s2, s3, s4⟩ := x3.cells; have rc := h3.rg.cell (i := ja) hja; have rf := h3.rg.free ja; have h4 := h3.setReg (i := ja) hja v; obtain ⟨k0, k1, k2, k3, k4, k5, k6, k7, k8, k9, k10, k11⟩ := h4.blk.conf; have x4 : Ix ⟨1, (ja : Int), b', d, l⟩ (.slice va vl vc) w.heap.size (w2.setCell ⟨gr, ja, none⟩ (.int .i64 v)) := (set_other _ _ _ _ _ (fun e => rb44 h3.rg _ 44 _ (.inl rfl) (by rw [← e]; exact x3))).trans x3; obtain ⟨l0, l1, l2, l3, l4⟩ := x4.cells; have B4 := hide ((((unhide B2).mono low).trans b3).setCell (p := ⟨gr, ja, none⟩) h3.rB (.int .i64 v)); have T4 := hide (((stay_below (unhide B2)).trans t3).set (i := ja) (v := .int .i64 v) (rb44 h3.rg)); replace h4 := hide h4; clear h3 b3 t3 x3 x4))
  go_wp2
  go_ret
  refine ⟨dv2, wv, ?_, ?_, unhide B4, unhide T4⟩
  · rw [unhide eS]
    exact ret_int (by first | rfl | (simp; done) | omega)
  · rw [unhide eS, unhide hvv]
    exact unhide h4
set_option maxRecDepth 100000 in
set_option maxHeartbeats 2000000 in
theorem step_write {B : Nat} {c : Cf} {s : St} {b gh gr ch : Nat} {e : Int} {dv wv : Value} {w : World} (h : Ma B c s b gh gr ch e dv wv w) (hw : Wf c s) (a b' d : Int) (l : List Int) (va : Option Addr) (vl vc : Nat) (i n : Nat) (hv : Ls w.heap.size w (.slice va vl vc) l) (hst : stB c.g ⟨2, a, b', d, l⟩ i n = true) (_hd : s.rd.length ≤ 100) (hwr : s.wr.length ≤ 100) (hi : i ≤ 100) :
    Calls Try.prog 32 #[.pointer (some ⟨b, 0, none⟩), iv ⟨2, a, b', d, l⟩ (.slice va vl vc), .int .i64 i] w (Stepped B c ⟨2, a, b', d, l⟩ i s b gh gr ch e w) := by
  have hwi : wiB c.g [a] = true := by
    unfold stB at hst
    simp at hst; exact hst.2.1
  rw [wi_one] at hwi
  simp only [Bool.and_eq_true, decide_eq_true_eq] at hwi
  obtain ⟨ja, rfl⟩ := Int.eq_ofNat_of_zero_le hwi.1
  have hja : ja < s.r.length := by have := hw.r; omega
  have hja2 : (ja : Int) < (s.r.length : Int) := by omega
  clear hwi
  have hx := ix_new ⟨2, (ja : Int), b', d, l⟩ (.slice va vl vc) w
  have b1 := below_new w (.cells #[.int .i64 2, .int .i64 (ja : Int), .int .i64 b', .int .i64 d, .slice va vl vc] 44)
  have h1 := h.next b1
  have hv1 := hv.next b1
  have low := h.low
  obtain ⟨m, hm⟩ : ∃ m, s.r.length = m := ⟨_, rfl⟩
  have m14 := h1.blk.c14
  rw [hm] at m14
  have lN : w.heap.size < (w.alloc (.cells #[.int .i64 2, .int .i64 (ja : Int), .int .i64 b', .int .i64 d, .slice va vl vc] 44)).heap.size := hx.lt
  obtain ⟨ia, hia⟩ := Int.eq_ofNat_of_zero_le (addr_in hw.ok ⟨2, (ja : Int), b', d, l⟩ s.r).1
  have hia2 : ia < s.h.length := by have := (addr_in hw.ok ⟨2, (ja : Int), b', d, l⟩ s.r).2; have := hw.h; omega
  have eS : Hid (stepD c ⟨2, (ja : Int), b', d, l⟩ i s = (writeD s ia (s.r.getD ja 0), i + 1)) := hide (by unfold stepD; rw [if_neg (show ¬ ((2 : Int) = 1) by decide), if_pos rfl, hia, Int.toNat_natCast, Int.toNat_natCast])
  have kA := addr_any c ⟨2, (ja : Int), b', d, l⟩ va vl vc (.slice (some ⟨gr, 0, none⟩) m m) s.r (w.alloc (.cells #[.int .i64 2, .int .i64 (ja : Int), .int .i64 b', .int .i64 d, .slice va vl vc] 44)).drew (by rw [← hm]; exact h1.drew.rg.ls (Nat.le_refl _) (by have := h1.rm; unfold maxLen; omega))
  unfold cv iv at kA
  rw [hia] at kA
  obtain ⟨z0, z1, z2, z3, z4, z5, z6, z7, z8, z9, z10, z11⟩ := h1.drew.blk.conf
  obtain ⟨u0, u1, u2, u3, u4⟩ := hx.cells
  have z12 := h1.drew.rg.cell hja
  obtain ⟨y, hyy⟩ : ∃ y, s.r.getD ja 0 = y := ⟨_, rfl⟩
  rw [hyy] at z12
  have H1 := hide h1
  have X1 := hide hx
  rw [hm] at hja2
  have hjm : (ja : Int) < (m : Int) := hja2
  replace hyy := hide hyy
  replace hm := hide hm
  replace hia := hide hia
  replace b1 := hide b1
  clear h hx h1 hv hv1 hst _hd
  unfold iv
  go_enter Try.func32, Try.ntmps32
  go_wp2_with fail
  go_region_held3 (fun wz => wz.cell? ⟨b, 0, none⟩ = some (.int .i64 c.r) ∧ wz.cell? ⟨b, 1, none⟩ = some (.int .i64 c.o) ∧ wz.cell? ⟨b, 2, none⟩ = some (.int .i64 c.s) ∧ wz.cell? ⟨b, 3, none⟩ = some (.int .i64 c.d) ∧ wz.cell? ⟨b, 4, none⟩ = some (.int .i64 c.t) ∧ wz.cell? ⟨b, 5, none⟩ = some (.int .i64 c.l) ∧ wz.cell? ⟨b, 6, none⟩ = some (.int .i64 c.g) ∧ wz.cell? ⟨b, 7, none⟩ = some (.int .i64 c.k) ∧ wz.cell? ⟨b, 8, none⟩ = some (.int .i64 c.u) ∧ wz.cell? ⟨b, 9, none⟩ = some (.int .i64 c.e) ∧ wz.cell? ⟨b, 10, none⟩ = some (.int .i64 c.i) ∧ wz.cell? ⟨b, 11, none⟩ = some (.int .i64 c.p) ∧ wz.cell? ⟨w.heap.size, 0, none⟩ = some (.int .i64 2) ∧ wz.cell? ⟨w.heap.size, 1, none⟩ = some (.int .i64 (ja : Int)) ∧ wz.cell? ⟨w.heap.size, 2, none⟩ = some (.int .i64 b') ∧ wz.cell? ⟨w.heap.size, 3, none⟩ = some (.int .i64 d) ∧ wz.cell? ⟨w.heap.size, 4, none⟩ = some (.slice va vl vc) ∧ wz.cell? ⟨gr, ja, none⟩ = some (.int .i64 y)) (first | exact ⟨z0, z1, z2, z3, z4, z5, z6, z7, z8, z9, z10, z11, u0, u1, u2, u3, u4, z12⟩ | exact ⟨p0, p1, p2, p3, p4, p5, p6, p7, p8, p9, p10, p11, r0, r1, r2, r3, r4, p12⟩ | exact ⟨q0, q1, q2, q3, q4, q5, q6, q7, q8, q9, q10, q11, s0, s1, s2, s3, s4, q12⟩)
    (first
      | (go_at_call 46; (with_reducible refine Calls.mono kA ?_); rintro e1 w1 ⟨rfl, hb1⟩; have h2 := (unhide H1).drew.next hb1; have x2 := (unhide X1).drew.next hb1; obtain ⟨p0, p1, p2, p3, p4, p5, p6, p7, p8, p9, p10, p11⟩ := h2.blk.conf; obtain ⟨r0, r1, r2, r3, r4⟩ := x2.cells; have p12 := h2.rg.cell (i := ja) hja; rw [unhide hyy] at p12; have kR := write_any h2 ia hia2 y hwr; have X2 := hide x2; have B2 := hide (below_then (unhide b1).drew hb1); clear x2 hb1 h2)
      | (go_at_call 47; (with_reducible refine Calls.mono kR ?_); rintro e1 w2 ⟨wv2, rfl, h3, b3, t3⟩; have x3 : Ix ⟨2, (ja : Int), b', d, l⟩ (.slice va vl vc) w.heap.size w2 := (t3 _ _ 44 _ (.inl rfl) (unhide X2)).trans (unhide X2); obtain ⟨q0, q1, q2, q3, q4, q5, q6, q7, q8, q9, q10, q11⟩ := h3.blk.conf; obtain ⟨s0, s1, s2, s3, s4⟩ := x3.cells; have q12 := h3.rg.cell (i := ja) hja; replace q12 := q12.trans (congrArg (fun q => some (Value.int .i64 q)) (unhide hyy)); have B4 := hide (((unhide B2).mono low).trans b3); have T4 := hide ((stay_below (unhide B2)).trans t3); replace h3 := hide h3; clear b3 t3 x3))
  go_wp2
  go_ret
  refine ⟨dv, wv2, ?_, ?_, unhide B4, unhide T4⟩
  · rw [unhide eS]
    exact ret_int (by first | rfl | (simp; done) | omega)
  · rw [unhide eS, unhide hyy]
    exact unhide h3
set_option maxRecDepth 100000 in
set_option maxHeartbeats 2000000 in
theorem step_const {B : Nat} {c : Cf} {s : St} {b gh gr ch : Nat} {e : Int} {dv wv : Value} {w : World} (h : Ma B c s b gh gr ch e dv wv w) (hw : Wf c s) (a b' d : Int) (l : List Int) (va : Option Addr) (vl vc : Nat) (i n : Nat) (hv : Ls w.heap.size w (.slice va vl vc) l) (hst : stB c.g ⟨3, a, b', d, l⟩ i n = true) (_hd : s.rd.length ≤ 100) (_hwr : s.wr.length ≤ 100) (hi : i ≤ 100) :
    Calls Try.prog 32 #[.pointer (some ⟨b, 0, none⟩), iv ⟨3, a, b', d, l⟩ (.slice va vl vc), .int .i64 i] w (Stepped B c ⟨3, a, b', d, l⟩ i s b gh gr ch e w) := by
  have hwi : wiB c.g [a] = true := by
    unfold stB at hst
    simp at hst; exact hst.2
  rw [wi_one] at hwi
  simp only [Bool.and_eq_true, decide_eq_true_eq] at hwi
  obtain ⟨ja, rfl⟩ := Int.eq_ofNat_of_zero_le hwi.1
  have hja : ja < s.r.length := by have := hw.r; omega
  have hja2 : (ja : Int) < (s.r.length : Int) := by omega
  clear hwi
  have hx := ix_new ⟨3, (ja : Int), b', d, l⟩ (.slice va vl vc) w
  have b1 := below_new w (.cells #[.int .i64 3, .int .i64 (ja : Int), .int .i64 b', .int .i64 d, .slice va vl vc] 44)
  have h1 := h.next b1
  have hv1 := hv.next b1
  have low := h.low
  obtain ⟨m, hm⟩ : ∃ m, s.r.length = m := ⟨_, rfl⟩
  have m14 := h1.blk.c14
  rw [hm] at m14
  have lN : w.heap.size < (w.alloc (.cells #[.int .i64 3, .int .i64 (ja : Int), .int .i64 b', .int .i64 d, .slice va vl vc] 44)).heap.size := hx.lt
  have eS : Hid (stepD c ⟨3, (ja : Int), b', d, l⟩ i s = ({ s with r := s.r.set ja b' }, i + 1)) := hide (by unfold stepD; rw [if_neg (show ¬ ((3 : Int) = 1) by decide), if_neg (show ¬ ((3 : Int) = 2) by decide), if_pos rfl, Int.toNat_natCast])
  obtain ⟨u0, u1, u2, u3, u4⟩ := hx.cells
  have rc := h1.rg.cell hja
  have rf := h1.rg.free ja
  have h4 := hide (h1.setReg hja b')
  have B4 := hide ((b1.mono low).setCell (p := ⟨gr, ja, none⟩) h1.rB (.int .i64 b'))
  have T4 := hide ((stay_below b1).set (i := ja) (v := .int .i64 b') (rb44 h1.rg))
  rw [hm] at hja2
  have hjm : (ja : Int) < (m : Int) := hja2
  replace hm := hide hm
  clear h hx h1 hv hv1 hst _hd _hwr b1
  unfold iv
  go_enter Try.func32, Try.ntmps32
  go_wp2
  go_ret
  refine ⟨dv, wv, ?_, ?_, unhide B4, unhide T4⟩
  · rw [unhide eS]
    exact ret_int (by first | rfl | (simp; done) | omega)
  · rw [unhide eS]
    exact unhide h4
set_option maxRecDepth 100000 in
set_option maxHeartbeats 2000000 in
theorem step_calc {B : Nat} {c : Cf} {s : St} {b gh gr ch : Nat} {e : Int} {dv wv : Value} {w : World} (h : Ma B c s b gh gr ch e dv wv w) (hw : Wf c s) (a b' d : Int) (l : List Int) (va : Option Addr) (vl vc : Nat) (i n : Nat) (hv : Ls w.heap.size w (.slice va vl vc) l) (hst : stB c.g ⟨4, a, b', d, l⟩ i n = true) (_hd : s.rd.length ≤ 100) (_hwr : s.wr.length ≤ 100) (hi : i ≤ 100) :
    Calls Try.prog 32 #[.pointer (some ⟨b, 0, none⟩), iv ⟨4, a, b', d, l⟩ (.slice va vl vc), .int .i64 i] w (Stepped B c ⟨4, a, b', d, l⟩ i s b gh gr ch e w) := by
  have hre : reB c.g ⟨4, a, b', d, l⟩ = true := by
    unfold stB at hst
    simpa using hst
  unfold reB at hre
  simp only [Bool.and_eq_true, decide_eq_true_eq] at hre
  obtain ⟨hwi, _, _, hl8, hall⟩ := hre
  rw [wi_one] at hwi
  simp only [Bool.and_eq_true, decide_eq_true_eq] at hwi
  obtain ⟨ja, rfl⟩ := Int.eq_ofNat_of_zero_le hwi.1
  have hja : ja < s.r.length := by have := hw.r; omega
  have hja2 : (ja : Int) < (s.r.length : Int) := by omega
  have hin : ∀ x ∈ l, 0 ≤ x ∧ x < (s.r.length : Int) := by
    intro x hx
    unfold wiB at hall
    have := List.all_eq_true.1 hall x hx
    simp only [Bool.and_eq_true, decide_eq_true_eq] at this
    rw [hw.r]; exact this
  clear hwi hall
  have hx := ix_new ⟨4, (ja : Int), b', d, l⟩ (.slice va vl vc) w
  have b1 := below_new w (.cells #[.int .i64 4, .int .i64 (ja : Int), .int .i64 b', .int .i64 d, .slice va vl vc] 44)
  have h1 := h.next b1
  have hv1 := hv.next b1
  have low := h.low
  obtain ⟨m, hm⟩ : ∃ m, s.r.length = m := ⟨_, rfl⟩
  have m14 := h1.blk.c14
  rw [hm] at m14
  have lN : w.heap.size < (w.alloc (.cells #[.int .i64 4, .int .i64 (ja : Int), .int .i64 b', .int .i64 d, .slice va vl vc] 44)).heap.size := hx.lt
  have eS : Hid (stepD c ⟨4, (ja : Int), b', d, l⟩ i s = ({ s with r := s.r.set ja (Calc.evalL b' (regsD s.r l)).1 }, i + 1)) := hide (by unfold stepD; rw [if_neg (show ¬ ((4 : Int) = 1) by decide), if_neg (show ¬ ((4 : Int) = 2) by decide), if_neg (show ¬ ((4 : Int) = 3) by decide), if_pos rfl, Int.toNat_natCast])
  have kA := reckon_any h1.drew b' (.slice va vl vc) l (hv1.next (Below.refl _ _).drew) hl8 hin
  obtain ⟨v, hvv⟩ : ∃ v, (Calc.evalL b' (regsD s.r l)).1 = v := ⟨_, rfl⟩
  rw [hvv] at kA
  replace hvv := hide hvv
  obtain ⟨u0, u1, u2, u3, u4⟩ := hx.cells
  have H1 := hide h1
  have X1 := hide hx
  rw [hm] at hja2
  have hjm : (ja : Int) < (m : Int) := hja2
  replace hm := hide hm
  replace b1 := hide b1
  replace hin := hide hin
  clear h hx h1 hv hv1 hst _hd _hwr hl8
  unfold iv
  go_enter Try.func32, Try.ntmps32
  go_wp2_with fail
  go_region_held3 (fun wz => wz.cell? ⟨w.heap.size, 0, none⟩ = some (.int .i64 4) ∧ wz.cell? ⟨w.heap.size, 1, none⟩ = some (.int .i64 (ja : Int)) ∧ wz.cell? ⟨w.heap.size, 2, none⟩ = some (.int .i64 b') ∧ wz.cell? ⟨w.heap.size, 3, none⟩ = some (.int .i64 d) ∧ wz.cell? ⟨w.heap.size, 4, none⟩ = some (.slice va vl vc)) (first | exact ⟨u0, u1, u2, u3, u4⟩ | exact ⟨r0, r1, r2, r3, r4⟩ | exact ⟨l0, l1, l2, l3, l4⟩)
    (first
      | (go_at_call 48; (with_reducible refine Calls.mono kA ?_); rintro e1 w2 ⟨rfl, hb1⟩; have h3 := (unhide H1).drew.next hb1; have x3 := (unhide X1).drew.next hb1; obtain ⟨r0, r1, r2, r3, r4⟩ := x3.cells; have rc := h3.rg.cell (i := ja) hja; have rf := h3.rg.free ja; have h4 := h3.setReg (i := ja) hja v; have x4 : Ix ⟨4, (ja : Int), b', d, l⟩ (.slice va vl vc) w.heap.size (w2.setCell ⟨gr, ja, none⟩ (.int .i64 v)) := (set_other _ _ _ _ _ (fun e => rb44 h3.rg _ 44 _ (.inl rfl) (by rw [← e]; exact x3))).trans x3; obtain ⟨l0, l1, l2, l3, l4⟩ := x4.cells; have B4 := hide ((((below_then (unhide b1).drew hb1).mono low)).setCell (p := ⟨gr, ja, none⟩) h3.rB (.int .i64 v)); have T4 := hide ((stay_below (below_then (unhide b1).drew hb1)).set (i := ja) (v := .int .i64 v) (rb44 h3.rg)); replace h4 := hide h4; clear h3 x3 x4 hb1))
  go_wp2
  go_ret
  refine ⟨dv, wv, ?_, ?_, unhide B4, unhide T4⟩
  · rw [unhide eS]
    exact ret_int (by first | rfl | (simp; done) | omega)
  · rw [unhide eS, unhide hvv]
    exact unhide h4
set_option maxRecDepth 100000 in
set_option maxHeartbeats 2000000 in
theorem step_jump {B : Nat} {c : Cf} {s : St} {b gh gr ch : Nat} {e : Int} {dv wv : Value} {w : World} (h : Ma B c s b gh gr ch e dv wv w) (hw : Wf c s) (a b' d : Int) (l : List Int) (va : Option Addr) (vl vc : Nat) (i n : Nat) (hv : Ls w.heap.size w (.slice va vl vc) l) (hst : stB c.g ⟨5, a, b', d, l⟩ i n = true) (_hd : s.rd.length ≤ 100) (_hwr : s.wr.length ≤ 100) (hi : i ≤ 100) :
    Calls Try.prog 32 #[.pointer (some ⟨b, 0, none⟩), iv ⟨5, a, b', d, l⟩ (.slice va vl vc), .int .i64 i] w (Stepped B c ⟨5, a, b', d, l⟩ i s b gh gr ch e w) := by
  have hwi : wiB c.g [a] = true ∧ (i : Int) < b' ∧ b' ≤ (n : Int) := by
    unfold stB at hst
    simp at hst; exact hst.2
  obtain ⟨hwi, hib, _⟩ := hwi
  rw [wi_one] at hwi
  simp only [Bool.and_eq_true, decide_eq_true_eq] at hwi
  obtain ⟨ja, rfl⟩ := Int.eq_ofNat_of_zero_le hwi.1
  have hja : ja < s.r.length := by have := hw.r; omega
  have hja2 : (ja : Int) < (s.r.length : Int) := by omega
  clear hwi
  have hx := ix_new ⟨5, (ja : Int), b', d, l⟩ (.slice va vl vc) w
  have b1 := below_new w (.cells #[.int .i64 5, .int .i64 (ja : Int), .int .i64 b', .int .i64 d, .slice va vl vc] 44)
  have h1 := h.next b1
  have hv1 := hv.next b1
  have low := h.low
  obtain ⟨m, hm⟩ : ∃ m, s.r.length = m := ⟨_, rfl⟩
  have m14 := h1.blk.c14
  rw [hm] at m14
  have lN : w.heap.size < (w.alloc (.cells #[.int .i64 5, .int .i64 (ja : Int), .int .i64 b', .int .i64 d, .slice va vl vc] 44)).heap.size := hx.lt
  obtain ⟨u0, u1, u2, u3, u4⟩ := hx.cells
  have rc := h1.rg.cell hja
  obtain ⟨y, hyy⟩ : ∃ y, s.r.getD ja 0 = y := ⟨_, rfl⟩
  rw [hyy] at rc
  have eS : Hid (stepD c ⟨5, (ja : Int), b', d, l⟩ i s = if y = 0 then (s, i + 1) else (s, b'.toNat)) := hide (by unfold stepD; rw [if_neg (show ¬ ((5 : Int) = 1) by decide), if_neg (show ¬ ((5 : Int) = 2) by decide), if_neg (show ¬ ((5 : Int) = 3) by decide), if_neg (show ¬ ((5 : Int) = 4) by decide), if_pos rfl, Int.toNat_natCast, hyy])
  have h4 := hide h1
  have B4 := hide (b1.mono low)
  have T4 := hide (stay_below b1)
  rw [hm] at hja2
  have hjm : (ja : Int) < (m : Int) := hja2
  replace hm := hide hm
  replace hyy := hide hyy
  replace hib := hide hib
  clear h hx h1 hv hv1 hst _hd _hwr b1
  unfold iv
  by_cases y0 : y = 0
  · subst y0
    have e2 : Hid (stepD c ⟨5, (ja : Int), b', d, l⟩ i s = (s, i + 1)) := hide (by rw [unhide eS, if_pos rfl])
    clear eS
    go_enter Try.func32, Try.ntmps32
    go_wp2
    go_ret
    refine ⟨dv, wv, ?_, ?_, unhide B4, unhide T4⟩
    · rw [unhide e2]
      exact ret_int (by first | rfl | (simp; done) | omega)
    · rw [unhide e2]
      exact unhide h4
  · have yb : (y == 0) = false := by simpa using y0
    have e2 : Hid (stepD c ⟨5, (ja : Int), b', d, l⟩ i s = (s, b'.toNat)) := hide (by rw [unhide eS, if_neg y0])
    clear eS
    go_enter Try.func32, Try.ntmps32
    go_wp2
    go_ret
    refine ⟨dv, wv, ?_, ?_, unhide B4, unhide T4⟩
    · rw [unhide e2]
      exact ret_int (by have := unhide hib; show b' = ((b'.toNat : Nat) : Int); omega)
    · rw [unhide e2]
      exact unhide h4
theorem step_any {B : Nat} {c : Cf} {s : St} {b gh gr ch : Nat} {e : Int} {dv wv : Value} {w : World} (h : Ma B c s b gh gr ch e dv wv w) (hw : Wf c s) (x : In) (va : Option Addr) (vl vc : Nat) (i n : Nat) (hv : Ls w.heap.size w (.slice va vl vc) x.l) (hst : stB c.g x i n = true) (h6 : x.k ≠ 6) (h7 : x.k ≠ 7) (hd : s.rd.length ≤ 100) (hwr : s.wr.length ≤ 100) (hi : i ≤ 100) :
    Calls Try.prog 32 #[.pointer (some ⟨b, 0, none⟩), iv x (.slice va vl vc), .int .i64 i] w (Stepped B c x i s b gh gr ch e w) := by
  obtain ⟨k, a, b', d, l⟩ := x
  by_cases k1 : k = 1
  · subst k1; exact step_read h hw a b' d l va vl vc i n hv hst hd hwr hi
  by_cases k2 : k = 2
  · subst k2; exact step_write h hw a b' d l va vl vc i n hv hst hd hwr hi
  by_cases k3 : k = 3
  · subst k3; exact step_const h hw a b' d l va vl vc i n hv hst hd hwr hi
  by_cases k4 : k = 4
  · subst k4; exact step_calc h hw a b' d l va vl vc i n hv hst hd hwr hi
  by_cases k5 : k = 5
  · subst k5; exact step_jump h hw a b' d l va vl vc i n hv hst hd hwr hi
  · exfalso
    replace h6 : k ≠ 6 := h6
    replace h7 : k ≠ 7 := h7
    unfold stB at hst
    simp [k1, k2, k3, k4, k5, h6, h7] at hst

end Go.Proofs.Ytdhfpfkcbcgnaaa
