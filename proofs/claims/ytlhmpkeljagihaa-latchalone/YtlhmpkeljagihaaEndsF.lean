/- LatchAlone: what ends meets. -/
import Derived.Test.YtlhmpkeljagihaaAloneM
namespace Go.Proofs.Ytlhmpkeljagihaa
open Go.RowKit

theorem row16g (w : World) (g : Nat → Value) (t : TypeId) : (w.alloc (.cells #[g 0, g 1, g 2, g 3, g 4, g 5, g 6, g 7, g 8, g 9, g 10, g 11, g 12, g 13, g 14, g 15] t)).rowIs w.heap.size t 16 g := by
  refine World.rowIs_alloc w #[g 0, g 1, g 2, g 3, g 4, g 5, g 6, g 7, g 8, g 9, g 10, g 11, g 12, g 13, g 14, g 15] t _ ?_
  intro i hi
  have hi' : i < 16 := hi
  have : i = 0 ∨ i = 1 ∨ i = 2 ∨ i = 3 ∨ i = 4 ∨ i = 5 ∨ i = 6 ∨ i = 7 ∨ i = 8 ∨ i = 9 ∨ i = 10 ∨ i = 11 ∨ i = 12 ∨ i = 13 ∨ i = 14 ∨ i = 15 := by omega
  rcases this with rfl | rfl | rfl | rfl | rfl | rfl | rfl | rfl | rfl | rfl | rfl | rfl | rfl | rfl | rfl | rfl <;> rfl
/-- All end: those below lo have ended, those from hi on have not been asked. -/
structure En (W : World) (c : Cf) (B cb r A K H sl T : Nat) (P0 : Nat → Ph) (bs : Nat → Nat) (kd : Nat → Int) (lo hi : Nat) (Q : Nat → Ph) (own : Int) (m : Mm) (hv : Nat → Int) (w : World) : Prop where
  env : Env W c B cb r 9 m w
  inv : Inv sl T Q own
  ab : Ab sl own (mkR Q) m.f
  q0 : ∀ u, u < lo → Q u = .idle 0
  q1 : ∀ u, hi ≤ u → Q u = P0 u
  ra : w.rowIs A 35 16 (fun u => ptr (P0 u) (bs u))
  rk : w.rowIs K 54 16 (fun u => .int .i64 (kd u))
  rh : w.rowIs H 54 16 (fun u => .int .i64 (hv u))
  hh : ∀ u, hi ≤ u → hv u = (hasOf (P0 u) : Int)
  lat : ∀ u, hi ≤ u → live (P0 u) = true → ∃ L, Lat w (bs u) L ∧ Fit sl u L (P0 u) ∧ Ok 9 L
structure Ek (W : World) (B cb r A K H : Nat) (P0 : Nat → Ph) (bs : Nat → Nat) (kd : Nat → Int) : Prop where
  ak : Ak W B cb r A K H
  kk : ∀ u, live (P0 u) = true → kd u = (kindOf (P0 u) : Int)
  ow : ∀ u, live (P0 u) = true → Own W B cb r (bs u) ∧ bs u ≠ A ∧ bs u ≠ K ∧ bs u ≠ H
  inj : ∀ u v, live (P0 u) = true → live (P0 v) = true → u ≠ v → bs u ≠ bs v
section
variable {W : World} {c : Cf} {B cb r A K H sl T : Nat} {P0 Q : Nat → Ph} {bs : Nat → Nat} {kd hv : Nat → Int} {lo hi : Nat} {own : Int} {m : Mm} {w : World}
theorem En.next (h : En W c B cb r A K H sl T P0 bs kd lo hi Q own m hv w) {w' : World} (hb : Below w.heap.size w w') : En W c B cb r A K H sl T P0 bs kd lo hi Q own m hv w' :=
  ⟨h.env.next hb, h.inv, h.ab, h.q0, h.q1, h.ra.of_block (hb.block A h.ra.lt), h.rk.of_block (hb.block K h.rk.lt), h.rh.of_block (hb.block H h.rh.lt), h.hh, fun u hu hl => by obtain ⟨L, h1, h2, h3⟩ := h.lat u hu hl; exact ⟨L, h1.next hb, h2, h3⟩⟩
theorem En.drew (h : En W c B cb r A K H sl T P0 bs kd lo hi Q own m hv w) : En W c B cb r A K H sl T P0 bs kd lo hi Q own m hv w.drew :=
  ⟨h.env.drew, h.inv, h.ab, h.q0, h.q1, h.ra, h.rk, h.rh, h.hh, h.lat⟩
/-- A block b that is none of these has turned, and the words. -/
theorem En.tri (h : En W c B cb r A K H sl T P0 bs kd lo hi Q own m hv w) (ek : Ek W B cb r A K H P0 bs kd) {b : Nat} (nA : b ≠ A) (nK : b ≠ K) (nH : b ≠ H) (nb : ∀ u, hi ≤ u → live (P0 u) = true → bs u ≠ b) {w' : World} {m' : Mm} {Q' : Nat → Ph} {own' : Int} (hE : Env W c B cb r 9 m' w') (ht : Tri b cb r w w') (hI : Inv sl T Q' own') (ha : Ab sl own' (mkR Q') m'.f) (q0 : ∀ u, u < lo → Q' u = .idle 0) (q1 : ∀ u, hi ≤ u → Q' u = P0 u) : En W c B cb r A K H sl T P0 bs kd lo hi Q' own' m' hv w' :=
  ⟨hE, hI, ha, q0, q1, h.ra.of_block (ht.block A (fun e => nA e.symm) ek.ak.a.n1 ek.ak.a.n2), h.rk.of_block (ht.block K (fun e => nK e.symm) ek.ak.k.n1 ek.ak.k.n2), h.rh.of_block (ht.block H (fun e => nH e.symm) ek.ak.h.n1 ek.ak.h.n2), h.hh, fun u hu hl => by
    obtain ⟨L, h1, h2, h3⟩ := h.lat u hu hl
    exact ⟨L, h1.stays3 ht (nb u hu hl) (ek.ow u hl).1.n1 (ek.ow u hl).1.n2, h2, h3⟩⟩
/-- The row has has been written at n. -/
theorem En.put (h : En W c B cb r A K H sl T P0 bs kd lo hi Q own m hv w) (ek : Ek W B cb r A K H P0 bs kd) (n : Nat) (hn : n < hi) (v : Int) : En W c B cb r A K H sl T P0 bs kd lo hi Q own m (fun u => if u = n then v else hv u) (w.setCell ⟨H, n, none⟩ (.int .i64 v)) :=
  ⟨h.env.one ek.ak.h (touch_set H n w _), h.inv, h.ab, h.q0, h.q1, h.ra.setOther ek.ak.ah _, h.rk.setOther ek.ak.kh _, (h.rh.set n _).congr (fun u _ => by split <;> rfl), fun u hu => by rw [if_neg (by omega)]; exact h.hh u hu, fun u hu hl => by
    obtain ⟨L, h1, h2, h3⟩ := h.lat u hu hl
    exact ⟨L, h1.stays (touch_set H n w _) (ek.ow u hl).2.2.2 (ek.ow u hl).2.2.2, h2, h3⟩⟩
/-- The thread lo comes to its turn. -/
theorem En.open (h : En W c B cb r A K H sl T P0 bs kd lo lo Q own m hv w) : En W c B cb r A K H sl T P0 bs kd lo (lo + 1) Q own m hv w :=
  ⟨h.env, h.inv, h.ab, h.q0, fun u hu => h.q1 u (by omega), h.ra, h.rk, h.rh, fun u hu => h.hh u (by omega), fun u hu hl => h.lat u (by omega) hl⟩
/-- .. and has ended. -/
theorem En.shut (h : En W c B cb r A K H sl T P0 bs kd lo (lo + 1) Q own m hv w) (hq : Q lo = .idle 0) : En W c B cb r A K H sl T P0 bs kd (lo + 1) (lo + 1) Q own m hv w :=
  ⟨h.env, h.inv, h.ab, fun u hu => by
    by_cases e : u = lo
    · rw [e, hq]
    · exact h.q0 u (by omega), h.q1, h.ra, h.rk, h.rh, h.hh, h.lat⟩
end

theorem opens3 (c : Cf) (t : Int) (w : World) : Calls Try.prog 13 #[cv c, .agg #[.int .i64 3, .int .i64 t, .int .i64 2, .bool false]] w (Made (newL 6 c 2 t false 0) w) := opens_any 3 (by decide) (by decide) c t false w
theorem opens4 (c : Cf) (t : Int) (w : World) : Calls Try.prog 13 #[cv c, .agg #[.int .i64 4, .int .i64 t, .int .i64 2, .bool false]] w (Made (newL 7 c 2 t false 0) w) := opens_any 4 (by decide) (by decide) c t false w
/-- The thread n on its way to its end. -/
def Rn (sl n : Nat) (p0 : Ph) (L : LS) (ph : Ph) : Prop :=
  (L.p = 9 ∧ ph = .idle (if kindOf p0 ≤ 2 then kindOf p0 else 0)) ∨ (L.p = 8 ∧ kindOf p0 ≤ 2 ∧ ph = .idle (hasOf p0)) ∨ (L.p < 8 ∧ Fit sl n L ph ∧ quick ph = true ∧ kindOf ph = kindOf p0 ∧ hasOf ph = hasOf p0)
theorem fit_lt {sl n : Nat} {L : LS} {ph : Ph} (w : Wf ph) (h : Fit sl n L ph) : L.p < 8 := by
  cases ph with
  | idle h' => exact h.elim
  | read p => obtain ⟨wd, hl⟩ := h; have w' : p ≤ 2 := w; rw [hl.p]; omega
  | write rd p wd => have hl : La sl n rd (p : Int) wd L := h; have := w.2.1; rw [hl.p]; omega
  | endR => obtain ⟨wd, hl⟩ := h; rw [hl.p]; decide
  | endW => obtain ⟨wd, hl⟩ := h; rw [hl.p]; decide
/-- One step of it. -/
theorem Rn.step {sl T n : Nat} {Q : Nat → Ph} {own : Int} {p0 : Ph} {L : LS} {m : Mm} (I : Inv sl T Q own) (hT : T ≤ 16) (hn : n < T) (ha : Ab sl own (mkR Q) m.f) (hf : Fit sl n L (Q n)) (hq : quick (Q n) = true) (hk : kindOf (Q n) = kindOf p0) (hh : hasOf (Q n) = hasOf p0) :
    ∃ (ph : Ph) (own' : Int), Inv sl T (upP Q n ph) own' ∧ Ab sl own' (mkR (upP Q n ph)) (itM 1 L m).f ∧ Rn sl n p0 (itL 1 L m) ph ∧ rank ph < rank (Q n) := by
  have r1 : 1 ≤ rank (Q n) := by
    have wf := I.wf n
    cases hP : Q n with
    | idle h => rw [hP] at hf; exact hf.elim
    | read p => rw [hP] at wf; have w' : p ≤ 2 := wf; show 1 ≤ 3 - p; omega
    | write rd p wd => exact Nat.le_refl 1
    | endR => exact Nat.le_refl 1
    | endW => exact Nat.le_refl 1
  obtain ⟨ph, own', h1, h2, h3⟩ := inv_step I hT hn ha hf
  refine ⟨ph, own', h1, h2, ?_⟩
  rcases h3 with ⟨g1, g2, g3, g4, g5⟩ | ⟨g1, g2⟩ | ⟨g1, g2, g3⟩
  · exact ⟨.inr (.inr ⟨g1, g2, (g5 hq).1, g3.trans hk, g4.trans hh⟩), (g5 hq).2⟩
  · refine ⟨.inl ⟨g1, by rw [g2, hk]⟩, ?_⟩
    rw [g2]; show 0 < _; omega
  · refine ⟨.inr (.inl ⟨g1, by rw [← hk]; exact g2, by rw [g3, hh]⟩), ?_⟩
    rw [g3]; show 0 < _; omega
/-- An End that is stepped. -/
theorem end_step {sl T n : Nat} {Q : Nat → Ph} {own : Int} {L : LS} {m : Mm} (I : Inv sl T Q own) (hT : T ≤ 16) (hn : n < T) (ha : Ab sl own (mkR Q) m.f) (hf : Fit sl n L (Q n)) (hq : Q n = .endR ∨ Q n = .endW) :
    ∃ own' : Int, Inv sl T (upP Q n (.idle 0)) own' ∧ Ab sl own' (mkR (upP Q n (.idle 0))) (itM 1 L m).f ∧ (itL 1 L m).p = 9 := by
  obtain ⟨ph, own', h1, h2, h3⟩ := inv_step I hT hn ha hf
  have hk : ¬ kindOf (Q n) ≤ 2 := by rcases hq with e | e <;> rw [e] <;> decide
  rcases h3 with ⟨g1, g2, g3, g4, g5⟩ | ⟨g1, g2⟩ | ⟨g1, g2, g3⟩
  · exfalso
    have := g5 (by rcases hq with e | e <;> rw [e] <;> rfl)
    have hr : rank (Q n) = 1 := by rcases hq with e | e <;> rw [e] <;> rfl
    cases ph with
    | idle h => exact g2.elim
    | read p => cases hq with
      | inl e => rw [e] at g3; cases g3
      | inr e => rw [e] at g3; cases g3
    | write rd p wd => have := this.2; rw [hr] at this; exact absurd this (Nat.lt_irrefl 1)
    | endR => have := this.2; rw [hr] at this; exact absurd this (Nat.lt_irrefl 1)
    | endW => have := this.2; rw [hr] at this; exact absurd this (Nat.lt_irrefl 1)
  · rw [if_neg hk] at g2
    subst g2
    exact ⟨own', h1, h2, g1⟩
  · exact absurd g2 hk
theorem ends_start {W : World} {c : Cf} {B cb r A K H sl T : Nat} {P : Nat → Ph} {own : Int} {m : Mm} {bs : Nat → Nat} {kd : Nat → Int} {ga gk gh : Nat → Value} {w : World} (h : Al W c B cb r A K H sl 16 P m bs kd w) (hga : ∀ u, ga u = ptr (P u) (bs u)) (hgk : ∀ u, gk u = .int .i64 (kd u)) (hgh : ∀ u, gh u = .int .i64 (hasOf (P u) : Int)) (hI : Inv sl T P own) (hT : T ≤ 16) (hab : Ab sl own (mkR P) m.f) :
    En W c w.heap.size cb r (w.heap.size + 1) (w.heap.size + 1 + 1) (w.heap.size + 1 + 1 + 1) sl T P bs kd 0 0 P own m (fun u => (hasOf (P u) : Int)) ((((w.alloc (.cells #[.int .i64 c.r, .int .i64 c.o, .int .i64 c.s, .int .i64 c.d, .int .i64 c.t, .int .i64 c.l, .int .i64 c.g, .int .i64 c.k, .int .i64 c.u, .int .i64 c.e, .int .i64 c.i, .int .i64 c.p] 23)).alloc (.cells #[ga 0, ga 1, ga 2, ga 3, ga 4, ga 5, ga 6, ga 7, ga 8, ga 9, ga 10, ga 11, ga 12, ga 13, ga 14, ga 15] 35)).alloc (.cells #[gk 0, gk 1, gk 2, gk 3, gk 4, gk 5, gk 6, gk 7, gk 8, gk 9, gk 10, gk 11, gk 12, gk 13, gk 14, gk 15] 54)).alloc (.cells #[gh 0, gh 1, gh 2, gh 3, gh 4, gh 5, gh 6, gh 7, gh 8, gh 9, gh 10, gh 11, gh 12, gh 13, gh 14, gh 15] 54)) ∧ Ek W w.heap.size cb r (w.heap.size + 1) (w.heap.size + 1 + 1) (w.heap.size + 1 + 1 + 1) P bs kd := by
  have hx := bx_new c w
  have b1 := below_new w (.cells #[.int .i64 c.r, .int .i64 c.o, .int .i64 c.s, .int .i64 c.d, .int .i64 c.t, .int .i64 c.l, .int .i64 c.g, .int .i64 c.k, .int .i64 c.u, .int .i64 c.e, .int .i64 c.i, .int .i64 c.p] 23)
  have r2 := row16g (w.alloc (.cells #[.int .i64 c.r, .int .i64 c.o, .int .i64 c.s, .int .i64 c.d, .int .i64 c.t, .int .i64 c.l, .int .i64 c.g, .int .i64 c.k, .int .i64 c.u, .int .i64 c.e, .int .i64 c.i, .int .i64 c.p] 23)) ga 35
  have s1 : (w.alloc (.cells #[.int .i64 c.r, .int .i64 c.o, .int .i64 c.s, .int .i64 c.d, .int .i64 c.t, .int .i64 c.l, .int .i64 c.g, .int .i64 c.k, .int .i64 c.u, .int .i64 c.e, .int .i64 c.i, .int .i64 c.p] 23)).heap.size = w.heap.size + 1 := by simp
  generalize w.alloc (.cells #[.int .i64 c.r, .int .i64 c.o, .int .i64 c.s, .int .i64 c.d, .int .i64 c.t, .int .i64 c.l, .int .i64 c.g, .int .i64 c.k, .int .i64 c.u, .int .i64 c.e, .int .i64 c.i, .int .i64 c.p] 23) = w1 at *
  have b2 := below_new w1 (.cells #[ga 0, ga 1, ga 2, ga 3, ga 4, ga 5, ga 6, ga 7, ga 8, ga 9, ga 10, ga 11, ga 12, ga 13, ga 14, ga 15] 35)
  have s2 : (w1.alloc (.cells #[ga 0, ga 1, ga 2, ga 3, ga 4, ga 5, ga 6, ga 7, ga 8, ga 9, ga 10, ga 11, ga 12, ga 13, ga 14, ga 15] 35)).heap.size = w1.heap.size + 1 := by simp
  generalize w1.alloc (.cells #[ga 0, ga 1, ga 2, ga 3, ga 4, ga 5, ga 6, ga 7, ga 8, ga 9, ga 10, ga 11, ga 12, ga 13, ga 14, ga 15] 35) = w2 at *
  have r3 := row16g w2 gk 54
  have b3 := below_new w2 (.cells #[gk 0, gk 1, gk 2, gk 3, gk 4, gk 5, gk 6, gk 7, gk 8, gk 9, gk 10, gk 11, gk 12, gk 13, gk 14, gk 15] 54)
  have s3 : (w2.alloc (.cells #[gk 0, gk 1, gk 2, gk 3, gk 4, gk 5, gk 6, gk 7, gk 8, gk 9, gk 10, gk 11, gk 12, gk 13, gk 14, gk 15] 54)).heap.size = w2.heap.size + 1 := by simp
  generalize w2.alloc (.cells #[gk 0, gk 1, gk 2, gk 3, gk 4, gk 5, gk 6, gk 7, gk 8, gk 9, gk 10, gk 11, gk 12, gk 13, gk 14, gk 15] 54) = w3 at *
  have r4 := row16g w3 gh 54
  have b4 := below_new w3 (.cells #[gh 0, gh 1, gh 2, gh 3, gh 4, gh 5, gh 6, gh 7, gh 8, gh 9, gh 10, gh 11, gh 12, gh 13, gh 14, gh 15] 54)
  generalize w3.alloc (.cells #[gh 0, gh 1, gh 2, gh 3, gh 4, gh 5, gh 6, gh 7, gh 8, gh 9, gh 10, gh 11, gh 12, gh 13, gh 14, gh 15] 54) = w4 at *
  have hb := below_then (below_then (below_then b1 b2) b3) b4
  have lc := h.env.s.lt
  have lr := h.env.s.rlt
  have lW := h.env.b.size
  rw [s2, s1] at r3
  rw [s3, s2, s1] at r4
  rw [s1] at r2
  refine ⟨⟨⟨((hx.next b2).next b3).next b4, h.env.s.later hb lc lr, below_then h.env.b hb, lW, h.env.l1, h.env.l2, by omega, by omega⟩, hI, hab, fun u hu => by omega, fun _ _ => rfl, ((r2.of_block (b3.block _ (by omega))).of_block (b4.block _ (by omega))).congr (fun u _ => hga u), (r3.of_block (b4.block _ (by omega))).congr (fun u _ => hgk u), r4.congr (fun u _ => hgh u), fun _ _ => rfl, fun u _ hl => ?_⟩, ⟨⟨⟨by omega, by omega, by omega, by omega⟩, ⟨by omega, by omega, by omega, by omega⟩, ⟨by omega, by omega, by omega, by omega⟩, by omega, by omega, by omega⟩, h.kk, fun u hl => ?_, h.inj⟩⟩
  · obtain ⟨L, h1, h2, h3⟩ := h.lat u (fun e => by rw [e, hI.out 16 hT] at hl; cases hl) hl
    exact ⟨L, h1.next hb, h2, h3⟩
  · obtain ⟨L, h1, h2, h3⟩ := h.lat u (fun e => by rw [e, hI.out 16 hT] at hl; cases hl) hl
    have := h1.lt
    exact ⟨⟨(h.ow u hl).1.l, by omega, (h.ow u hl).1.n1, (h.ow u hl).1.n2⟩, by omega, by omega, by omega⟩
end Go.Proofs.Ytlhmpkeljagihaa
