/- The walk of ProgAddr: it answers true. -/
import Derived.Test.YtanieihnkajpdaaDoorFirst
namespace Go.Proofs.YtanieihnkajpdaaDoor
open Go.RowKit

/-- The worlds behind w0 in which S holds. -/
structure Wc (S : World → Prop) (w0 : World) where
  w : World
  ok : S w
  bel : Below w0.heap.size w0 w
theorem Wc.call {S : World → Prop} {w0 : World} (hs : ∀ w w', S w → Below w.heap.size w w' → S w') {x : Wc S w0} {f : FuncId} {args : Array Value} {v : Value}
    (h : Calls Tryd.prog f args x.w fun e w' => e = .returned v ∧ Below x.w.heap.size x.w w') : Calls Tryd.prog f args x.w fun e w'' => e = .returned v ∧ ∃ y : Wc S w0, w'' = y.w :=
  h.mono fun _ w' ⟨he, hb⟩ => ⟨he, ⟨w', hs _ _ x.ok hb, below_then x.bel hb⟩, rfl⟩
theorem wp_region_wc {S : World → Prop} {w0 : World} {id : Nat} {Q : Exit → Act → World → Prop} {a : Act} {w : World} {l : List Oper} (hx : S w.drew) (hl : Below w0.heap.size w0 w) (hm : Tryd.prog.follows .mixedOrders = true) (hB : Region.lexB .any l.toArray = true)
    (h : wpQuiet Tryd.prog l.toArray (fun w' => ∃ x : Wc S w0, w' = x.w) (fun a' => ∀ w', (∃ x : Wc S w0, w' = x.w) → Q .normal a' w') l a) : (Code.region id l.toArray true).wp Tryd.prog Q a w :=
  wp_region_quiet (C := fun w' => ∃ x : Wc S w0, w' = x.w) hm hB ⟨⟨w.drew, hx, hl.drew⟩, rfl⟩ (by simpa using h)
/-- A configuration and two instructions. -/
def Sa (c : Cf) (N : Nat) (x : In) (X : Nat) (y : In) (Y : Nat) (w : World) : Prop := Bx c N w ∧ Ix x (.slice none 0 0) X w ∧ Ix y (.slice none 0 0) Y w
theorem Sa.next {c : Cf} {N X Y : Nat} {x y : In} (w w' : World) (h : Sa c N x X y Y w) (hb : Below w.heap.size w w') : Sa c N x X y Y w' := ⟨h.1.next hb, h.2.1.next hb, h.2.2.next hb⟩
theorem Sa.cells {c : Cf} {N X Y : Nat} {x y : In} {w0 : World} : ((∀ q : Wc (Sa c N x X y Y) w0, q.w.cell? ⟨N, 0, none⟩ = some (.int .i64 c.r)) ∧ (∀ q : Wc (Sa c N x X y Y) w0, q.w.cell? ⟨N, 1, none⟩ = some (.int .i64 c.o)) ∧ (∀ q : Wc (Sa c N x X y Y) w0, q.w.cell? ⟨N, 2, none⟩ = some (.int .i64 c.s)) ∧ (∀ q : Wc (Sa c N x X y Y) w0, q.w.cell? ⟨N, 3, none⟩ = some (.int .i64 c.d)) ∧ (∀ q : Wc (Sa c N x X y Y) w0, q.w.cell? ⟨N, 4, none⟩ = some (.int .i64 c.t)) ∧ (∀ q : Wc (Sa c N x X y Y) w0, q.w.cell? ⟨N, 5, none⟩ = some (.int .i64 c.l)) ∧ (∀ q : Wc (Sa c N x X y Y) w0, q.w.cell? ⟨N, 6, none⟩ = some (.int .i64 c.g)) ∧ (∀ q : Wc (Sa c N x X y Y) w0, q.w.cell? ⟨N, 7, none⟩ = some (.int .i64 c.k)) ∧ (∀ q : Wc (Sa c N x X y Y) w0, q.w.cell? ⟨N, 8, none⟩ = some (.int .i64 c.u)) ∧ (∀ q : Wc (Sa c N x X y Y) w0, q.w.cell? ⟨N, 9, none⟩ = some (.int .i64 c.e)) ∧ (∀ q : Wc (Sa c N x X y Y) w0, q.w.cell? ⟨N, 10, none⟩ = some (.int .i64 c.i)) ∧ (∀ q : Wc (Sa c N x X y Y) w0, q.w.cell? ⟨N, 11, none⟩ = some (.int .i64 c.p))) ∧ ((∀ q : Wc (Sa c N x X y Y) w0, q.w.cell? ⟨X, 0, none⟩ = some (.int .i64 x.k)) ∧ (∀ q : Wc (Sa c N x X y Y) w0, q.w.cell? ⟨X, 1, none⟩ = some (.int .i64 x.a)) ∧ (∀ q : Wc (Sa c N x X y Y) w0, q.w.cell? ⟨X, 2, none⟩ = some (.int .i64 x.b)) ∧ (∀ q : Wc (Sa c N x X y Y) w0, q.w.cell? ⟨X, 3, none⟩ = some (.int .i64 x.c)) ∧ (∀ q : Wc (Sa c N x X y Y) w0, q.w.cell? ⟨X, 4, none⟩ = some (.slice none 0 0))) ∧ ((∀ q : Wc (Sa c N x X y Y) w0, q.w.cell? ⟨Y, 0, none⟩ = some (.int .i64 y.k)) ∧ (∀ q : Wc (Sa c N x X y Y) w0, q.w.cell? ⟨Y, 1, none⟩ = some (.int .i64 y.a)) ∧ (∀ q : Wc (Sa c N x X y Y) w0, q.w.cell? ⟨Y, 2, none⟩ = some (.int .i64 y.b)) ∧ (∀ q : Wc (Sa c N x X y Y) w0, q.w.cell? ⟨Y, 3, none⟩ = some (.int .i64 y.c)) ∧ (∀ q : Wc (Sa c N x X y Y) w0, q.w.cell? ⟨Y, 4, none⟩ = some (.slice none 0 0))) := by
  refine ⟨⟨?_, ?_, ?_, ?_, ?_, ?_, ?_, ?_, ?_, ?_, ?_, ?_⟩, ⟨?_, ?_, ?_, ?_, ?_⟩, ⟨?_, ?_, ?_, ?_, ?_⟩⟩
  all_goals
    intro q
    obtain ⟨a0, a1, a2, a3, a4, a5, a6, a7, a8, a9, a10, a11⟩ := q.ok.1.cells
    obtain ⟨b0, b1, b2, b3, b4⟩ := q.ok.2.1.cells
    obtain ⟨e0, e1, e2, e3, e4⟩ := q.ok.2.2.cells
    assumption
theorem Ix.set3 {x : In} {u : Value} {b : Nat} {w : World} (h : Ix x u b w) (v : Int) : Ix { x with c := v } u b (w.setCell ⟨b, 3, none⟩ (.int .i64 v)) := by
  unfold Ix at h ⊢
  show (w.heap.modify b _)[b]? = _
  rw [Array.getElem?_modify, if_pos rfl, h]
  rfl
theorem Ix.other {x : In} {u : Value} {b : Nat} {w : World} (h : Ix x u b w) {p : Addr} (hp : b ≠ p.block) (v : Value) : Ix x u b (w.setCell p v) := (Below.heap_setCell w p v b hp).trans h
theorem Bx.other {c : Cf} {b : Nat} {w : World} (h : Bx c b w) {p : Addr} (hp : b ≠ p.block) (v : Value) : Bx c b (w.setCell p v) := (Below.heap_setCell w p v b hp).trans h
theorem addr_iv (c : Cf) (x : In) (r : Value) (rs : List Int) (w : World) (hr : Ls w.heap.size w r rs) :
    Calls Tryd.prog 11 #[.agg #[.int .i64 c.r, .int .i64 c.o, .int .i64 c.s, .int .i64 c.d, .int .i64 c.t, .int .i64 c.l, .int .i64 c.g, .int .i64 c.k, .int .i64 c.u, .int .i64 c.e, .int .i64 c.i, .int .i64 c.p], .agg #[.int .i64 x.k, .int .i64 x.a, .int .i64 x.b, .int .i64 x.c, .slice none 0 0], r] w fun e w' => e = .returned (.int .i64 (addrD c x rs)) ∧ Below w.heap.size w w' := addr_any c x none 0 0 r rs w hr

set_option maxRecDepth 100000 in
set_option maxHeartbeats 2000000 in
theorem progAddr_in (c : Cf) (b : Int) (a : Option Addr) (len cap : Nat) (l : List Int) (j : Nat) (w : World) (hl : Ls w.heap.size w (.slice a len cap) l) (h0 : wordsD c ≠ 0) (h1 : len ≤ 100) (h2 : j < len) (hr : Vr w) :
    Calls Tryd.prog 4 #[cv c, .int .i64 b, .slice a len cap, .int .i64 (j : Int)] w fun e w' => e = .returned (.bool true) ∧ Below w.heap.size w w' := by
  have hw := words_in c
  obtain ⟨n, hn⟩ : ∃ n, n = wordsD c := ⟨_, rfl⟩
  have n1 : 1 ≤ n := by omega
  have n2 : n ≤ 100000 := by omega
  have d0 : (n == 0) = false := by simp; omega
  have d1 : decide (100 < (len : Int)) = false := decide_eq_false (by omega)
  have d2 : decide ((j : Int) < 0) = false := decide_eq_false (by omega)
  have d3 : decide ((len : Int) ≤ (j : Int)) = false := decide_eq_false (by omega)
  have hll : l.length = len := by obtain ⟨a1, l1, c1, e, _, _, _, h⟩ := hl; injection e with e1 e2 e3; subst e2; exact h.1
  have hseg : SegB .i64 w.heap.size w a len l := by obtain ⟨a1, l1, c1, e, _, _, _, h⟩ := hl; injection e with e1 e2 e3; subst e1; subst e2; exact h
  obtain ⟨y, hy⟩ : ∃ y, l.getD j 0 = y := ⟨_, rfl⟩
  obtain ⟨p, hp⟩ : ∃ p, p = wrapD b n := ⟨_, rfl⟩
  obtain ⟨q, hq⟩ : ∃ q, q = wrapD (wrap64 (b + y)) n := ⟨_, rfl⟩
  have rp : Hid (∀ rs, addrD c ⟨1, 0, b, -1, []⟩ rs = p) := hide (fun rs => by unfold addrD; rw [if_pos rfl, hp, hn])
  have rq : Hid (addrD c ⟨2, 0, b, (j : Int), []⟩ l = q) := hide (by
    unfold addrD
    rw [if_neg (by show ¬ (j : Int) = -1; omega), if_pos (by rw [wi_one, hll]; simp; omega), hq, hn]
    show wrapD (wrap64 (b + l.getD (j : Int).toNat 0)) _ = _
    rw [Int.toNat_natCast, hy])
  have rz : Hid (addrD c ⟨2, 0, b, (len : Int), []⟩ l = 0) := hide (by
    unfold addrD
    rw [if_neg (by show ¬ (len : Int) = -1; omega), if_neg (by rw [wi_one, hll]; simp)])
  have p0 : 0 ≤ p := by rw [hp]; exact (wrapD_in n1).1
  have p1 : p < n := by rw [hp]; exact (wrapD_in n1).2
  have q0 : 0 ≤ q := by rw [hq]; exact (wrapD_in n1).1
  have q1 : q < n := by rw [hq]; exact (wrapD_in n1).2
  have e0 : decide (0 ≤ p) = true := decide_eq_true p0
  have e1 : decide (p < n) = true := decide_eq_true p1
  have e2 : decide (0 ≤ q) = true := decide_eq_true q0
  have e3 : decide (q < n) = true := decide_eq_true q1
  have hx := bx_new c w
  have b0 := below_new w (.cells #[.int .i64 c.r, .int .i64 c.o, .int .i64 c.s, .int .i64 c.d, .int .i64 c.t, .int .i64 c.l, .int .i64 c.g, .int .i64 c.k, .int .i64 c.u, .int .i64 c.e, .int .i64 c.i, .int .i64 c.p] 23)
  have jn : (j : Int) < (len : Int) := by omega
  replace hn := hide hn
  replace hp := hide hp
  replace hq := hide hq
  replace hy := hide hy
  replace hll := hide hll
  replace hseg := hide hseg
  replace hl := hide hl
  replace hx := hide hx
  clear hw h0
  unfold cv
  go_enter Tryd.func4, Tryd.ntmps4
  go_wp2_with fail
  refine (first_any _ (hr.next b0)).mono ?_
  rintro e w1 ⟨rfl, hb1⟩
  have g1 := below_then b0 hb1
  have hx1 := (unhide hx).next hb1
  have kW := words_any c w1
  unfold cv at kW
  rw [← unhide hn] at kW
  obtain ⟨x0, x1, x2, x3, x4, x5, x6, x7, x8, x9, x10, x11⟩ := hx1.cells
  replace hx1 := hide hx1
  replace g1 := hide g1
  clear hx b0 hb1
  go_wp2_with fail
  refine kW.mono ?_
  rintro e w2 ⟨rfl, hb2⟩
  have g2 := below_then (unhide g1) hb2
  have hx2 := (unhide hx1).next hb2
  have bX := below_new w2 (.cells #[.int .i64 1, .int .i64 0, .int .i64 b, .int .i64 (-1), .slice none 0 0] 32)
  have bY := below_new (w2.alloc (.cells #[.int .i64 1, .int .i64 0, .int .i64 b, .int .i64 (-1), .slice none 0 0] 32)) (.cells #[.int .i64 2, .int .i64 0, .int .i64 b, .int .i64 (j : Int), .slice none 0 0] 32)
  have sa : Sa c w.heap.size ⟨1, 0, b, -1, []⟩ w2.heap.size ⟨2, 0, b, (j : Int), []⟩ (w2.heap.size + 1) ((w2.alloc (.cells #[.int .i64 1, .int .i64 0, .int .i64 b, .int .i64 (-1), .slice none 0 0] 32)).alloc (.cells #[.int .i64 2, .int .i64 0, .int .i64 b, .int .i64 (j : Int), .slice none 0 0] 32)).drew := by
    refine ⟨(hx2.next bX).next bY.drew, (ix_new ⟨1, 0, b, -1, []⟩ (.slice none 0 0) w2).next bY.drew, ?_⟩
    have := ix_new ⟨2, 0, b, (j : Int), []⟩ (.slice none 0 0) (w2.alloc (.cells #[.int .i64 1, .int .i64 0, .int .i64 b, .int .i64 (-1), .slice none 0 0] 32))
    have h3 : Ix ⟨2, 0, b, (j : Int), []⟩ (.slice none 0 0) (w2.heap.size + 1) ((w2.alloc (.cells #[.int .i64 1, .int .i64 0, .int .i64 b, .int .i64 (-1), .slice none 0 0] 32)).alloc (.cells #[.int .i64 2, .int .i64 0, .int .i64 b, .int .i64 (j : Int), .slice none 0 0] 32)) := by simpa using this
    exact h3.drew
  have gY := below_then (below_then g2 bX) bY
  have lN := hx2.lt
  have lW : w.heap.size ≤ w2.heap.size + 1 := by omega
  have hne : Nonempty (Wc (Sa c w.heap.size ⟨1, 0, b, -1, []⟩ w2.heap.size ⟨2, 0, b, (j : Int), []⟩ (w2.heap.size + 1)) w) := ⟨⟨_, sa, gY.drew⟩⟩
  replace sa := hide sa
  replace gY := hide gY
  clear g2 hx2 bX bY hb2 kW x0 x1 x2 x3 x4 x5 x6 x7 x8 x9 x10 x11 hx1 g1
  go_wp2_with fail
  obtain ⟨⟨u0, u1, u2, u3, u4, u5, u6, u7, u8, u9, u10, u11⟩, ⟨s0, s1, s2, s3, s4⟩, ⟨t0, t1, t2, t3, t4⟩⟩ := Sa.cells (c := c) (N := w.heap.size) (x := ⟨1, 0, b, -1, []⟩) (X := w2.heap.size) (y := ⟨2, 0, b, (j : Int), []⟩) (Y := w2.heap.size + 1) (w0 := w)
  have cX : ∀ z : Wc (Sa c w.heap.size ⟨1, 0, b, -1, []⟩ w2.heap.size ⟨2, 0, b, (j : Int), []⟩ (w2.heap.size + 1)) w, Calls Tryd.prog 11 #[.agg #[.int .i64 c.r, .int .i64 c.o, .int .i64 c.s, .int .i64 c.d, .int .i64 c.t, .int .i64 c.l, .int .i64 c.g, .int .i64 c.k, .int .i64 c.u, .int .i64 c.e, .int .i64 c.i, .int .i64 c.p], .agg #[.int .i64 1, .int .i64 0, .int .i64 b, .int .i64 (-1), .slice none 0 0], .slice a len cap] z.w fun e w' => e = .returned (.int .i64 p) ∧ Below z.w.heap.size z.w w' := fun z => by
    have := addr_iv c ⟨1, 0, b, -1, []⟩ (.slice a len cap) l z.w (((unhide hl).later z.bel).up z.bel.size)
    rw [unhide rp] at this
    exact this
  have cY : ∀ z : Wc (Sa c w.heap.size ⟨1, 0, b, -1, []⟩ w2.heap.size ⟨2, 0, b, (j : Int), []⟩ (w2.heap.size + 1)) w, Calls Tryd.prog 11 #[.agg #[.int .i64 c.r, .int .i64 c.o, .int .i64 c.s, .int .i64 c.d, .int .i64 c.t, .int .i64 c.l, .int .i64 c.g, .int .i64 c.k, .int .i64 c.u, .int .i64 c.e, .int .i64 c.i, .int .i64 c.p], .agg #[.int .i64 2, .int .i64 0, .int .i64 b, .int .i64 (j : Int), .slice none 0 0], .slice a len cap] z.w fun e w' => e = .returned (.int .i64 q) ∧ Below z.w.heap.size z.w w' := fun z => by
    have := addr_iv c ⟨2, 0, b, (j : Int), []⟩ (.slice a len cap) l z.w (((unhide hl).later z.bel).up z.bel.size)
    rw [unhide rq] at this
    exact this
  refine wp_region_wc (S := Sa c w.heap.size ⟨1, 0, b, -1, []⟩ w2.heap.size ⟨2, 0, b, (j : Int), []⟩ (w2.heap.size + 1)) (unhide sa) (unhide gY) (by kernel_rfl) (by kernel_rfl) ?_
  try simp only [List.append]
  repeat (go_big_quiet_step (first | (go_at_call 11; with_reducible exact Wc.call Sa.next (cX _)) | (go_at_call 11; with_reducible exact Wc.call Sa.next (cY _))))
  refine wpQuiet_nil ?_
  intro w3 hw'
  obtain ⟨sa3, g3⟩ : Sa c w.heap.size ⟨1, 0, b, -1, []⟩ w2.heap.size ⟨2, 0, b, (j : Int), []⟩ (w2.heap.size + 1) w3 ∧ Below w.heap.size w w3 := by
    obtain ⟨⟨wz, saz, gz⟩, hw''⟩ := hw'
    rw [hw'']
    exact ⟨saz, gz⟩
  clear hw'
  clear u0 u1 u2 u3 u4 u5 u6 u7 u8 u9 u10 u11 s0 s1 s2 s3 s4 t0 t1 t2 t3 t4 cX cY hne sa gY
  obtain ⟨_, _, _, m3, _⟩ := sa3.2.2.cells
  have f3 := sa3.2.2.frozen 3
  have sx4 : Sa c w.heap.size ⟨1, 0, b, -1, []⟩ w2.heap.size ⟨2, 0, b, (len : Int), []⟩ (w2.heap.size + 1) (w3.setCell ⟨w2.heap.size + 1, 3, none⟩ (.int .i64 (len : Int))) := ⟨sa3.1.other (by show w.heap.size ≠ w2.heap.size + 1; omega) _, sa3.2.1.other (by show w2.heap.size ≠ w2.heap.size + 1; omega) _, sa3.2.2.set3 (len : Int)⟩
  have g4 := g3.setCell (p := ⟨w2.heap.size + 1, 3, none⟩) lW (.int .i64 (len : Int))
  replace sa3 := hide sa3
  replace sx4 := hide sx4
  replace g4 := hide g4
  replace g3 := hide g3
  go_wp2_with fail
  refine (first_any _ (hr.next (unhide g4))).mono ?_
  rintro e w5 ⟨rfl, hb5⟩
  have g5 := below_then (unhide g4) hb5
  have s5 := Sa.next _ _ (unhide sx4) hb5
  obtain ⟨ab, ao, ea, _, hcell⟩ := ((unhide hseg).later g5).at h2
  subst ea
  rw [unhide hy] at hcell
  have hl5 := ((unhide hl).later g5).up g5.size
  have kY := addr_iv c ⟨2, 0, b, (len : Int), []⟩ _ l w5 hl5
  rw [unhide rz] at kY
  obtain ⟨x0, x1, x2, x3, x4, x5, x6, x7, x8, x9, x10, x11⟩ := s5.1.cells
  obtain ⟨s0, s1, s2, s3, s4⟩ := s5.2.2.cells
  replace s5 := hide s5
  replace g5 := hide g5
  clear hb5 sx4 g4 hl5 m3 f3 sa3 g3
  go_wp2_with fail
  refine (calcWrap_any b n n2 _).mono ?_
  rw [← unhide hp]
  rintro e _ ⟨rfl, rfl⟩
  go_wp2_with fail
  refine (calcWrap_any _ n n2 _).mono ?_
  rw [← unhide hq]
  rintro e _ ⟨rfl, rfl⟩
  go_wp2_with fail
  refine kY.mono ?_
  rintro e w6 ⟨rfl, hb6⟩
  have g6 := below_then (unhide g5) hb6
  have s6 := Sa.next _ _ (unhide s5) hb6
  have kX := addr_iv c ⟨1, 0, b, -1, []⟩ (.slice none 0 0) [] w6 (ls_nil _ _)
  rw [unhide rp] at kX
  clear x0 x1 x2 x3 x4 x5 x6 x7 x8 x9 x10 x11 s0 s1 s2 s3 s4 hb6 kY
  obtain ⟨x0, x1, x2, x3, x4, x5, x6, x7, x8, x9, x10, x11⟩ := s6.1.cells
  obtain ⟨s0, s1, s2, s3, s4⟩ := s6.2.1.cells
  replace s6 := hide s6
  replace g6 := hide g6
  go_wp2_with fail
  refine kX.mono ?_
  rintro e w7 ⟨rfl, hb7⟩
  have g7 := hide (below_then (unhide g6) hb7)
  clear hb7 kX x0 x1 x2 x3 x4 x5 x6 x7 x8 x9 x10 x11 s0 s1 s2 s3 s4
  go_wp2
  go_ret
  exact ⟨rfl, unhide g7⟩
set_option maxRecDepth 100000 in
set_option maxHeartbeats 2000000 in
theorem progAddr_walk (c : Cf) (b : Int) (a : Option Addr) (len cap : Nat) (l : List Int) (r : Int) (w : World) (hl : Ls w.heap.size w (.slice a len cap) l) (hr : Vr w) :
    Calls Tryd.prog 4 #[cv c, .int .i64 b, .slice a len cap, .int .i64 r] w fun e w' => e = .returned (.bool true) ∧ Below w.heap.size w w' := by
  by_cases hA : wordsD c ≠ 0 ∧ len ≤ 100 ∧ 0 ≤ r ∧ r < (len : Int)
  · obtain ⟨h0, h1, h2, h3⟩ := hA
    obtain ⟨j, rfl⟩ := Int.eq_ofNat_of_zero_le h2
    exact progAddr_in c b a len cap l j w hl h0 h1 (by omega) hr
  · obtain ⟨n, hn⟩ : ∃ n, n = wordsD c := ⟨_, rfl⟩
    rw [← hn] at hA
    replace hn := hide hn
    have hx := bx_new c w
    have b0 := below_new w (.cells #[.int .i64 c.r, .int .i64 c.o, .int .i64 c.s, .int .i64 c.d, .int .i64 c.t, .int .i64 c.l, .int .i64 c.g, .int .i64 c.k, .int .i64 c.u, .int .i64 c.e, .int .i64 c.i, .int .i64 c.p] 23)
    replace hx := hide hx
    replace hA := hide hA
    clear hl
    unfold cv
    go_enter Tryd.func4, Tryd.ntmps4
    go_wp2_with fail
    refine (first_any _ (hr.next b0)).mono ?_
    rintro e w1 ⟨rfl, hb1⟩
    have g1 := below_then b0 hb1
    have hx1 := (unhide hx).next hb1
    have kW := words_any c w1
    unfold cv at kW
    rw [← unhide hn] at kW
    obtain ⟨x0, x1, x2, x3, x4, x5, x6, x7, x8, x9, x10, x11⟩ := hx1.cells
    clear hx b0 hb1 hx1
    replace g1 := hide g1
    go_wp2_with fail
    refine kW.mono ?_
    rintro e w2 ⟨rfl, hb2⟩
    have g2 := hide (below_then (unhide g1) hb2)
    clear kW hb2 x0 x1 x2 x3 x4 x5 x6 x7 x8 x9 x10 x11 g1
    rcases Bool.eq_false_or_eq_true (n == 0) with d0 | d0
    · go_wp2_with fail
      refine (first_any _ (hr.next (unhide g2))).mono ?_
      rintro e w3 ⟨rfl, hb3⟩
      have g3 := hide (below_then (unhide g2) hb3)
      clear hb3
      go_wp2
      go_ret
      exact ⟨rfl, unhide g3⟩
    rcases Bool.eq_false_or_eq_true (decide (100 < (len : Int))) with d1 | d1
    · go_wp2_with fail
      refine (first_any _ (hr.next (unhide g2))).mono ?_
      rintro e w3 ⟨rfl, hb3⟩
      have g3 := hide (below_then (unhide g2) hb3)
      clear hb3
      go_wp2
      go_ret
      exact ⟨rfl, unhide g3⟩
    rcases Bool.eq_false_or_eq_true (decide (r < 0)) with d2 | d2
    · go_wp2_with fail
      refine (first_any _ (hr.next (unhide g2))).mono ?_
      rintro e w3 ⟨rfl, hb3⟩
      have g3 := hide (below_then (unhide g2) hb3)
      clear hb3
      go_wp2
      go_ret
      exact ⟨rfl, unhide g3⟩
    rcases Bool.eq_false_or_eq_true (decide ((len : Int) ≤ r)) with d3 | d3
    · go_wp2_with fail
      refine (first_any _ (hr.next (unhide g2))).mono ?_
      rintro e w3 ⟨rfl, hb3⟩
      have g3 := hide (below_then (unhide g2) hb3)
      clear hb3
      go_wp2
      go_ret
      exact ⟨rfl, unhide g3⟩
    exfalso
    have hA2 := unhide hA
    apply hA2
    simp at d0 d1 d2 d3
    exact ⟨d0, by omega, by omega, by omega⟩
end Go.Proofs.YtanieihnkajpdaaDoor
