/- Texts of this claim, put together in their order. -/
import Derived.Deep.RegionHeld3
import Derived.Test.YtgiklggnolbiiaaGreatBase1
import Derived.Test.YtgiklggnolbiiaaGreatBase2
import Derived.Test.YtgiklggnolbiiaaGreatBase3
import Derived.Test.YtgiklggnolbiiaaGreatBase4
import Derived.Test.YtgiklggnolbiiaaGreatBase5
import Derived.Test.YtgiklggnolbiiaaGreatBase6
import Derived.Test.YtgiklggnolbiiaaGreatBase7
import Derived.Test.YtgiklggnolbiiaaGreatBase8
import Derived.Test.YtgiklggnolbiiaaGreatBase9
import Derived.Test.YtgiklggnolbiiaaGreatBase10
import Derived.Test.YtgiklggnolbiiaaGreatBase11
import Derived.Test.YtgiklggnolbiiaaGreatBase12
import Derived.Test.YtgiklggnolbiiaaGreatBase13
import Derived.Test.YtgiklggnolbiiaaGreatBase14
import Derived.Test.YtgiklggnolbiiaaGreatBase15
import Derived.Test.YtgiklggnolbiiaaGreatBase16
import Derived.Test.YtgiklggnolbiiaaGreatBase17
import Derived.Test.YtgiklggnolbiiaaGreatOfPathtells18
import Derived.Test.YtgiklggnolbiiaaGreatOfPathtells19
import Derived.Test.YtgiklggnolbiiaaGreatOfPathtells20
import Derived.Test.YtgiklggnolbiiaaGreatOfPathtells21
import Derived.Test.YtgiklggnolbiiaaGreatOfPathtells22
/- Next of both for any arguments; first; what the walk of PathTells keeps. -/
namespace Go.Proofs.YtgiklggnolbiiaaGreat
open Go.RowKit
variable {B n : Nat} {most : Int} {T : Nat → Lv} {b rb c2 : Nat} {lb : Nat → Nat} {hv qv : Nat → Value}

/-- Is the word there? -/
def wdB (c : Cf) (a : Int) : Bool := decide (0 ≤ a ∧ a < wordsD c)
def nxA (c : Cf) (n : Nat) (T : Nat → Lv) (who a : Int) (write : Bool) : (Int × Int) × Bool := if wdB c a then nextD c n T who a write else ((0, 0), false)
def nxE (c : Cf) (a : Int) : Int := if wdB c a then 0 else 1
theorem wd_ok {c : Cf} {a : Int} (h : wdB c a = true) : okB c = true ∧ 0 ≤ a ∧ a < nw c := by
  have h := of_decide_eq_true h
  have hok := words_pos h.1 h.2
  exact ⟨hok, h.1, by have := h.2; rw [words_eq hok] at this; exact this⟩
theorem wd_no {c : Cf} {a : Int} (h : wdB c a = false) : ¬ (0 ≤ a ∧ a < wordsD c) := of_decide_eq_false h
def boxO (c : Cf) : Obj := .cells #[.int .i64 c.r, .int .i64 c.o, .int .i64 c.s, .int .i64 c.d, .int .i64 c.t, .int .i64 c.l, .int .i64 c.g, .int .i64 c.k, .int .i64 c.u, .int .i64 c.e, .int .i64 c.i, .int .i64 c.p] 68
set_option maxRecDepth 100000 in
set_option maxHeartbeats 4000000 in
theorem next_no (c : Cf) (a : Int) (w : World) (p : Value) (who : Int) (write : Bool) (h : wdB c a = false) :
    Calls Tryz.prog 30 #[cv c, p, .int .i64 who, .int .i64 a, .bool write] w fun e w' => e = .returned (nxV ((0, 0), false) 1) ∧ Below w.heap.size w w' := by
  have P := hide (fun w0 : World => path_no c a w0 (wd_no h))
  obtain ⟨w1, hw1⟩ : ∃ w1, w1 = (w.alloc (boxO c)).alloc (.cells #[.int .i64 0, .int .i64 0] 39) := ⟨_, rfl⟩
  have b1 : Below w.heap.size w w1 := by rw [hw1]; exact below_then (below_new w _) (below_new _ _)
  have hx : Bx c w.heap.size w1 := by rw [hw1]; exact (bx_new c w).next (below_new _ _)
  have hp : w1.heap[w.heap.size + 1]? = some (.cells #[.int .i64 0, .int .i64 0] 39 (0, 0)) := by
    have := heap_alloc_new (w.alloc (boxO c)) (.cells #[.int .i64 0, .int .i64 0] 39)
    rw [World.size_alloc] at this
    rw [hw1]; exact this
  obtain ⟨a0, a1, a2, a3, a4, a5, a6, a7, a8, a9, a10, a11⟩ := hx.cells
  unfold boxO at hw1
  replace b1 := hide b1
  replace hp := hide hp
  clear hx
  unfold cv
  go_enter Tryz.func30, Tryz.ntmps30
  go_wp2_with fail
  rw [← hw1]
  replace hw1 := hide hw1
  refine (unhide P w1).mono ?_
  rintro e w2 ⟨rfl, b2⟩
  have BE := hide (set2_below (below_then (unhide b1) b2) (show w.heap.size ≤ w.heap.size + 1 by omega) (.int .i64 0) (.int .i64 0))
  obtain ⟨y0, y1, y2, y3⟩ := lock_cells ((b2.block _ (heap_lt (unhide hp))).trans (unhide hp))
  clear a0 a1 a2 a3 a4 a5 a6 a7 a8 a9 a10 a11 b2
  go_wp2
  refine bodyPost_ret (v := nxV ((0, 0), false) 1) ?_ rfl ⟨rfl, unhide BE⟩
  rw [results_cell_two rfl]
  unfold nxV
  go_simp
set_option maxRecDepth 100000 in
set_option maxHeartbeats 4000000 in
theorem rnext_no (c : Cf) (a : Int) (w : World) (p : Value) (who : Int) (write : Bool) (h : wdB c a = false) :
    Calls Tryz.prog 31 #[cv c, p, .int .i64 who, .int .i64 a, .bool write] w fun e w' => e = .returned (nxV ((0, 0), false) 1) ∧ Below w.heap.size w w' := by
  have P := hide (fun w0 : World => rpath_no c a w0 (wd_no h))
  obtain ⟨w1, hw1⟩ : ∃ w1, w1 = (w.alloc (boxO c)).alloc (.cells #[.int .i64 0, .int .i64 0] 39) := ⟨_, rfl⟩
  have b1 : Below w.heap.size w w1 := by rw [hw1]; exact below_then (below_new w _) (below_new _ _)
  have hx : Bx c w.heap.size w1 := by rw [hw1]; exact (bx_new c w).next (below_new _ _)
  have hp : w1.heap[w.heap.size + 1]? = some (.cells #[.int .i64 0, .int .i64 0] 39 (0, 0)) := by
    have := heap_alloc_new (w.alloc (boxO c)) (.cells #[.int .i64 0, .int .i64 0] 39)
    rw [World.size_alloc] at this
    rw [hw1]; exact this
  obtain ⟨a0, a1, a2, a3, a4, a5, a6, a7, a8, a9, a10, a11⟩ := hx.cells
  unfold boxO at hw1
  replace b1 := hide b1
  replace hp := hide hp
  clear hx
  unfold cv
  go_enter Tryz.func31, Tryz.ntmps31
  go_wp2_with fail
  rw [← hw1]
  replace hw1 := hide hw1
  refine (unhide P w1).mono ?_
  rintro e w2 ⟨rfl, b2⟩
  have BE := hide (set2_below (below_then (unhide b1) b2) (show w.heap.size ≤ w.heap.size + 1 by omega) (.int .i64 0) (.int .i64 0))
  obtain ⟨y0, y1, y2, y3⟩ := lock_cells ((b2.block _ (heap_lt (unhide hp))).trans (unhide hp))
  clear a0 a1 a2 a3 a4 a5 a6 a7 a8 a9 a10 a11 b2
  go_wp2
  refine bodyPost_ret (v := nxV ((0, 0), false) 1) ?_ rfl ⟨rfl, unhide BE⟩
  rw [results_cell_two rfl]
  unfold nxV
  go_simp
theorem next_all (c : Cf) (w : World) (h : Tb B n most T b rb lb hv qv w) (hf : Few n 1000 T) (who a : Int) (write : Bool) :
    Calls Tryz.prog 30 #[cv c, .pointer (some ⟨b, 0, none⟩), .int .i64 who, .int .i64 a, .bool write] w fun e w' => e = .returned (nxV (nxA c n T who a write) (nxE c a)) ∧ Below w.heap.size w w' := by
  unfold nxA nxE
  cases hw : wdB c a
  · exact next_no c a w _ who write hw
  · obtain ⟨h1, h2, h3⟩ := wd_ok hw
    exact next_in c w ⟨_, _, _, _, h⟩ hf who a write h1 h2 h3 rfl
theorem rnext_all (c : Cf) (w : World) (h : Rt B n most T b rb c2 lb hv qv w) (hf : Few n 1000 T) (hn : n ≤ 10000) (hm : (n : Int) = max (nodesD c) 1) (who a : Int) (write : Bool) :
    Calls Tryz.prog 31 #[cv c, .pointer (some ⟨b, 0, none⟩), .int .i64 who, .int .i64 a, .bool write] w fun e w' => e = .returned (nxV (nxA c n T who a write) (nxE c a)) ∧ Below w.heap.size w w' := by
  unfold nxA nxE
  cases hw : wdB c a
  · exact rnext_no c a w _ who write hw
  · obtain ⟨h1, h2, h3⟩ := wd_ok hw
    cases write
    · exact rnext_false c w h hf hn hm who a h1 h2 h3 rfl
    · exact rnext_true c w h hf hn hm who a h1 h2 h3 rfl
theorem nodes_max (c : Cf) : ∃ n : Nat, (n : Int) = max (nodesD c) 1 ∧ 1 ≤ n ∧ n ≤ 584 := by
  refine ⟨(max (nodesD c) 1).toNat, ?_, ?_, ?_⟩
  · omega
  · omega
  · cases h : okB c
    · have : nodesD c = 0 := by simp [nodesD, h]
      omega
    · have hp := okB_hp h
      have h1 := no_in hp
      have h2 := ns_in hp
      have h3 := hp.r8
      have h4 := nodes_ok h
      omega
section
variable {T1 T2 : Nat → Lv} {b2 rb2 : Nat} {lb2 : Nat → Nat} {hv2 qv2 : Nat → Value} {w w' : World}
theorem Bt.gnA (h : Bt B n most T1 T2 b rb lb hv qv b2 rb2 c2 lb2 hv2 qv2 w) {p : Nat} {cur : Array Value} (ob : w.heap[p]? = some (.cells cur 68 (0, 0))) : Fn (XA n b2 rb2 lb2 hv2 qv2 p) n w.heap.size lb hv qv := fun j hj => by
  rcases hj with hj | rfl
  · refine ⟨h.tr.ownlt hj, fun i hi => ⟨fun e => ?_, fun e => ?_, fun e => ?_⟩⟩
    · exact h.ap j (.inr (.inr ⟨i, hi, .inl e⟩)) hj
    · exact h.ap j (.inr (.inr ⟨i, hi, .inr (.inl e)⟩)) hj
    · exact h.ap j (.inr (.inr ⟨i, hi, .inr (.inr e)⟩)) hj
  · refine ⟨heap_lt ob, fun i hi => ⟨fun e => ?_, es_ne (h.ta.ls.la i hi).hr ob (by decide), es_ne (h.ta.ls.la i hi).qr ob (by decide)⟩⟩
    have := (h.ta.ls.la i hi).blk
    rw [← e, ob] at this
    cases this
theorem Bt.gnR (h : Bt B n most T1 T2 b rb lb hv qv b2 rb2 c2 lb2 hv2 qv2 w) {p : Nat} {cur : Array Value} (ob : w.heap[p]? = some (.cells cur 68 (0, 0))) : Fn (XA n b rb lb hv qv p) n w.heap.size lb2 hv2 qv2 := fun j hj => by
  rcases hj with hj | rfl
  · refine ⟨h.ta.ownlt hj, fun i hi => ⟨fun e => ?_, fun e => ?_, fun e => ?_⟩⟩
    · exact h.ap j hj (.inr (.inr ⟨i, hi, .inl e⟩))
    · exact h.ap j hj (.inr (.inr ⟨i, hi, .inr (.inl e)⟩))
    · exact h.ap j hj (.inr (.inr ⟨i, hi, .inr (.inr e)⟩))
  · refine ⟨heap_lt ob, fun i hi => ⟨fun e => ?_, es_ne (h.tr.lr i hi).hr ob (by decide), es_ne (h.tr.lr i hi).qr ob (by decide)⟩⟩
    have := (h.tr.lr i hi).blk
    rw [← e, ob] at this
    cases this
/-- The configuration's box beside both tables. -/
def Qs (c : Cf) (q B n : Nat) (most : Int) (T : Nat → Lv) (b rb : Nat) (lb : Nat → Nat) (hv qv : Nat → Value) (b2 rb2 c2 : Nat) (lb2 : Nat → Nat) (hv2 qv2 : Nat → Value) (w : World) : Prop :=
  Bx c q w ∧ Bt B n most T T b rb lb hv qv b2 rb2 c2 lb2 hv2 qv2 w
theorem Qs.next {c : Cf} {q : Nat} (h : Qs c q B n most T b rb lb hv qv b2 rb2 c2 lb2 hv2 qv2 w) (k : Below w.heap.size w w') : Qs c q B n most T b rb lb hv qv b2 rb2 c2 lb2 hv2 qv2 w' := ⟨h.1.next k, h.2.next k⟩
end
theorem nxV_eq (x : (Int × Int) × Bool) (e : Int) : ∃ (u v : Int) (z : Bool), nxV x e = .tuple #[.agg #[.int .i64 u, .int .i64 v], .bool z, .int .i64 e] := ⟨_, _, _, rfl⟩
end Go.Proofs.YtgiklggnolbiiaaGreat

/- ltklaw10.first. -/
namespace Go.Proofs.YtgiklggnolbiiaaGreat
open Go.RowKit
def ten : Cf := ⟨1, 1, 1, 1, 1, 0, 1, 9, 1, 0, 1, 0⟩
theorem ten_next : nextD ten 3 none0 0 0 false = ((0, 1), true) := by decide +kernel
theorem ten_ok : okB ten = true := by decide
set_option maxRecDepth 100000 in
theorem first10_any (w : World) : Calls Tryz.prog 28 #[] w fun e w' => e = .returned (.bool true) ∧ Below w.heap.size w w' := by
  have X := fun (w' : World) (B b : Nat) (h : Tn B 3 9 none0 b w') => next_in ten w' h (few_none _ _) 0 0 false ten_ok (by decide) (by decide) ten_next
  unfold cv nxV at X
  replace X := hide X
  have hbn := below_new w (.cells #[.int .i64 1, .int .i64 1, .int .i64 1, .int .i64 1, .int .i64 1, .int .i64 0, .int .i64 1, .int .i64 9, .int .i64 1, .int .i64 0, .int .i64 1, .int .i64 0] 68)
  have hbx := bx_new ten w
  obtain ⟨w1, hw1⟩ : ∃ w1, w1 = w.alloc (.cells #[.int .i64 1, .int .i64 1, .int .i64 1, .int .i64 1, .int .i64 1, .int .i64 0, .int .i64 1, .int .i64 9, .int .i64 1, .int .i64 0, .int .i64 1, .int .i64 0] 68) := ⟨_, rfl⟩
  obtain ⟨q, hq⟩ : ∃ q, q = w.heap.size := ⟨_, rfl⟩
  have b1 : Hid (Below w.heap.size w w1) := by rw [hw1]; exact hbn
  have x1 : Hid (Bx ten q w1) := by rw [hw1, hq]; exact hbx
  clear hbn hbx
  go_enter Tryz.func28, Tryz.ntmps28
  go_wp2_with fail
  rw [← hw1, ← hq]
  replace hw1 := hide hw1
  replace hq := hide hq
  refine (new_n 3 9 w1 (by decide) (by decide) (by decide) (by decide)).mono ?_
  rintro e w2 ⟨b, rfl, L2, b2⟩
  have x2 := (unhide x1).next b2
  obtain ⟨a0, a1, a2, a3, a4, a5, a6, a7, a8, a9, a10, a11⟩ := x2.cells
  simp only [ten] at a0 a1 a2 a3 a4 a5 a6 a7 a8 a9 a10 a11
  have B2 := hide (below_then (unhide b1) b2)
  replace L2 := hide L2
  clear x2 b2
  go_wp2_with fail
  refine (unhide X w2 _ b (unhide L2)).mono ?_
  rintro e w3 ⟨rfl, b3⟩
  have B3 := hide (below_add (below_then (unhide B2) b3) (.cells #[.int .i64 0, .int .i64 1] 39))
  clear a0 a1 a2 a3 a4 a5 a6 a7 a8 a9 a10 a11 b3
  go_wp2
  go_ret
  exact ⟨rfl, unhide B3⟩
end Go.Proofs.YtgiklggnolbiiaaGreat

/- PathTells: the walk. -/
namespace Go.Proofs.YtgiklggnolbiiaaGreat
open Go.RowKit
set_option linter.unusedVariables false
set_option linter.unusedSimpArgs false
set_option maxRecDepth 100000 in
set_option maxHeartbeats 16000000 in
theorem pathTells_in (c : Cf) (a1 : Option Addr) (n1 cap1 : Nat) (Z : Nat → Nat → Int) (who a : Int) (write : Bool) (w : World) (s2 : RecsB 4 w.heap.size w a1 n1 Z) (h2 : n1 ≤ 300) :
    Calls Tryz.prog 4 #[cv c, .slice a1 n1 cap1, .int .i64 who, .int .i64 a, .bool write] w fun e w' => e = .returned (.bool true) ∧ Below w.heap.size w w' := by
  obtain ⟨N, hN⟩ : ∃ N, N = w.heap.size := ⟨_, rfl⟩
  rw [← hN] at s2
  replace s2 := hide s2
  have k2 : (n1 : Int) ≤ 300 := by omega
  obtain ⟨n, hm, h0, h1⟩ := nodes_max c
  obtain ⟨w0, hw0⟩ : ∃ w0, w0 = w.alloc (.cells #[.int .i64 c.r, .int .i64 c.o, .int .i64 c.s, .int .i64 c.d, .int .i64 c.t, .int .i64 c.l, .int .i64 c.g, .int .i64 c.k, .int .i64 c.u, .int .i64 c.e, .int .i64 c.i, .int .i64 c.p] 68) := ⟨_, rfl⟩
  have x0 : Hid (Bx c N w0) := by rw [hw0, hN]; exact bx_new c w
  have b0 : Hid (Below N w w0) := by rw [hw0, hN]; exact below_new w _
  have CN := hide (fun y => rnodes_any c y)
  unfold cv at CN
  unfold cv
  go_enter Tryz.func4, Tryz.ntmps4
  go_wp2_with fail
  rw [← hw0, ← hN]
  replace hN := hide hN
  replace hw0 := hide hw0
  refine (first10_any w0).mono ?_
  rintro e w1 ⟨rfl, b1⟩
  have x1 := hide ((unhide x0).next b1)
  replace b1 := hide (bt (unhide b0) b1 (Nat.le_of_lt (unhide x0).lt))
  obtain ⟨a0, a1, a2, a3, a4, a5, a6, a7, a8, a9, a10, a11⟩ := (unhide x1).cells
  go_wp2_with fail
  refine (unhide CN w1).mono ?_
  rintro e wa ⟨rfl, ba⟩
  have xa := hide ((unhide x1).next ba)
  replace ba := hide (bt (unhide b1) ba (by have := (unhide x1).lt; omega))
  clear a0 a1 a2 a3 a4 a5 a6 a7 a8 a9 a10 a11 CN
  go_wp2_with fail
  rw [← hm]
  replace hm := hide hm
  refine (newt_t n 200 wa h0 (by omega) (by decide) (by decide)).mono ?_
  rintro e w2 ⟨b, rb, lb, rfl, L2, bb2⟩
  obtain ⟨B, hB⟩ : ∃ B, B = wa.heap.size := ⟨_, rfl⟩
  have x2 := hide ((unhide xa).next bb2)
  rw [← hB] at L2 bb2
  have hNb : Hid (N ≤ B) := by have := (unhide xa).lt; rw [hB]; show _ ≤ _; omega
  replace bb2 := hide ((unhide ba).trans (bb2.mono (unhide hNb)))
  replace hB := hide hB
  replace L2 := hide L2
  go_wp2_with fail
  refine (rnew_t n 200 w2 h0 (by omega) (by decide) (by decide)).mono ?_
  rintro e w3 ⟨b2, rb2, c2, lb2, rfl, R3, b3⟩
  have T0 := hide (bt_new (unhide L2) R3 (unhide L2).low b3)
  have x3 := hide ((unhide x2).next b3)
  replace b3 := hide (bt (unhide bb2) b3 (Nat.le_trans (unhide hNb) (unhide L2).low))
  clear L2 R3 bb2 x2 xa x1 x0 b0 ba b1
  go_wp2_with fail
  go_loopw [16] (fun s wr => ∃ (i : Nat) (T : Nat → Lv) (hv qv hv2 qv2 : Nat → Value), i ≤ n1 ∧ s = .int .i64 i ∧ Hid (Bt B n 200 T T b rb lb hv qv b2 rb2 c2 lb2 hv2 qv2 wr) ∧ Hid (Iv n 200 i T) ∧ Hid (Bx c N wr) ∧ Hid (Below N w wr)) (fun s _ => n1 - (intOf s).toNat)
  case atStart => exact ⟨0, none0, _, _, _, _, Nat.zero_le _, rfl, unhide T0, iv_none n (by omega), unhide x3, unhide b3⟩
  case round =>
    obtain ⟨i, T, hv, qv, hv2, qv2, hi, rfl, T4, O3, x4, b4⟩ := hrel
    by_cases hlt : i < n1
    · obtain ⟨g, o, rfl, hg, hc⟩ := ((unhide s2).later (unhide b4)).at hlt
      have hfew : Hid (Few n 1000 T) := (unhide O3).on.gd.few (by omega)
      have hgd : Hid (Gd n 399 T) := (unhide O3).on.gd.up (by omega)
      have hsrt : Hid (∀ j, j < n → Srt (T j).1) := fun j hj => (unhide T4).tr.srt j hj
      have HC := hide (fun w' (k : Below N wr w') j (hj : j < 4) => (k.cell (p := ⟨g, o + i * 4 + j, none⟩) hg).trans (hc j hj))
      obtain ⟨z0, hz0⟩ : ∃ z, z = Z i 0 := ⟨_, rfl⟩
      obtain ⟨z1, hz1⟩ : ∃ z, z = Z i 1 := ⟨_, rfl⟩
      obtain ⟨z2, hz2⟩ : ∃ z, z = Z i 2 := ⟨_, rfl⟩
      obtain ⟨z3, hz3⟩ : ∃ z, z = Z i 3 := ⟨_, rfl⟩
      have SS : Hid (∀ w', Below N wr w' → w'.cell? ⟨g, o + i * 4, none⟩ = some (.int .i64 z0) ∧ w'.cell? ⟨g, o + i * 4 + 1, none⟩ = some (.int .i64 z1) ∧ w'.cell? ⟨g, o + i * 4 + 2, none⟩ = some (.int .i64 z2) ∧ w'.cell? ⟨g, o + i * 4 + 3, none⟩ = some (.int .i64 z3)) := fun w' k => by
        rw [hz0, hz1, hz2, hz3]
        exact ⟨unhide HC w' k 0 (by decide), unhide HC w' k 1 (by decide), unhide HC w' k 2 (by decide), unhide HC w' k 3 (by decide)⟩
      clear hc hz0 hz1 hz2 hz3 hg HC
      obtain ⟨d0, d1, d2, d3⟩ := unhide SS wr (Below.refl _ _)
      have i0 : ¬ (i : Int) < 0 := by omega
      have i1 : ¬ (n1 : Int) ≤ (i : Int) := by omega
      have i2 : ¬ n1 ≤ i := by omega
      have fA := hide ((unhide T4).gnA (unhide x4))
      cases hz : (z0 == 0)
      · obtain ⟨r, hr⟩ : ∃ r, r = dropD z1 T (dn n 0) := ⟨_, rfl⟩
        have O5 := hide (iv_drop z1 (unhide hsrt) (unhide O3))
        rw [← hr] at O5
        replace hr := hide hr
        go_wp2_with fail
        refine (drop_x wr (unhide T4).ta ((unhide hgd).up (by decide)) (by omega) z1 (unhide fA) (unhide hr).symm).mono ?_
        rintro e w5 ⟨gv5, rfl, I5, ⟨hv5, qv5, A5, F5⟩, B5, K5⟩
        have x5 := hide (K5 N _ _ (.inr rfl) (unhide x4))
        have T5 := hide ((unhide T4).turnA A5 F5 K5)
        have b5 := hide ((unhide b4).trans (B5.mono (unhide hNb)))
        have e5 := B5.mono (unhide hNb)
        replace I5 := hide I5
        clear A5 F5 B5 K5 d0 d1 d2 d3
        obtain ⟨d0, d1, d2, d3⟩ := unhide SS w5 e5
        have fR := hide ((unhide T5).gnR (unhide x5))
        clear e5 d0
        go_wp2_with fail
        refine (rdrop_x w5 (unhide T5).tr (unhide hgd) (by omega) z1 (unhide fR) (unhide I5) (unhide hr).symm).mono ?_
        rintro e w6 ⟨gv6, rfl, I6, ⟨hv6, qv6, A6, F6⟩, B6, K6, I56⟩
        have x6 := hide (K6 N _ _ (.inr rfl) (unhide x5))
        have T6 := hide ((unhide T5).turnR A6 F6 K6)
        have b6 := hide ((unhide b5).trans (B6.mono (unhide hNb)))
        clear A6 F6 B6 K6 I6 I56 I5 d1 d2 d3
        go_wp2
        go_roundw
        case rel => exact ⟨i + 1, r.2, _, _, _, _, by omega, by go_num, unhide T6, unhide O5, unhide x6, unhide b6⟩
        case measure => simp [intOf]; omega
      · have hz9 := hide hz
        obtain ⟨r, hr⟩ : ∃ r, r = askT n 200 T z1 z2 z3 := ⟨_, rfl⟩
        have O5 := hide (iv_ask (most := 200) z1 z2 z3 (unhide hsrt) (unhide O3))
        rw [← hr] at O5
        replace hr := hide hr
        go_wp2_with fail
        clear d0 d1 d2 d3
        have T4d := hide ((unhide T4).next (drew_bel wr))
        have x4d := hide ((unhide x4).next (drew_bel wr))
        have b4d := hide (unhide b4).drew
        have fAd := hide ((unhide T4d).gnA (unhide x4d))
        have hS4 := (unhide SS wr.drew (Below.drew (Below.refl _ _))).2
        refine wp_region_held_drew (S := fun wz => wz.cell? ⟨g, o + i * 4 + 1, none⟩ = some (.int .i64 z1) ∧ wz.cell? ⟨g, o + i * 4 + 2, none⟩ = some (.int .i64 z2) ∧ wz.cell? ⟨g, o + i * 4 + 3, none⟩ = some (.int .i64 z3)) (by kernel_rfl) ?hS9 (fun hHeld => ?_)
        case hS9 => exact hS4
        refine wpAnyH_take (i := 0) (v := ?_) rfl (by kernel_rfl) (by kernel_rfl) (by kernel_rfl) (fun _ _ _ h => h) (Or.inl ⟨by rfl, ?_⟩) (by assumption) ?_
        rotate_left
        · (intro w hSw; (try dsimp only at hSw); go_simp; first | done | with_reducible rfl)
        try simp only [Act.put, List.setIfInBounds_toArray, List.set_cons_zero, List.set_cons_succ, List.getElem_toArray, List.getElem_cons_succ, List.getElem_cons_zero]
        refine wpAnyH_take (i := 1) (v := ?_) rfl (by kernel_rfl) (by kernel_rfl) (by kernel_rfl) (fun _ _ _ h => h) (Or.inl ⟨by rfl, ?_⟩) (by assumption) ?_
        rotate_left
        · (intro w hSw; (try dsimp only at hSw); go_simp; first | done | with_reducible rfl)
        try simp only [Act.put, List.setIfInBounds_toArray, List.set_cons_zero, List.set_cons_succ, List.getElem_toArray, List.getElem_cons_succ, List.getElem_cons_zero]
        refine wpAnyH_take (i := 2) (v := ?_) rfl (by kernel_rfl) (by kernel_rfl) (by kernel_rfl) (fun _ _ _ h => h) (Or.inl ⟨by rfl, ?_⟩) (by assumption) ?_
        rotate_left
        · (intro w hSw; (try dsimp only at hSw); go_simp; first | done | with_reducible rfl)
        try simp only [Act.put, List.setIfInBounds_toArray, List.set_cons_zero, List.set_cons_succ, List.getElem_toArray, List.getElem_cons_succ, List.getElem_cons_zero]
        refine wpAnyH_take (i := 3) (v := ?_) rfl (by kernel_rfl) (by kernel_rfl) (by kernel_rfl) (fun _ _ _ h => h) (Or.inl ⟨by rfl, ?_⟩) (by assumption) ?_
        rotate_left
        · (intro w hSw; (try dsimp only at hSw); go_simp; first | done | with_reducible rfl)
        try simp only [Act.put, List.setIfInBounds_toArray, List.set_cons_zero, List.set_cons_succ, List.getElem_toArray, List.getElem_cons_succ, List.getElem_cons_zero]
        refine wpAnyH_take (i := 4) (v := ?_) rfl (by kernel_rfl) (by kernel_rfl) (by kernel_rfl) (fun _ _ _ h => h) (Or.inl ⟨by rfl, ?_⟩) (by assumption) ?_
        rotate_left
        · (intro w hSw; (try dsimp only at hSw); go_simp; first | done | with_reducible rfl)
        try simp only [Act.put, List.setIfInBounds_toArray, List.set_cons_zero, List.set_cons_succ, List.getElem_toArray, List.getElem_cons_succ, List.getElem_cons_zero]
        refine wpAnyH_take (i := 5) (v := ?_) rfl (by kernel_rfl) (by kernel_rfl) (by kernel_rfl) (fun _ _ _ h => h) (Or.inl ⟨by rfl, ?_⟩) (by assumption) ?_
        rotate_left
        · (intro w hSw; (try dsimp only at hSw); go_simp; first | done | with_reducible rfl)
        try simp only [Act.put, List.setIfInBounds_toArray, List.set_cons_zero, List.set_cons_succ, List.getElem_toArray, List.getElem_cons_succ, List.getElem_cons_zero]
        refine wpAnyH_take (i := 6) (v := ?_) rfl (by kernel_rfl) (by kernel_rfl) (by kernel_rfl) (fun _ _ _ h => h) (Or.inl ⟨by rfl, ?_⟩) (by assumption) ?_
        rotate_left
        · (intro w hSw; (try dsimp only at hSw); go_simp; first | done | with_reducible rfl)
        try simp only [Act.put, List.setIfInBounds_toArray, List.set_cons_zero, List.set_cons_succ, List.getElem_toArray, List.getElem_cons_succ, List.getElem_cons_zero]
        refine wpAnyH_take (i := 7) (v := ?_) rfl (by kernel_rfl) (by kernel_rfl) (by kernel_rfl) (fun _ _ _ h => h) (Or.inl ⟨by rfl, ?_⟩) (by assumption) ?_
        rotate_left
        · (intro w hSw; (try dsimp only at hSw); go_simp; first | done | with_reducible rfl)
        try simp only [Act.put, List.setIfInBounds_toArray, List.set_cons_zero, List.set_cons_succ, List.getElem_toArray, List.getElem_cons_succ, List.getElem_cons_zero]
        refine wpAnyH_take (i := 8) (v := ?_) rfl (by kernel_rfl) (by kernel_rfl) (by kernel_rfl) (fun _ _ _ h => h) (Or.inl ⟨by rfl, ?_⟩) (by assumption) ?_
        rotate_left
        · (intro w hSw; (try dsimp only at hSw); go_simp; first | done | with_reducible rfl)
        try simp only [Act.put, List.setIfInBounds_toArray, List.set_cons_zero, List.set_cons_succ, List.getElem_toArray, List.getElem_cons_succ, List.getElem_cons_zero]
        refine wpAnyH_take (i := 9) (v := ?_) rfl (by kernel_rfl) (by kernel_rfl) (by kernel_rfl) (fun _ _ _ h => h) (Or.inl ⟨by rfl, ?_⟩) (by assumption) ?_
        rotate_left
        · (intro w hSw; (try dsimp only at hSw); go_simp; first | done | with_reducible rfl)
        try simp only [Act.put, List.setIfInBounds_toArray, List.set_cons_zero, List.set_cons_succ, List.getElem_toArray, List.getElem_cons_succ, List.getElem_cons_zero]
        refine wpAnyH_take (i := 10) (v := ?_) rfl (by kernel_rfl) (by kernel_rfl) (by kernel_rfl) (fun _ _ _ h => h) (Or.inl ⟨by rfl, ?_⟩) (by assumption) ?_
        rotate_left
        · (intro w hSw; (try dsimp only at hSw); go_simp; first | done | with_reducible rfl)
        try simp only [Act.put, List.setIfInBounds_toArray, List.set_cons_zero, List.set_cons_succ, List.getElem_toArray, List.getElem_cons_succ, List.getElem_cons_zero]
        refine wpAnyH_take (i := 11) (v := ?_) rfl (by kernel_rfl) (by kernel_rfl) (by kernel_rfl) (fun _ _ _ h => h) (Or.inl ⟨by rfl, ?_⟩) (by assumption) ?_
        rotate_left
        · (intro w hSw; (try dsimp only at hSw); go_simp; first | done | with_reducible rfl)
        try simp only [Act.put, List.setIfInBounds_toArray, List.set_cons_zero, List.set_cons_succ, List.getElem_toArray, List.getElem_cons_succ, List.getElem_cons_zero]
        refine wpAnyH_take (i := 12) (v := ?_) rfl (by kernel_rfl) (by kernel_rfl) (by kernel_rfl) (fun _ _ _ h => h) (Or.inl ⟨by rfl, ?_⟩) (by assumption) ?_
        rotate_left
        · (intro w hSw; (try dsimp only at hSw); go_simp; first | done | with_reducible rfl)
        try simp only [Act.put, List.setIfInBounds_toArray, List.set_cons_zero, List.set_cons_succ, List.getElem_toArray, List.getElem_cons_succ, List.getElem_cons_zero]
        refine wpAnyH_take (i := 13) (v := ?_) rfl (by kernel_rfl) (by kernel_rfl) (by kernel_rfl) (fun _ _ _ h => h) (Or.inl ⟨by rfl, ?_⟩) (by assumption) ?_
        rotate_left
        · (intro w hSw; (try dsimp only at hSw); go_simp; first | done | with_reducible rfl)
        try simp only [Act.put, List.setIfInBounds_toArray, List.set_cons_zero, List.set_cons_succ, List.getElem_toArray, List.getElem_cons_succ, List.getElem_cons_zero]
        refine wpAnyH_take (i := 14) (v := ?_) rfl (by kernel_rfl) (by kernel_rfl) (by kernel_rfl) (fun _ _ _ h => h) (Or.inl ⟨by rfl, ?_⟩) (by assumption) ?_
        rotate_left
        · (intro w hSw; (try dsimp only at hSw); go_simp; first | done | with_reducible rfl)
        try simp only [Act.put, List.setIfInBounds_toArray, List.set_cons_zero, List.set_cons_succ, List.getElem_toArray, List.getElem_cons_succ, List.getElem_cons_zero]
        refine wpAnyH_take (i := 15) (v := ?_) rfl (by kernel_rfl) (by kernel_rfl) (by kernel_rfl) (fun _ _ _ h => h) (Or.inl ⟨by rfl, ?_⟩) (by assumption) ?_
        rotate_left
        · (intro w hSw; (try dsimp only at hSw); go_simp; first | done | with_reducible rfl)
        try simp only [Act.put, List.setIfInBounds_toArray, List.set_cons_zero, List.set_cons_succ, List.getElem_toArray, List.getElem_cons_succ, List.getElem_cons_zero]
        refine wpAnyH_ready (rs := [16]) (by kernel_rfl) (by simp) ?_
        refine AllReadyH.cons rfl (fun K hK => ?_) AllReadyH.nil
        have C := ask_x wr.drew (unhide T4d).ta (unhide hfew) (by omega) z1 z2 z3 (unhide fAd) (unhide hr).symm
        go_simp
        go_wp2_with (go_at_call 8; (with_reducible refine Calls.mono C ?_); rintro e w5 ⟨rfl, ⟨hv5, qv5, A5, F5⟩, B5, K5⟩; clear C; have x5 := hide (K5 N _ _ (.inr rfl) (unhide x4d)); have T5 := hide ((unhide T4d).turnA A5 F5 K5); have b5 := hide ((unhide b4d).trans (B5.mono (unhide hNb))); have e5 := hide ((Below.drew (Below.refl N wr)).trans (B5.mono (unhide hNb))); have hS5 := (unhide SS w5 (unhide e5)).2; clear A5 F5 B5 K5)
        refine hK.out _ _ (hS5) (fun hHeld => ?_)
        clear hK K
        try simp only [Act.put, List.setIfInBounds_toArray, List.set_cons_zero, List.set_cons_succ, List.getElem_toArray, List.getElem_cons_succ, List.getElem_cons_zero]
        refine wpAnyH_done (by kernel_rfl) ?_ _
        clear hHeld hS4 hS5
        go_wp2_with fail
        obtain ⟨w6, hw6⟩ : ∃ w6, w6 = w5 := ⟨_, rfl⟩
        subst hw6
        have T5d := hide ((unhide T5).next (drew_bel w6))
        have x5d : Hid (Bx c N w6.drew) := unhide x5
        have b5d := hide (unhide b5).drew
        have fRd := hide ((unhide T5d).gnR (unhide x5d))
        have hS6 := (unhide SS w6.drew (unhide e5).drew).2
        go_wp2_with fail
        refine wp_region_held_drew (S := fun wz => wz.cell? ⟨g, o + i * 4 + 1, none⟩ = some (.int .i64 z1) ∧ wz.cell? ⟨g, o + i * 4 + 2, none⟩ = some (.int .i64 z2) ∧ wz.cell? ⟨g, o + i * 4 + 3, none⟩ = some (.int .i64 z3)) (by kernel_rfl) ?hS9 (fun hHeld => ?_)
        case hS9 => exact hS6
        refine wpAnyH_take (i := 0) (v := ?_) rfl (by kernel_rfl) (by kernel_rfl) (by kernel_rfl) (fun _ _ _ h => h) (Or.inl ⟨by rfl, ?_⟩) (by assumption) ?_
        rotate_left
        · (intro w hSw; (try dsimp only at hSw); go_simp; first | done | with_reducible rfl)
        try simp only [Act.put, List.setIfInBounds_toArray, List.set_cons_zero, List.set_cons_succ, List.getElem_toArray, List.getElem_cons_succ, List.getElem_cons_zero]
        refine wpAnyH_take (i := 1) (v := ?_) rfl (by kernel_rfl) (by kernel_rfl) (by kernel_rfl) (fun _ _ _ h => h) (Or.inl ⟨by rfl, ?_⟩) (by assumption) ?_
        rotate_left
        · (intro w hSw; (try dsimp only at hSw); go_simp; first | done | with_reducible rfl)
        try simp only [Act.put, List.setIfInBounds_toArray, List.set_cons_zero, List.set_cons_succ, List.getElem_toArray, List.getElem_cons_succ, List.getElem_cons_zero]
        refine wpAnyH_take (i := 2) (v := ?_) rfl (by kernel_rfl) (by kernel_rfl) (by kernel_rfl) (fun _ _ _ h => h) (Or.inl ⟨by rfl, ?_⟩) (by assumption) ?_
        rotate_left
        · (intro w hSw; (try dsimp only at hSw); go_simp; first | done | with_reducible rfl)
        try simp only [Act.put, List.setIfInBounds_toArray, List.set_cons_zero, List.set_cons_succ, List.getElem_toArray, List.getElem_cons_succ, List.getElem_cons_zero]
        refine wpAnyH_take (i := 3) (v := ?_) rfl (by kernel_rfl) (by kernel_rfl) (by kernel_rfl) (fun _ _ _ h => h) (Or.inl ⟨by rfl, ?_⟩) (by assumption) ?_
        rotate_left
        · (intro w hSw; (try dsimp only at hSw); go_simp; first | done | with_reducible rfl)
        try simp only [Act.put, List.setIfInBounds_toArray, List.set_cons_zero, List.set_cons_succ, List.getElem_toArray, List.getElem_cons_succ, List.getElem_cons_zero]
        refine wpAnyH_take (i := 4) (v := ?_) rfl (by kernel_rfl) (by kernel_rfl) (by kernel_rfl) (fun _ _ _ h => h) (Or.inl ⟨by rfl, ?_⟩) (by assumption) ?_
        rotate_left
        · (intro w hSw; (try dsimp only at hSw); go_simp; first | done | with_reducible rfl)
        try simp only [Act.put, List.setIfInBounds_toArray, List.set_cons_zero, List.set_cons_succ, List.getElem_toArray, List.getElem_cons_succ, List.getElem_cons_zero]
        refine wpAnyH_take (i := 5) (v := ?_) rfl (by kernel_rfl) (by kernel_rfl) (by kernel_rfl) (fun _ _ _ h => h) (Or.inl ⟨by rfl, ?_⟩) (by assumption) ?_
        rotate_left
        · (intro w hSw; (try dsimp only at hSw); go_simp; first | done | with_reducible rfl)
        try simp only [Act.put, List.setIfInBounds_toArray, List.set_cons_zero, List.set_cons_succ, List.getElem_toArray, List.getElem_cons_succ, List.getElem_cons_zero]
        refine wpAnyH_take (i := 6) (v := ?_) rfl (by kernel_rfl) (by kernel_rfl) (by kernel_rfl) (fun _ _ _ h => h) (Or.inl ⟨by rfl, ?_⟩) (by assumption) ?_
        rotate_left
        · (intro w hSw; (try dsimp only at hSw); go_simp; first | done | with_reducible rfl)
        try simp only [Act.put, List.setIfInBounds_toArray, List.set_cons_zero, List.set_cons_succ, List.getElem_toArray, List.getElem_cons_succ, List.getElem_cons_zero]
        refine wpAnyH_take (i := 7) (v := ?_) rfl (by kernel_rfl) (by kernel_rfl) (by kernel_rfl) (fun _ _ _ h => h) (Or.inl ⟨by rfl, ?_⟩) (by assumption) ?_
        rotate_left
        · (intro w hSw; (try dsimp only at hSw); go_simp; first | done | with_reducible rfl)
        try simp only [Act.put, List.setIfInBounds_toArray, List.set_cons_zero, List.set_cons_succ, List.getElem_toArray, List.getElem_cons_succ, List.getElem_cons_zero]
        refine wpAnyH_take (i := 8) (v := ?_) rfl (by kernel_rfl) (by kernel_rfl) (by kernel_rfl) (fun _ _ _ h => h) (Or.inl ⟨by rfl, ?_⟩) (by assumption) ?_
        rotate_left
        · (intro w hSw; (try dsimp only at hSw); go_simp; first | done | with_reducible rfl)
        try simp only [Act.put, List.setIfInBounds_toArray, List.set_cons_zero, List.set_cons_succ, List.getElem_toArray, List.getElem_cons_succ, List.getElem_cons_zero]
        refine wpAnyH_take (i := 9) (v := ?_) rfl (by kernel_rfl) (by kernel_rfl) (by kernel_rfl) (fun _ _ _ h => h) (Or.inl ⟨by rfl, ?_⟩) (by assumption) ?_
        rotate_left
        · (intro w hSw; (try dsimp only at hSw); go_simp; first | done | with_reducible rfl)
        try simp only [Act.put, List.setIfInBounds_toArray, List.set_cons_zero, List.set_cons_succ, List.getElem_toArray, List.getElem_cons_succ, List.getElem_cons_zero]
        refine wpAnyH_take (i := 10) (v := ?_) rfl (by kernel_rfl) (by kernel_rfl) (by kernel_rfl) (fun _ _ _ h => h) (Or.inl ⟨by rfl, ?_⟩) (by assumption) ?_
        rotate_left
        · (intro w hSw; (try dsimp only at hSw); go_simp; first | done | with_reducible rfl)
        try simp only [Act.put, List.setIfInBounds_toArray, List.set_cons_zero, List.set_cons_succ, List.getElem_toArray, List.getElem_cons_succ, List.getElem_cons_zero]
        refine wpAnyH_take (i := 11) (v := ?_) rfl (by kernel_rfl) (by kernel_rfl) (by kernel_rfl) (fun _ _ _ h => h) (Or.inl ⟨by rfl, ?_⟩) (by assumption) ?_
        rotate_left
        · (intro w hSw; (try dsimp only at hSw); go_simp; first | done | with_reducible rfl)
        try simp only [Act.put, List.setIfInBounds_toArray, List.set_cons_zero, List.set_cons_succ, List.getElem_toArray, List.getElem_cons_succ, List.getElem_cons_zero]
        refine wpAnyH_take (i := 12) (v := ?_) rfl (by kernel_rfl) (by kernel_rfl) (by kernel_rfl) (fun _ _ _ h => h) (Or.inl ⟨by rfl, ?_⟩) (by assumption) ?_
        rotate_left
        · (intro w hSw; (try dsimp only at hSw); go_simp; first | done | with_reducible rfl)
        try simp only [Act.put, List.setIfInBounds_toArray, List.set_cons_zero, List.set_cons_succ, List.getElem_toArray, List.getElem_cons_succ, List.getElem_cons_zero]
        refine wpAnyH_take (i := 13) (v := ?_) rfl (by kernel_rfl) (by kernel_rfl) (by kernel_rfl) (fun _ _ _ h => h) (Or.inl ⟨by rfl, ?_⟩) (by assumption) ?_
        rotate_left
        · (intro w hSw; (try dsimp only at hSw); go_simp; first | done | with_reducible rfl)
        try simp only [Act.put, List.setIfInBounds_toArray, List.set_cons_zero, List.set_cons_succ, List.getElem_toArray, List.getElem_cons_succ, List.getElem_cons_zero]
        refine wpAnyH_take (i := 14) (v := ?_) rfl (by kernel_rfl) (by kernel_rfl) (by kernel_rfl) (fun _ _ _ h => h) (Or.inl ⟨by rfl, ?_⟩) (by assumption) ?_
        rotate_left
        · (intro w hSw; (try dsimp only at hSw); go_simp; first | done | with_reducible rfl)
        try simp only [Act.put, List.setIfInBounds_toArray, List.set_cons_zero, List.set_cons_succ, List.getElem_toArray, List.getElem_cons_succ, List.getElem_cons_zero]
        refine wpAnyH_take (i := 15) (v := ?_) rfl (by kernel_rfl) (by kernel_rfl) (by kernel_rfl) (fun _ _ _ h => h) (Or.inl ⟨by rfl, ?_⟩) (by assumption) ?_
        rotate_left
        · (intro w hSw; (try dsimp only at hSw); go_simp; first | done | with_reducible rfl)
        try simp only [Act.put, List.setIfInBounds_toArray, List.set_cons_zero, List.set_cons_succ, List.getElem_toArray, List.getElem_cons_succ, List.getElem_cons_zero]
        refine wpAnyH_ready (rs := [16]) (by kernel_rfl) (by simp) ?_
        refine AllReadyH.cons rfl (fun K hK => ?_) AllReadyH.nil
        have C := rask_t w6.drew (unhide T5d).tr (unhide hgd) (by omega) z1 z2 z3 (unhide fRd) (unhide hr).symm
        go_simp
        go_wp2_with (go_at_call 9; (with_reducible refine Calls.mono C ?_); rintro e w7 ⟨rfl, ⟨hv7, qv7, A7, F7⟩, B7, K7⟩; clear C; have x7 := hide (K7 N _ _ (.inr rfl) (unhide x5d)); have T7 := hide ((unhide T5d).turnR A7 F7 K7); have b7 := hide ((unhide b5d).trans (B7.mono (unhide hNb))); have e7 := hide ((unhide e5).drew.trans (B7.mono (unhide hNb))); have hS7 := (unhide SS w7 (unhide e7)).2; clear A7 F7 B7 K7)
        refine hK.out _ _ (hS7) (fun hHeld => ?_)
        clear hK K
        try simp only [Act.put, List.setIfInBounds_toArray, List.set_cons_zero, List.set_cons_succ, List.getElem_toArray, List.getElem_cons_succ, List.getElem_cons_zero]
        refine wpAnyH_done (by kernel_rfl) ?_ _
        obtain ⟨⟨r1, r2⟩, T'⟩ := r
        dsimp only at O5 T7
        clear hHeld
        go_wp2
        go_roundw
        case rel => exact ⟨i + 1, T', _, _, _, _, by omega, by go_num, unhide T7, unhide O5, unhide x7, unhide b7⟩
        case measure => simp [intOf]; omega
    · obtain rfl : i = n1 := by omega
      have hfew : Hid (Few n 1000 T) := (unhide O3).on.gd.few (by omega)
      obtain ⟨u, v, z, hx⟩ := nxV_eq (nxA c n T who a write) (nxE c a)
      have CP := hide (fun (y : World) (h : Bt B n 200 T T b rb lb hv qv b2 rb2 c2 lb2 hv2 qv2 y) => next_all c y h.ta (unhide hfew) who a write)
      have CR := hide (fun (y : World) (h : Bt B n 200 T T b rb lb hv qv b2 rb2 c2 lb2 hv2 qv2 y) => rnext_all c y h.tr (unhide hfew) (by omega) (unhide hm) who a write)
      rw [hx] at CP CR
      obtain ⟨en, hen⟩ : ∃ en, en = nxE c a := ⟨_, rfl⟩
      rw [← hen] at CP CR
      unfold cv at CP CR
      clear hx hen
      obtain ⟨a0, a1, a2, a3, a4, a5, a6, a7, a8, a9, a10, a11⟩ := (unhide x4).cells
      go_wp2_with fail
      refine (unhide CP wr (unhide T4)).mono ?_
      rintro e w5 ⟨rfl, b5⟩
      obtain ⟨w6, hw6⟩ : ∃ w6, w6 = w5.alloc (.cells #[.int .i64 u, .int .i64 v] 39) := ⟨_, rfl⟩
      obtain ⟨P, hP⟩ : ∃ P, P = w5.heap.size := ⟨_, rfl⟩
      have b6 : Below wr.heap.size wr w6 := by rw [hw6]; exact below_add b5 _
      have LP : Hid (Lk P u v w6) := by rw [hw6, hP]; exact lk_new w5 u v
      have T6 := hide ((unhide T4).next b6)
      have x6 := hide ((unhide x4).next b6)
      replace b6 := hide (bt (unhide b4) b6 (Nat.le_trans (unhide hNb) (unhide T4).low))
      clear a0 a1 a2 a3 a4 a5 a6 a7 a8 a9 a10 a11 b5 CP
      obtain ⟨a0, a1, a2, a3, a4, a5, a6, a7, a8, a9, a10, a11⟩ := (unhide x6).cells
      replace hw6 := hide hw6
      replace hP := hide hP
      go_upto_region 19 with fail

      rw [← unhide hP, ← unhide hw6]
      go_wp2_with fail
      refine (unhide CR w6 (unhide T6)).mono ?_
      rintro e w7 ⟨rfl, b7⟩
      obtain ⟨w8, hw8⟩ : ∃ w8, w8 = w7.alloc (.cells #[.int .i64 u, .int .i64 v] 39) := ⟨_, rfl⟩
      obtain ⟨Q, hQ⟩ : ∃ Q, Q = w7.heap.size := ⟨_, rfl⟩
      have b8 : Below w6.heap.size w6 w8 := by rw [hw8]; exact below_add b7 _
      have LQ : Hid (Lk Q u v w8) := by rw [hw8, hQ]; exact lk_new w7 u v
      have LP8 := hide ((unhide LP).next b8)
      have T8 := hide ((unhide T6).next b8)
      have x8 := hide ((unhide x6).next b8)
      replace b8 := hide (bt (unhide b6) b8 (Nat.le_trans (unhide hNb) (unhide T6).low))
      clear a0 a1 a2 a3 a4 a5 a6 a7 a8 a9 a10 a11 b7 CR LP T6 x6 b6 T4 x4 b4
      replace hw8 := hide hw8
      replace hQ := hide hQ
      go_upto_region 20 with fail
      rw [← unhide hQ, ← unhide hw8]
      go_wp2_with fail
      have Q8 : Hid (Qs c N B n 200 T b rb lb hv qv b2 rb2 c2 lb2 hv2 qv2 w8) := ⟨unhide x8, unhide T8⟩
      have hNw : Hid (N ≤ w8.heap.size) := Nat.le_trans (unhide hNb) (unhide T8).low
      clear T8 x8
      go_loopw [23] (fun s wz => ∃ (j : Nat), j ≤ n + 2 ∧ s = .int .i64 ((j : Int) - 1) ∧ Hid (Below w8.heap.size w8 wz)) (fun s _ => n + 2 - (intOf s + 1).toNat)
      case atStart => exact ⟨0, by omega, by go_num, Below.refl _ _⟩
      case round =>
        obtain ⟨j, hj, rfl, b9⟩ := hrel
        obtain ⟨wz, hwz⟩ : ∃ wz, wz = wr := ⟨_, rfl⟩
        subst hwz
        by_cases hjn : j < n + 2
        · have hle : (j : Int) - 1 ≤ (n : Int) := by omega
          obtain ⟨jj, hjj⟩ : ∃ jj : Int, jj = (j : Int) - 1 := ⟨_, rfl⟩
          rw [← hjj] at hle ⊢
          have hj1 : -1 ≤ jj := by omega
          replace hjj := hide hjj
          have S0 : Qs c N B n 200 T b rb lb hv qv b2 rb2 c2 lb2 hv2 qv2 wz.drew := ((unhide Q8).next (unhide b9)).next (drew_bel wz)
          have Bd := hide (Below.refl wz.heap.size wz)
          obtain ⟨m, hmm⟩ : ∃ m, m = strD c n T who jj := ⟨_, rfl⟩
          have cP := hide (fun y : Wc (Qs c N B n 200 T b rb lb hv qv b2 rb2 c2 lb2 hv2 qv2) wz => stripes_p c y.w ⟨_, _, _, _, y.ok.2.ta⟩ (unhide hfew) who jj hmm.symm)
          have cR := hide (fun y : Wc (Qs c N B n 200 T b rb lb hv qv b2 rb2 c2 lb2 hv2 qv2) wz => rstripes_t c y.w y.ok.2.tr (unhide hfew) (by omega) who jj ((cnt_str c who jj (unhide hm)).trans hmm.symm))
          unfold cv at cP cR
          have nb1 : ((m : Int) != (m : Int)) = false := by simp
          replace hmm := hide hmm
          go_wp2_with fail
          have hne : Nonempty (Wc (Qs c N B n 200 T b rb lb hv qv b2 rb2 c2 lb2 hv2 qv2) wz) := ⟨⟨_, S0, (unhide Bd).drew⟩⟩
          have q0 := fun y : Wc (Qs c N B n 200 T b rb lb hv qv b2 rb2 c2 lb2 hv2 qv2) wz => y.ok.1.cells
          have a0 := fun y => (q0 y).1
          have a1 := fun y => (q0 y).2.1
          have a2 := fun y => (q0 y).2.2.1
          have a3 := fun y => (q0 y).2.2.2.1
          have a4 := fun y => (q0 y).2.2.2.2.1
          have a5 := fun y => (q0 y).2.2.2.2.2.1
          have a6 := fun y => (q0 y).2.2.2.2.2.2.1
          have a7 := fun y => (q0 y).2.2.2.2.2.2.2.1
          have a8 := fun y => (q0 y).2.2.2.2.2.2.2.2.1
          have a9 := fun y => (q0 y).2.2.2.2.2.2.2.2.2.1
          have a10 := fun y => (q0 y).2.2.2.2.2.2.2.2.2.2.1
          have a11 := fun y => (q0 y).2.2.2.2.2.2.2.2.2.2.2
          clear q0
          refine wp_region_wc (S := Qs c N B n 200 T b rb lb hv qv b2 rb2 c2 lb2 hv2 qv2) S0 (unhide Bd) (by kernel_rfl) (by kernel_rfl) ?_
          try simp only [List.append]
          repeat (go_big_quiet_step (first | (go_at_call 32; with_reducible exact Wc.call (fun _ _ h k => h.next k) (unhide cP _)) | (go_at_call 33; with_reducible exact Wc.call (fun _ _ h k => h.next k) (unhide cR _))))
          refine wpQuiet_nil ?_
          intro wv hw'
          have bv : Hid (Below wz.heap.size wz wv) := by
            obtain ⟨y, hy⟩ := hw'
            rw [hy]
            exact y.bel
          clear hw' hne cP cR S0 a0 a1 a2 a3 a4 a5 a6 a7 a8 a9 a10 a11
          have b10 := hide (below_then (unhide b9) (unhide bv))
          go_wp2
          go_roundw
          case rel => exact ⟨j + 1, by omega, by rw [unhide hjj]; go_num, unhide b10⟩
          case measure => simp [intOf]; omega
        · obtain rfl : j = n + 2 := by omega
          have hgt : ¬ (((n + 2 : Nat) : Int) - 1 ≤ (n : Int)) := by omega
          obtain ⟨jj, hjj⟩ : ∃ jj : Int, jj = ((n + 2 : Nat) : Int) - 1 := ⟨_, rfl⟩
          rw [← hjj] at hgt ⊢
          replace hjj := hide hjj
          go_wp2_with fail
          refine (first10_any wz).mono ?_
          rintro e w10 ⟨rfl, b10⟩
          replace b10 := hide (below_then (unhide b9) b10)
          obtain ⟨p0, p1, p2⟩ := (unhide LP8).next (unhide b10)
          obtain ⟨q0, q1, q2⟩ := (unhide LQ).next (unhide b10)
          have BE := hide (bt (unhide b8) (unhide b10) (unhide hNw))
          go_wp2
          go_ret
          exact ⟨rfl, by rw [← unhide hN]; exact unhide BE⟩
end Go.Proofs.YtgiklggnolbiiaaGreat

/- PathTells: all arguments. -/
namespace Go.Proofs.YtgiklggnolbiiaaGreat
open Go.RowKit
set_option maxRecDepth 100000 in
set_option maxHeartbeats 4000000 in
theorem pathTells_early (c : Cf) (a1 : Option Addr) (n1 cap1 : Nat) (who a : Int) (write : Bool) (w : World) (hl : n1 ≤ maxLen) (h : 300 < n1) :
    Calls Tryz.prog 4 #[cv c, .slice a1 n1 cap1, .int .i64 who, .int .i64 a, .bool write] w fun e w' => e = .returned (.bool true) ∧ Below w.heap.size w w' := by
  unfold maxLen at hl
  have k : (300 : Int) < (n1 : Int) := by omega
  obtain ⟨w0, hw0⟩ : ∃ w0, w0 = w.alloc (.cells #[.int .i64 c.r, .int .i64 c.o, .int .i64 c.s, .int .i64 c.d, .int .i64 c.t, .int .i64 c.l, .int .i64 c.g, .int .i64 c.k, .int .i64 c.u, .int .i64 c.e, .int .i64 c.i, .int .i64 c.p] 68) := ⟨_, rfl⟩
  have b0 : Hid (Below w.heap.size w w0) := by rw [hw0]; exact below_new w _
  unfold cv
  go_enter Tryz.func4, Tryz.ntmps4
  go_wp2_with fail
  rw [← hw0]
  replace hw0 := hide hw0
  refine (first10_any w0).mono ?_
  rintro e w1 ⟨rfl, b1⟩
  replace b1 := hide (below_then (unhide b0) b1)
  go_wp2_with fail
  refine (first10_any w1).mono ?_
  rintro e w2 ⟨rfl, b2⟩
  replace b2 := hide (below_then (unhide b1) b2)
  go_wp2
  go_ret
  exact ⟨rfl, unhide b2⟩
theorem pathTells_walk (c : Cf) (a1 : Option Addr) (len1 cap1 : Nat) (Z1 : Nat → Nat → Int) (who a : Int) (write : Bool) (W : World) (s1 : RecsB 4 W.heap.size W a1 len1 Z1) (lc1 : len1 ≤ cap1) (cm1 : cap1 ≤ maxLen)
    (_wz1 : ∀ i, i < len1 → ∀ j, j < 4 → (Lit.int .i64 (Z1 i j)).wf = true) (_w2 : (Lit.int .i64 who).wf = true) (_w3 : (Lit.int .i64 a).wf = true) :
    Calls Tryz.prog 4 #[cv c, .slice a1 len1 cap1, .int .i64 who, .int .i64 a, .bool write] W fun e w' => e = .returned (.bool true) ∧ Below W.heap.size W w' := by
  by_cases h : 300 < len1
  · exact pathTells_early c a1 len1 cap1 who a write W (Nat.le_trans lc1 cm1) h
  · exact pathTells_in c a1 len1 cap1 Z1 who a write W s1 (by omega)
end Go.Proofs.YtgiklggnolbiiaaGreat
