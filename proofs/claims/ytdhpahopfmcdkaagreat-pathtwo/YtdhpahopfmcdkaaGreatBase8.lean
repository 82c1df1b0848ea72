/- Texts of this claim, put together in their order. -/
import Derived.Test.YtdhpahopfmcdkaaGreatBase1
import Derived.Test.YtdhpahopfmcdkaaGreatBase2
import Derived.Test.YtdhpahopfmcdkaaGreatBase3
import Derived.Test.YtdhpahopfmcdkaaGreatBase4
import Derived.Test.YtdhpahopfmcdkaaGreatBase5
import Derived.Test.YtdhpahopfmcdkaaGreatBase6
import Derived.Test.YtdhpahopfmcdkaaGreatBase7
/- What the walks of package path's laws share: the configuration's box beside the table; the three nodes of a word; first. -/
namespace Go.Proofs.YtdhpahopfmcdkaaGreat
open Go.RowKit
variable {B n : Nat} {most : Int} {T : Nat → Lv} {b : Nat}

/-- The configuration's box and the table; all of it at or above the world w0. -/
structure Py (c : Cf) (q B n : Nat) (most : Int) (T : Nat → Lv) (b : Nat) (w0 w : World) : Prop where
  bx : Bx c q w
  tn : Tn B n most T b w
  bel : Below w0.heap.size w0 w
  low : w0.heap.size ≤ B
namespace Py
variable {c : Cf} {q : Nat} {w0 w w' : World}
theorem next (h : Py c q B n most T b w0 w) (k : Below w.heap.size w w') : Py c q B n most T b w0 w' := ⟨h.bx.next k, h.tn.next k, below_then h.bel k, h.low⟩
theorem turn (h : Py c q B n most T b w0 w) {T' : Nat → Lv} (t : Tn B n most T' b w') (k : Below B w w') (s : Stay w w') : Py c q B n most T' b w0 w' :=
  ⟨s q _ 23 h.bx (by decide) (by decide), t, h.bel.trans (k.mono h.low), h.low⟩
theorem pair (h : Py c q B n most T b w0 w) (x y : Int) : Py c q B n most T b w0 (w.alloc (.cells #[.int .i64 x, .int .i64 y] 41)) := h.next (below_new w _)
end Py
/-- The three nodes of a word. -/
structure N3 (c : Cf) (n : Nat) (a : Int) (r o s : Nat) : Prop where
  hr : rD c a = (r : Int)
  ho : c.r + oD c a = (o : Int)
  hs : c.r + no c + sD c a = (s : Int)
  rn : r < n
  on : o < n
  sn : s < n
  ro : r ≠ o
  rs : r ≠ s
  os : o ≠ s
theorem n3_of {c : Cf} (hok : okB c = true) {n : Nat} (hn : (n : Int) = nodesD c) {a : Int} (h0 : 0 ≤ a) (h1 : a < nw c) : ∃ r o s, N3 c n a r o s := by
  have hp := okB_hp hok
  obtain ⟨s0, s1⟩ := s_in hp h0 h1
  obtain ⟨o0, o1⟩ := o_in hp h0 h1
  obtain ⟨r0, r1⟩ := r_in hp h0 h1
  have b1 := hp.r1
  have b2 := (no_in hp).1
  have hnn := nodes_ok hok
  refine ⟨(rD c a).toNat, (c.r + oD c a).toNat, (c.r + no c + sD c a).toNat, ?_, ?_, ?_, ?_, ?_, ?_, ?_, ?_, ?_⟩ <;> omega
theorem N3.next0 {c : Cf} {a : Int} {r o s : Nat} (h : N3 c n a r o s) (f g : Nat → Int) (write : Bool) :
    nextD c n (duo f g) 0 a write = nextK (f r) (f o) (f s) (escB c n (duo f g) 0 (o : Int)) write r o s := by
  unfold nextD
  rw [h.hr, h.ho, h.hs, holdT_in h.rn, holdT_in h.on, holdT_in h.sn]
  show nextK (lookD 0 (duoL (f r) (g r))) (lookD 0 (duoL (f o) (g o))) (lookD 0 (duoL (f s) (g s))) _ _ _ _ _ = _
  rw [duoL_0, duoL_0, duoL_0]
theorem N3.next1 {c : Cf} {a : Int} {r o s : Nat} (h : N3 c n a r o s) (f g : Nat → Int) (write : Bool) :
    nextD c n (duo f g) 1 a write = nextK (g r) (g o) (g s) (escB c n (duo f g) 1 (o : Int)) write r o s := by
  unfold nextD
  rw [h.hr, h.ho, h.hs, holdT_in h.rn, holdT_in h.on, holdT_in h.sn]
  show nextK (lookD 1 (duoL (f r) (g r))) (lookD 1 (duoL (f o) (g o))) (lookD 1 (duoL (f s) (g s))) _ _ _ _ _ = _
  rw [duoL_1, duoL_1, duoL_1]
theorem esc_zero {c : Cf} (h : c.e = 0) (n : Nat) (T : Nat → Lv) (who o : Int) : escB c n T who o = false := by
  unfold escB
  rw [h]; rfl
theorem esc_none {c : Cf} {n : Nat} {T : Nat → Lv} {who o : Int} (h : strD c n T who o = 0) : escB c n T who o = false := by
  unfold escB
  rw [h]
  by_cases h2 : 0 < c.e
  · simp
  · simp [h2]
theorem strK_zero {n : Nat} {T : Nat → Lv} {who f : Int} : ∀ k : Nat, (∀ j : Nat, j < k → holdT n T who (f + j) = 0) → strK n T who f k = 0
  | 0, _ => rfl
  | k + 1, h => by
    unfold strK
    rw [strK_zero k (fun j hj => h j (by omega)), if_pos (h k (by omega))]
theorem strK_one {n : Nat} {T : Nat → Lv} {who f : Int} {i : Nat} (hi : holdT n T who (f + i) ≠ 0) : ∀ k : Nat, (∀ j : Nat, j < k → j ≠ i → holdT n T who (f + j) = 0) → strK n T who f k = if i < k then 1 else 0
  | 0, _ => rfl
  | k + 1, h => by
    unfold strK
    rw [strK_one hi k (fun j hj => h j (by omega))]
    by_cases e : k = i
    · subst e
      rw [if_neg hi, if_neg (Nat.lt_irrefl k), if_pos (Nat.lt_succ_self k)]
    · rw [if_pos (h k (by omega) e)]
      by_cases h2 : i < k
      · rw [if_pos h2, if_pos (by omega)]
      · rw [if_neg h2, if_neg (by omega)]
/-- Where the stripes of a word's object lie. -/
theorem N3.str {c : Cf} {a : Int} {r o s : Nat} (h : N3 c n a r o s) (hok : okB c = true) (hn : (n : Int) = nodesD c) (h0 : 0 ≤ a) (h1 : a < nw c) :
    levelD c (o : Int) = 1 ∧ ∃ (f i k : Nat), fstS c (o : Int) = (f : Int) ∧ c.s = (k : Int) ∧ s = f + i ∧ i < k ∧ f + k ≤ n ∧ o < f := by
  have hp := okB_hp hok
  obtain ⟨s0, s1⟩ := s_in hp h0 h1
  obtain ⟨o0, o1⟩ := o_in hp h0 h1
  have b1 := hp.r1
  have b2 := (no_in hp).1
  have b3 := hp.s1
  have hnn := nodes_ok hok
  have hl := level_o hok o0 o1
  have hho := h.ho
  rw [hho] at hl
  obtain ⟨q0, q1⟩ := fst_in hp (o := (o : Int)) (by omega) (by omega)
  have hf : fstS c (o : Int) = c.r + no c + (oD c a) * c.s := by
    unfold fstS
    rw [show (o : Int) - c.r = oD c a by omega]
  have e1 : (o : Int) - c.r = oD c a := by omega
  rw [e1] at q0 q1
  have hd1 : sD c a / c.s = oD c a := rfl
  have hd2 := Int.ediv_mul_le (sD c a) (show c.s ≠ 0 by omega)
  have hd3 := Int.lt_ediv_add_one_mul_self (sD c a) (show 0 < c.s by omega)
  rw [hd1] at hd2 hd3
  have e2 : (oD c a + 1) * c.s = oD c a * c.s + c.s := by rw [Int.add_mul, Int.one_mul]
  rw [e2] at hd3
  have hhs := h.hs
  refine ⟨hl, (fstS c (o : Int)).toNat, (sD c a - oD c a * c.s).toNat, c.s.toNat, ?_, ?_, ?_, ?_, ?_, ?_⟩ <;> rw [hf] at * <;> omega
def ten : Cf := ⟨1, 1, 1, 1, 1, 0, 1, 9, 1, 0, 1, 0⟩
theorem ten_next : nextD ten 3 none0 0 0 false = ((0, 1), true) := by decide +kernel
theorem ten_ok : okB ten = true := by decide
set_option maxRecDepth 100000 in
theorem first10_any (w : World) : Calls Tryz.prog 5 #[] w fun e w' => e = .returned (.bool true) ∧ Below w.heap.size w w' := by
  have X := fun (w' : World) (B b : Nat) (h : Tn B 3 9 none0 b w') => next_in ten w' h (few_none _ _) 0 0 false ten_ok (by decide) (by decide) ten_next
  unfold cv nxV at X
  replace X := hide X
  have hbn := below_new w (.cells #[.int .i64 1, .int .i64 1, .int .i64 1, .int .i64 1, .int .i64 1, .int .i64 0, .int .i64 1, .int .i64 9, .int .i64 1, .int .i64 0, .int .i64 1, .int .i64 0] 23)
  have hbx := bx_new ten w
  obtain ⟨w1, hw1⟩ : ∃ w1, w1 = w.alloc (.cells #[.int .i64 1, .int .i64 1, .int .i64 1, .int .i64 1, .int .i64 1, .int .i64 0, .int .i64 1, .int .i64 9, .int .i64 1, .int .i64 0, .int .i64 1, .int .i64 0] 23) := ⟨_, rfl⟩
  obtain ⟨q, hq⟩ : ∃ q, q = w.heap.size := ⟨_, rfl⟩
  have b1 : Hid (Below w.heap.size w w1) := by rw [hw1]; exact hbn
  have x1 : Hid (Bx ten q w1) := by rw [hw1, hq]; exact hbx
  clear hbn hbx
  go_enter Tryz.func5, Tryz.ntmps5
  go_wp2_with fail
  rw [← hw1, ← hq]
  replace hw1 := hide hw1
  replace hq := hide hq
  refine (new_n 3 9 w1 (by decide) (by decide) (by decide) (by decide)).mono ?_
  rintro e w2 ⟨b, rfl, L2, b2⟩
  have x2 := (unhide x1).next b2
  obtain ⟨a0, a1, a2, a3, a4, a5, a6, a7, a8, a9, a10, a11⟩ := x2.cells
  simp only [ten] at a0 a1 a2 a3 a4 a5 a6 a7 a8 a9 a10 a11
  have B2 := hide (below_then (unhide b1) b2)
  replace L2 := hide L2
  clear x2 b2
  go_wp2_with fail
  refine (unhide X w2 _ b (unhide L2)).mono ?_
  rintro e w3 ⟨rfl, b3⟩
  have B3 := hide (below_add (below_then (unhide B2) b3) (.cells #[.int .i64 0, .int .i64 1] 41))
  clear a0 a1 a2 a3 a4 a5 a6 a7 a8 a9 a10 a11 b3
  go_wp2
  go_ret
  exact ⟨rfl, unhide B3⟩
end Go.Proofs.YtdhpahopfmcdkaaGreat

/- Next and Ask over the box and the table; the leaves of the laws, for a configuration that may be. -/
namespace Go.Proofs.YtdhpahopfmcdkaaGreat
open Go.RowKit

/-- Is there more to ask for? -/
def nx2 (hr ho hs : Int) (esc write : Bool) : Bool :=
  if coversB hr (inD write) = false then true else if wholeB write ho = true then false else if coversB hs (wantD write) = false ∧ esc = true then true
  else if coversB ho (inD write) = false then true else if coversB hs (wantD write) = false then true else false
theorem nextK_2 (hr ho hs : Int) (esc write : Bool) (r o s : Int) : (nextK hr ho hs esc write r o s).2 = nx2 hr ho hs esc write := by
  unfold nextK nx2
  cases coversB hr (inD write) <;> cases wholeB write ho <;> cases coversB hs (wantD write) <;> cases esc <;> cases coversB ho (inD write) <;> rfl
theorem nodes_le {c : Cf} (h : okB c = true) : ∃ n : Nat, (n : Int) = nodesD c ∧ 1 ≤ n ∧ n ≤ 600 := by
  have hp := okB_hp h
  have := hp.r1
  have := hp.r8
  have := no_in hp
  have := ns_in hp
  have e := nodes_ok h
  exact ⟨(nodesD c).toNat, by omega, by omega, by omega⟩
theorem check_ok {c : Cf} (h : okB c = true) (w : World) : Calls Tryz.prog 17 #[cv c] w fun e w' => e = .returned (.int .i64 0) ∧ Below w.heap.size w w' := by
  have := rcheck_any c w
  rw [h, errOf_t] at this
  exact this
theorem words_at {c : Cf} (h : okB c = true) (w : World) : Calls Tryz.prog 18 #[cv c] w fun e w' => e = .returned (.int .i64 (nw c)) ∧ Below w.heap.size w w' := by
  have := rwords_any c w
  rw [words_eq h] at this
  exact this
theorem N3.path {c : Cf} {n : Nat} {a : Int} {r o s : Nat} (h : N3 c n a r o s) (hok : okB c = true) (h0 : 0 ≤ a) (h1 : a < nw c) (w : World) :
    Calls Tryz.prog 20 #[cv c, .int .i64 a] w fun e w' => e = .returned (.tuple #[.int .i64 r, .int .i64 o, .int .i64 s, .int .i64 (0)]) ∧ Below w.heap.size w w' := by
  have := path_ok c a w hok h0 h1
  rw [h.hr, h.ho, h.hs] at this
  exact this
theorem nodes_at {c : Cf} {n : Nat} (hn : (n : Int) = nodesD c) (w : World) : Calls Tryz.prog 19 #[cv c] w fun e w' => e = .returned (.int .i64 (n : Int)) ∧ Below w.heap.size w w' := by
  rw [hn]; exact nodes_any c w
/-- Next, over the box and the table. -/
theorem Py.nxt {B n : Nat} {most : Int} {T : Nat → Lv} {b : Nat} {c : Cf} {q : Nat} {w0 w : World} (h : Py c q B n most T b w0 w) (hf : Few n 1000 T) (hok : okB c = true) {who a : Int} {write : Bool} (h0 : 0 ≤ a) (h1 : a < nw c) {x y : Int} {u : Bool} (hx : nextD c n T who a write = ((x, y), u)) :
    Calls Tryz.prog 13 #[cv c, .pointer (some ⟨b, 0, none⟩), .int .i64 who, .int .i64 a, .bool write] w fun e w' => e = .returned (.tuple #[.agg #[.int .i64 x, .int .i64 y], .bool u, .int .i64 0]) ∧ Py c q B n most T b w0 w' :=
  (next_in c w h.tn hf who a write hok h0 h1 hx).mono fun _ _ ⟨e, k⟩ => ⟨e, h.next k⟩
/-- Ask, over the box and the table. -/
theorem Py.ask {B n : Nat} {most : Int} {T : Nat → Lv} {b : Nat} {c : Cf} {q : Nat} {w0 w : World} (h : Py c q B n most T b w0 w) (hf : Few n 1000 T) (hn : n ≤ 10000) {who node m r e0 : Int} {T' : Nat → Lv} (hr : askT n most T who node m = ((r, e0), T')) :
    Calls Tryz.prog 9 #[.pointer (some ⟨b, 0, none⟩), .int .i64 who, .int .i64 node, .int .i64 m] w fun e w' => e = .returned (.tuple #[.int .i64 r, .int .i64 e0]) ∧ Py c q B n most T' b w0 w' ∧ Below B w w' ∧ Stay w w' :=
  (ask_n w h.tn hf hn who node m hr).mono fun _ _ ⟨e, t, k, s⟩ => ⟨e, h.turn t k s, k, s⟩
end Go.Proofs.YtdhpahopfmcdkaaGreat
