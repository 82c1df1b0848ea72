/- Texts of this claim, put together in their order. -/
import Derived.Test.YtdhpahopfmcdkaaBase1
import Derived.Test.YtdhpahopfmcdkaaBase2
import Derived.Test.YtdhpahopfmcdkaaBase3
import Derived.Test.YtdhpahopfmcdkaaBase4
import Derived.Test.YtdhpahopfmcdkaaBase5
import Derived.Test.YtdhpahopfmcdkaaBase6
import Derived.Test.YtdhpahopfmcdkaaBase7
import Derived.Test.YtdhpahopfmcdkaaBase8
import Derived.Test.YtdhpahopfmcdkaaBase9
import Derived.Test.YtdhpahopfmcdkaaBase10
/- PathAll: its walk. -/
namespace Go.Proofs.Ytdhpahopfmcdkaa
open Go.RowKit

theorem nodes_le {c : Cf} (h : okB c = true) : ∃ n : Nat, (n : Int) = nodesD c ∧ 1 ≤ n ∧ n ≤ 600 := by
  have hp := okB_hp h
  have := hp.r1
  have := hp.r8
  have := no_in hp
  have := ns_in hp
  have e := nodes_ok h
  exact ⟨(nodesD c).toNat, by omega, by omega, by omega⟩
theorem check_ok {c : Cf} (h : okB c = true) (w : World) : Calls Try.prog 38 #[cv c] w fun e w' => e = .returned (.int .i64 0) ∧ Below w.heap.size w w' := by
  have := rcheck_any c w
  rw [h, errOf_t] at this
  exact this
theorem words_at {c : Cf} (h : okB c = true) (w : World) : Calls Try.prog 48 #[cv c] w fun e w' => e = .returned (.int .i64 (nw c)) ∧ Below w.heap.size w w' := by
  have := rwords_any c w
  rw [words_eq h] at this
  exact this
theorem N3.path {c : Cf} {n : Nat} {a : Int} {r o s : Nat} (h : N3 c n a r o s) (hok : okB c = true) (h0 : 0 ≤ a) (h1 : a < nw c) (w : World) :
    Calls Try.prog 49 #[cv c, .int .i64 a] w fun e w' => e = .returned (.tuple #[.int .i64 r, .int .i64 o, .int .i64 s, .int .i64 (0)]) ∧ Below w.heap.size w w' := by
  have := path_ok c a w hok h0 h1
  rw [h.hr, h.ho, h.hs] at this
  exact this
theorem nodes_at {c : Cf} {n : Nat} (hn : (n : Int) = nodesD c) (w : World) : Calls Try.prog 39 #[cv c] w fun e w' => e = .returned (.int .i64 (n : Int)) ∧ Below w.heap.size w w' := by
  rw [hn]; exact nodes_any c w
/-- Next, over the box and the table. -/
theorem Py.nxt {B n : Nat} {most : Int} {T : Nat → Lv} {b : Nat} {c : Cf} {q : Nat} {w0 w : World} (h : Py c q B n most T b w0 w) (hf : Few n 1000 T) (hok : okB c = true) {who a : Int} {write : Bool} (h0 : 0 ≤ a) (h1 : a < nw c) {x y : Int} {u : Bool} (hx : nextD c n T who a write = ((x, y), u)) :
    Calls Try.prog 41 #[cv c, .pointer (some ⟨b, 0, none⟩), .int .i64 who, .int .i64 a, .bool write] w fun e w' => e = .returned (.tuple #[.agg #[.int .i64 x, .int .i64 y], .bool u, .int .i64 0]) ∧ Py c q B n most T b w0 w' :=
  (next_in c w h.tn hf who a write hok h0 h1 hx).mono fun _ _ ⟨e, k⟩ => ⟨e, h.next k⟩
/-- Ask, over the box and the table. -/
theorem Py.ask {B n : Nat} {most : Int} {T : Nat → Lv} {b : Nat} {c : Cf} {q : Nat} {w0 w : World} (h : Py c q B n most T b w0 w) (hf : Few n 1000 T) (hn : n ≤ 10000) {who node m r e0 : Int} {T' : Nat → Lv} (hr : askT n most T who node m = ((r, e0), T')) :
    Calls Try.prog 29 #[.pointer (some ⟨b, 0, none⟩), .int .i64 who, .int .i64 node, .int .i64 m] w fun e w' => e = .returned (.tuple #[.int .i64 r, .int .i64 e0]) ∧ Py c q B n most T' b w0 w' ∧ Below B w w' ∧ Stay w w' :=
  (ask_n w h.tn hf hn who node m hr).mono fun _ _ ⟨e, t, k, s⟩ => ⟨e, h.turn t k s, k, s⟩
set_option maxRecDepth 100000 in
set_option maxHeartbeats 8000000 in
theorem all_in (c : Cf) (a : Int) (write : Bool) (w : World) (hok : okB c = true) (h0 : 0 ≤ a) (h1 : a < nw c) :
    Calls Try.prog 9 #[cv c, .int .i64 a, .bool write] w fun e w' => e = .returned (.bool true) ∧ Below w.heap.size w w' := by
  obtain ⟨n, hn, n1, n2⟩ := nodes_le hok
  obtain ⟨r, o, s, h3⟩ := n3_of hok hn h0 h1
  obtain ⟨A1, A2, A3, A4, A5, A6⟩ := all_facts h3 hok hn h0 h1 write
  obtain ⟨⟨⟨y4, z4⟩, u4⟩, N4⟩ : ∃ x, nextD c n (duo (fA r o 3 (inD write)) zer) 0 a write = x := ⟨_, rfl⟩
  obtain ⟨⟨⟨y6, z6⟩, u6⟩, N6⟩ : ∃ x, nextD c n (duo (fA r o 5 (inD write)) zer) 0 a write = x := ⟨_, rfl⟩
  rw [N4] at A4
  rw [N6] at A6
  replace A4 : u4 = write := A4
  replace A6 : u6 = false := A6
  subst A4 A6
  have hx := bx_new c w
  have hb := below_new w (.cells #[.int .i64 c.r, .int .i64 c.o, .int .i64 c.s, .int .i64 c.d, .int .i64 c.t, .int .i64 c.l, .int .i64 c.g, .int .i64 c.k, .int .i64 c.u, .int .i64 c.e, .int .i64 c.i, .int .i64 c.p] 73)
  obtain ⟨w1, hw1⟩ : ∃ w1, w1 = w.alloc (.cells #[.int .i64 c.r, .int .i64 c.o, .int .i64 c.s, .int .i64 c.d, .int .i64 c.t, .int .i64 c.l, .int .i64 c.g, .int .i64 c.k, .int .i64 c.u, .int .i64 c.e, .int .i64 c.i, .int .i64 c.p] 73) := ⟨_, rfl⟩
  obtain ⟨q, hq⟩ : ∃ q, q = w.heap.size := ⟨_, rfl⟩
  rw [← hw1, ← hq] at hx
  rw [← hw1] at hb
  replace hb := hide hb
  have HC := hide (fun w' => check_ok hok w')
  have HW := hide (fun w' => words_at hok w')
  have HP := hide (fun w' => h3.path hok h0 h1 w')
  have HN := hide (fun w' => nodes_at hn w')
  have hle : a < nw c := h1
  have hnb := nw_in (okB_hp hok)
  have HK := hide hok
  have HA1 := hide A1
  have HA2 := hide A2
  have HA3 := hide A3
  have HA5 := hide A5
  have HN4 := hide N4
  have HN6 := hide N6
  have k0 : ¬ a < 0 := by omega
  have k1 : ¬ nw c ≤ a := by omega
  have H0 := hide h0
  have H1 := hide h1
  clear hok hn h3 A1 A2 A3 A5 N4 N6 hnb
  obtain ⟨a0, a1, a2, a3, a4, a5, a6, a7, a8, a9, a10, a11⟩ := hx.cells
  obtain ⟨W, hW⟩ : ∃ W, W = nw c := ⟨_, rfl⟩
  rw [← hW] at HW k1 hle
  replace hW := hide hW
  unfold cv
  go_enter Try.func9, Try.ntmps9
  go_wp2_with fail
  rw [← hw1, ← hq]
  refine (first10_any w1).mono ?_
  rintro e w2 ⟨rfl, b2⟩
  have x2 := hx.next b2
  have B2 := hide (below_then (unhide hb) b2)
  replace hw1 := hide hw1
  replace hq := hide hq
  clear a0 a1 a2 a3 a4 a5 a6 a7 a8 a9 a10 a11 b2 hx
  obtain ⟨a0, a1, a2, a3, a4, a5, a6, a7, a8, a9, a10, a11⟩ := x2.cells
  go_wp2_with fail
  refine (unhide HC w2).mono ?_
  rintro e w3 ⟨rfl, b3⟩
  have x3 := x2.next b3
  have B3 := hide (below_then (unhide B2) b3)
  clear a0 a1 a2 a3 a4 a5 a6 a7 a8 a9 a10 a11 b3 x2
  obtain ⟨a0, a1, a2, a3, a4, a5, a6, a7, a8, a9, a10, a11⟩ := x3.cells
  go_wp2_with fail
  refine (unhide HW w3).mono ?_
  rintro e w4 ⟨rfl, b4⟩
  have x4 := x3.next b4
  have B4 := hide (below_then (unhide B3) b4)
  clear a0 a1 a2 a3 a4 a5 a6 a7 a8 a9 a10 a11 b4 x3
  obtain ⟨a0, a1, a2, a3, a4, a5, a6, a7, a8, a9, a10, a11⟩ := x4.cells
  go_wp2_with fail
  refine (unhide HN w4).mono ?_
  rintro e w5 ⟨rfl, b5⟩
  have x5 := x4.next b5
  have B5 := hide (below_then (unhide B4) b5)
  clear a0 a1 a2 a3 a4 a5 a6 a7 a8 a9 a10 a11 b5 x4
  go_wp2_with fail
  refine (new_n n 100 w5 n1 (by omega) (by decide) (by decide)).mono ?_
  rintro e w6 ⟨b, rfl, L6, b6⟩
  obtain ⟨B, hB⟩ : ∃ B, B = w5.heap.size := ⟨_, rfl⟩
  rw [← hB] at L6
  have X6 : Hid (Py c q B n 100 none0 b w w6) := hide ⟨x5.next b6, L6, below_then (unhide B5) b6, by rw [hB]; exact (unhide B5).size⟩
  replace hB := hide hB
  clear x5 b6 L6
  obtain ⟨a0, a1, a2, a3, a4, a5, a6, a7, a8, a9, a10, a11⟩ := (unhide X6).bx.cells
  go_wp2_with fail
  refine (unhide HP w6).mono ?_
  rintro e w7 ⟨rfl, b7⟩
  have X7 := hide ((unhide X6).next b7)
  clear a0 a1 a2 a3 a4 a5 a6 a7 a8 a9 a10 a11 b7
  go_wp2_with fail
  refine ((unhide X7).ask (few_none _ _) (by omega) (unhide HA1)).mono ?_
  rintro e w8 ⟨rfl, X8, b8, s8⟩
  replace X8 := hide X8
  clear b8 s8
  obtain ⟨a0, a1, a2, a3, a4, a5, a6, a7, a8, a9, a10, a11⟩ := (unhide X8).bx.cells
  go_wp2_with fail
  refine ((unhide X8).nxt (duo_few _ _ _) (unhide HK) (unhide H0) (unhide H1) (unhide HA2)).mono ?_
  rintro e w9 ⟨rfl, X9⟩
  have P9 := heap_alloc_new w9 (.cells #[.int .i64 (r : Int), .int .i64 (inD u4)] 50)
  replace X9 := hide (X9.pair (r : Int) (inD u4))
  obtain ⟨W9, hW9⟩ : ∃ W9, W9 = w9.alloc (.cells #[.int .i64 (r : Int), .int .i64 (inD u4)] 50) := ⟨_, rfl⟩
  obtain ⟨p9, hp9⟩ : ∃ p9, p9 = w9.heap.size := ⟨_, rfl⟩
  rw [← hW9, ← hp9] at P9
  rw [← hW9] at X9
  obtain ⟨y0, y1, _, _⟩ := lock_cells P9
  clear a0 a1 a2 a3 a4 a5 a6 a7 a8 a9 a10 a11 P9
  go_upto_region 11 with fail
  rw [← hW9, ← hp9]
  replace hW9 := hide hW9
  replace hp9 := hide hp9
  cases u4
  all_goals
    simp only [inD, Bool.false_eq_true, if_false, if_true] at y0 y1
    go_wp2_with fail
    refine ((unhide X9).ask (duo_few _ _ _) (by omega) (unhide HA3)).mono ?_
    rintro e w10 ⟨rfl, X10, b10, s10⟩
    replace X10 := hide X10
    clear b10 s10 y0 y1
    obtain ⟨a0, a1, a2, a3, a4, a5, a6, a7, a8, a9, a10, a11⟩ := (unhide X10).bx.cells
    go_wp2_with fail
    refine ((unhide X10).nxt (duo_few _ _ _) (unhide HK) (unhide H0) (unhide H1) (unhide HN4)).mono ?_
    rintro e w11 ⟨rfl, X11⟩
    replace X11 := hide (X11.pair y4 z4)
    clear a0 a1 a2 a3 a4 a5 a6 a7 a8 a9 a10 a11
    go_wp2_with fail
    refine ((unhide X11).ask (duo_few _ _ _) (by omega) (unhide HA5)).mono ?_
    rintro e w12 ⟨rfl, X12, b12, s12⟩
    replace X12 := hide X12
    clear b12 s12
    obtain ⟨a0, a1, a2, a3, a4, a5, a6, a7, a8, a9, a10, a11⟩ := (unhide X12).bx.cells
    go_wp2_with fail
    refine ((unhide X12).nxt (duo_few _ _ _) (unhide HK) (unhide H0) (unhide H1) (unhide HN6)).mono ?_
    rintro e w13 ⟨rfl, X13⟩
    replace X13 := hide (X13.pair y6 z6)
    clear a0 a1 a2 a3 a4 a5 a6 a7 a8 a9 a10 a11
    go_wp2_with fail
    refine (first10_any _).mono ?_
    rintro e w14 ⟨rfl, b14⟩
    have X14 := hide ((unhide X13).next b14)
    clear b14
    go_wp2
    go_ret
    exact ⟨rfl, (unhide X14).bel⟩
set_option maxRecDepth 100000 in
set_option maxHeartbeats 4000000 in
theorem all_out (c : Cf) (a : Int) (write : Bool) (w : World) (h : okB c = false ∨ (okB c = true ∧ a < 0) ∨ (okB c = true ∧ 0 ≤ a ∧ nw c ≤ a)) :
    Calls Try.prog 9 #[cv c, .int .i64 a, .bool write] w fun e w' => e = .returned (.bool true) ∧ Below w.heap.size w w' := by
  have hx := bx_new c w
  have hb := below_new w (.cells #[.int .i64 c.r, .int .i64 c.o, .int .i64 c.s, .int .i64 c.d, .int .i64 c.t, .int .i64 c.l, .int .i64 c.g, .int .i64 c.k, .int .i64 c.u, .int .i64 c.e, .int .i64 c.i, .int .i64 c.p] 73)
  obtain ⟨w1, hw1⟩ : ∃ w1, w1 = w.alloc (.cells #[.int .i64 c.r, .int .i64 c.o, .int .i64 c.s, .int .i64 c.d, .int .i64 c.t, .int .i64 c.l, .int .i64 c.g, .int .i64 c.k, .int .i64 c.u, .int .i64 c.e, .int .i64 c.i, .int .i64 c.p] 73) := ⟨_, rfl⟩
  obtain ⟨q, hq⟩ : ∃ q, q = w.heap.size := ⟨_, rfl⟩
  rw [← hw1, ← hq] at hx
  rw [← hw1] at hb
  replace hb := hide hb
  have R := fun w' => rcheck_any c w'
  obtain ⟨ok, hok⟩ : ∃ ok, ok = okB c := ⟨_, rfl⟩
  have HW : Hid (ok = true → ∀ w', Calls Try.prog 48 #[cv c] w' fun e w'' => e = .returned (.int .i64 (nw c)) ∧ Below w'.heap.size w' w'') := fun e w' => words_at (by rw [← hok]; exact e) w'
  rw [← hok] at h R
  clear hok
  obtain ⟨V, hV⟩ : ∃ V, V = nw c := ⟨_, rfl⟩
  rw [← hV] at HW h
  replace hV := hide hV
  obtain ⟨a0, a1, a2, a3, a4, a5, a6, a7, a8, a9, a10, a11⟩ := hx.cells
  rcases h with rfl | ⟨rfl, h⟩ | ⟨rfl, h, h2⟩
  case inr.inr =>
    rw [errOf_t] at R
    replace R := hide R
    have k0 : ¬ a < 0 := by omega
    unfold cv
    go_enter Try.func9, Try.ntmps9
    go_wp2_with fail
    rw [← hw1, ← hq]
    refine (first10_any w1).mono ?_
    rintro e w2 ⟨rfl, b2⟩
    have x2 := hx.next b2
    have B2 := hide (below_then (unhide hb) b2)
    replace hw1 := hide hw1
    replace hq := hide hq
    clear a0 a1 a2 a3 a4 a5 a6 a7 a8 a9 a10 a11 b2 hx
    obtain ⟨a0, a1, a2, a3, a4, a5, a6, a7, a8, a9, a10, a11⟩ := x2.cells
    go_wp2_with fail
    refine (unhide R w2).mono ?_
    rintro e w3 ⟨rfl, b3⟩
    have x3 := x2.next b3
    have B3 := hide (below_then (unhide B2) b3)
    clear a0 a1 a2 a3 a4 a5 a6 a7 a8 a9 a10 a11 b3 x2
    obtain ⟨a0, a1, a2, a3, a4, a5, a6, a7, a8, a9, a10, a11⟩ := x3.cells
    go_wp2_with fail
    refine (unhide HW trivial w3).mono ?_
    rintro e w4 ⟨rfl, b4⟩
    have B4 := hide (below_then (unhide B3) b4)
    clear a0 a1 a2 a3 a4 a5 a6 a7 a8 a9 a10 a11 b4
    go_wp2_with fail
    refine (first10_any _).mono ?_
    rintro e w5 ⟨rfl, b5⟩
    have B5 := hide (below_then (unhide B4) b5)
    clear b5
    go_wp2
    go_ret
    exact ⟨rfl, unhide B5⟩
  all_goals
    simp only [errOf_t, errOf_f] at R
    replace R := hide R
    unfold cv
    go_enter Try.func9, Try.ntmps9
    go_wp2_with fail
    rw [← hw1, ← hq]
    refine (first10_any w1).mono ?_
    rintro e w2 ⟨rfl, b2⟩
    have x2 := hx.next b2
    have B2 := hide (below_then (unhide hb) b2)
    replace hw1 := hide hw1
    replace hq := hide hq
    clear a0 a1 a2 a3 a4 a5 a6 a7 a8 a9 a10 a11 b2 hx
    obtain ⟨a0, a1, a2, a3, a4, a5, a6, a7, a8, a9, a10, a11⟩ := x2.cells
    go_wp2_with fail
    refine (unhide R w2).mono ?_
    rintro e w3 ⟨rfl, b3⟩
    have x3 := x2.next b3
    have B3 := hide (below_then (unhide B2) b3)
    clear a0 a1 a2 a3 a4 a5 a6 a7 a8 a9 a10 a11 b3 x2
    obtain ⟨a0, a1, a2, a3, a4, a5, a6, a7, a8, a9, a10, a11⟩ := x3.cells
    go_wp2_with fail
    refine (first10_any _).mono ?_
    rintro e w5 ⟨rfl, b5⟩
    have B5 := hide (below_then (unhide B3) b5)
    clear b5 a0 a1 a2 a3 a4 a5 a6 a7 a8 a9 a10 a11
    go_wp2
    go_ret
    exact ⟨rfl, unhide B5⟩
theorem pathAll_walk (c : Cf) (a : Int) (write : Bool) (w : World) (_ : (Lit.int .i64 a).wf = true) :
    Calls Try.prog 9 #[cv c, .int .i64 a, .bool write] w fun e w' => e = .returned (.bool true) ∧ Below w.heap.size w w' := by
  cases hok : okB c
  · exact all_out c a write w (.inl hok)
  · by_cases h : 0 ≤ a ∧ a < nw c
    · exact all_in c a write w hok h.1 h.2
    · exact all_out c a write w (.inr (by
        by_cases h2 : a < 0
        · exact .inl ⟨hok, h2⟩
        · exact .inr ⟨hok, by omega, by omega⟩))
end Go.Proofs.Ytdhpahopfmcdkaa
