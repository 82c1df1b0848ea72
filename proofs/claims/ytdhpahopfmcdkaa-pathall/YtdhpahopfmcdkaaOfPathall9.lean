/- Texts of this claim, put together in their order. -/
import Derived.Test.YtdhpahopfmcdkaaBase1
import Derived.Test.YtdhpahopfmcdkaaBase2
import Derived.Test.YtdhpahopfmcdkaaBase3
import Derived.Test.YtdhpahopfmcdkaaBase4
import Derived.Test.YtdhpahopfmcdkaaBase5
import Derived.Test.YtdhpahopfmcdkaaBase6
import Derived.Test.YtdhpahopfmcdkaaBase7
import Derived.Test.YtdhpahopfmcdkaaBase8
/- PathAll: its walk. -/
namespace Go.Proofs.Ytdhpahopfmcdkaa
open Go.RowKit

/-- What is held: the object as m, the region as k. -/
def fA (r o : Nat) (m k : Int) : Nat → Int := fun j => if j = o then m else if j = r then k else 0
theorem fA_0 (r o : Nat) : fA r o 0 0 = zer := by funext j; unfold fA zer; split <;> (try split) <;> rfl
theorem fA_o {r o : Nat} {m k x : Int} : set1 (fA r o m k) o x = fA r o x k := by
  funext j; unfold set1 fA; by_cases h : j = o <;> simp [h]
theorem fA_r {r o : Nat} (h : r ≠ o) {m k x : Int} : set1 (fA r o m k) r x = fA r o m x := by
  funext j; unfold set1 fA
  by_cases h1 : j = o
  · subst h1
    by_cases h2 : j = r
    · exact absurd h2.symm h
    · simp [h2]
  · by_cases h2 : j = r
    · subst h2; simp [h1]
    · simp [h1, h2]
theorem fA_at {r o : Nat} (m k : Int) : fA r o m k o = m := by simp [fA]
theorem fA_rt {r o : Nat} (h : r ≠ o) (m k : Int) : fA r o m k r = k := by simp [fA, h]
theorem fA_st {r o s : Nat} (h : o ≠ s) (h2 : r ≠ s) (m k : Int) : fA r o m k s = 0 := by simp [fA, h.symm, h2.symm]
theorem fA_cnt (r o : Nat) (m k : Int) (n : Nat) : lenD (duo (fA r o m k) zer) n ≤ 2 := by
  rw [duo_len, cntN_zer]
  have e : fA r o m k = set1 (fA r o 0 k) o m := fA_o.symm
  have h1 := cntN_set1 (fA r o 0 k) o m n
  have h2 : cntN (fA r o 0 k) n ≤ 1 := by
    by_cases h : r = o
    · subst h
      have : fA r r 0 k = zer := by funext j; unfold fA zer; by_cases h : j = r <;> simp [h]
      rw [this, cntN_zer]; omega
    · have e2 : fA r o 0 k = set1 (fA r o 0 0) r k := (fA_r h).symm
      have := cntN_set1 (fA r o 0 0) r k n
      rw [← e2, fA_0, cntN_zer] at this
      omega
  rw [← e] at h1
  omega
theorem all_facts {c : Cf} {n : Nat} {a : Int} {r o s : Nat} (h : N3 c n a r o s) (hok : okB c = true) (hn : (n : Int) = nodesD c) (h0 : 0 ≤ a) (h1 : a < nw c) (write : Bool) :
    askT n 100 none0 0 (o : Int) 3 = ((1, 0), duo (fA r o 3 0) zer) ∧
    nextD c n (duo (fA r o 3 0) zer) 0 a write = (((r : Int), inD write), true) ∧
    askT n 100 (duo (fA r o 3 0) zer) 0 (r : Int) (inD write) = ((1, 0), duo (fA r o 3 (inD write)) zer) ∧
    (nextD c n (duo (fA r o 3 (inD write)) zer) 0 a write).2 = write ∧
    askT n 100 (duo (fA r o 3 (inD write)) zer) 0 (o : Int) 5 = ((1, 0), duo (fA r o 5 (inD write)) zer) ∧
    (nextD c n (duo (fA r o 5 (inD write)) zer) 0 a write).2 = false := by
  have m1 : md (inD write) := by cases write <;> exact ⟨by decide, by decide⟩
  have z1 : mz (inD write) := by cases write <;> exact ⟨by decide, by decide⟩
  have g1 : goal 0 (inD write) = inD write := by cases write <;> decide +kernel
  have room : ∀ m k, (lenD (duo (fA r o m k) zer) n : Int) < 100 := fun m k => by have := fA_cnt r o m k n; omega
  have zz : ∀ k, mz (zer k) := fun _ => show mz 0 from ⟨by decide, by decide⟩
  have z0 : mz 0 := ⟨by decide, by decide⟩
  have z3 : mz 3 := ⟨by decide, by decide⟩
  have m3 : md 3 := ⟨by decide, by decide⟩
  have m5 : md 5 := ⟨by decide, by decide⟩
  have g3 : goal 0 3 = 3 := by decide +kernel
  have g5 : goal 3 5 = 5 := by decide +kernel
  refine ⟨?_, ?_, ?_, ?_, ?_, ?_⟩
  · have e := duo_ask0 (f := fA r o 0 0) (g := zer) (m := 3) (most := 100) h.on m3 (by rw [fA_at]; exact z0) (zz _) (.inl rfl) (room 0 0)
    rw [fA_at, fA_o, g3] at e
    rw [fA_0, duo_none] at e
    exact e
  · rw [h.next0, fA_rt h.ro]
    unfold nextK
    have : coversB 0 (inD write) = false := by cases write <;> decide +kernel
    rw [if_pos this]
  · have e := duo_ask0 (f := fA r o 3 0) (g := zer) (m := inD write) (most := 100) h.rn m1 (by rw [fA_rt h.ro]; exact z0) (zz _) (.inl rfl) (room 3 0)
    rw [fA_rt h.ro, g1, fA_r h.ro] at e
    exact e
  · rw [h.next0, fA_rt h.ro, fA_at, fA_st h.os h.rs]
    have he : escB c n (duo (fA r o 3 (inD write)) zer) 0 (o : Int) = false := by
      obtain ⟨hl, f, i, k, f1, f2, f3, f4, f5, f6⟩ := h.str hok hn h0 h1
      refine esc_none ?_
      unfold strD
      rw [if_pos hl, f1, f2]
      refine strK_zero _ (fun j hj => ?_)
      have hj2 : j < k := hj
      rw [show (f : Int) + (j : Int) = ((f + j : Nat) : Int) by omega, holdT_in (by omega)]
      show lookD 0 (duoL _ _) = 0
      rw [duoL_0]
      have hrf : r < f := by
        have e1 := h.hr
        have e2 := h.ho
        have hp := okB_hp hok
        have := (o_in hp h0 h1).1
        have := (r_in hp h0 h1).2
        omega
      unfold fA
      rw [if_neg (by omega), if_neg (by omega)]
    rw [he, nextK_2]
    cases write <;> decide +kernel
  · have e := duo_ask0 (f := fA r o 3 (inD write)) (g := zer) (m := 5) (most := 100) h.on m5 (by rw [fA_at]; exact z3) (zz _) (.inl rfl) (room _ _)
    rw [fA_at, fA_o, g5] at e
    exact e
  · rw [h.next0, fA_rt h.ro, fA_at, fA_st h.os h.rs]
    rw [nextK_2]
    generalize escB c n _ 0 _ = z
    cases write <;> cases z <;> decide +kernel
end Go.Proofs.Ytdhpahopfmcdkaa

/- PathAll: its walk. -/
namespace Go.Proofs.Ytdhpahopfmcdkaa
open Go.RowKit

set_option maxRecDepth 100000 in
set_option maxHeartbeats 8000000 in
theorem all_in (c : Cf) (a : Int) (write : Bool) (w : World) (hok : okB c = true) (h0 : 0 ≤ a) (h1 : a < nw c) :
    Calls Try.prog 9 #[cv c, .int .i64 a, .bool write] w fun e w' => e = .returned (.bool true) ∧ Below w.heap.size w w' := by
  obtain ⟨n, hn, n1, n2⟩ := nodes_le hok
  obtain ⟨r, o, s, h3⟩ := n3_of hok hn h0 h1
  obtain ⟨A1, A2, A3, A4, A5, A6⟩ := all_facts h3 hok hn h0 h1 write
  obtain ⟨⟨⟨y4, z4⟩, u4⟩, N4⟩ : ∃ x, nextD c n (duo (fA r o 3 (inD write)) zer) 0 a write = x := ⟨_, rfl⟩
  obtain ⟨⟨⟨y6, z6⟩, u6⟩, N6⟩ : ∃ x, nextD c n (duo (fA r o 5 (inD write)) zer) 0 a write = x := ⟨_, rfl⟩
  rw [N4] at A4
  rw [N6] at A6
  replace A4 : u4 = write := A4
  replace A6 : u6 = false := A6
  subst A4 A6
  have hx := bx_new c w
  have hb := below_new w (.cells #[.int .i64 c.r, .int .i64 c.o, .int .i64 c.s, .int .i64 c.d, .int .i64 c.t, .int .i64 c.l, .int .i64 c.g, .int .i64 c.k, .int .i64 c.u, .int .i64 c.e, .int .i64 c.i, .int .i64 c.p] 73)
  obtain ⟨w1, hw1⟩ : ∃ w1, w1 = w.alloc (.cells #[.int .i64 c.r, .int .i64 c.o, .int .i64 c.s, .int .i64 c.d, .int .i64 c.t, .int .i64 c.l, .int .i64 c.g, .int .i64 c.k, .int .i64 c.u, .int .i64 c.e, .int .i64 c.i, .int .i64 c.p] 73) := ⟨_, rfl⟩
  obtain ⟨q, hq⟩ : ∃ q, q = w.heap.size := ⟨_, rfl⟩
  rw [← hw1, ← hq] at hx
  rw [← hw1] at hb
  replace hb := hide hb
  have HC := hide (fun w' => check_ok hok w')
  have HW := hide (fun w' => words_at hok w')
  have HP := hide (fun w' => h3.path hok h0 h1 w')
  have HN := hide (fun w' => nodes_at hn w')
  have hle : a < nw c := h1
  have hnb := nw_in (okB_hp hok)
  have HK := hide hok
  have HA1 := hide A1
  have HA2 := hide A2
  have HA3 := hide A3
  have HA5 := hide A5
  have HN4 := hide N4
  have HN6 := hide N6
  have k0 : ¬ a < 0 := by omega
  have k1 : ¬ nw c ≤ a := by omega
  have H0 := hide h0
  have H1 := hide h1
  clear hok hn h3 A1 A2 A3 A5 N4 N6 hnb
  obtain ⟨a0, a1, a2, a3, a4, a5, a6, a7, a8, a9, a10, a11⟩ := hx.cells
  obtain ⟨W, hW⟩ : ∃ W, W = nw c := ⟨_, rfl⟩
  rw [← hW] at HW k1 hle
  replace hW := hide hW
  unfold cv
  go_enter Try.func9, Try.ntmps9
  go_wp2_with fail
  rw [← hw1, ← hq]
  refine (first10_any w1).mono ?_
  rintro e w2 ⟨rfl, b2⟩
  have x2 := hx.next b2
  have B2 := hide (below_then (unhide hb) b2)
  replace hw1 := hide hw1
  replace hq := hide hq
  clear a0 a1 a2 a3 a4 a5 a6 a7 a8 a9 a10 a11 b2 hx
  obtain ⟨a0, a1, a2, a3, a4, a5, a6, a7, a8, a9, a10, a11⟩ := x2.cells
  go_wp2_with fail
  refine (unhide HC w2).mono ?_
  rintro e w3 ⟨rfl, b3⟩
  have x3 := x2.next b3
  have B3 := hide (below_then (unhide B2) b3)
  clear a0 a1 a2 a3 a4 a5 a6 a7 a8 a9 a10 a11 b3 x2
  obtain ⟨a0, a1, a2, a3, a4, a5, a6, a7, a8, a9, a10, a11⟩ := x3.cells
  go_wp2_with fail
  refine (unhide HW w3).mono ?_
  rintro e w4 ⟨rfl, b4⟩
  have x4 := x3.next b4
  have B4 := hide (below_then (unhide B3) b4)
  clear a0 a1 a2 a3 a4 a5 a6 a7 a8 a9 a10 a11 b4 x3
  obtain ⟨a0, a1, a2, a3, a4, a5, a6, a7, a8, a9, a10, a11⟩ := x4.cells
  go_wp2_with fail
  refine (unhide HN w4).mono ?_
  rintro e w5 ⟨rfl, b5⟩
  have x5 := x4.next b5
  have B5 := hide (below_then (unhide B4) b5)
  clear a0 a1 a2 a3 a4 a5 a6 a7 a8 a9 a10 a11 b5 x4
  go_wp2_with fail
  refine (new_n n 100 w5 n1 (by omega) (by decide) (by decide)).mono ?_
  rintro e w6 ⟨b, rfl, L6, b6⟩
  obtain ⟨B, hB⟩ : ∃ B, B = w5.heap.size := ⟨_, rfl⟩
  rw [← hB] at L6
  have X6 : Hid (Py c q B n 100 none0 b w w6) := hide ⟨x5.next b6, L6, below_then (unhide B5) b6, by rw [hB]; exact (unhide B5).size⟩
  replace hB := hide hB
  clear x5 b6 L6
  obtain ⟨a0, a1, a2, a3, a4, a5, a6, a7, a8, a9, a10, a11⟩ := (unhide X6).bx.cells
  go_wp2_with fail
  refine (unhide HP w6).mono ?_
  rintro e w7 ⟨rfl, b7⟩
  have X7 := hide ((unhide X6).next b7)
  clear a0 a1 a2 a3 a4 a5 a6 a7 a8 a9 a10 a11 b7
  go_wp2_with fail
  refine ((unhide X7).ask (few_none _ _) (by omega) (unhide HA1)).mono ?_
  rintro e w8 ⟨rfl, X8, b8, s8⟩
  replace X8 := hide X8
  clear b8 s8
  obtain ⟨a0, a1, a2, a3, a4, a5, a6, a7, a8, a9, a10, a11⟩ := (unhide X8).bx.cells
  go_wp2_with fail
  refine ((unhide X8).nxt (duo_few _ _ _) (unhide HK) (unhide H0) (unhide H1) (unhide HA2)).mono ?_
  rintro e w9 ⟨rfl, X9⟩
  have P9 := heap_alloc_new w9 (.cells #[.int .i64 (r : Int), .int .i64 (inD u4)] 50)
  replace X9 := hide (X9.pair (r : Int) (inD u4))
  obtain ⟨W9, hW9⟩ : ∃ W9, W9 = w9.alloc (.cells #[.int .i64 (r : Int), .int .i64 (inD u4)] 50) := ⟨_, rfl⟩
  obtain ⟨p9, hp9⟩ : ∃ p9, p9 = w9.heap.size := ⟨_, rfl⟩
  rw [← hW9, ← hp9] at P9
  rw [← hW9] at X9
  obtain ⟨y0, y1, _, _⟩ := lock_cells P9
  clear a0 a1 a2 a3 a4 a5 a6 a7 a8 a9 a10 a11 P9
  go_upto_region 11 with fail
  rw [← hW9, ← hp9]
  replace hW9 := hide hW9
  replace hp9 := hide hp9
  cases u4
  all_goals
    simp only [inD, Bool.false_eq_true, if_false, if_true] at y0 y1
    go_wp2_with fail
    refine ((unhide X9).ask (duo_few _ _ _) (by omega) (unhide HA3)).mono ?_
    rintro e w10 ⟨rfl, X10, b10, s10⟩
    replace X10 := hide X10
    clear b10 s10 y0 y1
    obtain ⟨a0, a1, a2, a3, a4, a5, a6, a7, a8, a9, a10, a11⟩ := (unhide X10).bx.cells
    go_wp2_with fail
    refine ((unhide X10).nxt (duo_few _ _ _) (unhide HK) (unhide H0) (unhide H1) (unhide HN4)).mono ?_
    rintro e w11 ⟨rfl, X11⟩
    replace X11 := hide (X11.pair y4 z4)
    clear a0 a1 a2 a3 a4 a5 a6 a7 a8 a9 a10 a11
    go_wp2_with fail
    refine ((unhide X11).ask (duo_few _ _ _) (by omega) (unhide HA5)).mono ?_
    rintro e w12 ⟨rfl, X12, b12, s12⟩
    replace X12 := hide X12
    clear b12 s12
    obtain ⟨a0, a1, a2, a3, a4, a5, a6, a7, a8, a9, a10, a11⟩ := (unhide X12).bx.cells
    go_wp2_with fail
    refine ((unhide X12).nxt (duo_few _ _ _) (unhide HK) (unhide H0) (unhide H1) (unhide HN6)).mono ?_
    rintro e w13 ⟨rfl, X13⟩
    replace X13 := hide (X13.pair y6 z6)
    clear a0 a1 a2 a3 a4 a5 a6 a7 a8 a9 a10 a11
    go_wp2_with fail
    refine (first10_any _).mono ?_
    rintro e w14 ⟨rfl, b14⟩
    have X14 := hide ((unhide X13).next b14)
    clear b14
    go_wp2
    go_ret
    exact ⟨rfl, (unhide X14).bel⟩
set_option maxRecDepth 100000 in
set_option maxHeartbeats 4000000 in
theorem all_out (c : Cf) (a : Int) (write : Bool) (w : World) (h : okB c = false ∨ (okB c = true ∧ a < 0) ∨ (okB c = true ∧ 0 ≤ a ∧ nw c ≤ a)) :
    Calls Try.prog 9 #[cv c, .int .i64 a, .bool write] w fun e w' => e = .returned (.bool true) ∧ Below w.heap.size w w' := by
  have hx := bx_new c w
  have hb := below_new w (.cells #[.int .i64 c.r, .int .i64 c.o, .int .i64 c.s, .int .i64 c.d, .int .i64 c.t, .int .i64 c.l, .int .i64 c.g, .int .i64 c.k, .int .i64 c.u, .int .i64 c.e, .int .i64 c.i, .int .i64 c.p] 73)
  obtain ⟨w1, hw1⟩ : ∃ w1, w1 = w.alloc (.cells #[.int .i64 c.r, .int .i64 c.o, .int .i64 c.s, .int .i64 c.d, .int .i64 c.t, .int .i64 c.l, .int .i64 c.g, .int .i64 c.k, .int .i64 c.u, .int .i64 c.e, .int .i64 c.i, .int .i64 c.p] 73) := ⟨_, rfl⟩
  obtain ⟨q, hq⟩ : ∃ q, q = w.heap.size := ⟨_, rfl⟩
  rw [← hw1, ← hq] at hx
  rw [← hw1] at hb
  replace hb := hide hb
  have R := fun w' => rcheck_any c w'
  obtain ⟨ok, hok⟩ : ∃ ok, ok = okB c := ⟨_, rfl⟩
  have HW : Hid (ok = true → ∀ w', Calls Try.prog 48 #[cv c] w' fun e w'' => e = .returned (.int .i64 (nw c)) ∧ Below w'.heap.size w' w'') := fun e w' => words_at (by rw [← hok]; exact e) w'
  rw [← hok] at h R
  clear hok
  obtain ⟨V, hV⟩ : ∃ V, V = nw c := ⟨_, rfl⟩
  rw [← hV] at HW h
  replace hV := hide hV
  obtain ⟨a0, a1, a2, a3, a4, a5, a6, a7, a8, a9, a10, a11⟩ := hx.cells
  rcases h with rfl | ⟨rfl, h⟩ | ⟨rfl, h, h2⟩
  case inr.inr =>
    rw [errOf_t] at R
    replace R := hide R
    have k0 : ¬ a < 0 := by omega
    unfold cv
    go_enter Try.func9, Try.ntmps9
    go_wp2_with fail
    rw [← hw1, ← hq]
    refine (first10_any w1).mono ?_
    rintro e w2 ⟨rfl, b2⟩
    have x2 := hx.next b2
    have B2 := hide (below_then (unhide hb) b2)
    replace hw1 := hide hw1
    replace hq := hide hq
    clear a0 a1 a2 a3 a4 a5 a6 a7 a8 a9 a10 a11 b2 hx
    obtain ⟨a0, a1, a2, a3, a4, a5, a6, a7, a8, a9, a10, a11⟩ := x2.cells
    go_wp2_with fail
    refine (unhide R w2).mono ?_
    rintro e w3 ⟨rfl, b3⟩
    have x3 := x2.next b3
    have B3 := hide (below_then (unhide B2) b3)
    clear a0 a1 a2 a3 a4 a5 a6 a7 a8 a9 a10 a11 b3 x2
    obtain ⟨a0, a1, a2, a3, a4, a5, a6, a7, a8, a9, a10, a11⟩ := x3.cells
    go_wp2_with fail
    refine (unhide HW trivial w3).mono ?_
    rintro e w4 ⟨rfl, b4⟩
    have B4 := hide (below_then (unhide B3) b4)
    clear a0 a1 a2 a3 a4 a5 a6 a7 a8 a9 a10 a11 b4
    go_wp2_with fail
    refine (first10_any _).mono ?_
    rintro e w5 ⟨rfl, b5⟩
    have B5 := hide (below_then (unhide B4) b5)
    clear b5
    go_wp2
    go_ret
    exact ⟨rfl, unhide B5⟩
  all_goals
    simp only [errOf_t, errOf_f] at R
    replace R := hide R
    unfold cv
    go_enter Try.func9, Try.ntmps9
    go_wp2_with fail
    rw [← hw1, ← hq]
    refine (first10_any w1).mono ?_
    rintro e w2 ⟨rfl, b2⟩
    have x2 := hx.next b2
    have B2 := hide (below_then (unhide hb) b2)
    replace hw1 := hide hw1
    replace hq := hide hq
    clear a0 a1 a2 a3 a4 a5 a6 a7 a8 a9 a10 a11 b2 hx
    obtain ⟨a0, a1, a2, a3, a4, a5, a6, a7, a8, a9, a10, a11⟩ := x2.cells
    go_wp2_with fail
    refine (unhide R w2).mono ?_
    rintro e w3 ⟨rfl, b3⟩
    have x3 := x2.next b3
    have B3 := hide (below_then (unhide B2) b3)
    clear a0 a1 a2 a3 a4 a5 a6 a7 a8 a9 a10 a11 b3 x2
    obtain ⟨a0, a1, a2, a3, a4, a5, a6, a7, a8, a9, a10, a11⟩ := x3.cells
    go_wp2_with fail
    refine (first10_any _).mono ?_
    rintro e w5 ⟨rfl, b5⟩
    have B5 := hide (below_then (unhide B3) b5)
    clear b5 a0 a1 a2 a3 a4 a5 a6 a7 a8 a9 a10 a11
    go_wp2
    go_ret
    exact ⟨rfl, unhide B5⟩
theorem pathAll_walk (c : Cf) (a : Int) (write : Bool) (w : World) (_ : (Lit.int .i64 a).wf = true) :
    Calls Try.prog 9 #[cv c, .int .i64 a, .bool write] w fun e w' => e = .returned (.bool true) ∧ Below w.heap.size w w' := by
  cases hok : okB c
  · exact all_out c a write w (.inl hok)
  · by_cases h : 0 ≤ a ∧ a < nw c
    · exact all_in c a write w hok h.1 h.2
    · exact all_out c a write w (.inr (by
        by_cases h2 : a < 0
        · exact .inl ⟨hok, h2⟩
        · exact .inr ⟨hok, by omega, by omega⟩))
end Go.Proofs.Ytdhpahopfmcdkaa
