/- Ways of ShapeBad: a part of a configuration is turned. -/
import Derived.Test.YtkoaedhbjdbjdaaPaths
import Derived.Test.YtkoaedhbjdbjdaaPut
namespace Go.Proofs.Ytkoaedhbjdbjdaa
open Go.RowKit

set_option maxHeartbeats 2000000 in
theorem shapeBad_3 (c : Cf) (i n : Int) (w : World) (h : okB c = true) (hi : i = 3) : Calls Try.prog 5 #[cv c, .int .i64 i, .int .i64 n] w fun e w' => e = .returned (.bool true) ∧ Below w.heap.size w w' := by
  have H := hide h
  clear h
  subst hi
  by_cases n0 : n < 0
  · have f1 : okB ({ c with g := n } : Cf) = false := by
      have e0 : inB n 1 8 = false := inB_no.2 (by omega)
      simp [okB, heapB, roomB, e0]
    have f2 : wordsD ({ c with g := n } : Cf) = 0 := by simp [wordsD, f1]
    have E1 : Hid (errOf (isB ({ c with g := n } : Cf) 0) = 1) := by
      have : isB ({ c with g := n } : Cf) 0 = false := isB_no.2 (by omega)
      show errOf (isB ({ c with g := n } : Cf) 0) = 1
      rw [this]; rfl
    have E2 : Hid (errOf (okB ({ c with g := n } : Cf)) = 1) := by
      show errOf (okB ({ c with g := n } : Cf)) = 1
      rw [f1]; rfl
    have E3 := hide f2
    clear f1 f2
    unfold cv
    go_enter Try.func5, Try.ntmps5
    go_wp2_with fail
    refine (first_any _).mono ?_
    rintro e w1 ⟨rfl, hb⟩
    have hl := below_call hb
    have hx := (bx_new c w).next hb
    clear hb
    obtain ⟨a0, a1, a2, a3, a4, a5, a6, a7, a8, a9, a10, a11⟩ := hx.cells
    go_wp2_with fail
    refine (check_any c _).mono ?_
    rw [unhide H, errOf_t]
    rintro e w1 ⟨rfl, hb⟩
    replace hl := below_then hl hb
    replace hx := hx.next hb
    clear a0 a1 a2 a3 a4 a5 a6 a7 a8 a9 a10 a11
    clear hb
    obtain ⟨a0, a1, a2, a3, a4, a5, a6, a7, a8, a9, a10, a11⟩ := hx.cells
    have hf := hx.free 6
    have hxs := hx.set6 n
    have hls := hl.setCell (p := ⟨w.heap.size, 6, none⟩) (Nat.le_refl _) (.int .i64 n)
    have HX := hide hxs
    have HL := hide hls
    clear hxs hls
    go_wp2_with fail
    replace HX := unhide HX
    replace HL := unhide HL
    obtain ⟨b0, b1, b2, b3, b4, b5, b6, b7, b8, b9, b10, b11⟩ := HX.cells
    clear a0 a1 a2 a3 a4 a5 a6 a7 a8 a9 a10 a11
    clear hf
    refine (path_any ({ c with g := n } : Cf) 0 _).mono ?_
    rw [unhide E1]
    rintro e w2 ⟨rfl, hb⟩
    replace HL := below_then HL hb
    replace HX := HX.next hb
    clear hb hl hx b0 b1 b2 b3 b4 b5 b6 b7 b8 b9 b10 b11
    obtain ⟨a0, a1, a2, a3, a4, a5, a6, a7, a8, a9, a10, a11⟩ := HX.cells
    go_wp2_with fail
    refine (first_any _).mono ?_
    rintro e w1 ⟨rfl, hb⟩
    replace HL := below_then HL hb
    replace HX := HX.next hb
    clear a0 a1 a2 a3 a4 a5 a6 a7 a8 a9 a10 a11
    clear hb
    obtain ⟨a0, a1, a2, a3, a4, a5, a6, a7, a8, a9, a10, a11⟩ := HX.cells
    go_wp2_with fail
    refine (check_any ({ c with g := n } : Cf) _).mono ?_
    rw [unhide E2]
    rintro e w1 ⟨rfl, hb⟩
    replace HL := below_then HL hb
    replace HX := HX.next hb
    clear a0 a1 a2 a3 a4 a5 a6 a7 a8 a9 a10 a11
    clear hb
    obtain ⟨a0, a1, a2, a3, a4, a5, a6, a7, a8, a9, a10, a11⟩ := HX.cells
    go_wp2_with fail
    refine (words_any ({ c with g := n } : Cf) _).mono ?_
    rw [unhide E3]
    rintro e w1 ⟨rfl, hb⟩
    replace HL := below_then HL hb
    replace HX := HX.next hb
    clear a0 a1 a2 a3 a4 a5 a6 a7 a8 a9 a10 a11
    clear hb
    go_wp2
    go_ret
    exact ⟨rfl, HL⟩
  · have n1 : 0 ≤ n := by omega
    clear n0
    by_cases n0 : 10000 < n
    · have f1 : okB ({ c with g := n } : Cf) = false := by
        have e0 : inB n 1 8 = false := inB_no.2 (by omega)
        simp [okB, heapB, roomB, e0]
      have f2 : wordsD ({ c with g := n } : Cf) = 0 := by simp [wordsD, f1]
      have E1 : Hid (errOf (isB ({ c with g := n } : Cf) 0) = 1) := by
        have : isB ({ c with g := n } : Cf) 0 = false := isB_no.2 (by omega)
        show errOf (isB ({ c with g := n } : Cf) 0) = 1
        rw [this]; rfl
      have E2 : Hid (errOf (okB ({ c with g := n } : Cf)) = 1) := by
        show errOf (okB ({ c with g := n } : Cf)) = 1
        rw [f1]; rfl
      have E3 := hide f2
      clear f1 f2
      unfold cv
      go_enter Try.func5, Try.ntmps5
      go_wp2_with fail
      refine (first_any _).mono ?_
      rintro e w1 ⟨rfl, hb⟩
      have hl := below_call hb
      have hx := (bx_new c w).next hb
      clear hb
      obtain ⟨a0, a1, a2, a3, a4, a5, a6, a7, a8, a9, a10, a11⟩ := hx.cells
      go_wp2_with fail
      refine (check_any c _).mono ?_
      rw [unhide H, errOf_t]
      rintro e w1 ⟨rfl, hb⟩
      replace hl := below_then hl hb
      replace hx := hx.next hb
      clear a0 a1 a2 a3 a4 a5 a6 a7 a8 a9 a10 a11
      clear hb
      obtain ⟨a0, a1, a2, a3, a4, a5, a6, a7, a8, a9, a10, a11⟩ := hx.cells
      have hf := hx.free 6
      have hxs := hx.set6 n
      have hls := hl.setCell (p := ⟨w.heap.size, 6, none⟩) (Nat.le_refl _) (.int .i64 n)
      have HX := hide hxs
      have HL := hide hls
      clear hxs hls
      go_wp2_with fail
      replace HX := unhide HX
      replace HL := unhide HL
      obtain ⟨b0, b1, b2, b3, b4, b5, b6, b7, b8, b9, b10, b11⟩ := HX.cells
      clear a0 a1 a2 a3 a4 a5 a6 a7 a8 a9 a10 a11
      clear hf
      refine (path_any ({ c with g := n } : Cf) 0 _).mono ?_
      rw [unhide E1]
      rintro e w2 ⟨rfl, hb⟩
      replace HL := below_then HL hb
      replace HX := HX.next hb
      clear hb hl hx b0 b1 b2 b3 b4 b5 b6 b7 b8 b9 b10 b11
      obtain ⟨a0, a1, a2, a3, a4, a5, a6, a7, a8, a9, a10, a11⟩ := HX.cells
      go_wp2_with fail
      refine (first_any _).mono ?_
      rintro e w1 ⟨rfl, hb⟩
      replace HL := below_then HL hb
      replace HX := HX.next hb
      clear a0 a1 a2 a3 a4 a5 a6 a7 a8 a9 a10 a11
      clear hb
      obtain ⟨a0, a1, a2, a3, a4, a5, a6, a7, a8, a9, a10, a11⟩ := HX.cells
      go_wp2_with fail
      refine (check_any ({ c with g := n } : Cf) _).mono ?_
      rw [unhide E2]
      rintro e w1 ⟨rfl, hb⟩
      replace HL := below_then HL hb
      replace HX := HX.next hb
      clear a0 a1 a2 a3 a4 a5 a6 a7 a8 a9 a10 a11
      clear hb
      obtain ⟨a0, a1, a2, a3, a4, a5, a6, a7, a8, a9, a10, a11⟩ := HX.cells
      go_wp2_with fail
      refine (words_any ({ c with g := n } : Cf) _).mono ?_
      rw [unhide E3]
      rintro e w1 ⟨rfl, hb⟩
      replace HL := below_then HL hb
      replace HX := HX.next hb
      clear a0 a1 a2 a3 a4 a5 a6 a7 a8 a9 a10 a11
      clear hb
      go_wp2
      go_ret
      exact ⟨rfl, HL⟩
    · have n2 : n ≤ 10000 := by omega
      clear n0
      unfold cv
      go_enter Try.func5, Try.ntmps5
      go_wp2_with fail
      refine (first_any _).mono ?_
      rintro e w1 ⟨rfl, hb⟩
      have hl := below_call hb
      have hx := (bx_new c w).next hb
      clear hb
      obtain ⟨a0, a1, a2, a3, a4, a5, a6, a7, a8, a9, a10, a11⟩ := hx.cells
      go_wp2_with fail
      refine (check_any c _).mono ?_
      rw [unhide H, errOf_t]
      rintro e w1 ⟨rfl, hb⟩
      replace hl := below_then hl hb
      replace hx := hx.next hb
      clear a0 a1 a2 a3 a4 a5 a6 a7 a8 a9 a10 a11
      clear hb
      obtain ⟨a0, a1, a2, a3, a4, a5, a6, a7, a8, a9, a10, a11⟩ := hx.cells
      have hf := hx.free 6
      have hxs := hx.set6 n
      have hls := hl.setCell (p := ⟨w.heap.size, 6, none⟩) (Nat.le_refl _) (.int .i64 n)
      have HX := hide hxs
      have HL := hide hls
      clear hxs hls
      go_wp2_with fail
      replace HX := unhide HX
      replace HL := unhide HL
      obtain ⟨b0, b1, b2, b3, b4, b5, b6, b7, b8, b9, b10, b11⟩ := HX.cells
      clear a0 a1 a2 a3 a4 a5 a6 a7 a8 a9 a10 a11
      clear hf
      refine (path_any ({ c with g := n } : Cf) 0 _).mono ?_
      rintro e w2 ⟨rfl, hb⟩
      replace HL := below_then HL hb
      replace HX := HX.next hb
      clear hb hl hx b0 b1 b2 b3 b4 b5 b6 b7 b8 b9 b10 b11
      obtain ⟨a0, a1, a2, a3, a4, a5, a6, a7, a8, a9, a10, a11⟩ := HX.cells
      go_wp2_with fail
      refine (first_any _).mono ?_
      rintro e w1 ⟨rfl, hb⟩
      replace HL := below_then HL hb
      replace HX := HX.next hb
      clear a0 a1 a2 a3 a4 a5 a6 a7 a8 a9 a10 a11
      clear hb
      go_wp2
      go_ret
      exact ⟨rfl, HL⟩

set_option maxHeartbeats 2000000 in
theorem shapeBad_4 (c : Cf) (i n : Int) (w : World) (h : okB c = true) (hi : i = 4) : Calls Try.prog 5 #[cv c, .int .i64 i, .int .i64 n] w fun e w' => e = .returned (.bool true) ∧ Below w.heap.size w w' := by
  have H := hide h
  clear h
  subst hi
  by_cases n0 : n < 0
  · have f1 : okB ({ c with k := n } : Cf) = false := by
      have e0 : inB n 1 4096 = false := inB_no.2 (by omega)
      simp [okB, heapB, roomB, e0]
    have f2 : wordsD ({ c with k := n } : Cf) = 0 := by simp [wordsD, f1]
    have E1 : Hid (errOf (isB ({ c with k := n } : Cf) 0) = 1) := by
      have : isB ({ c with k := n } : Cf) 0 = false := isB_no.2 (by omega)
      show errOf (isB ({ c with k := n } : Cf) 0) = 1
      rw [this]; rfl
    have E2 : Hid (errOf (okB ({ c with k := n } : Cf)) = 1) := by
      show errOf (okB ({ c with k := n } : Cf)) = 1
      rw [f1]; rfl
    have E3 := hide f2
    clear f1 f2
    unfold cv
    go_enter Try.func5, Try.ntmps5
    go_wp2_with fail
    refine (first_any _).mono ?_
    rintro e w1 ⟨rfl, hb⟩
    have hl := below_call hb
    have hx := (bx_new c w).next hb
    clear hb
    obtain ⟨a0, a1, a2, a3, a4, a5, a6, a7, a8, a9, a10, a11⟩ := hx.cells
    go_wp2_with fail
    refine (check_any c _).mono ?_
    rw [unhide H, errOf_t]
    rintro e w1 ⟨rfl, hb⟩
    replace hl := below_then hl hb
    replace hx := hx.next hb
    clear a0 a1 a2 a3 a4 a5 a6 a7 a8 a9 a10 a11
    clear hb
    obtain ⟨a0, a1, a2, a3, a4, a5, a6, a7, a8, a9, a10, a11⟩ := hx.cells
    have hf := hx.free 7
    have hxs := hx.set7 n
    have hls := hl.setCell (p := ⟨w.heap.size, 7, none⟩) (Nat.le_refl _) (.int .i64 n)
    have HX := hide hxs
    have HL := hide hls
    clear hxs hls
    go_wp2_with fail
    replace HX := unhide HX
    replace HL := unhide HL
    obtain ⟨b0, b1, b2, b3, b4, b5, b6, b7, b8, b9, b10, b11⟩ := HX.cells
    clear a0 a1 a2 a3 a4 a5 a6 a7 a8 a9 a10 a11
    clear hf
    refine (path_any ({ c with k := n } : Cf) 0 _).mono ?_
    rw [unhide E1]
    rintro e w2 ⟨rfl, hb⟩
    replace HL := below_then HL hb
    replace HX := HX.next hb
    clear hb hl hx b0 b1 b2 b3 b4 b5 b6 b7 b8 b9 b10 b11
    obtain ⟨a0, a1, a2, a3, a4, a5, a6, a7, a8, a9, a10, a11⟩ := HX.cells
    go_wp2_with fail
    refine (first_any _).mono ?_
    rintro e w1 ⟨rfl, hb⟩
    replace HL := below_then HL hb
    replace HX := HX.next hb
    clear a0 a1 a2 a3 a4 a5 a6 a7 a8 a9 a10 a11
    clear hb
    obtain ⟨a0, a1, a2, a3, a4, a5, a6, a7, a8, a9, a10, a11⟩ := HX.cells
    go_wp2_with fail
    refine (check_any ({ c with k := n } : Cf) _).mono ?_
    rw [unhide E2]
    rintro e w1 ⟨rfl, hb⟩
    replace HL := below_then HL hb
    replace HX := HX.next hb
    clear a0 a1 a2 a3 a4 a5 a6 a7 a8 a9 a10 a11
    clear hb
    obtain ⟨a0, a1, a2, a3, a4, a5, a6, a7, a8, a9, a10, a11⟩ := HX.cells
    go_wp2_with fail
    refine (words_any ({ c with k := n } : Cf) _).mono ?_
    rw [unhide E3]
    rintro e w1 ⟨rfl, hb⟩
    replace HL := below_then HL hb
    replace HX := HX.next hb
    clear a0 a1 a2 a3 a4 a5 a6 a7 a8 a9 a10 a11
    clear hb
    go_wp2
    go_ret
    exact ⟨rfl, HL⟩
  · have n1 : 0 ≤ n := by omega
    clear n0
    by_cases n0 : 10000 < n
    · have f1 : okB ({ c with k := n } : Cf) = false := by
        have e0 : inB n 1 4096 = false := inB_no.2 (by omega)
        simp [okB, heapB, roomB, e0]
      have f2 : wordsD ({ c with k := n } : Cf) = 0 := by simp [wordsD, f1]
      have E1 : Hid (errOf (isB ({ c with k := n } : Cf) 0) = 1) := by
        have : isB ({ c with k := n } : Cf) 0 = false := isB_no.2 (by omega)
        show errOf (isB ({ c with k := n } : Cf) 0) = 1
        rw [this]; rfl
      have E2 : Hid (errOf (okB ({ c with k := n } : Cf)) = 1) := by
        show errOf (okB ({ c with k := n } : Cf)) = 1
        rw [f1]; rfl
      have E3 := hide f2
      clear f1 f2
      unfold cv
      go_enter Try.func5, Try.ntmps5
      go_wp2_with fail
      refine (first_any _).mono ?_
      rintro e w1 ⟨rfl, hb⟩
      have hl := below_call hb
      have hx := (bx_new c w).next hb
      clear hb
      obtain ⟨a0, a1, a2, a3, a4, a5, a6, a7, a8, a9, a10, a11⟩ := hx.cells
      go_wp2_with fail
      refine (check_any c _).mono ?_
      rw [unhide H, errOf_t]
      rintro e w1 ⟨rfl, hb⟩
      replace hl := below_then hl hb
      replace hx := hx.next hb
      clear a0 a1 a2 a3 a4 a5 a6 a7 a8 a9 a10 a11
      clear hb
      obtain ⟨a0, a1, a2, a3, a4, a5, a6, a7, a8, a9, a10, a11⟩ := hx.cells
      have hf := hx.free 7
      have hxs := hx.set7 n
      have hls := hl.setCell (p := ⟨w.heap.size, 7, none⟩) (Nat.le_refl _) (.int .i64 n)
      have HX := hide hxs
      have HL := hide hls
      clear hxs hls
      go_wp2_with fail
      replace HX := unhide HX
      replace HL := unhide HL
      obtain ⟨b0, b1, b2, b3, b4, b5, b6, b7, b8, b9, b10, b11⟩ := HX.cells
      clear a0 a1 a2 a3 a4 a5 a6 a7 a8 a9 a10 a11
      clear hf
      refine (path_any ({ c with k := n } : Cf) 0 _).mono ?_
      rw [unhide E1]
      rintro e w2 ⟨rfl, hb⟩
      replace HL := below_then HL hb
      replace HX := HX.next hb
      clear hb hl hx b0 b1 b2 b3 b4 b5 b6 b7 b8 b9 b10 b11
      obtain ⟨a0, a1, a2, a3, a4, a5, a6, a7, a8, a9, a10, a11⟩ := HX.cells
      go_wp2_with fail
      refine (first_any _).mono ?_
      rintro e w1 ⟨rfl, hb⟩
      replace HL := below_then HL hb
      replace HX := HX.next hb
      clear a0 a1 a2 a3 a4 a5 a6 a7 a8 a9 a10 a11
      clear hb
      obtain ⟨a0, a1, a2, a3, a4, a5, a6, a7, a8, a9, a10, a11⟩ := HX.cells
      go_wp2_with fail
      refine (check_any ({ c with k := n } : Cf) _).mono ?_
      rw [unhide E2]
      rintro e w1 ⟨rfl, hb⟩
      replace HL := below_then HL hb
      replace HX := HX.next hb
      clear a0 a1 a2 a3 a4 a5 a6 a7 a8 a9 a10 a11
      clear hb
      obtain ⟨a0, a1, a2, a3, a4, a5, a6, a7, a8, a9, a10, a11⟩ := HX.cells
      go_wp2_with fail
      refine (words_any ({ c with k := n } : Cf) _).mono ?_
      rw [unhide E3]
      rintro e w1 ⟨rfl, hb⟩
      replace HL := below_then HL hb
      replace HX := HX.next hb
      clear a0 a1 a2 a3 a4 a5 a6 a7 a8 a9 a10 a11
      clear hb
      go_wp2
      go_ret
      exact ⟨rfl, HL⟩
    · have n2 : n ≤ 10000 := by omega
      clear n0
      unfold cv
      go_enter Try.func5, Try.ntmps5
      go_wp2_with fail
      refine (first_any _).mono ?_
      rintro e w1 ⟨rfl, hb⟩
      have hl := below_call hb
      have hx := (bx_new c w).next hb
      clear hb
      obtain ⟨a0, a1, a2, a3, a4, a5, a6, a7, a8, a9, a10, a11⟩ := hx.cells
      go_wp2_with fail
      refine (check_any c _).mono ?_
      rw [unhide H, errOf_t]
      rintro e w1 ⟨rfl, hb⟩
      replace hl := below_then hl hb
      replace hx := hx.next hb
      clear a0 a1 a2 a3 a4 a5 a6 a7 a8 a9 a10 a11
      clear hb
      obtain ⟨a0, a1, a2, a3, a4, a5, a6, a7, a8, a9, a10, a11⟩ := hx.cells
      have hf := hx.free 7
      have hxs := hx.set7 n
      have hls := hl.setCell (p := ⟨w.heap.size, 7, none⟩) (Nat.le_refl _) (.int .i64 n)
      have HX := hide hxs
      have HL := hide hls
      clear hxs hls
      go_wp2_with fail
      replace HX := unhide HX
      replace HL := unhide HL
      obtain ⟨b0, b1, b2, b3, b4, b5, b6, b7, b8, b9, b10, b11⟩ := HX.cells
      clear a0 a1 a2 a3 a4 a5 a6 a7 a8 a9 a10 a11
      clear hf
      refine (path_any ({ c with k := n } : Cf) 0 _).mono ?_
      rintro e w2 ⟨rfl, hb⟩
      replace HL := below_then HL hb
      replace HX := HX.next hb
      clear hb hl hx b0 b1 b2 b3 b4 b5 b6 b7 b8 b9 b10 b11
      obtain ⟨a0, a1, a2, a3, a4, a5, a6, a7, a8, a9, a10, a11⟩ := HX.cells
      go_wp2_with fail
      refine (first_any _).mono ?_
      rintro e w1 ⟨rfl, hb⟩
      replace HL := below_then HL hb
      replace HX := HX.next hb
      clear a0 a1 a2 a3 a4 a5 a6 a7 a8 a9 a10 a11
      clear hb
      go_wp2
      go_ret
      exact ⟨rfl, HL⟩

end Go.Proofs.Ytkoaedhbjdbjdaa
