/- ShapeBad: what is told of a configuration that may not be; all ways. -/
import Derived.Test.YtkoaedhbjdbjdaaBada
import Derived.Test.YtkoaedhbjdbjdaaBadb
import Derived.Test.YtkoaedhbjdbjdaaBadc
import Derived.Test.YtkoaedhbjdbjdaaQuiet
namespace Go.Proofs.Ytkoaedhbjdbjdaa
open Go.RowKit

set_option maxHeartbeats 1000000 in
theorem shapeBad_not (c : Cf) (i n : Int) (w : World) (h : okB c = false) : Calls Try.prog 5 #[cv c, .int .i64 i, .int .i64 n] w fun e w' => e = .returned (.bool true) ∧ Below w.heap.size w w' := by
  have E1 : Hid (wordsD c = 0) := by show wordsD c = 0; simp [wordsD, h]
  have E2 : Hid (nodesD c = 0) := by show nodesD c = 0; simp [nodesD, h]
  have E3 : Hid (cellsD c = 0) := by show cellsD c = 0; simp [cellsD, h]
  have E4 : Hid (levelD c 0 = -1) := level_m (.inr (by simp [nodesD, h]))
  have E5 : Hid (latchD c 0 = -1) := by show latchD c 0 = -1; simp [latchD, unhide E4]
  have H := hide h
  clear h
  unfold cv
  go_enter Try.func5, Try.ntmps5
  go_wp2_with fail
  refine (first_any _).mono ?_
  rintro e w1 ⟨rfl, hb⟩
  have hl := below_call hb
  have hx := (bx_new c w).next hb
  clear hb
  obtain ⟨a0, a1, a2, a3, a4, a5, a6, a7, a8, a9, a10, a11⟩ := hx.cells
  go_wp2_with fail
  refine (check_any c _).mono ?_
  rw [unhide H, errOf_f]
  rintro e w1 ⟨rfl, hb⟩
  replace hl := below_then hl hb
  replace hx := hx.next hb
  clear a0 a1 a2 a3 a4 a5 a6 a7 a8 a9 a10 a11
  clear hb
  obtain ⟨a0, a1, a2, a3, a4, a5, a6, a7, a8, a9, a10, a11⟩ := hx.cells
  go_wp2_with fail
  refine (first_any _).mono ?_
  rintro e w1 ⟨rfl, hb⟩
  replace hl := below_then hl hb
  replace hx := hx.next hb
  clear a0 a1 a2 a3 a4 a5 a6 a7 a8 a9 a10 a11
  clear hb
  obtain ⟨a0, a1, a2, a3, a4, a5, a6, a7, a8, a9, a10, a11⟩ := hx.cells
  go_wp2_with fail
  refine (words_any c _).mono ?_
  rw [unhide E1]
  rintro e w1 ⟨rfl, hb⟩
  replace hl := below_then hl hb
  replace hx := hx.next hb
  clear a0 a1 a2 a3 a4 a5 a6 a7 a8 a9 a10 a11
  clear hb
  obtain ⟨a0, a1, a2, a3, a4, a5, a6, a7, a8, a9, a10, a11⟩ := hx.cells
  go_wp2_with fail
  refine (nodes_any c _).mono ?_
  rw [unhide E2]
  rintro e w1 ⟨rfl, hb⟩
  replace hl := below_then hl hb
  replace hx := hx.next hb
  clear a0 a1 a2 a3 a4 a5 a6 a7 a8 a9 a10 a11
  clear hb
  obtain ⟨a0, a1, a2, a3, a4, a5, a6, a7, a8, a9, a10, a11⟩ := hx.cells
  go_wp2_with fail
  refine (cells_any c _).mono ?_
  rw [unhide E3]
  rintro e w1 ⟨rfl, hb⟩
  replace hl := below_then hl hb
  replace hx := hx.next hb
  clear a0 a1 a2 a3 a4 a5 a6 a7 a8 a9 a10 a11
  clear hb
  obtain ⟨a0, a1, a2, a3, a4, a5, a6, a7, a8, a9, a10, a11⟩ := hx.cells
  go_wp2_with fail
  refine (level_any c 0 _).mono ?_
  rw [unhide E4]
  rintro e w1 ⟨rfl, hb⟩
  replace hl := below_then hl hb
  replace hx := hx.next hb
  clear a0 a1 a2 a3 a4 a5 a6 a7 a8 a9 a10 a11
  clear hb
  obtain ⟨a0, a1, a2, a3, a4, a5, a6, a7, a8, a9, a10, a11⟩ := hx.cells
  go_wp2_with fail
  refine (latch_any c 0 _).mono ?_
  rw [unhide E5]
  rintro e w1 ⟨rfl, hb⟩
  replace hl := below_then hl hb
  replace hx := hx.next hb
  clear a0 a1 a2 a3 a4 a5 a6 a7 a8 a9 a10 a11
  clear hb
  go_wp2
  go_ret
  exact ⟨rfl, hl⟩

theorem shapeBad_walk (c : Cf) (i n : Int) (w : World) (_ : (Lit.int .i64 i).wf = true) (_ : (Lit.int .i64 n).wf = true) : Calls Try.prog 5 #[cv c, .int .i64 i, .int .i64 n] w fun e w' => e = .returned (.bool true) ∧ Below w.heap.size w w' := by
  cases h : okB c
  · exact shapeBad_not c i n w h
  · by_cases g0 : i = 0
    · exact shapeBad_0 c i n w h g0
    by_cases g1 : i = 1
    · exact shapeBad_1 c i n w h g1
    by_cases g2 : i = 2
    · exact shapeBad_2 c i n w h g2
    by_cases g3 : i = 3
    · exact shapeBad_3 c i n w h g3
    by_cases g4 : i = 4
    · exact shapeBad_4 c i n w h g4
    by_cases g5 : i = 5
    · exact shapeBad_5 c i n w h g5
    exact shapeBad_6 c i n w h (by simpa using g0) (by simpa using g1) (by simpa using g2) (by simpa using g3) (by simpa using g4) (by simpa using g5)

end Go.Proofs.Ytkoaedhbjdbjdaa
