/- What Path answers, in one; the walk of ShapeTells. -/
import Derived.Test.YtkoaedhbjdbjdaaRef
import Derived.Test.YtkoaedhbjdbjdaaRec
import Derived.Test.YtkoaedhbjdbjdaaQuiet
namespace Go.Proofs.Ytkoaedhbjdbjdaa
open Go.RowKit

/-- What Path answers, whatever the word. -/
def isB (c : Cf) (a : Int) : Bool := decide (0 ≤ a) && decide (a < wordsD c)
def pr (c : Cf) (a : Int) : Int := if isB c a then rD c a else 0
def po (c : Cf) (a : Int) : Int := if isB c a then c.r + oD c a else 0
def ps (c : Cf) (a : Int) : Int := if isB c a then c.r + no c + sD c a else 0
theorem isB_iff {c : Cf} {a : Int} : isB c a = true ↔ 0 ≤ a ∧ a < wordsD c := by simp [isB]
theorem isB_no {c : Cf} {a : Int} : isB c a = false ↔ ¬ (0 ≤ a ∧ a < wordsD c) := by rw [← isB_iff]; simp

theorem path_any (c : Cf) (a : Int) (w : World) : Calls Try.prog 9 #[cv c, .int .i64 a] w fun e w' => e = .returned (.tuple #[.int .i64 (pr c a), .int .i64 (po c a), .int .i64 (ps c a), .int .i64 (errOf (isB c a))]) ∧ Below w.heap.size w w' := by
  unfold pr po ps
  cases h : isB c a
  · exact path_no c a w (isB_no.1 h)
  · obtain ⟨h0, h1⟩ := isB_iff.1 h
    have hk := words_pos h0 h1
    rw [words_eq hk] at h1
    exact path_ok c a w hk h0 h1

theorem rpath_any (c : Cf) (a : Int) (w : World) : Calls Try.prog 10 #[cv c, .int .i64 a] w fun e w' => e = .returned (.tuple #[.int .i64 (pr c a), .int .i64 (po c a), .int .i64 (ps c a), .int .i64 (errOf (isB c a))]) ∧ Below w.heap.size w w' := by
  unfold pr po ps
  cases h : isB c a
  · exact rpath_no c a w (isB_no.1 h)
  · obtain ⟨h0, h1⟩ := isB_iff.1 h
    have hk := words_pos h0 h1
    rw [words_eq hk] at h1
    exact rpath_ok c a w hk h0 h1

set_option maxHeartbeats 1000000 in
theorem shapeTells_walk (c : Cf) (a n : Int) (w : World) (_ : (Lit.int .i64 a).wf = true) (_ : (Lit.int .i64 n).wf = true) : Calls Try.prog 3 #[cv c, .int .i64 a, .int .i64 n] w fun e w' => e = .returned (.bool true) ∧ Below w.heap.size w w' := by
  unfold cv
  go_enter Try.func3, Try.ntmps3
  go_wp2_with fail
  refine (first_any _).mono ?_
  rintro e w1 ⟨rfl, hb⟩
  have hl := below_call hb
  have hx := (bx_new c w).next hb
  clear hb
  obtain ⟨a0, a1, a2, a3, a4, a5, a6, a7, a8, a9, a10, a11⟩ := hx.cells
  go_wp2_with fail
  refine (path_any c a _).mono ?_
  rintro e w1 ⟨rfl, hb⟩
  replace hl := below_then hl hb
  replace hx := hx.next hb
  clear a0 a1 a2 a3 a4 a5 a6 a7 a8 a9 a10 a11
  clear hb
  obtain ⟨a0, a1, a2, a3, a4, a5, a6, a7, a8, a9, a10, a11⟩ := hx.cells
  go_wp2_with fail
  refine (rpath_any c a _).mono ?_
  rintro e w1 ⟨rfl, hb⟩
  replace hl := below_then hl hb
  replace hx := hx.next hb
  clear a0 a1 a2 a3 a4 a5 a6 a7 a8 a9 a10 a11
  clear hb
  obtain ⟨a0, a1, a2, a3, a4, a5, a6, a7, a8, a9, a10, a11⟩ := hx.cells
  go_wp2_with fail
  clear a0 a1 a2 a3 a4 a5 a6 a7 a8 a9 a10 a11
  obtain ⟨q0, q1, q2, q3, q4, q5, q6, q7, q8, q9, q10, q11⟩ := Wd.cells (c := c) (b := w.heap.size) (w0 := w)
  have hne : Nonempty (Wd c w.heap.size w) := ⟨⟨_, hx, hl⟩⟩
  refine wp_region_wd hx hl (by kernel_rfl) (by kernel_rfl) ?_
  try simp only [List.append]
  repeat (go_big_quiet_step (first | (go_at_call 8; exact Wd.call (first_any _)) | (go_at_call 11; exact Wd.call (check_any c _)) | (go_at_call 12; exact Wd.call (rcheck_any c _)) | (go_at_call 13; exact Wd.call (words_any c _)) | (go_at_call 14; exact Wd.call (rwords_any c _)) | (go_at_call 15; exact Wd.call (nodes_any c _)) | (go_at_call 16; exact Wd.call (rnodes_any c _)) | (go_at_call 17; exact Wd.call (cells_any c _)) | (go_at_call 18; exact Wd.call (rsize_any c _)) | (go_at_call 19; exact Wd.call (level_any c n _)) | (go_at_call 20; exact Wd.call (rlevel_any c n _)) | (go_at_call 21; exact Wd.call (parent_any c n _)) | (go_at_call 22; exact Wd.call (rparent_any c n _)) | (go_at_call 23; exact Wd.call (latch_any c n _)) | (go_at_call 24; exact Wd.call (rlatch_any c n _))))
  refine wpQuiet_nil ?_
  intro _ hw'
  obtain ⟨⟨wz, hxz, hlz⟩, hw''⟩ := hw'
  subst hw''
  clear hne q0 q1 q2 q3 q4 q5 q6 q7 q8 q9 q10 q11
  go_wp2
  go_ret
  exact ⟨rfl, hlz⟩

end Go.Proofs.Ytkoaedhbjdbjdaa
