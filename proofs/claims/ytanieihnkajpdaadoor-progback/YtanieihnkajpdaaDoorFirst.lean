/- small and first of the law's package. -/
import Derived.Test.YtanieihnkajpdaaDoorParse
import Derived.Laws.Rows
namespace Go.Proofs.YtanieihnkajpdaaDoor
open Go.RowKit

def smallC : Cf := ⟨2, 2, 2, 2, 1, 0, 4, 9, 9, 0, 9, 0⟩
set_option maxRecDepth 100000 in
theorem small_any (w : World) : Calls Tryd.prog 19 #[] w fun e w' => e = .returned (cv smallC) ∧ Below w.heap.size w w' := by
  go_enter Tryd.func19, Tryd.ntmps19
  go_wp2
  (try simp only [Exit.inBlock, Exit.then])
  refine bodyPost_ret (v := cv smallC) (results_cell_row rfl _ _ w.heap.size 23 _ (0, 0) _ rfl (heap_alloc_new w _) Tryd.underlying23 rfl (by kernel_rfl)) rfl ⟨rfl, below_new w _⟩
def jump00 : List UInt8 := [106, 117, 109, 112, 32, 48, 32, 48]
def jump0s0 : List UInt8 := [106, 117, 109, 112, 32, 48, 32, 32, 48]
theorem itoa_zero : Lib.itoa 0 = [48] := by
  show (if (0 : Int) < 0 then _ else Lib.decDigits (0 : Int).toNat) = _
  rw [if_neg (by decide)]
  exact Lib.decDigits_one (by decide)
theorem num_zero : numD [48] = some 0 := by
  have e : Lib.atoiAll [48] = .ok 0 := by decide
  unfold numD
  rw [e]
  simp [itoa_zero]
theorem pl_jump : plD jump00 = some ⟨5, 0, 0, 0, []⟩ := by
  have e : partsD jump00 = [wordD 5, [48], [48]] := by decide
  unfold plD
  rw [e]
  have e3 : kindD (wordD 5) = 5 := by decide
  simp only [numsD, num_zero, e3]
  simp [fillD]
theorem pl_jump2 : plD jump0s0 = none := by
  have e : partsD jump0s0 = [wordD 5, [48], [], [48]] := by decide
  have e2 : numD [] = none := by decide
  unfold plD
  rw [e]
  simp only [numsD, num_zero, e2]
theorem prog_jump : progD [jump00] = some [⟨5, 0, 0, 0, []⟩] := by simp [progD, pl_jump]
theorem prog_jump2 : progD [jump0s0] = none := by simp [progD, pl_jump2]
theorem check_jump : checkD smallC [⟨5, 0, 0, 0, []⟩] = 2 := by decide
/-- A slice of one text, just written out. -/
theorem ss_one (w : World) (s : List UInt8) (N : Nat) (hN : N = w.heap.size) : Ss (w.alloc (.cells #[.string ⟨s.toArray⟩] 9)).heap.size (w.alloc (.cells #[.string ⟨s.toArray⟩] 9)) (.slice (some ⟨N, 0, none⟩) 1 1) [s] := by
  subst hN
  have hh := heap_alloc_new w (.cells #[.string ⟨s.toArray⟩] 9)
  refine ⟨_, 1, rfl, Nat.le_refl _, by decide, (fun e => by cases e), .inr ⟨w.heap.size, 0, rfl, heap_lt hh, fun i hi => ?_⟩⟩
  have : i = 0 := by simpa using hi
  subst this
  unfold World.cell?
  rw [hh]
  rfl
set_option maxRecDepth 100000 in
set_option maxHeartbeats 1000000 in
theorem first_any (w : World) (hr : Vr w) : Calls Tryd.prog 8 #[] w fun e w' => e = .returned (.bool true) ∧ Below w.heap.size w w' := by
  have b1 := below_new w (.cells #[.string ⟨jump00.toArray⟩] 9)
  have k1 := parse_any [jump00] _ _ (ss_one w jump00 w.heap.size rfl) (by decide) (fun s hs => by simp at hs; subst hs; decide) (hr.next b1)
  rw [prog_jump] at k1
  go_enter Tryd.func8, Tryd.ntmps8
  go_wp2_with fail
  refine k1.mono ?_
  rintro e w2 ⟨a, n, c, rfl, hb2, hP⟩
  obtain ⟨rfl, hPo⟩ := hP _ rfl
  have g2 := below_then b1 hb2
  have b3 := below_new w2 (.cells #[.string ⟨jump0s0.toArray⟩] 9)
  have k2 := parse_any [jump0s0] _ _ (ss_one w2 jump0s0 w2.heap.size rfl) (by decide) (fun s hs => by simp at hs; subst hs; decide) (hr.next (below_then g2 b3))
  rw [prog_jump2] at k2
  have hPs := hPo.ps
  replace hPs := hide hPs
  replace g2 := hide (below_then g2 b3)
  replace b3 := hide b3
  clear k1 hb2 hP hPo
  go_wp2_with fail
  refine k2.mono ?_
  rintro e w4 ⟨a4, n4, c4, rfl, hb4, _⟩
  have g4 := hide (below_then (unhide g2) hb4)
  have hPs4 := hide (((unhide hPs).next (unhide b3)).next hb4)
  clear k2 hb4 hPs b3 g2
  go_wp2_with fail
  refine (small_any _).mono ?_
  rintro e w5 ⟨rfl, hb5⟩
  have g5 := hide (below_then (unhide g4) hb5)
  have hPs5 := (unhide hPs4).next hb5
  clear hb5 hPs4 g4
  go_wp2_with fail
  refine (progCheck_any smallC _ _ _ hPs5).mono ?_
  rw [check_jump]
  rintro e w6 ⟨rfl, hb6⟩
  have g6 := hide (below_then (unhide g5) hb6)
  clear hb6
  go_wp2
  go_ret
  exact ⟨rfl, unhide g6⟩
end Go.Proofs.YtanieihnkajpdaaDoor
