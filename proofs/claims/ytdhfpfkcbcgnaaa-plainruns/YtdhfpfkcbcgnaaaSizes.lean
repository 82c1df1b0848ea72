/- What firstStripe, Words, Nodes, Cells of package shape answer. -/
import Derived.Test.YtdhfpfkcbcgnaaaCheck
namespace Go.Proofs.Ytdhfpfkcbcgnaaa
open Go.RowKit

theorem errOf_f : errOf false = 1 := rfl
theorem errOf_t : errOf true = 0 := rfl
def wordsD (c : Cf) : Int := if okB c then nw c else 0
def nodesD (c : Cf) : Int := if okB c then c.r + no c + ns c else 0
def cellsD (c : Cf) : Int := if okB c then nw c + ns c * 8 else 0

theorem words_any (c : Cf) (w : World) : Calls Try.prog 16 #[cv c] w fun e w' => e = .returned (.int .i64 (wordsD c)) ∧ Below w.heap.size w w' := by
  cases h : okB c
  · have eb : wordsD c = 0 := by simp [wordsD, h]
    rw [eb]
    have H := hide h
    clear eb h
    unfold cv
    go_enter Try.func16, Try.ntmps16
    go_wp2_with fail
    refine (check_any c _).mono ?_
    rw [unhide H, errOf_f]
    rintro e w1 ⟨rfl, hb⟩
    go_wp2
    go_ret
    exact ⟨rfl, below_call hb⟩
  · have eb : wordsD c = nw c := by simp [wordsD, h]
    rw [eb]
    have hp := okB_hp h
    have H := hide h
    clear eb h
    have e1 : IntKind.i64.wrap (ns c * c.d) = nw c := kin (by have := nw_in hp; unfold nw at this; omega) (by have := nw_in hp; unfold nw at this; omega)
    unfold cv
    go_enter Try.func16, Try.ntmps16
    go_wp2_with fail
    refine (check_any c _).mono ?_
    rw [unhide H, errOf_t]
    rintro e w1 ⟨rfl, hb⟩
    have hx := (bx_new c w).next hb
    have hl := below_call hb
    obtain ⟨a0, a1, a2, a3, a4, a5, a6, a7, a8, a9, a10, a11⟩ := hx.cells
    go_wp2_with fail
    go_region_held3 (fun wz => wz.cell? ⟨w.heap.size, 0, none⟩ = some (.int .i64 c.r) ∧ wz.cell? ⟨w.heap.size, 1, none⟩ = some (.int .i64 c.o) ∧ wz.cell? ⟨w.heap.size, 2, none⟩ = some (.int .i64 c.s) ∧ wz.cell? ⟨w.heap.size, 3, none⟩ = some (.int .i64 c.d) ∧ wz.cell? ⟨w.heap.size, 4, none⟩ = some (.int .i64 c.t) ∧ wz.cell? ⟨w.heap.size, 5, none⟩ = some (.int .i64 c.l) ∧ wz.cell? ⟨w.heap.size, 6, none⟩ = some (.int .i64 c.g) ∧ wz.cell? ⟨w.heap.size, 7, none⟩ = some (.int .i64 c.k) ∧ wz.cell? ⟨w.heap.size, 8, none⟩ = some (.int .i64 c.u) ∧ wz.cell? ⟨w.heap.size, 9, none⟩ = some (.int .i64 c.e) ∧ wz.cell? ⟨w.heap.size, 10, none⟩ = some (.int .i64 c.i) ∧ wz.cell? ⟨w.heap.size, 11, none⟩ = some (.int .i64 c.p)) (first | exact hx3.cells | exact hx2.cells | exact hx1.cells | exact hx.drew.cells)
      (first
        | (go_at_call 30; refine (stripes_any c _ hp).mono ?_; rintro e wz ⟨rfl, hbz⟩; first | (have hx3 := hx2.next hbz; have hl3 := below_then hl2 hbz) | (have hx2 := hx1.next hbz; have hl2 := below_then hl1 hbz) | (have hx1 := hx.drew.next hbz; have hl1 := below_then hl.drew hbz)))
    all_goals
      go_wp2
      go_ret
      exact ⟨by first | rfl | exact ret_int (by simp only [IntKind.wrap_i64]; omega), hl1⟩

theorem words_ok (c : Cf) (w : World) (h : okB c = true) : Calls Try.prog 16 #[cv c] w fun e w' => e = .returned (.int .i64 (nw c)) ∧ Below w.heap.size w w' := by
  have := words_any c w
  simp only [wordsD, h, if_true] at this
  exact this

end Go.Proofs.Ytdhfpfkcbcgnaaa
