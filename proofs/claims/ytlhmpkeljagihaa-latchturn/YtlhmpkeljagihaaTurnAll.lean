/- The walk of LatchTurn at every input. -/
import Derived.Test.YtlhmpkeljagihaaTurn
namespace Go.Proofs.Ytlhmpkeljagihaa
open Go.RowKit

set_option maxRecDepth 100000 in
theorem latchTurn_walk (s : Int) (cancel : Bool) (w : World) (_ : (Lit.int .i64 s).wf = true) :
    Calls Try.prog 6 #[.int .i64 s, .bool cancel] w fun e w' => e = .returned (.bool true) ∧ Below w.heap.size w w' := by
  by_cases hA : 0 ≤ s ∧ s ≤ 2
  · exact turn_in s cancel w hA.1 hA.2
  · go_enter Try.func6, Try.ntmps6
    have hA' := hide hA
    clear hA
    go_wp2_with fail
    refine (first_any _).mono ?_
    rintro e w1 ⟨rfl, hb1⟩
    rcases Bool.eq_false_or_eq_true (decide (s < 0)) with d0 | d0
    · go_wp2_with fail
      refine (first_any _).mono ?_
      rintro e w2 ⟨rfl, hb2⟩
      go_wp2
      go_ret
      exact ⟨rfl, below_then hb1 hb2⟩
    rcases Bool.eq_false_or_eq_true (decide (2 < s)) with d1 | d1
    · go_wp2_with fail
      refine (first_any _).mono ?_
      rintro e w2 ⟨rfl, hb2⟩
      go_wp2
      go_ret
      exact ⟨rfl, below_then hb1 hb2⟩
    exfalso; have hA := unhide hA'; revert hA; simp at d0 d1; omega
end Go.Proofs.Ytlhmpkeljagihaa
