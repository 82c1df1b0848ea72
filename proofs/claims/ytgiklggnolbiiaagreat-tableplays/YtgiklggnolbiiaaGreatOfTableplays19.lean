/- Texts of this claim, put together in their order. -/
import Derived.Test.YtgiklggnolbiiaaGreatBase1
import Derived.Test.YtgiklggnolbiiaaGreatBase2
import Derived.Test.YtgiklggnolbiiaaGreatBase3
import Derived.Test.YtgiklggnolbiiaaGreatBase4
import Derived.Test.YtgiklggnolbiiaaGreatBase5
import Derived.Test.YtgiklggnolbiiaaGreatBase6
import Derived.Test.YtgiklggnolbiiaaGreatBase7
import Derived.Test.YtgiklggnolbiiaaGreatBase8
import Derived.Test.YtgiklggnolbiiaaGreatBase9
import Derived.Test.YtgiklggnolbiiaaGreatBase10
import Derived.Test.YtgiklggnolbiiaaGreatBase11
import Derived.Test.YtgiklggnolbiiaaGreatBase12
import Derived.Test.YtgiklggnolbiiaaGreatBase13
import Derived.Test.YtgiklggnolbiiaaGreatBase14
import Derived.Test.YtgiklggnolbiiaaGreatBase15
import Derived.Test.YtgiklggnolbiiaaGreatBase16
import Derived.Test.YtgiklggnolbiiaaGreatBase17
import Derived.Test.YtgiklggnolbiiaaGreatOfTableplays18
/- TablePlays: all arguments. -/
namespace Go.Proofs.YtgiklggnolbiiaaGreat
open Go.RowKit
set_option maxRecDepth 100000 in
set_option maxHeartbeats 4000000 in
theorem tablePlays_early (a0 a1 : Int) (a2 : Option Addr) (n2 cap2 : Nat) (w : World) (hl : n2 ≤ maxLen) (h : 300 < n2 ∨ (n2 ≤ 300 ∧ 60 < a0 ∧ a0 ≤ 10000)) :
    Calls Tryz.prog 3 #[.int .i64 a0, .int .i64 a1, .slice a2 n2 cap2] w fun e w' => e = .returned (.bool true) ∧ Below w.heap.size w w' := by
  unfold maxLen at hl
  have C1 := hide (firstt_any w)
  rcases h with h | ⟨h, h1, h2⟩
  · have k : (300 : Int) < (n2 : Int) := by omega
    go_enter Tryz.func3, Tryz.ntmps3
    go_wp2_with fail
    refine (unhide C1).mono ?_
    rintro e w1 ⟨rfl, b1⟩
    clear C1
    have C2 := hide (firstt_any w1)
    go_wp2_with fail
    refine (unhide C2).mono ?_
    rintro e w2 ⟨rfl, b2⟩
    replace b2 := hide (below_then b1 b2)
    clear C2
    go_wp2
    go_ret
    exact ⟨rfl, unhide b2⟩
  · have k : ¬ (300 : Int) < (n2 : Int) := by omega
    go_enter Tryz.func3, Tryz.ntmps3
    go_wp2_with fail
    refine (unhide C1).mono ?_
    rintro e w1 ⟨rfl, b1⟩
    clear C1
    have C2 := hide (firstt_any w1)
    go_wp2_with fail
    refine (unhide C2).mono ?_
    rintro e w2 ⟨rfl, b2⟩
    replace b2 := hide (below_then b1 b2)
    clear C2
    go_wp2
    go_ret
    exact ⟨rfl, unhide b2⟩
set_option maxRecDepth 100000 in
set_option maxHeartbeats 4000000 in
theorem tablePlays_bad (a0 a1 : Int) (a2 : Option Addr) (n2 cap2 : Nat) (w : World) (h : n2 ≤ 300) (h0 : a0 ≤ 60 ∨ (60 < a0 ∧ 10000 < a0)) (hb : a0 < 1 ∨ (a0 ≤ 10000 ∧ 1 ≤ a0 ∧ a1 < 1) ∨ 10000 < a0 ∨ (1 ≤ a0 ∧ a0 ≤ 10000 ∧ 4096 < a1)) :
    Calls Tryz.prog 3 #[.int .i64 a0, .int .i64 a1, .slice a2 n2 cap2] w fun e w' => e = .returned (.bool true) ∧ Below w.heap.size w w' := by
  have C1 := hide (firstt_any w)
  have k : (n2 : Int) ≤ 300 := by omega
  replace hb := hide hb
  rcases h0 with h0 | ⟨h0, h1⟩
  all_goals
    go_enter Tryz.func3, Tryz.ntmps3
    go_wp2_with fail
    refine (unhide C1).mono ?_
    rintro e w1 ⟨rfl, b1⟩
    replace b1 := hide b1
    clear C1
    go_wp2_with fail
    refine (newt_bad a0 a1 w1 (unhide hb)).mono ?_
    rintro e w2 ⟨rfl, rfl⟩
    go_wp2_with fail
    refine (rnew_bad a0 a1 w2 (unhide hb)).mono ?_
    rintro e w3 ⟨rfl, rfl⟩
    have C2 := hide (firstt_any w3)
    go_wp2_with fail
    go_loopw [11] (fun s wr => s = .int .i64 0 ∧ wr = w3) (fun _ _ => 0)
    case atStart => exact ⟨rfl, rfl⟩
    case round =>
      obtain ⟨rfl, rfl⟩ := hrel
      go_wp2_with fail
      refine (unhide C2).mono ?_
      rintro e w6 ⟨rfl, b6⟩
      replace b6 := hide (below_then (unhide b1) b6)
      go_wp2
      go_ret
      exact ⟨rfl, unhide b6⟩
theorem tablePlays_walk (a0 a1 : Int) (a2 : Option Addr) (len2 cap2 : Nat) (Z2 : Nat → Nat → Int) (W : World) (_w0 : (Lit.int .i64 a0).wf = true) (_w1 : (Lit.int .i64 a1).wf = true) (s2 : RecsB 4 W.heap.size W a2 len2 Z2) (lc2 : len2 ≤ cap2) (cm2 : cap2 ≤ maxLen)
    (_wz2 : ∀ i, i < len2 → ∀ j, j < 4 → (Lit.int .i64 (Z2 i j)).wf = true) :
    Calls Tryz.prog 3 #[.int .i64 a0, .int .i64 a1, .slice a2 len2 cap2] W fun e w' => e = .returned (.bool true) ∧ Below W.heap.size W w' := by
  by_cases h : 300 < len2 ∨ (len2 ≤ 300 ∧ 60 < a0 ∧ a0 ≤ 10000)
  · exact tablePlays_early a0 a1 a2 len2 cap2 W (Nat.le_trans lc2 cm2) h
  by_cases hb : a0 < 1 ∨ (a0 ≤ 10000 ∧ 1 ≤ a0 ∧ a1 < 1) ∨ 10000 < a0 ∨ (1 ≤ a0 ∧ a0 ≤ 10000 ∧ 4096 < a1)
  · exact tablePlays_bad a0 a1 a2 len2 cap2 W (by omega) (by omega) hb
  obtain ⟨n, rfl⟩ : ∃ n : Nat, a0 = n := ⟨a0.toNat, by omega⟩
  exact tablePlays_in n a1 a2 len2 cap2 Z2 W s2 (by omega) (by omega) (by omega) (by omega) (by omega)
end Go.Proofs.YtgiklggnolbiiaaGreat
