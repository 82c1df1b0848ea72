/- LaneFits' walk as the closing text wants it. -/
import Derived.Test.YtbmoapeeahigkaaFtW
import Derived.Test.YtbmoapeeahigkaaFtO
namespace Go.Proofs.Ytbmoapeeahigkaa
open Go.RowKit

theorem laneFits_walk (a0 : Option Addr) (n0 c0 : Nat) (Z : Nat → Nat → Int) (w : World) (s0 : RecsB 3 w.heap.size w a0 n0 Z) (lc0 : n0 ≤ c0) (cm0 : c0 ≤ maxLen) (_ : ∀ i, i < n0 → ∀ j, j < 3 → (Lit.int .i64 (Z i j)).wf = true) :
    Calls Try.prog 4 #[.slice a0 n0 c0] w fun e w' => e = .returned (.bool true) ∧ Below w.heap.size w w' := by
  unfold maxLen at cm0
  by_cases h : n0 ≤ 300
  · exact fits_in a0 n0 c0 Z w s0 h
  · exact fits_out a0 n0 c0 w (by omega) (by omega)
end Go.Proofs.Ytbmoapeeahigkaa
