/- PlainJumps' walk as the closing text wants it. -/
import Derived.Test.YtdhfpfkcbcgnaaaJumps
namespace Go.Proofs.Ytdhfpfkcbcgnaaa
open Go.RowKit
theorem plainJumps_walk (v : Int) (w : World) (_h : (Lit.int .i64 v).wf = true) : Calls Try.prog 6 #[.int .i64 v] w fun e w' => e = .returned (.bool true) ∧ Below w.heap.size w w' := plainJumps_core v w
end Go.Proofs.Ytdhfpfkcbcgnaaa
