/- PlainChain's walk as the closing text wants it. -/
import Derived.Test.YtdhfpfkcbcgnaaaChain
namespace Go.Proofs.Ytdhfpfkcbcgnaaa
open Go.RowKit
theorem plainChain_walk (v u : Int) (w : World) (h : (Lit.int .i64 v).wf = true) (_k : (Lit.int .i64 u).wf = true) : Calls Try.prog 8 #[.int .i64 v, .int .i64 u] w fun e w' => e = .returned (.bool true) ∧ Below w.heap.size w w' := plainChain_core v u w (wf_i64 h)
end Go.Proofs.Ytdhfpfkcbcgnaaa
