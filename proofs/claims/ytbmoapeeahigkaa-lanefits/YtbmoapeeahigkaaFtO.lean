/- LaneFits: more than 300 operations. -/
import Derived.Test.YtbmoapeeahigkaaFst
namespace Go.Proofs.Ytbmoapeeahigkaa
open Go.RowKit

set_option maxRecDepth 100000 in
set_option maxHeartbeats 4000000 in
theorem fits_out (a0 : Option Addr) (n0 c0 : Nat) (w : World) (h0 : n0 ≤ 9223372036854775807) (h : 300 < n0) :
    Calls Try.prog 4 #[.slice a0 n0 c0] w fun e w' => e = .returned (.bool true) ∧ Below w.heap.size w w' := by
  go_enter Try.func4, Try.ntmps4
  go_wp2_with fail
  refine (first_any w).mono ?_
  rintro e w1 ⟨rfl, b1⟩
  replace b1 := hide b1
  go_wp2_with fail
  refine (new_ln w1).mono ?_
  rintro e w2 ⟨rfl, L2, b2⟩
  replace b2 := hide (below_then (unhide b1) b2)
  replace L2 := hide L2
  go_wp2_with fail
  refine (first_any w2).mono ?_
  rintro e w3 ⟨rfl, b3⟩
  replace b3 := hide (below_then (unhide b2) b3)
  go_wp2
  go_ret
  exact ⟨rfl, unhide b3⟩
end Go.Proofs.Ytbmoapeeahigkaa
