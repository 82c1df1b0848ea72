/- The statements' own helper 'first' answers true, whatever the world. -/
import Derived.Test.YtmaofephcfnlhaaByte
namespace Go.Proofs.Ytmaofephcfnlhaa
open Go.RowKit

theorem bthen {B : Nat} {w w' w'' : World} (h : Below B w w') (k : Below w'.heap.size w' w'') (hB : B ≤ w.heap.size) : Below B w w'' := h.trans (k.mono (Nat.le_trans hB h.size))

set_option maxRecDepth 100000 in
theorem first_any (w : World) : Calls Try.prog 9 #[] w fun e w' => e = .returned (.bool true) ∧ Below w.heap.size w w' := by
  have e1 : errOf (sbOk 1 0 1 1) = 0 := by decide
  have e2 : wordD 1 (sbW 1 (fun _ => 0) 0 1 1) 0 = 256 := by simp [wordD, hasB, sbW, sbOk, byteB, setW, putByte, wrap64]
  have e3 : errOf (hasB 1 0) = 0 := by decide
  have e4 : wrap64 (wrap64 (0 + 1) + 1) = 2 := by simp [wrap64]
  have E1 := hide e1
  have E2 := hide e2
  have E3 := hide e3
  have E4 := hide e4
  clear e1 e2 e3 e4
  go_enter Try.func9, Try.ntmps9
  go_wp2_with fail
  refine (new_any 1 w (by decide)).mono ?_
  rintro e w1 ⟨b, r, rfl, hb, hr, hc, hbel⟩
  go_wp2_with fail
  refine (storeByte_any b r 1 _ _ 0 1 1 w1 hc).mono ?_
  rw [unhide E1]
  rintro e w2 ⟨rfl, hc2, ht2⟩
  go_wp2_with fail
  refine (load_any b r 1 _ _ 0 w2 hc2).mono ?_
  rw [unhide E2, unhide E3]
  rintro e w3 ⟨rfl, hc3, ht3⟩
  rw [unhide E4] at hc3
  go_wp2_with fail
  refine (count_any b r 1 _ _ w3 hc3).mono ?_
  rintro e w4 ⟨rfl, rfl⟩
  go_wp2
  go_ret
  exact ⟨rfl, hbel.trans ((ht2.trans ht3).below hb hr)⟩
end Go.Proofs.Ytmaofephcfnlhaa
