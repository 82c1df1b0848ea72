/- The walk of CalcTells: it answers true. -/
import Derived.Test.YtkmcblhngnebpaaRefc
import Derived.Test.YtkmcblhngnebpaaFew
namespace Go.Proofs.Ytkmcblhngnebpaa
open Go.RowKit

theorem seg_drewN {w : World} {a : Option Addr} {len : Nat} {l : List Int} (h : Seg w a len l) (n : Nat) : Seg (w.drewN n) a len l := h

set_option maxHeartbeats 1000000 in
theorem calcTells_walk (kind : Int) (a : Option Addr) (len cap : Nat) (l : List Int) (n m : Int) (w : World) (_w0 : (Lit.int .i64 kind).wf = true) (hs : Seg w a len l) (hlc : len ≤ cap) (hcm : cap ≤ maxLen) (_hwl : ∀ n ∈ l, (Lit.int .i64 n).wf = true) (w2 : (Lit.int .i64 n).wf = true) (w3 : (Lit.int .i64 m).wf = true) :
    Calls Try.prog 3 #[.int .i64 kind, .slice a len cap, .int .i64 n, .int .i64 m] w fun e w' => e = .returned (.bool true) ∧ Below w.heap.size w w' := by
  obtain ⟨n0, n1⟩ := in_of_wf w2
  obtain ⟨m0, m1⟩ := in_of_wf w3
  have hm : len ≤ maxLen := Nat.le_trans hlc hcm
  by_cases hbig : (1000 : Int) < (len : Int)
  · go_enter Try.func3, Try.ntmps3
    go_wp2_with fail
    refine (first_any _).mono ?_
    rintro e w1 ⟨rfl, hb1⟩
    go_wp2_with fail
    refine (first_any _).mono ?_
    rintro e w2 ⟨rfl, hb2⟩
    go_wp2
    go_ret
    exact ⟨rfl, bthen hb1 hb2⟩
  · go_enter Try.func3, Try.ntmps3
    go_wp2_with fail
    refine (first_any _).mono ?_
    rintro e w1 ⟨rfl, hb1⟩
    have hs1 := hs.later hb1
    go_wp2_with fail
    refine (eval_any kind a len cap l w1 hs1 hm hlc).mono ?_
    rintro e w2 ⟨rfl, n2, rfl⟩
    go_wp2_with fail
    refine (ref_any kind a len cap l _ (seg_drewN hs1 n2) hm).mono ?_
    rintro e w2 ⟨rfl, n3, rfl⟩
    generalize evalL kind l = r
    obtain ⟨r1, r2⟩ := r
    go_wp2_with fail
    refine (first_any _).mono ?_
    rintro e w4 ⟨rfl, hb4⟩
    go_wp2_with fail
    refine (known_any kind _).mono ?_
    rintro e w5 ⟨rfl, rfl⟩
    go_wp2_with fail
    refine (refknown_any kind _).mono ?_
    rintro e w6 ⟨rfl, rfl⟩
    go_wp2_with fail
    refine (wrap_any n m _ n0 n1 m0 m1).mono ?_
    rintro e w7 ⟨rfl, rfl⟩
    go_wp2_with fail
    refine (refwrap_any n m _ n0 n1 m0 m1).mono ?_
    rintro e w8 ⟨rfl, rfl⟩
    go_wp2
    go_ret
    exact ⟨rfl, bthen (below_drewN hb1 _) hb4⟩
end Go.Proofs.Ytkmcblhngnebpaa
