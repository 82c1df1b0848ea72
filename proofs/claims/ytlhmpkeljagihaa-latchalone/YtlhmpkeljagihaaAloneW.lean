/- LatchAlone: every input. -/
import Derived.Test.YtlhmpkeljagihaaAlone
namespace Go.Proofs.Ytlhmpkeljagihaa
open Go.RowKit

set_option maxRecDepth 100000 in
theorem latchAlone_walk (th sl : Int) (x : Option Addr) (len cap : Nat) (l : List Int) (x2 : Option Addr) (len2 cap2 : Nat) (l2 : List Int) (w : World) (_ : (Lit.int .i64 th).wf = true) (_ : (Lit.int .i64 sl).wf = true) (hs : SegK .i64 w x len l) (_ : len ≤ cap) (_ : cap ≤ maxLen) (_ : ∀ n ∈ l, (Lit.int .i64 n).wf = true) (hs2 : SegK .i64 w x2 len2 l2) (_ : len2 ≤ cap2) (_ : cap2 ≤ maxLen) (_ : ∀ n ∈ l2, (Lit.int .i64 n).wf = true) :
    Calls Try.prog 4 #[.int .i64 th, .int .i64 sl, .slice x len cap, .slice x2 len2 cap2] w fun e w' => e = .returned (.bool true) ∧ Below w.heap.size w w' := by
  by_cases hA : 1 ≤ th ∧ th ≤ 16 ∧ 0 ≤ sl ∧ sl ≤ 48 ∧ (len : Int) ≤ 600 ∧ (len2 : Int) ≤ 100
  · obtain ⟨h1, h2, h3, h4, h5, h6⟩ := hA
    obtain ⟨T, rfl⟩ := Int.eq_ofNat_of_zero_le (show 0 ≤ th by omega)
    obtain ⟨sl, rfl⟩ := Int.eq_ofNat_of_zero_le h3
    exact alone_in T sl x len cap l x2 len2 cap2 l2 w (by omega) (by omega) (by omega) (by omega) (by omega) hs hs2
  · go_enter Try.func4, Try.ntmps4
    have hA' := hide hA
    clear hA hs hs2
    go_wp2_with fail
    refine (first_any _).mono ?_
    rintro e w1 ⟨rfl, hb1⟩
    rcases Bool.eq_false_or_eq_true (decide (th < 1)) with d0 | d0
    · go_wp2_with fail
      refine (first_any _).mono ?_
      rintro e w2 ⟨rfl, hb2⟩
      go_wp2
      go_ret
      exact ⟨rfl, below_then hb1 hb2⟩
    rcases Bool.eq_false_or_eq_true (decide (16 < th)) with d1 | d1
    · go_wp2_with fail
      refine (first_any _).mono ?_
      rintro e w2 ⟨rfl, hb2⟩
      go_wp2
      go_ret
      exact ⟨rfl, below_then hb1 hb2⟩
    rcases Bool.eq_false_or_eq_true (decide (sl < 0)) with d2 | d2
    · go_wp2_with fail
      refine (first_any _).mono ?_
      rintro e w2 ⟨rfl, hb2⟩
      go_wp2
      go_ret
      exact ⟨rfl, below_then hb1 hb2⟩
    rcases Bool.eq_false_or_eq_true (decide (48 < sl)) with d3 | d3
    · go_wp2_with fail
      refine (first_any _).mono ?_
      rintro e w2 ⟨rfl, hb2⟩
      go_wp2
      go_ret
      exact ⟨rfl, below_then hb1 hb2⟩
    rcases Bool.eq_false_or_eq_true (decide (600 < (len : Int))) with d4 | d4
    · go_wp2_with fail
      refine (first_any _).mono ?_
      rintro e w2 ⟨rfl, hb2⟩
      go_wp2
      go_ret
      exact ⟨rfl, below_then hb1 hb2⟩
    rcases Bool.eq_false_or_eq_true (decide (100 < (len2 : Int))) with d5 | d5
    · go_wp2_with fail
      refine (first_any _).mono ?_
      rintro e w2 ⟨rfl, hb2⟩
      go_wp2
      go_ret
      exact ⟨rfl, below_then hb1 hb2⟩
    exfalso; have hA := unhide hA'; revert hA; simp at d0 d1 d2 d3 d4 d5; omega
end Go.Proofs.Ytlhmpkeljagihaa
