/- The reference's Eval answers what calc.Eval answers. -/
import Derived.Test.YtdhfpfkcbcgnaaaEval
import Derived.Test.YtdhfpfkcbcgnaaaMathb
namespace Go.Proofs.Ytdhfpfkcbcgnaaa.Calc
open Go.RowKit

def andTo (l : List Int) (k : Nat) : Int := (l.take k).foldl and2 (-1)
def orTo (l : List Int) (k : Nat) : Int := (l.take k).foldl or2 0
def sumTo (l : List Int) (k : Nat) : Int := (l.take k).foldl add2 0
def mulTo (l : List Int) (k : Nat) : Int := (l.take k).foldl mul2 1
theorem andTo_succ (l : List Int) (k : Nat) (h : k < l.length) : andTo l (k + 1) = bits .and .i64 (andTo l k) l[k] := by unfold andTo; rw [fold_snoc _ _ _ _ h]; rfl
theorem orTo_succ (l : List Int) (k : Nat) (h : k < l.length) : orTo l (k + 1) = bits .or .i64 (orTo l k) l[k] := by unfold orTo; rw [fold_snoc _ _ _ _ h]; rfl
theorem sumTo_succ (l : List Int) (k : Nat) (h : k < l.length) : sumTo l (k + 1) = wrap64 (sumTo l k + l[k]) := by unfold sumTo; rw [fold_snoc _ _ _ _ h]; rfl
theorem mulTo_succ (l : List Int) (k : Nat) (h : k < l.length) : mulTo l (k + 1) = wrap64 (mulTo l k * l[k]) := by unfold mulTo; rw [fold_snoc _ _ _ _ h]; rfl
theorem andTo_all (l : List Int) (k : Nat) (h : ¬ k < l.length) : andTo l k = andL l := by unfold andTo; rw [take_all _ _ h]; rfl
theorem orTo_all (l : List Int) (k : Nat) (h : ¬ k < l.length) : orTo l k = orL l := by unfold orTo; rw [take_all _ _ h]; rfl
theorem sumTo_all (l : List Int) (k : Nat) (h : ¬ k < l.length) : sumTo l k = sumL l := by unfold sumTo; rw [take_all _ _ h]; rfl
theorem mulTo_all (l : List Int) (k : Nat) (h : ¬ k < l.length) : mulTo l k = mulL l := by unfold mulTo; rw [take_all _ _ h]; rfl

theorem ref_bad (kind : Int) (a : Option Addr) (len cap : Nat) (l : List Int) (w : World) (hs : Seg w a len l) (h : knownB kind = false ∨ 7 ≤ kind ∧ len = 0) :
    Calls Try.prog 24 #[.int .i64 kind, .slice a len cap] w fun e w' => e = .returned (.tuple #[.int .i64 (evalL kind l).1, .int .i64 (evalL kind l).2]) ∧ ∃ n, w' = w.drewN n := by
  cases hkn : knownB kind
  · have E := hide (evalL_unknown kind l hkn)
    have HK := hide hkn
    clear hkn h
    go_enter Try.func24, Try.ntmps24
    go_wp2_with fail
    refine (refknown_any kind _).mono ?_
    rw [unhide HK]
    rintro e w1 ⟨rfl, rfl⟩
    go_wp2
    go_ret2
    exact ⟨ret_two (by rw [unhide E]) (by rw [unhide E]), 0, rfl⟩
  · have h := h.resolve_left (by rw [hkn]; simp)
    obtain ⟨h7, rfl⟩ := h
    have hl : l = [] := List.eq_nil_of_length_eq_zero hs.1
    subst hl
    have hk := of_decide_eq_true hkn
    have E := hide (show evalL kind [] = (0, 1) by
      rcases (show kind = 7 ∨ kind = 8 by omega) with rfl | rfl <;> simp [evalL])
    have HK := hide hkn
    clear hkn hk
    go_enter Try.func24, Try.ntmps24
    go_wp2_with fail
    refine (refknown_any kind _).mono ?_
    rw [unhide HK]
    rintro e w1 ⟨rfl, rfl⟩
    go_wp2
    go_ret2
    exact ⟨ret_two (by rw [unhide E]) (by rw [unhide E]), 0, rfl⟩

theorem kind_cases (kind : Int) (h : knownB kind = true) : kind = 0 ∨ kind = 1 ∨ kind = 2 ∨ kind = 3 ∨ kind = 4 ∨ kind = 5 ∨ kind = 6 ∨ kind = 7 ∨ kind = 8 := by
  have := of_decide_eq_true h
  omega

set_option maxHeartbeats 1000000 in
theorem ref_none (kind : Int) (a : Option Addr) (cap : Nat) (w : World) (hk : knownB kind = true) (h7 : kind < 7) :
    Calls Try.prog 24 #[.int .i64 kind, .slice a 0 cap] w fun e w' => e = .returned (.tuple #[.int .i64 (evalL kind []).1, .int .i64 (evalL kind []).2]) ∧ ∃ n, w' = w.drewN n := by
  have hkc := kind_cases kind hk
  have HK := hide hk
  have HC := hide hkc
  have d7 : decide (7 ≤ kind) = false := decide_eq_false (by omega)
  clear hk hkc
  go_enter Try.func24, Try.ntmps24
  go_wp2_with fail
  refine (refknown_any kind _).mono ?_
  rw [unhide HK]
  rintro e w1 ⟨rfl, rfl⟩
  go_wp2
  go_loop [6, 7, 8, 9, 10, 11, 12] (fun s p a o b c i => s = .int .i64 0 ∧ p = .int .i64 1 ∧ a = .int .i64 (-1) ∧ o = .int .i64 0 ∧ b = .bool true ∧ c = .bool true ∧ i = .int .i64 0) (fun _ _ _ _ _ _ _ => 1)
  case atStart => exact ⟨rfl, rfl, rfl, rfl, rfl, rfl, rfl⟩
  case round =>
    obtain ⟨rfl, rfl, rfl, rfl, rfl, rfl, rfl⟩ := hrel
    rcases unhide HC with rfl | rfl | rfl | rfl | rfl | rfl | rfl | rfl | rfl
    · go_wp2
      go_ret2
      exact ⟨rfl, 0, rfl⟩
    · go_wp2
      go_ret2
      exact ⟨rfl, 0, rfl⟩
    · go_wp2
      go_ret2
      exact ⟨rfl, 0, rfl⟩
    · go_wp2_with (go_at_call 38; refine (bit_any _ _).mono ?_; rintro e w' ⟨rfl, rfl⟩)
      go_ret2
      exact ⟨rfl, 0, rfl⟩
    · go_wp2_with (go_at_call 38; refine (bit_any _ _).mono ?_; rintro e w' ⟨rfl, rfl⟩)
      go_ret2
      exact ⟨rfl, 0, rfl⟩
    · go_wp2
      go_ret2
      exact ⟨rfl, 0, rfl⟩
    · go_wp2
      go_ret2
      exact ⟨rfl, 0, rfl⟩
    · omega
    · omega
end Go.Proofs.Ytdhfpfkcbcgnaaa.Calc
