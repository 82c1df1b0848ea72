/- The walk of ModeBelow. -/
import Derived.Test.YtjbhakimakfliaaSix
namespace Go.Proofs.Ytjbhakimakfliaa
open Go.RowKit

theorem intent_facts : ∀ i : Fin 6, let a : Int := i.val; (intentD a == 0) = (a == 0) ∧ ((a != 3) = false → (intentD a == 1) = true) := by decide +kernel
set_option maxRecDepth 20000 in
set_option maxHeartbeats 4000000 in
theorem modeBelow_walk (a b : Int) (w : World) (_ : (Lit.int .i64 a).wf = true) (_ : (Lit.int .i64 b).wf = true) :
    Calls Try.prog 8 #[.int .i64 a, .int .i64 b] w fun e w' => e = .returned (.bool true) ∧ Below w.heap.size w w' := by
  cases ha : knownB a
  · have Ha := hide ha
    clear ha
    go_enter Try.func8, Try.ntmps8
    go_wp2_with fail
    refine (first_any _).mono ?_
    rintro e w1 ⟨rfl, hb⟩
    have Hl := hide hb
    clear hb
    go_wp2_with fail
    refine (known_any a _).mono ?_
    rw [unhide Ha]
    rintro e w' ⟨rfl, rfl⟩
    go_wp2_with fail
    refine (first_any _).mono ?_
    rintro e w1 ⟨rfl, hb⟩
    replace Hl := hide (below_then (unhide Hl) hb)
    clear hb
    go_wp2
    go_ret
    exact ⟨rfl, unhide Hl⟩
  have Ha := hide ha
  clear ha
  cases hb : knownB b
  · have Hb := hide hb
    clear hb
    go_enter Try.func8, Try.ntmps8
    go_wp2_with fail
    refine (first_any _).mono ?_
    rintro e w1 ⟨rfl, hb⟩
    have Hl := hide hb
    clear hb
    go_wp2_with fail
    refine (known_any a _).mono ?_
    rw [unhide Ha]
    rintro e w' ⟨rfl, rfl⟩
    go_wp2_with fail
    refine (known_any b _).mono ?_
    rw [unhide Hb]
    rintro e w' ⟨rfl, rfl⟩
    go_wp2_with fail
    refine (first_any _).mono ?_
    rintro e w1 ⟨rfl, hb⟩
    replace Hl := hide (below_then (unhide Hl) hb)
    clear hb
    go_wp2
    go_ret
    exact ⟨rfl, unhide Hl⟩
  have Hb := hide hb
  clear hb
  obtain ⟨i, rfl⟩ := six (unhide Ha)
  obtain ⟨j, rfl⟩ := six (unhide Hb)
  obtain ⟨-, -, -, -, -, -, -, -, -, -, -, -, f13, f14, f15, f16, -⟩ := two_facts i j
  have f17 := intent_facts i
  generalize ((i.val : Nat) : Int) = a at *
  generalize ((j.val : Nat) : Int) = b at *
  have F13 := hide f13
  clear f13
  have F14 := hide f14
  clear f14
  have F15 := hide f15
  clear f15
  have F16 := hide f16
  clear f16
  have F17 := hide f17
  clear f17
  go_enter Try.func8, Try.ntmps8
  go_wp2_with fail
  refine (first_any _).mono ?_
  rintro e w1 ⟨rfl, hb⟩
  have Hl := hide hb
  clear hb
  go_wp2_with fail
  refine (known_any a _).mono ?_
  rw [unhide Ha]
  rintro e w' ⟨rfl, rfl⟩
  go_wp2_with fail
  refine (known_any b _).mono ?_
  rw [unhide Hb]
  rintro e w' ⟨rfl, rfl⟩
  go_wp2_with fail
  refine (intent_any a _).mono ?_
  rintro e w' ⟨rfl, rfl⟩
  go_wp2_with fail
  refine (intent_any b _).mono ?_
  rintro e w' ⟨rfl, rfl⟩
  go_wp2_with fail
  refine (fits_any (intentD a) (intentD b) _).mono ?_
  rw [unhide F14]
  rintro e w1 ⟨rfl, hb⟩
  replace Hl := hide (below_then (unhide Hl) hb)
  clear hb
  go_wp2_with fail
  refine (first_any _).mono ?_
  rintro e w1 ⟨rfl, hb⟩
  replace Hl := hide (below_then (unhide Hl) hb)
  clear hb
  go_wp2_with fail
  refine (covers_any a (intentD a) _).mono ?_
  rw [unhide F15]
  rintro e w1 ⟨rfl, hb⟩
  replace Hl := hide (below_then (unhide Hl) hb)
  clear hb
  have hz := (unhide F17).1
  cases h : (a != 3)
  · have h1 : (intentD a == 1) = true := (unhide F17).2 h
    go_wp2_with fail
    refine (intent_any (intentD a) _).mono ?_
    rw [unhide F16]
    rintro e w' ⟨rfl, rfl⟩
    go_wp2_with fail
    refine (fits_any a 0 _).mono ?_
    rw [unhide F13]
    rintro e w1 ⟨rfl, hb⟩
    replace Hl := hide (below_then (unhide Hl) hb)
    clear hb
    go_wp2
    go_ret
    exact ⟨rfl, unhide Hl⟩
  · go_wp2_with fail
    refine (intent_any (intentD a) _).mono ?_
    rw [unhide F16]
    rintro e w' ⟨rfl, rfl⟩
    go_wp2_with fail
    refine (fits_any a 0 _).mono ?_
    rw [unhide F13]
    rintro e w1 ⟨rfl, hb⟩
    replace Hl := hide (below_then (unhide Hl) hb)
    clear hb
    go_wp2
    go_ret
    exact ⟨rfl, unhide Hl⟩
end Go.Proofs.Ytjbhakimakfliaa
