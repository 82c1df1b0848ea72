/- The walk of ModeSafe. -/
import Derived.Test.YtjbhakimakfliaaSix
import Derived.Deep.Cut
namespace Go.Proofs.Ytjbhakimakfliaa
open Go.RowKit

theorem same_fits : ∀ i : Fin 6, let a : Int := i.val; fitsB a a = ((a == 0) || (a == 1) || (a == 2) || (a == 3)) := by decide +kernel
set_option maxRecDepth 20000 in
set_option maxHeartbeats 4000000 in
theorem modeSafe_walk (a b : Int) (w : World) (_ : (Lit.int .i64 a).wf = true) (_ : (Lit.int .i64 b).wf = true) :
    Calls Try.prog 5 #[.int .i64 a, .int .i64 b] w fun e w' => e = .returned (.bool true) ∧ Below w.heap.size w w' := by
  cases ha : knownB a
  · have Ha := hide ha
    clear ha
    go_enter Try.func5, Try.ntmps5
    go_wp2_with fail
    refine (first_any _).mono ?_
    rintro e w1 ⟨rfl, hb⟩
    have Hl := hide hb
    clear hb
    go_wp2_with fail
    refine (known_any a _).mono ?_
    rw [unhide Ha]
    rintro e w' ⟨rfl, rfl⟩
    go_wp2_with fail
    refine (first_any _).mono ?_
    rintro e w1 ⟨rfl, hb⟩
    replace Hl := hide (below_then (unhide Hl) hb)
    clear hb
    go_wp2
    go_ret
    exact ⟨rfl, unhide Hl⟩
  have Ha := hide ha
  clear ha
  cases hb : knownB b
  · have Hb := hide hb
    clear hb
    go_enter Try.func5, Try.ntmps5
    go_wp2_with fail
    refine (first_any _).mono ?_
    rintro e w1 ⟨rfl, hb⟩
    have Hl := hide hb
    clear hb
    go_wp2_with fail
    refine (known_any a _).mono ?_
    rw [unhide Ha]
    rintro e w' ⟨rfl, rfl⟩
    go_wp2_with fail
    refine (known_any b _).mono ?_
    rw [unhide Hb]
    rintro e w' ⟨rfl, rfl⟩
    go_wp2_with fail
    refine (first_any _).mono ?_
    rintro e w1 ⟨rfl, hb⟩
    replace Hl := hide (below_then (unhide Hl) hb)
    clear hb
    go_wp2
    go_ret
    exact ⟨rfl, unhide Hl⟩
  have Hb := hide hb
  clear hb
  obtain ⟨i, rfl⟩ := six (unhide Ha)
  obtain ⟨j, rfl⟩ := six (unhide Hb)
  obtain ⟨-, -, -, -, -, -, -, -, -, f10, f11, f12, -⟩ := two_facts i j
  have f13 := same_fits i
  generalize ((i.val : Nat) : Int) = a at *
  generalize ((j.val : Nat) : Int) = b at *
  have F10 := hide f10
  clear f10
  have F11 := hide f11
  clear f11
  have F12 := hide f12
  clear f12
  have F13 := hide f13
  clear f13
  go_enter Try.func5, Try.ntmps5
  go_wp2_with fail
  refine (first_any _).mono ?_
  rintro e w1 ⟨rfl, hb⟩
  have Hl := hide hb
  clear hb
  go_wp2_with fail
  refine (known_any a _).mono ?_
  rw [unhide Ha]
  rintro e w' ⟨rfl, rfl⟩
  go_wp2_with fail
  refine (known_any b _).mono ?_
  rw [unhide Hb]
  rintro e w' ⟨rfl, rfl⟩
  go_wp2_with fail
  refine (covers_any b 2 _).mono ?_
  rintro e w1 ⟨rfl, hb⟩
  replace Hl := hide (below_then (unhide Hl) hb)
  clear hb
  go_upto_region 6 with fail
  go_cut [29] from 6 (fun t wc => t = .bool false ∧ Below w.heap.size w wc)
  case first =>
    cases h : writesB a
    · have E := hide h
      clear h
      go_wp2_with fail
      refine (writes_any a _).mono ?_
      rw [unhide E]
      rintro e w1 ⟨rfl, hb⟩
      replace Hl := hide (below_then (unhide Hl) hb)
      clear hb
      go_wp2
      go_meet
      case rel => exact ⟨rfl, unhide Hl⟩
    · by_cases h0 : b = 0
      · have E := hide h
        clear h
        have hz : (b != 0) = false := by simp [h0]
        clear h0
        go_wp2_with fail
        refine (writes_any a _).mono ?_
        rw [unhide E]
        rintro e w1 ⟨rfl, hb⟩
        replace Hl := hide (below_then (unhide Hl) hb)
        clear hb
        go_wp2
        go_meet
        case rel => exact ⟨rfl, unhide Hl⟩
      · have E1 := hide (unhide F10 h h0)
        have E := hide h
        clear h
        have hz : (b != 0) = true := by simp [h0]
        clear h0
        go_wp2_with fail
        refine (writes_any a _).mono ?_
        rw [unhide E]
        rintro e w1 ⟨rfl, hb⟩
        replace Hl := hide (below_then (unhide Hl) hb)
        clear hb
        go_wp2_with fail
        refine (fits_any a b _).mono ?_
        rw [unhide E1]
        rintro e w1 ⟨rfl, hb⟩
        replace Hl := hide (below_then (unhide Hl) hb)
        clear hb
        go_wp2
        go_meet
        case rel => exact ⟨rfl, unhide Hl⟩
  obtain ⟨rfl, hb⟩ := hcut
  have Hl := hide hb
  clear hb
  go_upto_region 8 with fail
  go_cut [39] from 5 (fun t wc => t = .bool false ∧ Below w.heap.size w wc)
  case first =>
    cases h : readsB a
    · have E := hide h
      clear h
      go_wp2_with fail
      refine (reads_any a _).mono ?_
      rw [unhide E]
      rintro e w1 ⟨rfl, hb⟩
      replace Hl := hide (below_then (unhide Hl) hb)
      clear hb
      go_wp2
      go_meet
      case rel => exact ⟨rfl, unhide Hl⟩
    · cases h2 : coversB b 2
      · have E := hide h
        clear h
        go_wp2_with fail
        refine (reads_any a _).mono ?_
        rw [unhide E]
        rintro e w1 ⟨rfl, hb⟩
        replace Hl := hide (below_then (unhide Hl) hb)
        clear hb
        go_wp2
        go_meet
        case rel => exact ⟨rfl, unhide Hl⟩
      · have E1 := hide (unhide F11 h h2)
        have E := hide h
        clear h
        go_wp2_with fail
        refine (reads_any a _).mono ?_
        rw [unhide E]
        rintro e w1 ⟨rfl, hb⟩
        replace Hl := hide (below_then (unhide Hl) hb)
        clear hb
        go_wp2_with fail
        refine (fits_any a b _).mono ?_
        rw [unhide E1]
        rintro e w1 ⟨rfl, hb⟩
        replace Hl := hide (below_then (unhide Hl) hb)
        clear hb
        go_wp2
        go_meet
        case rel => exact ⟨rfl, unhide Hl⟩
  obtain ⟨rfl, hb⟩ := hcut
  have Hl := hide hb
  clear hb
  go_wp2_with fail
  refine (first_any _).mono ?_
  rintro e w1 ⟨rfl, hb⟩
  replace Hl := hide (below_then (unhide Hl) hb)
  clear hb
  go_wp2_with fail
  refine (fits_any 0 a _).mono ?_
  rw [unhide F12]
  rintro e w1 ⟨rfl, hb⟩
  replace Hl := hide (below_then (unhide Hl) hb)
  clear hb
  by_cases h : a = b
  · subst h
    have hn : (a != a) = false := by simp
    go_wp2_with fail
    refine (fits_any a a _).mono ?_
    rw [unhide F13]
    rintro e w1 ⟨rfl, hb⟩
    replace Hl := hide (below_then (unhide Hl) hb)
    clear hb
    cases h0 : (a == 0) <;> cases h1 : (a == 1) <;> cases h2 : (a == 2) <;> cases h3 : (a == 3)
    all_goals
      go_wp2
      go_ret
      exact ⟨by simp [*], unhide Hl⟩
  · have hn : (a != b) = true := by simp [h]
    clear h
    go_wp2
    go_ret
    exact ⟨rfl, unhide Hl⟩
end Go.Proofs.Ytjbhakimakfliaa
