/- The walk of ModeOrder. -/
import Derived.Test.YtjbhakimakfliabSix
import Derived.Test.YtjbhakimakfliabRow
import Derived.Deep.Cut
namespace Go.Proofs.Ytjbhakimakfliab
open Go.RowKit
set_option maxRecDepth 20000 in
set_option maxHeartbeats 4000000 in
theorem modeOrder_walk (a b c : Int) (w : World) (_ : (Lit.int .i64 a).wf = true) (_ : (Lit.int .i64 b).wf = true) (_ : (Lit.int .i64 c).wf = true) :
    Calls Try.prog 3 #[.int .i64 a, .int .i64 b, .int .i64 c] w fun e w' => e = .returned (.bool true) ∧ Below w.heap.size w w' := by
  cases ha : knownB a
  · have Ha := hide ha
    clear ha
    go_enter Try.func3, Try.ntmps3
    go_wp2_with fail
    refine (first_any _).mono ?_
    rintro e w1 ⟨rfl, hb⟩
    have Hl := hide hb
    clear hb
    go_wp2_with fail
    refine (known_any a _).mono ?_
    rw [unhide Ha]
    rintro e w' ⟨rfl, rfl⟩
    go_wp2_with fail
    refine (first_any _).mono ?_
    rintro e w1 ⟨rfl, hb⟩
    replace Hl := hide (below_then (unhide Hl) hb)
    clear hb
    go_wp2
    go_ret
    exact ⟨rfl, unhide Hl⟩
  have Ha := hide ha
  clear ha
  cases hb : knownB b
  · have Hb := hide hb
    clear hb
    go_enter Try.func3, Try.ntmps3
    go_wp2_with fail
    refine (first_any _).mono ?_
    rintro e w1 ⟨rfl, hb⟩
    have Hl := hide hb
    clear hb
    go_wp2_with fail
    refine (known_any a _).mono ?_
    rw [unhide Ha]
    rintro e w' ⟨rfl, rfl⟩
    go_wp2_with fail
    refine (known_any b _).mono ?_
    rw [unhide Hb]
    rintro e w' ⟨rfl, rfl⟩
    go_wp2_with fail
    refine (first_any _).mono ?_
    rintro e w1 ⟨rfl, hb⟩
    replace Hl := hide (below_then (unhide Hl) hb)
    clear hb
    go_wp2
    go_ret
    exact ⟨rfl, unhide Hl⟩
  have Hb := hide hb
  clear hb
  cases hc : knownB c
  · have Hc := hide hc
    clear hc
    go_enter Try.func3, Try.ntmps3
    go_wp2_with fail
    refine (first_any _).mono ?_
    rintro e w1 ⟨rfl, hb⟩
    have Hl := hide hb
    clear hb
    go_wp2_with fail
    refine (known_any a _).mono ?_
    rw [unhide Ha]
    rintro e w' ⟨rfl, rfl⟩
    go_wp2_with fail
    refine (known_any b _).mono ?_
    rw [unhide Hb]
    rintro e w' ⟨rfl, rfl⟩
    go_wp2_with fail
    refine (known_any c _).mono ?_
    rw [unhide Hc]
    rintro e w' ⟨rfl, rfl⟩
    go_wp2_with fail
    refine (first_any _).mono ?_
    rintro e w1 ⟨rfl, hb⟩
    replace Hl := hide (below_then (unhide Hl) hb)
    clear hb
    go_wp2
    go_ret
    exact ⟨rfl, unhide Hl⟩
  have Hc := hide hc
  clear hc
  obtain ⟨i, rfl⟩ := six (unhide Ha)
  obtain ⟨j, rfl⟩ := six (unhide Hb)
  obtain ⟨k, rfl⟩ := six (unhide Hc)
  obtain ⟨-, -, -, -, -, -, -, -, -, -, -, -, -, -, -, -, f17, f18, f19, f20⟩ := two_facts i j
  obtain ⟨-, -, -, t4, t5⟩ := three_facts i j k
  generalize ((i.val : Nat) : Int) = a at *
  generalize ((j.val : Nat) : Int) = b at *
  generalize ((k.val : Nat) : Int) = c at *
  have F17 := hide f17
  clear f17
  have F18 := hide f18
  clear f18
  have F19 := hide f19
  clear f19
  have F20 := hide f20
  clear f20
  have T4 := hide t4
  clear t4
  have T5 := hide t5
  clear t5
  go_enter Try.func3, Try.ntmps3
  go_wp2_with fail
  refine (first_any _).mono ?_
  rintro e w1 ⟨rfl, hb⟩
  have Hl := hide hb
  clear hb
  go_wp2_with fail
  refine (known_any a _).mono ?_
  rw [unhide Ha]
  rintro e w' ⟨rfl, rfl⟩
  go_wp2_with fail
  refine (known_any b _).mono ?_
  rw [unhide Hb]
  rintro e w' ⟨rfl, rfl⟩
  go_wp2_with fail
  refine (known_any c _).mono ?_
  rw [unhide Hc]
  rintro e w' ⟨rfl, rfl⟩
  go_upto_region 5 with fail
  go_cut [36] from 7 (fun t wc => t = .bool false ∧ Below w.heap.size w wc)
  case first =>
    cases h : coversB a b
    · have E := hide h
      clear h
      go_wp2_with fail
      refine (covers_any a b _).mono ?_
      rw [unhide E]
      rintro e w1 ⟨rfl, hb⟩
      replace Hl := hide (below_then (unhide Hl) hb)
      clear hb
      go_wp2
      go_meet
      case rel => exact ⟨rfl, unhide Hl⟩
    · cases h2 : coversB b c
      · have E := hide h
        clear h
        have E2 := hide h2
        clear h2
        go_wp2_with fail
        refine (covers_any a b _).mono ?_
        rw [unhide E]
        rintro e w1 ⟨rfl, hb⟩
        replace Hl := hide (below_then (unhide Hl) hb)
        clear hb
        go_wp2_with fail
        refine (covers_any b c _).mono ?_
        rw [unhide E2]
        rintro e w1 ⟨rfl, hb⟩
        replace Hl := hide (below_then (unhide Hl) hb)
        clear hb
        go_wp2
        go_meet
        case rel => exact ⟨rfl, unhide Hl⟩
      · have E3 := hide (unhide T4 h h2)
        have E := hide h
        clear h
        have E2 := hide h2
        clear h2
        go_wp2_with fail
        refine (covers_any a b _).mono ?_
        rw [unhide E]
        rintro e w1 ⟨rfl, hb⟩
        replace Hl := hide (below_then (unhide Hl) hb)
        clear hb
        go_wp2_with fail
        refine (covers_any b c _).mono ?_
        rw [unhide E2]
        rintro e w1 ⟨rfl, hb⟩
        replace Hl := hide (below_then (unhide Hl) hb)
        clear hb
        go_wp2_with fail
        refine (covers_any a c _).mono ?_
        rw [unhide E3]
        rintro e w1 ⟨rfl, hb⟩
        replace Hl := hide (below_then (unhide Hl) hb)
        clear hb
        go_wp2
        go_meet
        case rel => exact ⟨rfl, unhide Hl⟩
  obtain ⟨rfl, hb⟩ := hcut
  have Hl := hide hb
  clear hb
  go_upto_region 7 with fail
  go_cut [50] from 7 (fun t wc => t = .bool false ∧ Below w.heap.size w wc)
  case first =>
    cases h : coversB a b
    · have E := hide h
      clear h
      go_wp2_with fail
      refine (covers_any a b _).mono ?_
      rw [unhide E]
      rintro e w1 ⟨rfl, hb⟩
      replace Hl := hide (below_then (unhide Hl) hb)
      clear hb
      go_wp2
      go_meet
      case rel => exact ⟨rfl, unhide Hl⟩
    · cases h2 : fitsB a c
      · have E := hide h
        clear h
        have E2 := hide h2
        clear h2
        go_wp2_with fail
        refine (covers_any a b _).mono ?_
        rw [unhide E]
        rintro e w1 ⟨rfl, hb⟩
        replace Hl := hide (below_then (unhide Hl) hb)
        clear hb
        go_wp2_with fail
        refine (fits_any a c _).mono ?_
        rw [unhide E2]
        rintro e w1 ⟨rfl, hb⟩
        replace Hl := hide (below_then (unhide Hl) hb)
        clear hb
        go_wp2
        go_meet
        case rel => exact ⟨rfl, unhide Hl⟩
      · have E3 := hide (unhide T5 h h2)
        have E := hide h
        clear h
        have E2 := hide h2
        clear h2
        go_wp2_with fail
        refine (covers_any a b _).mono ?_
        rw [unhide E]
        rintro e w1 ⟨rfl, hb⟩
        replace Hl := hide (below_then (unhide Hl) hb)
        clear hb
        go_wp2_with fail
        refine (fits_any a c _).mono ?_
        rw [unhide E2]
        rintro e w1 ⟨rfl, hb⟩
        replace Hl := hide (below_then (unhide Hl) hb)
        clear hb
        go_wp2_with fail
        refine (fits_any b c _).mono ?_
        rw [unhide E3]
        rintro e w1 ⟨rfl, hb⟩
        replace Hl := hide (below_then (unhide Hl) hb)
        clear hb
        go_wp2
        go_meet
        case rel => exact ⟨rfl, unhide Hl⟩
  obtain ⟨rfl, hb⟩ := hcut
  have Hl := hide hb
  clear hb
  go_wp2_with fail
  refine (first_any _).mono ?_
  rintro e w1 ⟨rfl, hb⟩
  replace Hl := hide (below_then (unhide Hl) hb)
  clear hb
  go_wp2_with fail
  refine (covers_any a a _).mono ?_
  rw [unhide F17]
  rintro e w1 ⟨rfl, hb⟩
  replace Hl := hide (below_then (unhide Hl) hb)
  clear hb
  go_wp2_with fail
  refine (covers_any a 0 _).mono ?_
  rw [unhide F18]
  rintro e w1 ⟨rfl, hb⟩
  replace Hl := hide (below_then (unhide Hl) hb)
  clear hb
  go_wp2_with fail
  refine (covers_any 5 a _).mono ?_
  rw [unhide F19]
  rintro e w1 ⟨rfl, hb⟩
  replace Hl := hide (below_then (unhide Hl) hb)
  clear hb
  cases h : coversB a b
  · cases h2 : coversB b a
    · have hs : a + b = 5 := by
        rcases unhide F20 with e | e | e
        · rw [h] at e; cases e
        · rw [h2] at e; cases e
        · exact e
      have E := hide h
      clear h
      have E2 := hide h2
      clear h2
      go_wp2_with fail
      refine (covers_any a b _).mono ?_
      rw [unhide E]
      rintro e w1 ⟨rfl, hb⟩
      replace Hl := hide (below_then (unhide Hl) hb)
      clear hb
      go_wp2_with fail
      refine (covers_any b a _).mono ?_
      rw [unhide E2]
      rintro e w1 ⟨rfl, hb⟩
      replace Hl := hide (below_then (unhide Hl) hb)
      clear hb
      go_wp2
      go_ret
      exact ⟨rfl, unhide Hl⟩
    · have E := hide h
      clear h
      have E2 := hide h2
      clear h2
      go_wp2_with fail
      refine (covers_any a b _).mono ?_
      rw [unhide E]
      rintro e w1 ⟨rfl, hb⟩
      replace Hl := hide (below_then (unhide Hl) hb)
      clear hb
      go_wp2_with fail
      refine (covers_any b a _).mono ?_
      rw [unhide E2]
      rintro e w1 ⟨rfl, hb⟩
      replace Hl := hide (below_then (unhide Hl) hb)
      clear hb
      go_wp2
      go_ret
      exact ⟨rfl, unhide Hl⟩
  · have E := hide h
    clear h
    go_wp2_with fail
    refine (covers_any a b _).mono ?_
    rw [unhide E]
    rintro e w1 ⟨rfl, hb⟩
    replace Hl := hide (below_then (unhide Hl) hb)
    clear hb
    go_wp2
    go_ret
    exact ⟨rfl, unhide Hl⟩
end Go.Proofs.Ytjbhakimakfliab
