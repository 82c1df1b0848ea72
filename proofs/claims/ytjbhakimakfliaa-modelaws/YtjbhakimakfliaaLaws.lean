/- The walk of ModeLaws. -/
import Derived.Test.YtjbhakimakfliaaSix
import Derived.Deep.Cut
namespace Go.Proofs.Ytjbhakimakfliaa
open Go.RowKit
set_option maxRecDepth 20000 in
set_option maxHeartbeats 4000000 in
theorem modeLaws_walk (a b c : Int) (w : World) (_ : (Lit.int .i64 a).wf = true) (_ : (Lit.int .i64 b).wf = true) (_ : (Lit.int .i64 c).wf = true) :
    Calls Try.prog 4 #[.int .i64 a, .int .i64 b, .int .i64 c] w fun e w' => e = .returned (.bool true) ∧ Below w.heap.size w w' := by
  cases ha : knownB a
  · have Ha := hide ha
    clear ha
    go_enter Try.func4, Try.ntmps4
    go_wp2_with fail
    refine (first_any _).mono ?_
    rintro e w1 ⟨rfl, hb⟩
    have Hl := hide hb
    clear hb
    go_wp2_with fail
    refine (known_any a _).mono ?_
    rw [unhide Ha]
    rintro e w' ⟨rfl, rfl⟩
    go_wp2_with fail
    refine (first_any _).mono ?_
    rintro e w1 ⟨rfl, hb⟩
    replace Hl := hide (below_then (unhide Hl) hb)
    clear hb
    go_wp2
    go_ret
    exact ⟨rfl, unhide Hl⟩
  have Ha := hide ha
  clear ha
  cases hb : knownB b
  · have Hb := hide hb
    clear hb
    go_enter Try.func4, Try.ntmps4
    go_wp2_with fail
    refine (first_any _).mono ?_
    rintro e w1 ⟨rfl, hb⟩
    have Hl := hide hb
    clear hb
    go_wp2_with fail
    refine (known_any a _).mono ?_
    rw [unhide Ha]
    rintro e w' ⟨rfl, rfl⟩
    go_wp2_with fail
    refine (known_any b _).mono ?_
    rw [unhide Hb]
    rintro e w' ⟨rfl, rfl⟩
    go_wp2_with fail
    refine (first_any _).mono ?_
    rintro e w1 ⟨rfl, hb⟩
    replace Hl := hide (below_then (unhide Hl) hb)
    clear hb
    go_wp2
    go_ret
    exact ⟨rfl, unhide Hl⟩
  have Hb := hide hb
  clear hb
  cases hc : knownB c
  · have Hc := hide hc
    clear hc
    go_enter Try.func4, Try.ntmps4
    go_wp2_with fail
    refine (first_any _).mono ?_
    rintro e w1 ⟨rfl, hb⟩
    have Hl := hide hb
    clear hb
    go_wp2_with fail
    refine (known_any a _).mono ?_
    rw [unhide Ha]
    rintro e w' ⟨rfl, rfl⟩
    go_wp2_with fail
    refine (known_any b _).mono ?_
    rw [unhide Hb]
    rintro e w' ⟨rfl, rfl⟩
    go_wp2_with fail
    refine (known_any c _).mono ?_
    rw [unhide Hc]
    rintro e w' ⟨rfl, rfl⟩
    go_wp2_with fail
    refine (first_any _).mono ?_
    rintro e w1 ⟨rfl, hb⟩
    replace Hl := hide (below_then (unhide Hl) hb)
    clear hb
    go_wp2
    go_ret
    exact ⟨rfl, unhide Hl⟩
  have Hc := hide hc
  clear hc
  obtain ⟨i, rfl⟩ := six (unhide Ha)
  obtain ⟨j, rfl⟩ := six (unhide Hb)
  obtain ⟨k, rfl⟩ := six (unhide Hc)
  obtain ⟨f1, f2, f3, f4, f5, f6, f7, f8, f9, -⟩ := two_facts i j
  obtain ⟨t1, t2, t3, -⟩ := three_facts i j k
  generalize ((i.val : Nat) : Int) = a at *
  generalize ((j.val : Nat) : Int) = b at *
  generalize ((k.val : Nat) : Int) = c at *
  have F1 := hide f1
  clear f1
  have F2 := hide f2
  clear f2
  have F3 := hide f3
  clear f3
  have F4 := hide f4
  clear f4
  have F5 := hide f5
  clear f5
  have F6 := hide f6
  clear f6
  have F7 := hide f7
  clear f7
  have F8 := hide f8
  clear f8
  have F9 := hide f9
  clear f9
  have T1 := hide t1
  clear t1
  have T2 := hide t2
  clear t2
  have T3 := hide t3
  clear t3
  go_enter Try.func4, Try.ntmps4
  go_wp2_with fail
  refine (first_any _).mono ?_
  rintro e w1 ⟨rfl, hb⟩
  have Hl := hide hb
  clear hb
  go_wp2_with fail
  refine (known_any a _).mono ?_
  rw [unhide Ha]
  rintro e w' ⟨rfl, rfl⟩
  go_wp2_with fail
  refine (known_any b _).mono ?_
  rw [unhide Hb]
  rintro e w' ⟨rfl, rfl⟩
  go_wp2_with fail
  refine (known_any c _).mono ?_
  rw [unhide Hc]
  rintro e w' ⟨rfl, rfl⟩
  go_wp2_with fail
  refine (sup_any _ _ _ [a, b] _ (seg2 _ a b) (by decide)).mono ?_
  rw [supL_pair]
  rintro e w1 ⟨rfl, hw⟩
  replace Hl : Hid (Below w.heap.size w w1) := hide (by rw [hw]; exact below_add (unhide Hl) _)
  clear hw
  go_wp2_with fail
  refine (fits_any a b _).mono ?_
  rintro e w1 ⟨rfl, hb⟩
  replace Hl := hide (below_then (unhide Hl) hb)
  clear hb
  go_wp2_with fail
  refine (fits_any b a _).mono ?_
  rw [unhide F1]
  rintro e w1 ⟨rfl, hb⟩
  replace Hl := hide (below_then (unhide Hl) hb)
  clear hb
  go_wp2_with fail
  refine (sup_any _ _ _ [b, a] _ (seg2 _ b a) (by decide)).mono ?_
  rw [supL_pair, unhide F2]
  rintro e w1 ⟨rfl, hw⟩
  replace Hl : Hid (Below w.heap.size w w1) := hide (by rw [hw]; exact below_add (unhide Hl) _)
  clear hw
  go_wp2_with fail
  refine (sup_any _ _ _ [a, a] _ (seg2 _ a a) (by decide)).mono ?_
  rw [supL_pair, unhide F3]
  rintro e w1 ⟨rfl, hw⟩
  replace Hl : Hid (Below w.heap.size w w1) := hide (by rw [hw]; exact below_add (unhide Hl) _)
  clear hw
  go_wp2_with fail
  refine (sup_any _ _ _ [a, b] _ (seg2 _ a b) (by decide)).mono ?_
  rw [supL_pair]
  rintro e w1 ⟨rfl, hw⟩
  replace Hl : Hid (Below w.heap.size w w1) := hide (by rw [hw]; exact below_add (unhide Hl) _)
  clear hw
  go_wp2_with fail
  refine (sup_any _ _ _ [(sup2 a b), c] _ (seg2 _ (sup2 a b) c) (by decide)).mono ?_
  rw [supL_pair, unhide T1]
  rintro e w1 ⟨rfl, hw⟩
  replace Hl : Hid (Below w.heap.size w w1) := hide (by rw [hw]; exact below_add (unhide Hl) _)
  clear hw
  go_wp2_with fail
  refine (sup_any _ _ _ [a, b, c] _ (seg3 _ a b c) (by decide)).mono ?_
  rw [supL_triple]
  rintro e w1 ⟨rfl, hw⟩
  replace Hl : Hid (Below w.heap.size w w1) := hide (by rw [hw]; exact below_add (unhide Hl) _)
  clear hw
  go_upto_region 8 with fail
  go_cut [80] from 8 (fun t wc => t = .bool false ∧ Below w.heap.size w wc)
  case first =>
    cases h : fitsB c (sup2 a b)
    · have E := hide h
      clear h
      go_wp2_with fail
      refine (fits_any c (sup2 a b) _).mono ?_
      rw [unhide E]
      rintro e w1 ⟨rfl, hb⟩
      replace Hl := hide (below_then (unhide Hl) hb)
      clear hb
      go_wp2
      go_meet
      case rel => exact ⟨rfl, unhide Hl⟩
    · have E1 := hide (unhide T2 h).1
      have E2 := hide (unhide T2 h).2
      have E := hide h
      clear h
      go_wp2_with fail
      refine (fits_any c (sup2 a b) _).mono ?_
      rw [unhide E]
      rintro e w1 ⟨rfl, hb⟩
      replace Hl := hide (below_then (unhide Hl) hb)
      clear hb
      go_wp2_with fail
      refine (fits_any c a _).mono ?_
      rw [unhide E1]
      rintro e w1 ⟨rfl, hb⟩
      replace Hl := hide (below_then (unhide Hl) hb)
      clear hb
      go_wp2_with fail
      refine (fits_any c b _).mono ?_
      rw [unhide E2]
      rintro e w1 ⟨rfl, hb⟩
      replace Hl := hide (below_then (unhide Hl) hb)
      clear hb
      go_wp2
      go_meet
      case rel => exact ⟨rfl, unhide Hl⟩
  obtain ⟨rfl, hb⟩ := hcut
  have Hl := hide hb
  clear hb
  go_upto_region 10 with fail
  go_cut [106] from 8 (fun t wc => t = .bool false ∧ Below w.heap.size w wc)
  case first =>
    go_wp2_with fail
    refine (covers_any (sup2 a b) a _).mono ?_
    rw [unhide F5]
    rintro e w1 ⟨rfl, hb⟩
    replace Hl := hide (below_then (unhide Hl) hb)
    clear hb
    go_wp2_with fail
    refine (covers_any (sup2 a b) b _).mono ?_
    rw [unhide F6]
    rintro e w1 ⟨rfl, hb⟩
    replace Hl := hide (below_then (unhide Hl) hb)
    clear hb
    cases h : coversB c a
    · have E := hide h
      clear h
      go_wp2_with fail
      refine (covers_any c a _).mono ?_
      rw [unhide E]
      rintro e w1 ⟨rfl, hb⟩
      replace Hl := hide (below_then (unhide Hl) hb)
      clear hb
      go_wp2
      go_meet
      case rel => exact ⟨rfl, unhide Hl⟩
    · cases h2 : coversB c b
      · have E := hide h
        clear h
        have E2 := hide h2
        clear h2
        go_wp2_with fail
        refine (covers_any c a _).mono ?_
        rw [unhide E]
        rintro e w1 ⟨rfl, hb⟩
        replace Hl := hide (below_then (unhide Hl) hb)
        clear hb
        go_wp2_with fail
        refine (covers_any c b _).mono ?_
        rw [unhide E2]
        rintro e w1 ⟨rfl, hb⟩
        replace Hl := hide (below_then (unhide Hl) hb)
        clear hb
        go_wp2
        go_meet
        case rel => exact ⟨rfl, unhide Hl⟩
      · have E3 := hide (unhide T3 h h2)
        have E := hide h
        clear h
        have E2 := hide h2
        clear h2
        go_wp2_with fail
        refine (covers_any c a _).mono ?_
        rw [unhide E]
        rintro e w1 ⟨rfl, hb⟩
        replace Hl := hide (below_then (unhide Hl) hb)
        clear hb
        go_wp2_with fail
        refine (covers_any c b _).mono ?_
        rw [unhide E2]
        rintro e w1 ⟨rfl, hb⟩
        replace Hl := hide (below_then (unhide Hl) hb)
        clear hb
        go_wp2_with fail
        refine (covers_any c (sup2 a b) _).mono ?_
        rw [unhide E3]
        rintro e w1 ⟨rfl, hb⟩
        replace Hl := hide (below_then (unhide Hl) hb)
        clear hb
        go_wp2
        go_meet
        case rel => exact ⟨rfl, unhide Hl⟩
  obtain ⟨rfl, hb⟩ := hcut
  have Hl := hide hb
  clear hb
  go_upto_region 12 with fail
  go_cut [135] from 8 (fun t wc => t = .bool false ∧ Below w.heap.size w wc)
  case first =>
    cases h : coversB a b
    · have E := hide h
      clear h
      go_wp2_with fail
      refine (covers_any a b _).mono ?_
      rw [unhide E]
      rintro e w1 ⟨rfl, hb⟩
      replace Hl := hide (below_then (unhide Hl) hb)
      clear hb
      go_wp2
      go_meet
      case rel => exact ⟨rfl, unhide Hl⟩
    · obtain ⟨g1, g2, g3⟩ := unhide F7 h
      have E := hide h
      have G1 := hide g1
      clear h g1
      go_wp2_with fail
      refine (covers_any a b _).mono ?_
      rw [unhide E]
      rintro e w1 ⟨rfl, hb⟩
      replace Hl := hide (below_then (unhide Hl) hb)
      clear hb
      go_wp2_with fail
      refine (intent_any a _).mono ?_
      rintro e w' ⟨rfl, rfl⟩
      go_wp2_with fail
      refine (intent_any b _).mono ?_
      rintro e w' ⟨rfl, rfl⟩
      go_wp2_with fail
      refine (covers_any _ _ _).mono ?_
      rw [unhide G1]
      rintro e w1 ⟨rfl, hb⟩
      replace Hl := hide (below_then (unhide Hl) hb)
      clear hb
      cases h : readsB b
      · have E1 := hide h
        clear h g2
        cases h : writesB b
        · have E2 := hide h
          clear h g3
          go_wp2_with fail
          refine (reads_any b _).mono ?_
          rw [unhide E1]
          rintro e w1 ⟨rfl, hb⟩
          replace Hl := hide (below_then (unhide Hl) hb)
          clear hb
          go_wp2_with fail
          refine (writes_any b _).mono ?_
          rw [unhide E2]
          rintro e w1 ⟨rfl, hb⟩
          replace Hl := hide (below_then (unhide Hl) hb)
          clear hb
          go_wp2
          go_meet
          case rel => exact ⟨rfl, unhide Hl⟩
        · have E3 := hide (g3 h)
          have E2 := hide h
          clear h g3
          go_wp2_with fail
          refine (reads_any b _).mono ?_
          rw [unhide E1]
          rintro e w1 ⟨rfl, hb⟩
          replace Hl := hide (below_then (unhide Hl) hb)
          clear hb
          go_wp2_with fail
          refine (writes_any b _).mono ?_
          rw [unhide E2]
          rintro e w1 ⟨rfl, hb⟩
          replace Hl := hide (below_then (unhide Hl) hb)
          clear hb
          go_wp2_with fail
          refine (writes_any a _).mono ?_
          rw [unhide E3]
          rintro e w1 ⟨rfl, hb⟩
          replace Hl := hide (below_then (unhide Hl) hb)
          clear hb
          go_wp2
          go_meet
          case rel => exact ⟨rfl, unhide Hl⟩
      · have E4 := hide (g2 h)
        have E1 := hide h
        clear h g2
        cases h : writesB b
        · have E2 := hide h
          clear h g3
          go_wp2_with fail
          refine (reads_any b _).mono ?_
          rw [unhide E1]
          rintro e w1 ⟨rfl, hb⟩
          replace Hl := hide (below_then (unhide Hl) hb)
          clear hb
          go_wp2_with fail
          refine (reads_any a _).mono ?_
          rw [unhide E4]
          rintro e w1 ⟨rfl, hb⟩
          replace Hl := hide (below_then (unhide Hl) hb)
          clear hb
          go_wp2_with fail
          refine (writes_any b _).mono ?_
          rw [unhide E2]
          rintro e w1 ⟨rfl, hb⟩
          replace Hl := hide (below_then (unhide Hl) hb)
          clear hb
          go_wp2
          go_meet
          case rel => exact ⟨rfl, unhide Hl⟩
        · have E3 := hide (g3 h)
          have E2 := hide h
          clear h g3
          go_wp2_with fail
          refine (reads_any b _).mono ?_
          rw [unhide E1]
          rintro e w1 ⟨rfl, hb⟩
          replace Hl := hide (below_then (unhide Hl) hb)
          clear hb
          go_wp2_with fail
          refine (reads_any a _).mono ?_
          rw [unhide E4]
          rintro e w1 ⟨rfl, hb⟩
          replace Hl := hide (below_then (unhide Hl) hb)
          clear hb
          go_wp2_with fail
          refine (writes_any b _).mono ?_
          rw [unhide E2]
          rintro e w1 ⟨rfl, hb⟩
          replace Hl := hide (below_then (unhide Hl) hb)
          clear hb
          go_wp2_with fail
          refine (writes_any a _).mono ?_
          rw [unhide E3]
          rintro e w1 ⟨rfl, hb⟩
          replace Hl := hide (below_then (unhide Hl) hb)
          clear hb
          go_wp2
          go_meet
          case rel => exact ⟨rfl, unhide Hl⟩
  obtain ⟨rfl, hb⟩ := hcut
  have Hl := hide hb
  clear hb
  go_wp2_with fail
  refine (first_any _).mono ?_
  rintro e w1 ⟨rfl, hb⟩
  replace Hl := hide (below_then (unhide Hl) hb)
  clear hb
  cases h : coversB a b
  · have E0 := hide h
    clear h
    go_wp2_with fail
    refine (covers_any a b _).mono ?_
    rw [unhide E0]
    rintro e w1 ⟨rfl, hb⟩
    replace Hl := hide (below_then (unhide Hl) hb)
    clear hb
    cases h : writesB a
    · have E := hide h
      clear h
      go_wp2_with fail
      refine (writes_any a _).mono ?_
      rw [unhide E]
      rintro e w1 ⟨rfl, hb⟩
      replace Hl := hide (below_then (unhide Hl) hb)
      clear hb
      go_wp2
      go_ret
      exact ⟨rfl, unhide Hl⟩
    · have E1 := hide (unhide F9 h)
      have E := hide h
      clear h
      go_wp2_with fail
      refine (writes_any a _).mono ?_
      rw [unhide E]
      rintro e w1 ⟨rfl, hb⟩
      replace Hl := hide (below_then (unhide Hl) hb)
      clear hb
      go_wp2_with fail
      refine (reads_any a _).mono ?_
      rw [unhide E1]
      rintro e w1 ⟨rfl, hb⟩
      replace Hl := hide (below_then (unhide Hl) hb)
      clear hb
      go_wp2
      go_ret
      exact ⟨rfl, unhide Hl⟩
  · cases h2 : coversB b a
    · have E0 := hide h
      have E2 := hide h2
      clear h h2
      go_wp2_with fail
      refine (covers_any a b _).mono ?_
      rw [unhide E0]
      rintro e w1 ⟨rfl, hb⟩
      replace Hl := hide (below_then (unhide Hl) hb)
      clear hb
      go_wp2_with fail
      refine (covers_any b a _).mono ?_
      rw [unhide E2]
      rintro e w1 ⟨rfl, hb⟩
      replace Hl := hide (below_then (unhide Hl) hb)
      clear hb
      cases h : writesB a
      · have E := hide h
        clear h
        go_wp2_with fail
        refine (writes_any a _).mono ?_
        rw [unhide E]
        rintro e w1 ⟨rfl, hb⟩
        replace Hl := hide (below_then (unhide Hl) hb)
        clear hb
        go_wp2
        go_ret
        exact ⟨rfl, unhide Hl⟩
      · have E1 := hide (unhide F9 h)
        have E := hide h
        clear h
        go_wp2_with fail
        refine (writes_any a _).mono ?_
        rw [unhide E]
        rintro e w1 ⟨rfl, hb⟩
        replace Hl := hide (below_then (unhide Hl) hb)
        clear hb
        go_wp2_with fail
        refine (reads_any a _).mono ?_
        rw [unhide E1]
        rintro e w1 ⟨rfl, hb⟩
        replace Hl := hide (below_then (unhide Hl) hb)
        clear hb
        go_wp2
        go_ret
        exact ⟨rfl, unhide Hl⟩
    · have e := unhide F8 h h2
      have E0 := hide h
      have E2 := hide h2
      clear h h2
      have hab : (a == b) = true := beq_iff_eq.2 e
      clear e
      go_wp2_with fail
      refine (covers_any a b _).mono ?_
      rw [unhide E0]
      rintro e w1 ⟨rfl, hb⟩
      replace Hl := hide (below_then (unhide Hl) hb)
      clear hb
      go_wp2_with fail
      refine (covers_any b a _).mono ?_
      rw [unhide E2]
      rintro e w1 ⟨rfl, hb⟩
      replace Hl := hide (below_then (unhide Hl) hb)
      clear hb
      cases h : writesB a
      · have E := hide h
        clear h
        go_wp2_with fail
        refine (writes_any a _).mono ?_
        rw [unhide E]
        rintro e w1 ⟨rfl, hb⟩
        replace Hl := hide (below_then (unhide Hl) hb)
        clear hb
        go_wp2
        go_ret
        exact ⟨rfl, unhide Hl⟩
      · have E1 := hide (unhide F9 h)
        have E := hide h
        clear h
        go_wp2_with fail
        refine (writes_any a _).mono ?_
        rw [unhide E]
        rintro e w1 ⟨rfl, hb⟩
        replace Hl := hide (below_then (unhide Hl) hb)
        clear hb
        go_wp2_with fail
        refine (reads_any a _).mono ?_
        rw [unhide E1]
        rintro e w1 ⟨rfl, hb⟩
        replace Hl := hide (below_then (unhide Hl) hb)
        clear hb
        go_wp2
        go_ret
        exact ⟨rfl, unhide Hl⟩
end Go.Proofs.Ytjbhakimakfliaa
