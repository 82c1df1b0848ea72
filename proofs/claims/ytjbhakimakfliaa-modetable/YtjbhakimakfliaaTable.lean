/- The walk of ModeTable. -/
import Derived.Test.YtjbhakimakfliaaTabw
import Derived.Deep.Cut
namespace Go.Proofs.Ytjbhakimakfliaa
open Go.RowKit

theorem table_ints {a b : Int} (ha : knownB a = true) (hb : knownB b = true) : fitsB a b = (((a == 0) || (b == 0)) || !clashB a b) := by
  obtain ⟨i, rfl⟩ := six ha
  obtain ⟨j, rfl⟩ := six hb
  exact table_facts i j
theorem fits_is {a b : Int} {v : Bool} (h : fitsB a b = v) (w : World) : Calls Try.prog 12 #[.int .i64 a, .int .i64 b] w fun e w' => e = .returned (.bool v) ∧ Below w.heap.size w w' := by
  rw [← h]; exact fits_any a b w
/-- The worlds behind w0 in which S holds. -/
structure Wc (S : World → Prop) (w0 : World) where
  w : World
  ok : S w
  bel : Below w0.heap.size w0 w
theorem Wc.call {S : World → Prop} {w0 : World} (hs : ∀ w w', S w → Below w.heap.size w w' → S w') {x : Wc S w0} {f : FuncId} {args : Array Value} {v : Value}
    (h : Calls Try.prog f args x.w fun e w' => e = .returned v ∧ Below x.w.heap.size x.w w') : Calls Try.prog f args x.w fun e w'' => e = .returned v ∧ ∃ y : Wc S w0, w'' = y.w :=
  h.mono fun _ w' ⟨he, hb⟩ => ⟨he, ⟨w', hs _ _ x.ok hb, below_then x.bel hb⟩, rfl⟩
theorem wp_region_wc {S : World → Prop} {w0 : World} {id : Nat} {Q : Exit → Act → World → Prop} {a : Act} {w : World} {l : List Oper} (hx : S w.drew) (hl : Below w0.heap.size w0 w) (hm : Try.prog.follows .mixedOrders = true) (hB : Region.lexB .any l.toArray = true)
    (h : wpQuiet Try.prog l.toArray (fun w' => ∃ x : Wc S w0, w' = x.w) (fun a' => ∀ w', (∃ x : Wc S w0, w' = x.w) → Q .normal a' w') l a) : (Code.region id l.toArray true).wp Try.prog Q a w :=
  wp_region_quiet (C := fun w' => ∃ x : Wc S w0, w' = x.w) hm hB ⟨⟨w.drew, hx, hl.drew⟩, rfl⟩ (by simpa using h)
/-- Two tables' cells. -/
def Two (B n : Nat) (r t : Bool) (w : World) : Prop := w.cell? ⟨B, n, none⟩ = some (.bool r) ∧ w.cell? ⟨B + 1, n, none⟩ = some (.bool t) ∧ B + 1 < w.heap.size
theorem Two.next {B n : Nat} {r t : Bool} (w w' : World) (h : Two B n r t w) (hb : Below w.heap.size w w') : Two B n r t w' :=
  ⟨(hb.cell (p := ⟨B, n, none⟩) (Nat.lt_of_succ_lt h.2.2)).trans h.1, (hb.cell (p := ⟨B + 1, n, none⟩) h.2.2).trans h.2.1, Nat.lt_of_lt_of_le h.2.2 hb.size⟩
theorem Two.cells {B n : Nat} {r t : Bool} {w0 : World} : (∀ x : Wc (Two B n r t) w0, x.w.cell? ⟨B, n, none⟩ = some (.bool r)) ∧ (∀ x : Wc (Two B n r t) w0, x.w.cell? ⟨B + 1, n, none⟩ = some (.bool t)) :=
  ⟨fun x => x.ok.1, fun x => x.ok.2.1⟩
theorem tabW_ints (w : World) (a : Int) (h0 : 0 ≤ a) (h6 : a < 6) :
    (tabW w 6).cell? ⟨w.heap.size, a.toNat, none⟩ = some (.bool (readsB a)) ∧ (tabW w 6).cell? ⟨w.heap.size + 1, a.toNat, none⟩ = some (.bool (writesB a)) ∧ (tabW w 6).cell? ⟨w.heap.size + 1 + 1, a.toNat, none⟩ = some (.bool (someB a)) := by
  have := tabW_cells w a.toNat (by omega)
  rwa [Int.toNat_of_nonneg h0] at this
theorem covers_want {h t : Int} (e : coversB h t = true) : knownB t = true := by
  unfold coversB at e
  rw [Bool.and_eq_true] at e
  exact e.1
set_option maxRecDepth 20000 in
set_option maxHeartbeats 4000000 in
theorem modeTable_walk (a b : Int) (w : World) (_ : (Lit.int .i64 a).wf = true) (_ : (Lit.int .i64 b).wf = true) :
    Calls Try.prog 6 #[.int .i64 a, .int .i64 b] w fun e w' => e = .returned (.bool true) ∧ Below w.heap.size w w' := by
  cases ha : knownB a
  · have e1 : fitsB a b = false := by
      cases h : fitsB a b
      · rfl
      · rw [(fits_known h).1] at ha; exact ha
    have e2 : coversB a b = false := by
      cases h : coversB a b
      · rfl
      · rw [covers_known h] at ha; exact ha
    have E1 := hide e1
    have E2 := hide e2
    clear e1 e2
    have Ha := hide ha
    clear ha
    go_enter Try.func6, Try.ntmps6
    go_wp2_with fail
    refine (first_any _).mono ?_
    rintro e w1 ⟨rfl, hb⟩
    have Hl := hide hb
    clear hb
    go_wp2_with fail
    refine (known_any a _).mono ?_
    rw [unhide Ha]
    rintro e w' ⟨rfl, rfl⟩
    go_wp2_with fail
    refine (first_any _).mono ?_
    rintro e w1 ⟨rfl, hb⟩
    replace Hl := hide (below_then (unhide Hl) hb)
    clear hb
    go_wp2_with fail
    refine (fits_any a b _).mono ?_
    rw [unhide E1]
    rintro e w1 ⟨rfl, hb⟩
    replace Hl := hide (below_then (unhide Hl) hb)
    clear hb
    go_wp2_with fail
    refine (covers_any a b _).mono ?_
    rw [unhide E2]
    rintro e w1 ⟨rfl, hb⟩
    replace Hl := hide (below_then (unhide Hl) hb)
    clear hb
    go_wp2
    go_ret
    exact ⟨rfl, unhide Hl⟩
  have Ha := hide ha
  clear ha
  cases hb : knownB b
  · have e1 : fitsB a b = false := by
      cases h : fitsB a b
      · rfl
      · rw [(fits_known h).2] at hb; exact hb
    have e2 : coversB a b = false := by
      cases h : coversB a b
      · rfl
      · rw [covers_want h] at hb; exact hb
    have E1 := hide e1
    have E2 := hide e2
    clear e1 e2
    have Hb := hide hb
    clear hb
    go_enter Try.func6, Try.ntmps6
    go_wp2_with fail
    refine (first_any _).mono ?_
    rintro e w1 ⟨rfl, hb⟩
    have Hl := hide hb
    clear hb
    go_wp2_with fail
    refine (known_any a _).mono ?_
    rw [unhide Ha]
    rintro e w' ⟨rfl, rfl⟩
    go_wp2_with fail
    refine (known_any b _).mono ?_
    rw [unhide Hb]
    rintro e w' ⟨rfl, rfl⟩
    go_wp2_with fail
    refine (first_any _).mono ?_
    rintro e w1 ⟨rfl, hb⟩
    replace Hl := hide (below_then (unhide Hl) hb)
    clear hb
    go_wp2_with fail
    refine (fits_any a b _).mono ?_
    rw [unhide E1]
    rintro e w1 ⟨rfl, hb⟩
    replace Hl := hide (below_then (unhide Hl) hb)
    clear hb
    go_wp2_with fail
    refine (covers_any a b _).mono ?_
    rw [unhide E2]
    rintro e w1 ⟨rfl, hb⟩
    replace Hl := hide (below_then (unhide Hl) hb)
    clear hb
    go_wp2
    go_ret
    exact ⟨rfl, unhide Hl⟩
  have Hb := hide hb
  clear hb
  go_enter Try.func6, Try.ntmps6
  go_wp2_with fail
  refine (first_any _).mono ?_
  rintro e w1 ⟨rfl, hb⟩
  have Hl := hide hb
  clear hb
  go_wp2_with fail
  refine (known_any a _).mono ?_
  rw [unhide Ha]
  rintro e w' ⟨rfl, rfl⟩
  go_wp2_with fail
  refine (known_any b _).mono ?_
  rw [unhide Hb]
  rintro e w' ⟨rfl, rfl⟩
  go_wp2_with fail
  generalize w' = wb at *
  have hnew : ((wb.alloc (Obj.cells #[Value.bool false, Value.bool false, Value.bool false, Value.bool false, Value.bool false, Value.bool false] 31)).alloc (Obj.cells #[Value.bool false, Value.bool false, Value.bool false, Value.bool false, Value.bool false, Value.bool false] 31)).alloc (Obj.cells #[Value.bool false, Value.bool false, Value.bool false, Value.bool false, Value.bool false, Value.bool false] 31) = tabW wb 0 := rfl
  rw [hnew]
  clear hnew
  go_loopw [8] (fun i wr => ∃ k : Nat, k ≤ 6 ∧ i = .int .i64 k ∧ wr = tabW wb k) (fun i _ => 6 - (intOf i).toNat)
  case atStart => exact ⟨0, by omega, rfl, rfl⟩
  case round =>
    obtain ⟨k, hk, rfl, rfl⟩ := hrel
    by_cases h6 : k = 6
    · subst h6
      clear hk
      obtain ⟨g1, g2⟩ := known_iff.1 (unhide Ha)
      obtain ⟨g3, g4⟩ := known_iff.1 (unhide Hb)
      have a0 : a < 6 := by omega
      have b0 : b < 6 := by omega
      clear g2 g4
      obtain ⟨c1, c2, c3⟩ := tabW_ints wb a g1 a0
      obtain ⟨d1, d2, d3⟩ := tabW_ints wb b g3 b0
      have hsz := tabW_size wb 6
      replace Hl := hide (below_then (unhide Hl) (tabW_below wb 6))
      have Hz := hide hsz
      clear hsz
      generalize tabW wb 6 = wt at *
      go_upto_region 12 with fail
      go_cut [9] from 34 (fun t wx => t = .bool ((a == 0) || (b == 0)) ∧ wx = wt)
      case first =>
        cases h0 : (a == 0) <;> cases h1 : (b == 0)
        all_goals
          go_wp2
          go_meet
          case rel => exact ⟨by simp [*], rfl⟩
      obtain ⟨rfl, rfl⟩ := hcut
      have F := hide (table_ints (unhide Ha) (unhide Hb))
      generalize ((a == 0) || (b == 0)) = zz at *
      go_upto_region 13 with fail
      go_cut [10] from 34 (fun t wx => t = .bool (clashB a b) ∧ wx = wc)
      case first =>
        cases h0 : writesB a
        · cases h1 : writesB b
          · cases h2 : readsB a
            · cases h4 : readsB b
              · go_wp2
                go_meet
                case rel => exact ⟨by simp [clashB, *], rfl⟩
              · cases h5 : someB a
                · go_wp2
                  go_meet
                  case rel => exact ⟨by simp [clashB, *], rfl⟩
                · go_wp2
                  go_meet
                  case rel => exact ⟨by simp [clashB, *], rfl⟩
            · cases h3 : someB b
              · cases h4 : readsB b
                · go_wp2
                  go_meet
                  case rel => exact ⟨by simp [clashB, *], rfl⟩
                · cases h5 : someB a
                  · go_wp2
                    go_meet
                    case rel => exact ⟨by simp [clashB, *], rfl⟩
                  · go_wp2
                    go_meet
                    case rel => exact ⟨by simp [clashB, *], rfl⟩
              · go_wp2
                go_meet
                case rel => exact ⟨by simp [clashB, *], rfl⟩
          · go_wp2
            go_meet
            case rel => exact ⟨by simp [clashB, *], rfl⟩
        · go_wp2
          go_meet
          case rel => exact ⟨by simp [clashB, *], rfl⟩
      obtain ⟨rfl, rfl⟩ := hcut
      generalize clashB a b = cl at *
      clear c3 d1 d2 d3
      have hx : Two wb.heap.size a.toNat (readsB a) (writesB a) wc.drew := ⟨c1, c2, by show _ < wc.heap.size; rw [unhide Hz]; omega⟩
      clear c1 c2
      obtain ⟨q1, q2⟩ := Two.cells (B := wb.heap.size) (n := a.toNat) (r := readsB a) (t := writesB a) (w0 := w)
      have hne : Nonempty (Wc (Two wb.heap.size a.toNat (readsB a) (writesB a)) w) := ⟨⟨wc.drew, hx, (unhide Hl).drew⟩⟩
      have hp : (0 ≤ a ∧ a < 6) = True := eq_true ⟨g1, a0⟩
      cases zz
      · cases cl
        · have E : fitsB a b = true := by have := unhide F; simpa using this
          go_upto_region 14 with fail
          refine wp_region_wc hx (unhide Hl) (by kernel_rfl) (by kernel_rfl) ?_
          try simp only [List.append]
          repeat (go_big_quiet_step (first | (go_at_call 9; exact Wc.call Two.next (first_any _)) | (go_at_call 12; exact Wc.call Two.next (fits_is E _)) | (go_at_call 20; exact Wc.call Two.next (reads_any a _)) | (go_at_call 22; exact Wc.call Two.next (writes_any a _))))
          refine wpQuiet_nil ?_
          intro _ hw'
          obtain ⟨⟨wz, hxz, hlz⟩, hw''⟩ := hw'
          subst hw''
          clear hne q1 q2
          go_wp2
          go_ret
          exact ⟨rfl, hlz⟩
        · have E : fitsB a b = false := by have := unhide F; simpa using this
          go_upto_region 14 with fail
          refine wp_region_wc hx (unhide Hl) (by kernel_rfl) (by kernel_rfl) ?_
          try simp only [List.append]
          repeat (go_big_quiet_step (first | (go_at_call 9; exact Wc.call Two.next (first_any _)) | (go_at_call 12; exact Wc.call Two.next (fits_is E _)) | (go_at_call 20; exact Wc.call Two.next (reads_any a _)) | (go_at_call 22; exact Wc.call Two.next (writes_any a _))))
          refine wpQuiet_nil ?_
          intro _ hw'
          obtain ⟨⟨wz, hxz, hlz⟩, hw''⟩ := hw'
          subst hw''
          clear hne q1 q2
          go_wp2
          go_ret
          exact ⟨rfl, hlz⟩
      · have E : fitsB a b = true := by have := unhide F; simpa using this
        go_upto_region 14 with fail
        refine wp_region_wc hx (unhide Hl) (by kernel_rfl) (by kernel_rfl) ?_
        try simp only [List.append]
        repeat (go_big_quiet_step (first | (go_at_call 9; exact Wc.call Two.next (first_any _)) | (go_at_call 12; exact Wc.call Two.next (fits_is E _)) | (go_at_call 20; exact Wc.call Two.next (reads_any a _)) | (go_at_call 22; exact Wc.call Two.next (writes_any a _))))
        refine wpQuiet_nil ?_
        intro _ hw'
        obtain ⟨⟨wz, hxz, hlz⟩, hw''⟩ := hw'
        subst hw''
        clear hne q1 q2
        go_wp2
        go_ret
        exact ⟨rfl, hlz⟩
    rcases (show k = 0 ∨ k = 1 ∨ k = 2 ∨ k = 3 ∨ k = 4 ∨ k = 5 by omega) with rfl | rfl | rfl | rfl | rfl | rfl
    · clear hk h6
      simp only [tabW, tb, Nat.blt, Nat.ble, Bool.false_and]
      go_wp2
      go_roundw
      case rel => exact ⟨1, by omega, by go_num, rfl⟩
      case measure => simp [intOf]
    · clear hk h6
      simp only [tabW, tb, Nat.blt, Nat.ble, Bool.false_and, Bool.true_and]
      go_wp2
      go_roundw
      case rel => exact ⟨2, by omega, by go_num, rfl⟩
      case measure => simp [intOf]
    · clear hk h6
      simp only [tabW, tb, Nat.blt, Nat.ble, Bool.false_and, Bool.true_and]
      go_wp2
      go_roundw
      case rel => exact ⟨3, by omega, by go_num, rfl⟩
      case measure => simp [intOf]
    · clear hk h6
      simp only [tabW, tb, Nat.blt, Nat.ble, Bool.false_and, Bool.true_and]
      go_wp2
      go_roundw
      case rel => exact ⟨4, by omega, by go_num, rfl⟩
      case measure => simp [intOf]
    · clear hk h6
      simp only [tabW, tb, Nat.blt, Nat.ble, Bool.false_and, Bool.true_and]
      go_wp2
      go_roundw
      case rel => exact ⟨5, by omega, by go_num, rfl⟩
      case measure => simp [intOf]
    · clear hk h6
      simp only [tabW, tb, Nat.blt, Nat.ble, Bool.false_and, Bool.true_and]
      go_wp2
      go_roundw
      case rel => exact ⟨6, by omega, by go_num, rfl⟩
      case measure => simp [intOf]
end Go.Proofs.Ytjbhakimakfliaa
