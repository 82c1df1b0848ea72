/- Texts of this claim, put together in their order. -/
import Derived.Test.YtgiklggnolbiiaaGreatBase1
import Derived.Test.YtgiklggnolbiiaaGreatBase2
import Derived.Test.YtgiklggnolbiiaaGreatBase3
import Derived.Test.YtgiklggnolbiiaaGreatBase4
import Derived.Test.YtgiklggnolbiiaaGreatBase5
import Derived.Test.YtgiklggnolbiiaaGreatBase6
import Derived.Test.YtgiklggnolbiiaaGreatBase7
import Derived.Test.YtgiklggnolbiiaaGreatBase8
import Derived.Test.YtgiklggnolbiiaaGreatBase9
/- The reference's Ask: a new one waits. -/
namespace Go.Proofs.YtgiklggnolbiiaaGreat
open Go.RowKit
set_option linter.unusedVariables false
set_option linter.unusedSimpArgs false
variable {B : Nat} {H Q : List En} {b : Nat} {hv qv : Value}
set_option maxRecDepth 100000 in
set_option maxHeartbeats 8000000 in
theorem rask_waitz (w : World) (h : Lr B H Q b hv qv w) (hd : Dq hv qv) (hH : H.length < 1000) (hQ : Q.length < 1000) (who m : Int) (held t : Int) (hk : okD who m Q = true) (hheld : lookD who H = held) (ht : goal held m = t) (h0 : (held == 0) = true) (hf : Q.length = 0 → fitsL (who, t) H = false) :
    Calls Tryz.prog 39 #[.pointer (some ⟨b, 0, none⟩), .int .i64 who, .int .i64 m] w (RAskPost w b hv qv B (2, H, Q.take Q.length ++ (who, t) :: Q.drop Q.length)) := by
  have h00 : (held != 0) = false := by unfold bne; rw [h0]; rfl
  have hf0 := hide hf
  clear hf
  rcases h.qr with ⟨rfl, rfl⟩ | ⟨g, cap, rfl, hBg, r⟩
  · skip
    obtain ⟨⟨h1, h2⟩, h3⟩ : (knownB m = true ∧ (m == 0) = false) ∧ (lookD who [] == 0) = true := by
      unfold okD at hk
      simpa using hk
    have HL := hide h
    have hd := hide hd
    have Ht := hide ht
    have Hh := hide hheld
    clear h hk ht hheld
    go_enter Tryz.func39, Tryz.ntmps39
    go_wp2_with fail
    refine (mode_any m _).mono ?_
    rw [h1]
    rintro e w ⟨rfl, rfl⟩
    go_wp2_with fail
    refine (rwaits_any _ (unhide HL) (by omega) who).mono ?_
    rintro e w ⟨rfl, rfl⟩
    have h4 : (lookD who [] != 0) = false := by unfold bne; rw [h3]; rfl
    clear h3
    generalize lookD who [] = z at h4 ⊢
    go_wp2_with fail
    refine (rholds_any _ (unhide HL) (by omega) who).mono ?_
    rw [unhide Hh]
    rintro e w ⟨rfl, rfl⟩
    clear h4
    go_wp2_with fail
    refine (rsup_any _ 2 2 [held, m] _ (seg2 w held m) (by decide)).mono ?_
    rw [show supL [held, m] = t from unhide Ht]
    rintro e w4 ⟨rfl, rfl⟩
    have B1 := hide (below_new w (.cells #[.int .i64 held, .int .i64 m] 3))
    generalize w.alloc (.cells #[.int .i64 held, .int .i64 m] 3) = wa at B1 ⊢
    have HL1 := hide ((unhide HL).next (unhide B1))
    have c1 := (unhide HL1).c1
    have hf : Hid (fitsL (who, t) H = false) := unhide hf0 (rfl)
    go_wp2_with fail
    refine (rfits_lane _ (unhide HL1) (by omega) who t).mono ?_
    rw [unhide hf]
    rintro e w5 ⟨rfl, b5⟩
    have B5 := hide (below_then (unhide B1) b5)
    have HL2 := hide ((unhide HL1).next b5)
    clear b5 c1
    have HLx := HL2
    have Bx := B5
    have hSS : Hid (∀ w', Below w5.heap.size w5 w' → w'.cell? ⟨b, 1, none⟩ = some (.slice none 0 0)) := fun w' k => ((unhide HLx).next k).c1
    have hFF : Hid (∀ w', Below w5.heap.size w5 w' → w'.frozen? ⟨b, 1, none⟩ = false) := fun w' k => ((unhide HLx).next k).free 1
    have hA : Hid (Re w5 _ (([] : List En))) := re_nil w5 none 0
    have hD : Hid (Re w5 _ (([] : List En))) := re_nil w5 none 0
    have lA : Hid ((([] : List En)).length = 0) := by show _ = _; rfl
    have zA : Hid ((([] : List En)).length ≤ 10000) := by have := unhide lA; show _ ≤ _; omega
    have zB : Hid (0 + 1 < 10000000) := by show _ < _; omega
    have zC : Hid ((([] : List En) ++ [(who, t)]).length + (([] : List En)).length ≤ 10000) := by show _ ≤ _; rw [List.length_append, unhide lA]; show 1 + 0 ≤ _; omega
    have fin : Hid (([] : List En) ++ [(who, t)] ++ [] = List.take 0 [] ++ (who, t) :: List.drop 0 []) := rfl
    go_wp2_with fail
    refine Lw.begin 23 (fun wz => wz.cell? ⟨b, 1, none⟩ = some (.slice none 0 0)) (by kernel_rfl) ?hS0 (fun hS1 hc0 => ?_)
    case hS0 => exact unhide hSS _ (by repeat (first | exact unhide ba3 | exact unhide ba2 | exact unhide ba1 | exact Below.refl _ _ | refine Below.drew ?_ | refine below_add ?_ _))
    refine Lw.take (i := 0) [21, 22, 23] (by kernel_rfl) (by rfl) (by decide) rfl (by kernel_rfl) (by kernel_rfl) (by kernel_rfl) (fun _ _ _ h => h) (by assumption) (v := ?_) (Or.inl ⟨by rfl, ?_⟩) (by first | assumption | exact unhide hSS _ (unhide ba3)) (fun hc1 => ?_)
    rotate_left
    · (intro w hSw; (try dsimp only at hSw); go_simp; first | done | with_reducible rfl)
    try simp only [Act.put, List.setIfInBounds_toArray, List.set_cons_zero, List.set_cons_succ, List.getElem_toArray, List.getElem_cons_succ, List.getElem_cons_zero]
    refine Lw.take (i := 2) [3, 4, 5, 7, 8, 13, 20, 23] (by kernel_rfl) (by rfl) (by decide) rfl (by kernel_rfl) (by kernel_rfl) (by kernel_rfl) (fun _ _ _ h => h) (by assumption) (v := ?_) (Or.inl ⟨by rfl, ?_⟩) (by first | assumption | exact unhide hSS _ (unhide ba3)) (fun hc1 => ?_)
    rotate_left
    · (intro w hSw; (try dsimp only at hSw); go_simp; first | done | with_reducible rfl)
    try simp only [Act.put, List.setIfInBounds_toArray, List.set_cons_zero, List.set_cons_succ, List.getElem_toArray, List.getElem_cons_succ, List.getElem_cons_zero]
    refine Lw.take (i := 3) [4, 5, 7, 8, 13, 20, 23] (by kernel_rfl) (by rfl) (by decide) rfl (by kernel_rfl) (by kernel_rfl) (by kernel_rfl) (fun _ _ _ h => h) (by assumption) (v := ?_) (Or.inl ⟨by rfl, ?_⟩) (by first | assumption | exact unhide hSS _ (unhide ba3)) (fun hc1 => ?_)
    rotate_left
    · (intro w hSw; (try dsimp only at hSw); go_simp; first | done | with_reducible rfl)
    try simp only [Act.put, List.setIfInBounds_toArray, List.set_cons_zero, List.set_cons_succ, List.getElem_toArray, List.getElem_cons_succ, List.getElem_cons_zero]
    refine Lw.take (i := 4) [5, 7, 8, 13, 20, 23] (by kernel_rfl) (by rfl) (by decide) rfl (by kernel_rfl) (by kernel_rfl) (by kernel_rfl) (fun _ _ _ h => h) (by assumption) (v := ?_) (Or.inl ⟨by rfl, ?_⟩) (by first | assumption | exact unhide hSS _ (unhide ba3)) (fun hc1 => ?_)
    rotate_left
    · (intro w hSw; (try dsimp only at hSw); go_simp; first | done | with_reducible rfl)
    try simp only [Act.put, List.setIfInBounds_toArray, List.set_cons_zero, List.set_cons_succ, List.getElem_toArray, List.getElem_cons_succ, List.getElem_cons_zero]
    refine Lw.take (i := 5) [7, 8, 13, 20, 23] (by kernel_rfl) (by rfl) (by decide) rfl (by kernel_rfl) (by kernel_rfl) (by kernel_rfl) (fun _ _ _ h => h) (by assumption) (v := ?_) (Or.inl ⟨by rfl, ?_⟩) (by first | assumption | exact unhide hSS _ (unhide ba3)) (fun hc1 => ?_)
    rotate_left
    · (intro w hSw; (try dsimp only at hSw); go_simp; first | done | with_reducible rfl)
    try simp only [Act.put, List.setIfInBounds_toArray, List.set_cons_zero, List.set_cons_succ, List.getElem_toArray, List.getElem_cons_succ, List.getElem_cons_zero]
    refine Lw.take (i := 6) [7, 8, 13, 20, 23] (by kernel_rfl) (by rfl) (by decide) rfl (by kernel_rfl) (by kernel_rfl) (by kernel_rfl) (fun _ _ _ h => h) (by assumption) (v := ?_) (Or.inl ⟨by rfl, ?_⟩) (by first | assumption | exact unhide hSS _ (unhide ba3)) (fun hc1 => ?_)
    rotate_left
    · (intro w hSw; (try dsimp only at hSw); go_simp; first | done | with_reducible rfl)
    try simp only [Act.put, List.setIfInBounds_toArray, List.set_cons_zero, List.set_cons_succ, List.getElem_toArray, List.getElem_cons_succ, List.getElem_cons_zero]
    refine Lw.take (i := 7) [8, 13, 20, 23] (by kernel_rfl) (by rfl) (by decide) rfl (by kernel_rfl) (by kernel_rfl) (by kernel_rfl) (fun _ _ _ h => h) (by assumption) (v := ?_) (Or.inl ⟨by rfl, ?_⟩) (by first | assumption | exact unhide hSS _ (unhide ba3)) (fun hc1 => ?_)
    rotate_left
    · (intro w hSw; (try dsimp only at hSw); go_simp; first | done | with_reducible rfl)
    try simp only [Act.put, List.setIfInBounds_toArray, List.set_cons_zero, List.set_cons_succ, List.getElem_toArray, List.getElem_cons_succ, List.getElem_cons_zero]
    refine Lw.take (i := 9) [11, 12, 13, 20, 23] (by kernel_rfl) (by rfl) (by decide) rfl (by kernel_rfl) (by kernel_rfl) (by kernel_rfl) (fun _ _ _ h => h) (by assumption) (v := ?_) (Or.inl ⟨by rfl, ?_⟩) (by first | assumption | exact unhide hSS _ (unhide ba3)) (fun hc1 => ?_)
    rotate_left
    · (intro w hSw; (try dsimp only at hSw); go_simp; first | done | with_reducible rfl)
    try simp only [Act.put, List.setIfInBounds_toArray, List.set_cons_zero, List.set_cons_succ, List.getElem_toArray, List.getElem_cons_succ, List.getElem_cons_zero]
    refine Lw.take (i := 10) [11, 12, 13, 20, 23] (by kernel_rfl) (by rfl) (by decide) rfl (by kernel_rfl) (by kernel_rfl) (by kernel_rfl) (fun _ _ _ h => h) (by assumption) (v := ?_) (Or.inl ⟨by rfl, ?_⟩) (by first | assumption | exact unhide hSS _ (unhide ba3)) (fun hc1 => ?_)
    rotate_left
    · (intro w hSw; (try dsimp only at hSw); go_simp; first | done | with_reducible rfl)
    try simp only [Act.put, List.setIfInBounds_toArray, List.set_cons_zero, List.set_cons_succ, List.getElem_toArray, List.getElem_cons_succ, List.getElem_cons_zero]
    refine Lw.take (i := 11) [12, 13, 20, 23] (by kernel_rfl) (by rfl) (by decide) rfl (by kernel_rfl) (by kernel_rfl) (by kernel_rfl) (fun _ _ _ h => h) (by assumption) (v := ?_) (Or.inl ⟨by rfl, ?_⟩) (by first | assumption | exact unhide hSS _ (unhide ba3)) (fun hc1 => ?_)
    rotate_left
    · (intro w hSw; (try dsimp only at hSw); go_simp; first | done | with_reducible rfl)
    try simp only [Act.put, List.setIfInBounds_toArray, List.set_cons_zero, List.set_cons_succ, List.getElem_toArray, List.getElem_cons_succ, List.getElem_cons_zero]
    refine Lw.take (i := 14) [15, 16, 17, 19, 20, 23] (by kernel_rfl) (by rfl) (by decide) rfl (by kernel_rfl) (by kernel_rfl) (by kernel_rfl) (fun _ _ _ h => h) (by assumption) (v := ?_) (Or.inl ⟨by rfl, ?_⟩) (by first | assumption | exact unhide hSS _ (unhide ba3)) (fun hc1 => ?_)
    rotate_left
    · (intro w hSw; (try dsimp only at hSw); go_simp; first | done | with_reducible rfl)
    try simp only [Act.put, List.setIfInBounds_toArray, List.set_cons_zero, List.set_cons_succ, List.getElem_toArray, List.getElem_cons_succ, List.getElem_cons_zero]
    refine Lw.take (i := 15) [16, 17, 19, 20, 23] (by kernel_rfl) (by rfl) (by decide) rfl (by kernel_rfl) (by kernel_rfl) (by kernel_rfl) (fun _ _ _ h => h) (by assumption) (v := ?_) (Or.inl ⟨by rfl, ?_⟩) (by first | assumption | exact unhide hSS _ (unhide ba3)) (fun hc1 => ?_)
    rotate_left
    · (intro w hSw; (try dsimp only at hSw); go_simp; first | done | with_reducible rfl)
    try simp only [Act.put, List.setIfInBounds_toArray, List.set_cons_zero, List.set_cons_succ, List.getElem_toArray, List.getElem_cons_succ, List.getElem_cons_zero]
    refine Lw.take (i := 16) [17, 19, 20, 23] (by kernel_rfl) (by rfl) (by decide) rfl (by kernel_rfl) (by kernel_rfl) (by kernel_rfl) (fun _ _ _ h => h) (by assumption) (v := ?_) (Or.inl ⟨by rfl, ?_⟩) (by first | assumption | exact unhide hSS _ (unhide ba3)) (fun hc1 => ?_)
    rotate_left
    · (intro w hSw; (try dsimp only at hSw); go_simp; first | done | with_reducible rfl)
    try simp only [Act.put, List.setIfInBounds_toArray, List.set_cons_zero, List.set_cons_succ, List.getElem_toArray, List.getElem_cons_succ, List.getElem_cons_zero]
    refine Lw.take (i := 17) [19, 20, 23] (by kernel_rfl) (by rfl) (by decide) rfl (by kernel_rfl) (by kernel_rfl) (by kernel_rfl) (fun _ _ _ h => h) (by assumption) (v := ?_) (Or.inl ⟨by rfl, ?_⟩) (by first | assumption | exact unhide hSS _ (unhide ba3)) (fun hc1 => ?_)
    rotate_left
    · (intro w hSw; (try dsimp only at hSw); go_simp; first | done | with_reducible rfl)
    try simp only [Act.put, List.setIfInBounds_toArray, List.set_cons_zero, List.set_cons_succ, List.getElem_toArray, List.getElem_cons_succ, List.getElem_cons_zero]
    refine Lw.take (i := 18) [19, 20, 23] (by kernel_rfl) (by rfl) (by decide) rfl (by kernel_rfl) (by kernel_rfl) (by kernel_rfl) (fun _ _ _ h => h) (by assumption) (v := ?_) (Or.inl ⟨by rfl, ?_⟩) (by first | assumption | exact unhide hSS _ (unhide ba3)) (fun hc1 => ?_)
    rotate_left
    · (intro w hSw; (try dsimp only at hSw); go_simp; first | done | with_reducible rfl)
    try simp only [Act.put, List.setIfInBounds_toArray, List.set_cons_zero, List.set_cons_succ, List.getElem_toArray, List.getElem_cons_succ, List.getElem_cons_zero]
    refine Lw.take (i := 19) [20, 23] (by kernel_rfl) (by rfl) (by decide) rfl (by kernel_rfl) (by kernel_rfl) (by kernel_rfl) (fun _ _ _ h => h) (by assumption) (v := ?_) (Or.inl ⟨by rfl, ?_⟩) (by first | assumption | exact unhide hSS _ (unhide ba3)) (fun hc1 => ?_)
    rotate_left
    · (intro w hSw; (try dsimp only at hSw); go_simp; first | done | with_reducible rfl)
    try simp only [Act.put, List.setIfInBounds_toArray, List.set_cons_zero, List.set_cons_succ, List.getElem_toArray, List.getElem_cons_succ, List.getElem_cons_zero]
    refine Lw.ready (rs := [1, 12]) (by kernel_rfl) (by simp) (by assumption) (fun hc2 => ?_)
    refine Nxt1.cons rfl (by kernel_rfl) hc2 (fun K hK => ?_) ?_
    · -- operation 1
      go_simp
      refine unhide hK _ _ (fun _ => unhide hSS _ (by repeat (first | exact unhide ba3 | exact unhide ba2 | exact unhide ba1 | exact Below.refl _ _ | refine Below.drew ?_ | refine below_add ?_ _))) (fun hS2 hc3 => ?_)
      clear hK K
      try simp only [Act.put, List.setIfInBounds_toArray, List.set_cons_zero, List.set_cons_succ, List.getElem_toArray, List.getElem_cons_succ, List.getElem_cons_zero]
      refine Lw.ready (rs := [8, 12]) (by kernel_rfl) (by simp) (by assumption) (fun hc2 => ?_)
      refine Nxt1.cons rfl (by kernel_rfl) hc2 (fun K hK => ?_) ?_
      · -- operation 8
        refine step_app0 w5 rfl (some 66) rfl (.tmp 59) (.tmp 65) rfl (([] : List En)) _ rfl (by repeat (first | exact unhide ba3 | exact unhide ba2 | exact unhide ba1 | exact Below.refl _ _ | refine Below.drew ?_ | refine below_add ?_ _)) (by first | exact pr_lit w5.drew | exact (pr_lit w5.drew).next (below_new _ _) | exact pr_lit2 w5 _ _) _ _ _ rfl (by first | exact re_nil _ _ _ | exact unhide hA) (by first | exact fun _ => rfl | exact fun h => by cases h) (unhide zA) ?_
        intro v9 w9 x1 ba1 kp1; replace x1 := hide x1; replace ba1 := hide ba1; replace kp1 := hide kp1
        refine unhide hK _ _ (fun _ => unhide hSS _ (by repeat (first | exact unhide ba3 | exact unhide ba2 | exact unhide ba1 | exact Below.refl _ _ | refine Below.drew ?_ | refine below_add ?_ _))) (fun hS2 hc3 => ?_)
        clear hK K
        try simp only [Act.put, List.setIfInBounds_toArray, List.set_cons_zero, List.set_cons_succ, List.getElem_toArray, List.getElem_cons_succ, List.getElem_cons_zero]
        refine Lw.ready (rs := [12]) (by kernel_rfl) (by simp) (by assumption) (fun hc2 => ?_)
        refine Nxt1.cons rfl (by kernel_rfl) hc2 (fun K hK => ?_) ?_
        · -- operation 12
          go_simp
          refine unhide hK _ _ (fun _ => unhide hSS _ (by repeat (first | exact unhide ba3 | exact unhide ba2 | exact unhide ba1 | exact Below.refl _ _ | refine Below.drew ?_ | refine below_add ?_ _))) (fun hS2 hc3 => ?_)
          clear hK K
          try simp only [Act.put, List.setIfInBounds_toArray, List.set_cons_zero, List.set_cons_succ, List.getElem_toArray, List.getElem_cons_succ, List.getElem_cons_zero]
          refine Lw.ready (rs := [13]) (by kernel_rfl) (by simp) (by assumption) (fun hc2 => ?_)
          refine Nxt1.cons rfl (by kernel_rfl) hc2 (fun K hK => ?_) ?_
          · -- operation 13
            refine step_new0 w5 rfl (some 71) rfl (.tmp 66) (.tmp 70) rfl v9 (([] : List En)) [(who, t)] 1 (0 + 1) rfl (by repeat (first | exact unhide ba3 | exact unhide ba2 | exact unhide ba1 | exact Below.refl _ _ | refine Below.drew ?_ | refine below_add ?_ _)) (by first | exact unhide x1 | exact (unhide x1).next (below_new _ _)) _ rfl (by first | exact heap_alloc_new _ _ | exact unhide kp1 _ _ (heap_d2a w5 _ _ _ _) (by omega) | exact unhide kp1 _ _ (heap_d2b w5 _ _ _ _) (by omega)) rfl (by rw [unhide lA]) (by decide) (unhide zB) ?_
            intro g10 cap10 w10 x2 ba2; replace x2 := hide x2; replace ba2 := hide ba2
            refine unhide hK _ _ (fun _ => unhide hSS _ (by repeat (first | exact unhide ba3 | exact unhide ba2 | exact unhide ba1 | exact Below.refl _ _ | refine Below.drew ?_ | refine below_add ?_ _))) (fun hS2 hc3 => ?_)
            clear hK K
            try simp only [Act.put, List.setIfInBounds_toArray, List.set_cons_zero, List.set_cons_succ, List.getElem_toArray, List.getElem_cons_succ, List.getElem_cons_zero]
            refine Lw.ready (rs := [20]) (by kernel_rfl) (by simp) (by assumption) (fun hc2 => ?_)
            refine Nxt1.cons rfl (by kernel_rfl) hc2 (fun K hK => ?_) ?_
            · -- operation 20
              refine step_app_re rfl (.tmp 71) (.tmp 77) rfl w5.heap.size _ (([] : List En) ++ [(who, t)]) (([] : List En)) rfl (unhide x2) _ _ _ rfl (by first | exact re_nil _ _ _ | exact (unhide hD).next (unhide ba2) | (simp only [Nat.sub_self]; exact re_nil _ _ _)) (by first | exact fun _ => rfl | exact fun h => by cases h) (unhide zC) (unhide ba2).size ?_
              intro v11 w11 x3 gr3; have ba3 := hide ((unhide ba2).trans (grown_below gr3 (unhide ba2).size (fun j hj => ((unhide x2).lt j hj).1))); obtain ⟨a11, n11, c11, rfl⟩ := pr_form x3; replace x3 := hide x3; clear gr3
              refine unhide hK _ _ (fun _ => unhide hSS _ (by repeat (first | exact unhide ba3 | exact unhide ba2 | exact unhide ba1 | exact Below.refl _ _ | refine Below.drew ?_ | refine below_add ?_ _))) (fun hS2 hc3 => ?_)
              clear hK K
              try simp only [Act.put, List.setIfInBounds_toArray, List.set_cons_zero, List.set_cons_succ, List.getElem_toArray, List.getElem_cons_succ, List.getElem_cons_zero]
              refine Lw.take (i := 21) [22, 23] (by kernel_rfl) (by rfl) (by decide) rfl (by kernel_rfl) (by kernel_rfl) (by kernel_rfl) (fun _ _ _ h => h) (by assumption) (v := ?_) (Or.inl ⟨by rfl, ?_⟩) (by first | assumption | exact unhide hSS _ (unhide ba3)) (fun hc1 => ?_)
              rotate_left
              · (intro w hSw; (try dsimp only at hSw); go_simp; first | done | with_reducible rfl)
              try simp only [Act.put, List.setIfInBounds_toArray, List.set_cons_zero, List.set_cons_succ, List.getElem_toArray, List.getElem_cons_succ, List.getElem_cons_zero]
              refine Lw.take (i := 22) [23] (by kernel_rfl) (by rfl) (by decide) rfl (by kernel_rfl) (by kernel_rfl) (by kernel_rfl) (fun _ _ _ h => h) (by assumption) (v := ?_) (Or.inl ⟨by rfl, ?_⟩) (by first | assumption | exact unhide hSS _ (unhide ba3)) (fun hc1 => ?_)
              rotate_left
              · (intro w hSw; (try dsimp only at hSw); go_simp; first | done | with_reducible rfl)
              try simp only [Act.put, List.setIfInBounds_toArray, List.set_cons_zero, List.set_cons_succ, List.getElem_toArray, List.getElem_cons_succ, List.getElem_cons_zero]
              refine Lw.ready (rs := [23]) (by kernel_rfl) (by simp) (by assumption) (fun hc2 => ?_)
              refine Nxt1.cons rfl (by kernel_rfl) hc2 (fun K hK => ?_) ?_
              · -- operation 23
                have fr := unhide hFF _ (unhide ba3)
                have cc := unhide hSS _ (unhide ba3)
                go_simp
                refine unhide hK _ _ (fun h => absurd h (by decide)) (fun _ hc3 => ?_)
                clear hK K
                try simp only [Act.put, List.setIfInBounds_toArray, List.set_cons_zero, List.set_cons_succ, List.getElem_toArray, List.getElem_cons_succ, List.getElem_cons_zero]
                refine Lw.done (by kernel_rfl) ?_ _
                have f1 := unhide x3
                rw [unhide fin] at f1
                have P := hide ((unhide HLx).put1 (unhide ba3) (pr_es f1))
                clear f1
                go_wp2
                go_ret
                exact ⟨rfl, _, _, (unhide P).1, (unhide P).2.1, (Mv.of_below (unhide Bx)).trans (unhide P).2.2⟩
              exact Nxt1.nil
            exact Nxt1.nil
          exact Nxt1.nil
        exact Nxt1.nil
      refine Nxt1.cons rfl (by kernel_rfl) hc2 (fun K hK => ?_) ?_
      · -- operation 12
        go_simp
        refine unhide hK _ _ (fun _ => unhide hSS _ (by repeat (first | exact unhide ba3 | exact unhide ba2 | exact unhide ba1 | exact Below.refl _ _ | refine Below.drew ?_ | refine below_add ?_ _))) (fun hS2 hc3 => ?_)
        clear hK K
        try simp only [Act.put, List.setIfInBounds_toArray, List.set_cons_zero, List.set_cons_succ, List.getElem_toArray, List.getElem_cons_succ, List.getElem_cons_zero]
        refine Lw.ready (rs := [8]) (by kernel_rfl) (by simp) (by assumption) (fun hc2 => ?_)
        refine Nxt1.cons rfl (by kernel_rfl) hc2 (fun K hK => ?_) ?_
        · -- operation 8
          refine step_app0 w5 rfl (some 66) rfl (.tmp 59) (.tmp 65) rfl (([] : List En)) _ rfl (by repeat (first | exact unhide ba3 | exact unhide ba2 | exact unhide ba1 | exact Below.refl _ _ | refine Below.drew ?_ | refine below_add ?_ _)) (by first | exact pr_lit w5.drew | exact (pr_lit w5.drew).next (below_new _ _) | exact pr_lit2 w5 _ _) _ _ _ rfl (by first | exact re_nil _ _ _ | exact unhide hA) (by first | exact fun _ => rfl | exact fun h => by cases h) (unhide zA) ?_
          intro v9 w9 x1 ba1 kp1; replace x1 := hide x1; replace ba1 := hide ba1; replace kp1 := hide kp1
          refine unhide hK _ _ (fun _ => unhide hSS _ (by repeat (first | exact unhide ba3 | exact unhide ba2 | exact unhide ba1 | exact Below.refl _ _ | refine Below.drew ?_ | refine below_add ?_ _))) (fun hS2 hc3 => ?_)
          clear hK K
          try simp only [Act.put, List.setIfInBounds_toArray, List.set_cons_zero, List.set_cons_succ, List.getElem_toArray, List.getElem_cons_succ, List.getElem_cons_zero]
          refine Lw.ready (rs := [13]) (by kernel_rfl) (by simp) (by assumption) (fun hc2 => ?_)
          refine Nxt1.cons rfl (by kernel_rfl) hc2 (fun K hK => ?_) ?_
          · -- operation 13
            refine step_new0 w5 rfl (some 71) rfl (.tmp 66) (.tmp 70) rfl v9 (([] : List En)) [(who, t)] 1 (0 + 1) rfl (by repeat (first | exact unhide ba3 | exact unhide ba2 | exact unhide ba1 | exact Below.refl _ _ | refine Below.drew ?_ | refine below_add ?_ _)) (by first | exact unhide x1 | exact (unhide x1).next (below_new _ _)) _ rfl (by first | exact heap_alloc_new _ _ | exact unhide kp1 _ _ (heap_d2a w5 _ _ _ _) (by omega) | exact unhide kp1 _ _ (heap_d2b w5 _ _ _ _) (by omega)) rfl (by rw [unhide lA]) (by decide) (unhide zB) ?_
            intro g10 cap10 w10 x2 ba2; replace x2 := hide x2; replace ba2 := hide ba2
            refine unhide hK _ _ (fun _ => unhide hSS _ (by repeat (first | exact unhide ba3 | exact unhide ba2 | exact unhide ba1 | exact Below.refl _ _ | refine Below.drew ?_ | refine below_add ?_ _))) (fun hS2 hc3 => ?_)
            clear hK K
            try simp only [Act.put, List.setIfInBounds_toArray, List.set_cons_zero, List.set_cons_succ, List.getElem_toArray, List.getElem_cons_succ, List.getElem_cons_zero]
            refine Lw.ready (rs := [20]) (by kernel_rfl) (by simp) (by assumption) (fun hc2 => ?_)
            refine Nxt1.cons rfl (by kernel_rfl) hc2 (fun K hK => ?_) ?_
            · -- operation 20
              refine step_app_re rfl (.tmp 71) (.tmp 77) rfl w5.heap.size _ (([] : List En) ++ [(who, t)]) (([] : List En)) rfl (unhide x2) _ _ _ rfl (by first | exact re_nil _ _ _ | exact (unhide hD).next (unhide ba2) | (simp only [Nat.sub_self]; exact re_nil _ _ _)) (by first | exact fun _ => rfl | exact fun h => by cases h) (unhide zC) (unhide ba2).size ?_
              intro v11 w11 x3 gr3; have ba3 := hide ((unhide ba2).trans (grown_below gr3 (unhide ba2).size (fun j hj => ((unhide x2).lt j hj).1))); obtain ⟨a11, n11, c11, rfl⟩ := pr_form x3; replace x3 := hide x3; clear gr3
              refine unhide hK _ _ (fun _ => unhide hSS _ (by repeat (first | exact unhide ba3 | exact unhide ba2 | exact unhide ba1 | exact Below.refl _ _ | refine Below.drew ?_ | refine below_add ?_ _))) (fun hS2 hc3 => ?_)
              clear hK K
              try simp only [Act.put, List.setIfInBounds_toArray, List.set_cons_zero, List.set_cons_succ, List.getElem_toArray, List.getElem_cons_succ, List.getElem_cons_zero]
              refine Lw.take (i := 21) [22, 23] (by kernel_rfl) (by rfl) (by decide) rfl (by kernel_rfl) (by kernel_rfl) (by kernel_rfl) (fun _ _ _ h => h) (by assumption) (v := ?_) (Or.inl ⟨by rfl, ?_⟩) (by first | assumption | exact unhide hSS _ (unhide ba3)) (fun hc1 => ?_)
              rotate_left
              · (intro w hSw; (try dsimp only at hSw); go_simp; first | done | with_reducible rfl)
              try simp only [Act.put, List.setIfInBounds_toArray, List.set_cons_zero, List.set_cons_succ, List.getElem_toArray, List.getElem_cons_succ, List.getElem_cons_zero]
              refine Lw.take (i := 22) [23] (by kernel_rfl) (by rfl) (by decide) rfl (by kernel_rfl) (by kernel_rfl) (by kernel_rfl) (fun _ _ _ h => h) (by assumption) (v := ?_) (Or.inl ⟨by rfl, ?_⟩) (by first | assumption | exact unhide hSS _ (unhide ba3)) (fun hc1 => ?_)
              rotate_left
              · (intro w hSw; (try dsimp only at hSw); go_simp; first | done | with_reducible rfl)
              try simp only [Act.put, List.setIfInBounds_toArray, List.set_cons_zero, List.set_cons_succ, List.getElem_toArray, List.getElem_cons_succ, List.getElem_cons_zero]
              refine Lw.ready (rs := [23]) (by kernel_rfl) (by simp) (by assumption) (fun hc2 => ?_)
              refine Nxt1.cons rfl (by kernel_rfl) hc2 (fun K hK => ?_) ?_
              · -- operation 23
                have fr := unhide hFF _ (unhide ba3)
                have cc := unhide hSS _ (unhide ba3)
                go_simp
                refine unhide hK _ _ (fun h => absurd h (by decide)) (fun _ hc3 => ?_)
                clear hK K
                try simp only [Act.put, List.setIfInBounds_toArray, List.set_cons_zero, List.set_cons_succ, List.getElem_toArray, List.getElem_cons_succ, List.getElem_cons_zero]
                refine Lw.done (by kernel_rfl) ?_ _
                have f1 := unhide x3
                rw [unhide fin] at f1
                have P := hide ((unhide HLx).put1 (unhide ba3) (pr_es f1))
                clear f1
                go_wp2
                go_ret
                exact ⟨rfl, _, _, (unhide P).1, (unhide P).2.1, (Mv.of_below (unhide Bx)).trans (unhide P).2.2⟩
              exact Nxt1.nil
            exact Nxt1.nil
          exact Nxt1.nil
        exact Nxt1.nil
      exact Nxt1.nil
    refine Nxt1.cons rfl (by kernel_rfl) hc2 (fun K hK => ?_) ?_
    · -- operation 12
      go_simp
      refine unhide hK _ _ (fun _ => unhide hSS _ (by repeat (first | exact unhide ba3 | exact unhide ba2 | exact unhide ba1 | exact Below.refl _ _ | refine Below.drew ?_ | refine below_add ?_ _))) (fun hS2 hc3 => ?_)
      clear hK K
      try simp only [Act.put, List.setIfInBounds_toArray, List.set_cons_zero, List.set_cons_succ, List.getElem_toArray, List.getElem_cons_succ, List.getElem_cons_zero]
      refine Lw.ready (rs := [1]) (by kernel_rfl) (by simp) (by assumption) (fun hc2 => ?_)
      refine Nxt1.cons rfl (by kernel_rfl) hc2 (fun K hK => ?_) ?_
      · -- operation 1
        go_simp
        refine unhide hK _ _ (fun _ => unhide hSS _ (by repeat (first | exact unhide ba3 | exact unhide ba2 | exact unhide ba1 | exact Below.refl _ _ | refine Below.drew ?_ | refine below_add ?_ _))) (fun hS2 hc3 => ?_)
        clear hK K
        try simp only [Act.put, List.setIfInBounds_toArray, List.set_cons_zero, List.set_cons_succ, List.getElem_toArray, List.getElem_cons_succ, List.getElem_cons_zero]
        refine Lw.ready (rs := [8]) (by kernel_rfl) (by simp) (by assumption) (fun hc2 => ?_)
        refine Nxt1.cons rfl (by kernel_rfl) hc2 (fun K hK => ?_) ?_
        · -- operation 8
          refine step_app0 w5 rfl (some 66) rfl (.tmp 59) (.tmp 65) rfl (([] : List En)) _ rfl (by repeat (first | exact unhide ba3 | exact unhide ba2 | exact unhide ba1 | exact Below.refl _ _ | refine Below.drew ?_ | refine below_add ?_ _)) (by first | exact pr_lit w5.drew | exact (pr_lit w5.drew).next (below_new _ _) | exact pr_lit2 w5 _ _) _ _ _ rfl (by first | exact re_nil _ _ _ | exact unhide hA) (by first | exact fun _ => rfl | exact fun h => by cases h) (unhide zA) ?_
          intro v9 w9 x1 ba1 kp1; replace x1 := hide x1; replace ba1 := hide ba1; replace kp1 := hide kp1
          refine unhide hK _ _ (fun _ => unhide hSS _ (by repeat (first | exact unhide ba3 | exact unhide ba2 | exact unhide ba1 | exact Below.refl _ _ | refine Below.drew ?_ | refine below_add ?_ _))) (fun hS2 hc3 => ?_)
          clear hK K
          try simp only [Act.put, List.setIfInBounds_toArray, List.set_cons_zero, List.set_cons_succ, List.getElem_toArray, List.getElem_cons_succ, List.getElem_cons_zero]
          refine Lw.ready (rs := [13]) (by kernel_rfl) (by simp) (by assumption) (fun hc2 => ?_)
          refine Nxt1.cons rfl (by kernel_rfl) hc2 (fun K hK => ?_) ?_
          · -- operation 13
            refine step_new0 w5 rfl (some 71) rfl (.tmp 66) (.tmp 70) rfl v9 (([] : List En)) [(who, t)] 1 (0 + 1) rfl (by repeat (first | exact unhide ba3 | exact unhide ba2 | exact unhide ba1 | exact Below.refl _ _ | refine Below.drew ?_ | refine below_add ?_ _)) (by first | exact unhide x1 | exact (unhide x1).next (below_new _ _)) _ rfl (by first | exact heap_alloc_new _ _ | exact unhide kp1 _ _ (heap_d2a w5 _ _ _ _) (by omega) | exact unhide kp1 _ _ (heap_d2b w5 _ _ _ _) (by omega)) rfl (by rw [unhide lA]) (by decide) (unhide zB) ?_
            intro g10 cap10 w10 x2 ba2; replace x2 := hide x2; replace ba2 := hide ba2
            refine unhide hK _ _ (fun _ => unhide hSS _ (by repeat (first | exact unhide ba3 | exact unhide ba2 | exact unhide ba1 | exact Below.refl _ _ | refine Below.drew ?_ | refine below_add ?_ _))) (fun hS2 hc3 => ?_)
            clear hK K
            try simp only [Act.put, List.setIfInBounds_toArray, List.set_cons_zero, List.set_cons_succ, List.getElem_toArray, List.getElem_cons_succ, List.getElem_cons_zero]
            refine Lw.ready (rs := [20]) (by kernel_rfl) (by simp) (by assumption) (fun hc2 => ?_)
            refine Nxt1.cons rfl (by kernel_rfl) hc2 (fun K hK => ?_) ?_
            · -- operation 20
              refine step_app_re rfl (.tmp 71) (.tmp 77) rfl w5.heap.size _ (([] : List En) ++ [(who, t)]) (([] : List En)) rfl (unhide x2) _ _ _ rfl (by first | exact re_nil _ _ _ | exact (unhide hD).next (unhide ba2) | (simp only [Nat.sub_self]; exact re_nil _ _ _)) (by first | exact fun _ => rfl | exact fun h => by cases h) (unhide zC) (unhide ba2).size ?_
              intro v11 w11 x3 gr3; have ba3 := hide ((unhide ba2).trans (grown_below gr3 (unhide ba2).size (fun j hj => ((unhide x2).lt j hj).1))); obtain ⟨a11, n11, c11, rfl⟩ := pr_form x3; replace x3 := hide x3; clear gr3
              refine unhide hK _ _ (fun _ => unhide hSS _ (by repeat (first | exact unhide ba3 | exact unhide ba2 | exact unhide ba1 | exact Below.refl _ _ | refine Below.drew ?_ | refine below_add ?_ _))) (fun hS2 hc3 => ?_)
              clear hK K
              try simp only [Act.put, List.setIfInBounds_toArray, List.set_cons_zero, List.set_cons_succ, List.getElem_toArray, List.getElem_cons_succ, List.getElem_cons_zero]
              refine Lw.take (i := 21) [22, 23] (by kernel_rfl) (by rfl) (by decide) rfl (by kernel_rfl) (by kernel_rfl) (by kernel_rfl) (fun _ _ _ h => h) (by assumption) (v := ?_) (Or.inl ⟨by rfl, ?_⟩) (by first | assumption | exact unhide hSS _ (unhide ba3)) (fun hc1 => ?_)
              rotate_left
              · (intro w hSw; (try dsimp only at hSw); go_simp; first | done | with_reducible rfl)
              try simp only [Act.put, List.setIfInBounds_toArray, List.set_cons_zero, List.set_cons_succ, List.getElem_toArray, List.getElem_cons_succ, List.getElem_cons_zero]
              refine Lw.take (i := 22) [23] (by kernel_rfl) (by rfl) (by decide) rfl (by kernel_rfl) (by kernel_rfl) (by kernel_rfl) (fun _ _ _ h => h) (by assumption) (v := ?_) (Or.inl ⟨by rfl, ?_⟩) (by first | assumption | exact unhide hSS _ (unhide ba3)) (fun hc1 => ?_)
              rotate_left
              · (intro w hSw; (try dsimp only at hSw); go_simp; first | done | with_reducible rfl)
              try simp only [Act.put, List.setIfInBounds_toArray, List.set_cons_zero, List.set_cons_succ, List.getElem_toArray, List.getElem_cons_succ, List.getElem_cons_zero]
              refine Lw.ready (rs := [23]) (by kernel_rfl) (by simp) (by assumption) (fun hc2 => ?_)
              refine Nxt1.cons rfl (by kernel_rfl) hc2 (fun K hK => ?_) ?_
              · -- operation 23
                have fr := unhide hFF _ (unhide ba3)
                have cc := unhide hSS _ (unhide ba3)
                go_simp
                refine unhide hK _ _ (fun h => absurd h (by decide)) (fun _ hc3 => ?_)
                clear hK K
                try simp only [Act.put, List.setIfInBounds_toArray, List.set_cons_zero, List.set_cons_succ, List.getElem_toArray, List.getElem_cons_succ, List.getElem_cons_zero]
                refine Lw.done (by kernel_rfl) ?_ _
                have f1 := unhide x3
                rw [unhide fin] at f1
                have P := hide ((unhide HLx).put1 (unhide ba3) (pr_es f1))
                clear f1
                go_wp2
                go_ret
                exact ⟨rfl, _, _, (unhide P).1, (unhide P).2.1, (Mv.of_below (unhide Bx)).trans (unhide P).2.2⟩
              exact Nxt1.nil
            exact Nxt1.nil
          exact Nxt1.nil
        exact Nxt1.nil
      exact Nxt1.nil
    exact Nxt1.nil
  · have R0 := hide r
    have q1 := r.le
    have re0 := hide h.qr
    clear r
    by_cases q0 : Q.length = 0
    · obtain rfl := List.eq_nil_of_length_eq_zero q0
      have hf : Hid (fitsL (who, t) H = false) := unhide hf0 rfl
      clear q0
      by_cases q9 : cap = 0
      · subst q9
        obtain ⟨⟨h1, h2⟩, h3⟩ : (knownB m = true ∧ (m == 0) = false) ∧ (lookD who [] == 0) = true := by
          unfold okD at hk
          simpa using hk
        have HL := hide h
        have hd := hide hd
        have Ht := hide ht
        have Hh := hide hheld
        clear h hk ht hheld
        go_enter Tryz.func39, Tryz.ntmps39
        go_wp2_with fail
        refine (mode_any m _).mono ?_
        rw [h1]
        rintro e w ⟨rfl, rfl⟩
        go_wp2_with fail
        refine (rwaits_any _ (unhide HL) (by omega) who).mono ?_
        rintro e w ⟨rfl, rfl⟩
        have h4 : (lookD who [] != 0) = false := by unfold bne; rw [h3]; rfl
        clear h3
        generalize lookD who [] = z at h4 ⊢
        go_wp2_with fail
        refine (rholds_any _ (unhide HL) (by omega) who).mono ?_
        rw [unhide Hh]
        rintro e w ⟨rfl, rfl⟩
        clear h4
        go_wp2_with fail
        refine (rsup_any _ 2 2 [held, m] _ (seg2 w held m) (by decide)).mono ?_
        rw [show supL [held, m] = t from unhide Ht]
        rintro e w4 ⟨rfl, rfl⟩
        have B1 := hide (below_new w (.cells #[.int .i64 held, .int .i64 m] 3))
        generalize w.alloc (.cells #[.int .i64 held, .int .i64 m] 3) = wa at B1 ⊢
        have HL1 := hide ((unhide HL).next (unhide B1))
        have c1 := (unhide HL1).c1
        go_wp2_with fail
        refine (rfits_lane _ (unhide HL1) (by omega) who t).mono ?_
        rw [unhide hf]
        rintro e w5 ⟨rfl, b5⟩
        have B5 := hide (below_then (unhide B1) b5)
        have HL2 := hide ((unhide HL1).next b5)
        clear b5 c1
        have HLx := HL2
        have Bx := B5
        have hSS : Hid (∀ w', Below w5.heap.size w5 w' → w'.cell? ⟨b, 1, none⟩ = some (.slice (some ⟨g, 0, none⟩) 0 0)) := fun w' k => ((unhide HLx).next k).c1
        have hFF : Hid (∀ w', Below w5.heap.size w5 w' → w'.frozen? ⟨b, 1, none⟩ = false) := fun w' k => ((unhide HLx).next k).free 1
        have hA : Hid (Re w5 _ (([] : List En))) := re_nil w5 none 0
        have hD : Hid (Re w5 _ (([] : List En))) := re_nil w5 none 0
        have lA : Hid ((([] : List En)).length = 0) := by show _ = _; rfl
        have zA : Hid ((([] : List En)).length ≤ 10000) := by have := unhide lA; show _ ≤ _; omega
        have zB : Hid (0 + 1 < 10000000) := by show _ < _; omega
        have zC : Hid ((([] : List En) ++ [(who, t)]).length + (([] : List En)).length ≤ 10000) := by show _ ≤ _; rw [List.length_append, unhide lA]; show 1 + 0 ≤ _; omega
        have fin : Hid (([] : List En) ++ [(who, t)] ++ [] = List.take 0 [] ++ (who, t) :: List.drop 0 []) := rfl
        go_wp2_with fail
        refine Lw.begin 23 (fun wz => wz.cell? ⟨b, 1, none⟩ = some (.slice (some ⟨g, 0, none⟩) 0 0)) (by kernel_rfl) ?hS0 (fun hS1 hc0 => ?_)
        case hS0 => exact unhide hSS _ (by repeat (first | exact unhide ba3 | exact unhide ba2 | exact unhide ba1 | exact Below.refl _ _ | refine Below.drew ?_ | refine below_add ?_ _))
        refine Lw.take (i := 0) [21, 22, 23] (by kernel_rfl) (by rfl) (by decide) rfl (by kernel_rfl) (by kernel_rfl) (by kernel_rfl) (fun _ _ _ h => h) (by assumption) (v := ?_) (Or.inl ⟨by rfl, ?_⟩) (by first | assumption | exact unhide hSS _ (unhide ba3)) (fun hc1 => ?_)
        rotate_left
        · (intro w hSw; (try dsimp only at hSw); go_simp; first | done | with_reducible rfl)
        try simp only [Act.put, List.setIfInBounds_toArray, List.set_cons_zero, List.set_cons_succ, List.getElem_toArray, List.getElem_cons_succ, List.getElem_cons_zero]
        refine Lw.take (i := 2) [3, 4, 5, 7, 8, 13, 20, 23] (by kernel_rfl) (by rfl) (by decide) rfl (by kernel_rfl) (by kernel_rfl) (by kernel_rfl) (fun _ _ _ h => h) (by assumption) (v := ?_) (Or.inl ⟨by rfl, ?_⟩) (by first | assumption | exact unhide hSS _ (unhide ba3)) (fun hc1 => ?_)
        rotate_left
        · (intro w hSw; (try dsimp only at hSw); go_simp; first | done | with_reducible rfl)
        try simp only [Act.put, List.setIfInBounds_toArray, List.set_cons_zero, List.set_cons_succ, List.getElem_toArray, List.getElem_cons_succ, List.getElem_cons_zero]
        refine Lw.take (i := 3) [4, 5, 7, 8, 13, 20, 23] (by kernel_rfl) (by rfl) (by decide) rfl (by kernel_rfl) (by kernel_rfl) (by kernel_rfl) (fun _ _ _ h => h) (by assumption) (v := ?_) (Or.inl ⟨by rfl, ?_⟩) (by first | assumption | exact unhide hSS _ (unhide ba3)) (fun hc1 => ?_)
        rotate_left
        · (intro w hSw; (try dsimp only at hSw); go_simp; first | done | with_reducible rfl)
        try simp only [Act.put, List.setIfInBounds_toArray, List.set_cons_zero, List.set_cons_succ, List.getElem_toArray, List.getElem_cons_succ, List.getElem_cons_zero]
        refine Lw.take (i := 4) [5, 7, 8, 13, 20, 23] (by kernel_rfl) (by rfl) (by decide) rfl (by kernel_rfl) (by kernel_rfl) (by kernel_rfl) (fun _ _ _ h => h) (by assumption) (v := ?_) (Or.inl ⟨by rfl, ?_⟩) (by first | assumption | exact unhide hSS _ (unhide ba3)) (fun hc1 => ?_)
        rotate_left
        · (intro w hSw; (try dsimp only at hSw); go_simp; first | done | with_reducible rfl)
        try simp only [Act.put, List.setIfInBounds_toArray, List.set_cons_zero, List.set_cons_succ, List.getElem_toArray, List.getElem_cons_succ, List.getElem_cons_zero]
        refine Lw.take (i := 5) [7, 8, 13, 20, 23] (by kernel_rfl) (by rfl) (by decide) rfl (by kernel_rfl) (by kernel_rfl) (by kernel_rfl) (fun _ _ _ h => h) (by assumption) (v := ?_) (Or.inl ⟨by rfl, ?_⟩) (by first | assumption | exact unhide hSS _ (unhide ba3)) (fun hc1 => ?_)
        rotate_left
        · (intro w hSw; (try dsimp only at hSw); go_simp; first | done | with_reducible rfl)
        try simp only [Act.put, List.setIfInBounds_toArray, List.set_cons_zero, List.set_cons_succ, List.getElem_toArray, List.getElem_cons_succ, List.getElem_cons_zero]
        refine Lw.take (i := 6) [7, 8, 13, 20, 23] (by kernel_rfl) (by rfl) (by decide) rfl (by kernel_rfl) (by kernel_rfl) (by kernel_rfl) (fun _ _ _ h => h) (by assumption) (v := ?_) (Or.inl ⟨by rfl, ?_⟩) (by first | assumption | exact unhide hSS _ (unhide ba3)) (fun hc1 => ?_)
        rotate_left
        · (intro w hSw; (try dsimp only at hSw); go_simp; first | done | with_reducible rfl)
        try simp only [Act.put, List.setIfInBounds_toArray, List.set_cons_zero, List.set_cons_succ, List.getElem_toArray, List.getElem_cons_succ, List.getElem_cons_zero]
        refine Lw.take (i := 7) [8, 13, 20, 23] (by kernel_rfl) (by rfl) (by decide) rfl (by kernel_rfl) (by kernel_rfl) (by kernel_rfl) (fun _ _ _ h => h) (by assumption) (v := ?_) (Or.inl ⟨by rfl, ?_⟩) (by first | assumption | exact unhide hSS _ (unhide ba3)) (fun hc1 => ?_)
        rotate_left
        · (intro w hSw; (try dsimp only at hSw); go_simp; first | done | with_reducible rfl)
        try simp only [Act.put, List.setIfInBounds_toArray, List.set_cons_zero, List.set_cons_succ, List.getElem_toArray, List.getElem_cons_succ, List.getElem_cons_zero]
        refine Lw.take (i := 9) [11, 12, 13, 20, 23] (by kernel_rfl) (by rfl) (by decide) rfl (by kernel_rfl) (by kernel_rfl) (by kernel_rfl) (fun _ _ _ h => h) (by assumption) (v := ?_) (Or.inl ⟨by rfl, ?_⟩) (by first | assumption | exact unhide hSS _ (unhide ba3)) (fun hc1 => ?_)
        rotate_left
        · (intro w hSw; (try dsimp only at hSw); go_simp; first | done | with_reducible rfl)
        try simp only [Act.put, List.setIfInBounds_toArray, List.set_cons_zero, List.set_cons_succ, List.getElem_toArray, List.getElem_cons_succ, List.getElem_cons_zero]
        refine Lw.take (i := 10) [11, 12, 13, 20, 23] (by kernel_rfl) (by rfl) (by decide) rfl (by kernel_rfl) (by kernel_rfl) (by kernel_rfl) (fun _ _ _ h => h) (by assumption) (v := ?_) (Or.inl ⟨by rfl, ?_⟩) (by first | assumption | exact unhide hSS _ (unhide ba3)) (fun hc1 => ?_)
        rotate_left
        · (intro w hSw; (try dsimp only at hSw); go_simp; first | done | with_reducible rfl)
        try simp only [Act.put, List.setIfInBounds_toArray, List.set_cons_zero, List.set_cons_succ, List.getElem_toArray, List.getElem_cons_succ, List.getElem_cons_zero]
        refine Lw.take (i := 11) [12, 13, 20, 23] (by kernel_rfl) (by rfl) (by decide) rfl (by kernel_rfl) (by kernel_rfl) (by kernel_rfl) (fun _ _ _ h => h) (by assumption) (v := ?_) (Or.inl ⟨by rfl, ?_⟩) (by first | assumption | exact unhide hSS _ (unhide ba3)) (fun hc1 => ?_)
        rotate_left
        · (intro w hSw; (try dsimp only at hSw); go_simp; first | done | with_reducible rfl)
        try simp only [Act.put, List.setIfInBounds_toArray, List.set_cons_zero, List.set_cons_succ, List.getElem_toArray, List.getElem_cons_succ, List.getElem_cons_zero]
        refine Lw.take (i := 14) [15, 16, 17, 19, 20, 23] (by kernel_rfl) (by rfl) (by decide) rfl (by kernel_rfl) (by kernel_rfl) (by kernel_rfl) (fun _ _ _ h => h) (by assumption) (v := ?_) (Or.inl ⟨by rfl, ?_⟩) (by first | assumption | exact unhide hSS _ (unhide ba3)) (fun hc1 => ?_)
        rotate_left
        · (intro w hSw; (try dsimp only at hSw); go_simp; first | done | with_reducible rfl)
        try simp only [Act.put, List.setIfInBounds_toArray, List.set_cons_zero, List.set_cons_succ, List.getElem_toArray, List.getElem_cons_succ, List.getElem_cons_zero]
        refine Lw.take (i := 15) [16, 17, 19, 20, 23] (by kernel_rfl) (by rfl) (by decide) rfl (by kernel_rfl) (by kernel_rfl) (by kernel_rfl) (fun _ _ _ h => h) (by assumption) (v := ?_) (Or.inl ⟨by rfl, ?_⟩) (by first | assumption | exact unhide hSS _ (unhide ba3)) (fun hc1 => ?_)
        rotate_left
        · (intro w hSw; (try dsimp only at hSw); go_simp; first | done | with_reducible rfl)
        try simp only [Act.put, List.setIfInBounds_toArray, List.set_cons_zero, List.set_cons_succ, List.getElem_toArray, List.getElem_cons_succ, List.getElem_cons_zero]
        refine Lw.take (i := 16) [17, 19, 20, 23] (by kernel_rfl) (by rfl) (by decide) rfl (by kernel_rfl) (by kernel_rfl) (by kernel_rfl) (fun _ _ _ h => h) (by assumption) (v := ?_) (Or.inl ⟨by rfl, ?_⟩) (by first | assumption | exact unhide hSS _ (unhide ba3)) (fun hc1 => ?_)
        rotate_left
        · (intro w hSw; (try dsimp only at hSw); go_simp; first | done | with_reducible rfl)
        try simp only [Act.put, List.setIfInBounds_toArray, List.set_cons_zero, List.set_cons_succ, List.getElem_toArray, List.getElem_cons_succ, List.getElem_cons_zero]
        refine Lw.take (i := 17) [19, 20, 23] (by kernel_rfl) (by rfl) (by decide) rfl (by kernel_rfl) (by kernel_rfl) (by kernel_rfl) (fun _ _ _ h => h) (by assumption) (v := ?_) (Or.inl ⟨by rfl, ?_⟩) (by first | assumption | exact unhide hSS _ (unhide ba3)) (fun hc1 => ?_)
        rotate_left
        · (intro w hSw; (try dsimp only at hSw); go_simp; first | done | with_reducible rfl)
        try simp only [Act.put, List.setIfInBounds_toArray, List.set_cons_zero, List.set_cons_succ, List.getElem_toArray, List.getElem_cons_succ, List.getElem_cons_zero]
        refine Lw.take (i := 18) [19, 20, 23] (by kernel_rfl) (by rfl) (by decide) rfl (by kernel_rfl) (by kernel_rfl) (by kernel_rfl) (fun _ _ _ h => h) (by assumption) (v := ?_) (Or.inl ⟨by rfl, ?_⟩) (by first | assumption | exact unhide hSS _ (unhide ba3)) (fun hc1 => ?_)
        rotate_left
        · (intro w hSw; (try dsimp only at hSw); go_simp; first | done | with_reducible rfl)
        try simp only [Act.put, List.setIfInBounds_toArray, List.set_cons_zero, List.set_cons_succ, List.getElem_toArray, List.getElem_cons_succ, List.getElem_cons_zero]
        refine Lw.take (i := 19) [20, 23] (by kernel_rfl) (by rfl) (by decide) rfl (by kernel_rfl) (by kernel_rfl) (by kernel_rfl) (fun _ _ _ h => h) (by assumption) (v := ?_) (Or.inl ⟨by rfl, ?_⟩) (by first | assumption | exact unhide hSS _ (unhide ba3)) (fun hc1 => ?_)
        rotate_left
        · (intro w hSw; (try dsimp only at hSw); go_simp; first | done | with_reducible rfl)
        try simp only [Act.put, List.setIfInBounds_toArray, List.set_cons_zero, List.set_cons_succ, List.getElem_toArray, List.getElem_cons_succ, List.getElem_cons_zero]
        refine Lw.ready (rs := [1, 12]) (by kernel_rfl) (by simp) (by assumption) (fun hc2 => ?_)
        refine Nxt1.cons rfl (by kernel_rfl) hc2 (fun K hK => ?_) ?_
        · -- operation 1
          go_simp
          refine unhide hK _ _ (fun _ => unhide hSS _ (by repeat (first | exact unhide ba3 | exact unhide ba2 | exact unhide ba1 | exact Below.refl _ _ | refine Below.drew ?_ | refine below_add ?_ _))) (fun hS2 hc3 => ?_)
          clear hK K
          try simp only [Act.put, List.setIfInBounds_toArray, List.set_cons_zero, List.set_cons_succ, List.getElem_toArray, List.getElem_cons_succ, List.getElem_cons_zero]
          refine Lw.ready (rs := [8, 12]) (by kernel_rfl) (by simp) (by assumption) (fun hc2 => ?_)
          refine Nxt1.cons rfl (by kernel_rfl) hc2 (fun K hK => ?_) ?_
          · -- operation 8
            refine step_app0 w5 rfl (some 66) rfl (.tmp 59) (.tmp 65) rfl (([] : List En)) _ rfl (by repeat (first | exact unhide ba3 | exact unhide ba2 | exact unhide ba1 | exact Below.refl _ _ | refine Below.drew ?_ | refine below_add ?_ _)) (by first | exact pr_lit w5.drew | exact (pr_lit w5.drew).next (below_new _ _) | exact pr_lit2 w5 _ _) _ _ _ rfl (by first | exact re_nil _ _ _ | exact unhide hA) (by first | exact fun _ => rfl | exact fun h => by cases h) (unhide zA) ?_
            intro v9 w9 x1 ba1 kp1; replace x1 := hide x1; replace ba1 := hide ba1; replace kp1 := hide kp1
            refine unhide hK _ _ (fun _ => unhide hSS _ (by repeat (first | exact unhide ba3 | exact unhide ba2 | exact unhide ba1 | exact Below.refl _ _ | refine Below.drew ?_ | refine below_add ?_ _))) (fun hS2 hc3 => ?_)
            clear hK K
            try simp only [Act.put, List.setIfInBounds_toArray, List.set_cons_zero, List.set_cons_succ, List.getElem_toArray, List.getElem_cons_succ, List.getElem_cons_zero]
            refine Lw.ready (rs := [12]) (by kernel_rfl) (by simp) (by assumption) (fun hc2 => ?_)
            refine Nxt1.cons rfl (by kernel_rfl) hc2 (fun K hK => ?_) ?_
            · -- operation 12
              go_simp
              refine unhide hK _ _ (fun _ => unhide hSS _ (by repeat (first | exact unhide ba3 | exact unhide ba2 | exact unhide ba1 | exact Below.refl _ _ | refine Below.drew ?_ | refine below_add ?_ _))) (fun hS2 hc3 => ?_)
              clear hK K
              try simp only [Act.put, List.setIfInBounds_toArray, List.set_cons_zero, List.set_cons_succ, List.getElem_toArray, List.getElem_cons_succ, List.getElem_cons_zero]
              refine Lw.ready (rs := [13]) (by kernel_rfl) (by simp) (by assumption) (fun hc2 => ?_)
              refine Nxt1.cons rfl (by kernel_rfl) hc2 (fun K hK => ?_) ?_
              · -- operation 13
                refine step_new0 w5 rfl (some 71) rfl (.tmp 66) (.tmp 70) rfl v9 (([] : List En)) [(who, t)] 1 (0 + 1) rfl (by repeat (first | exact unhide ba3 | exact unhide ba2 | exact unhide ba1 | exact Below.refl _ _ | refine Below.drew ?_ | refine below_add ?_ _)) (by first | exact unhide x1 | exact (unhide x1).next (below_new _ _)) _ rfl (by first | exact heap_alloc_new _ _ | exact unhide kp1 _ _ (heap_d2a w5 _ _ _ _) (by omega) | exact unhide kp1 _ _ (heap_d2b w5 _ _ _ _) (by omega)) rfl (by rw [unhide lA]) (by decide) (unhide zB) ?_
                intro g10 cap10 w10 x2 ba2; replace x2 := hide x2; replace ba2 := hide ba2
                refine unhide hK _ _ (fun _ => unhide hSS _ (by repeat (first | exact unhide ba3 | exact unhide ba2 | exact unhide ba1 | exact Below.refl _ _ | refine Below.drew ?_ | refine below_add ?_ _))) (fun hS2 hc3 => ?_)
                clear hK K
                try simp only [Act.put, List.setIfInBounds_toArray, List.set_cons_zero, List.set_cons_succ, List.getElem_toArray, List.getElem_cons_succ, List.getElem_cons_zero]
                refine Lw.ready (rs := [20]) (by kernel_rfl) (by simp) (by assumption) (fun hc2 => ?_)
                refine Nxt1.cons rfl (by kernel_rfl) hc2 (fun K hK => ?_) ?_
                · -- operation 20
                  refine step_app_re rfl (.tmp 71) (.tmp 77) rfl w5.heap.size _ (([] : List En) ++ [(who, t)]) (([] : List En)) rfl (unhide x2) _ _ _ rfl (by first | exact re_nil _ _ _ | exact (unhide hD).next (unhide ba2) | (simp only [Nat.sub_self]; exact re_nil _ _ _)) (by first | exact fun _ => rfl | exact fun h => by cases h) (unhide zC) (unhide ba2).size ?_
                  intro v11 w11 x3 gr3; have ba3 := hide ((unhide ba2).trans (grown_below gr3 (unhide ba2).size (fun j hj => ((unhide x2).lt j hj).1))); obtain ⟨a11, n11, c11, rfl⟩ := pr_form x3; replace x3 := hide x3; clear gr3
                  refine unhide hK _ _ (fun _ => unhide hSS _ (by repeat (first | exact unhide ba3 | exact unhide ba2 | exact unhide ba1 | exact Below.refl _ _ | refine Below.drew ?_ | refine below_add ?_ _))) (fun hS2 hc3 => ?_)
                  clear hK K
                  try simp only [Act.put, List.setIfInBounds_toArray, List.set_cons_zero, List.set_cons_succ, List.getElem_toArray, List.getElem_cons_succ, List.getElem_cons_zero]
                  refine Lw.take (i := 21) [22, 23] (by kernel_rfl) (by rfl) (by decide) rfl (by kernel_rfl) (by kernel_rfl) (by kernel_rfl) (fun _ _ _ h => h) (by assumption) (v := ?_) (Or.inl ⟨by rfl, ?_⟩) (by first | assumption | exact unhide hSS _ (unhide ba3)) (fun hc1 => ?_)
                  rotate_left
                  · (intro w hSw; (try dsimp only at hSw); go_simp; first | done | with_reducible rfl)
                  try simp only [Act.put, List.setIfInBounds_toArray, List.set_cons_zero, List.set_cons_succ, List.getElem_toArray, List.getElem_cons_succ, List.getElem_cons_zero]
                  refine Lw.take (i := 22) [23] (by kernel_rfl) (by rfl) (by decide) rfl (by kernel_rfl) (by kernel_rfl) (by kernel_rfl) (fun _ _ _ h => h) (by assumption) (v := ?_) (Or.inl ⟨by rfl, ?_⟩) (by first | assumption | exact unhide hSS _ (unhide ba3)) (fun hc1 => ?_)
                  rotate_left
                  · (intro w hSw; (try dsimp only at hSw); go_simp; first | done | with_reducible rfl)
                  try simp only [Act.put, List.setIfInBounds_toArray, List.set_cons_zero, List.set_cons_succ, List.getElem_toArray, List.getElem_cons_succ, List.getElem_cons_zero]
                  refine Lw.ready (rs := [23]) (by kernel_rfl) (by simp) (by assumption) (fun hc2 => ?_)
                  refine Nxt1.cons rfl (by kernel_rfl) hc2 (fun K hK => ?_) ?_
                  · -- operation 23
                    have fr := unhide hFF _ (unhide ba3)
                    have cc := unhide hSS _ (unhide ba3)
                    go_simp
                    refine unhide hK _ _ (fun h => absurd h (by decide)) (fun _ hc3 => ?_)
                    clear hK K
                    try simp only [Act.put, List.setIfInBounds_toArray, List.set_cons_zero, List.set_cons_succ, List.getElem_toArray, List.getElem_cons_succ, List.getElem_cons_zero]
                    refine Lw.done (by kernel_rfl) ?_ _
                    have f1 := unhide x3
                    rw [unhide fin] at f1
                    have P := hide ((unhide HLx).put1 (unhide ba3) (pr_es f1))
                    clear f1
                    go_wp2
                    go_ret
                    exact ⟨rfl, _, _, (unhide P).1, (unhide P).2.1, (Mv.of_below (unhide Bx)).trans (unhide P).2.2⟩
                  exact Nxt1.nil
                exact Nxt1.nil
              exact Nxt1.nil
            exact Nxt1.nil
          refine Nxt1.cons rfl (by kernel_rfl) hc2 (fun K hK => ?_) ?_
          · -- operation 12
            go_simp
            refine unhide hK _ _ (fun _ => unhide hSS _ (by repeat (first | exact unhide ba3 | exact unhide ba2 | exact unhide ba1 | exact Below.refl _ _ | refine Below.drew ?_ | refine below_add ?_ _))) (fun hS2 hc3 => ?_)
            clear hK K
            try simp only [Act.put, List.setIfInBounds_toArray, List.set_cons_zero, List.set_cons_succ, List.getElem_toArray, List.getElem_cons_succ, List.getElem_cons_zero]
            refine Lw.ready (rs := [8]) (by kernel_rfl) (by simp) (by assumption) (fun hc2 => ?_)
            refine Nxt1.cons rfl (by kernel_rfl) hc2 (fun K hK => ?_) ?_
            · -- operation 8
              refine step_app0 w5 rfl (some 66) rfl (.tmp 59) (.tmp 65) rfl (([] : List En)) _ rfl (by repeat (first | exact unhide ba3 | exact unhide ba2 | exact unhide ba1 | exact Below.refl _ _ | refine Below.drew ?_ | refine below_add ?_ _)) (by first | exact pr_lit w5.drew | exact (pr_lit w5.drew).next (below_new _ _) | exact pr_lit2 w5 _ _) _ _ _ rfl (by first | exact re_nil _ _ _ | exact unhide hA) (by first | exact fun _ => rfl | exact fun h => by cases h) (unhide zA) ?_
              intro v9 w9 x1 ba1 kp1; replace x1 := hide x1; replace ba1 := hide ba1; replace kp1 := hide kp1
              refine unhide hK _ _ (fun _ => unhide hSS _ (by repeat (first | exact unhide ba3 | exact unhide ba2 | exact unhide ba1 | exact Below.refl _ _ | refine Below.drew ?_ | refine below_add ?_ _))) (fun hS2 hc3 => ?_)
              clear hK K
              try simp only [Act.put, List.setIfInBounds_toArray, List.set_cons_zero, List.set_cons_succ, List.getElem_toArray, List.getElem_cons_succ, List.getElem_cons_zero]
              refine Lw.ready (rs := [13]) (by kernel_rfl) (by simp) (by assumption) (fun hc2 => ?_)
              refine Nxt1.cons rfl (by kernel_rfl) hc2 (fun K hK => ?_) ?_
              · -- operation 13
                refine step_new0 w5 rfl (some 71) rfl (.tmp 66) (.tmp 70) rfl v9 (([] : List En)) [(who, t)] 1 (0 + 1) rfl (by repeat (first | exact unhide ba3 | exact unhide ba2 | exact unhide ba1 | exact Below.refl _ _ | refine Below.drew ?_ | refine below_add ?_ _)) (by first | exact unhide x1 | exact (unhide x1).next (below_new _ _)) _ rfl (by first | exact heap_alloc_new _ _ | exact unhide kp1 _ _ (heap_d2a w5 _ _ _ _) (by omega) | exact unhide kp1 _ _ (heap_d2b w5 _ _ _ _) (by omega)) rfl (by rw [unhide lA]) (by decide) (unhide zB) ?_
                intro g10 cap10 w10 x2 ba2; replace x2 := hide x2; replace ba2 := hide ba2
                refine unhide hK _ _ (fun _ => unhide hSS _ (by repeat (first | exact unhide ba3 | exact unhide ba2 | exact unhide ba1 | exact Below.refl _ _ | refine Below.drew ?_ | refine below_add ?_ _))) (fun hS2 hc3 => ?_)
                clear hK K
                try simp only [Act.put, List.setIfInBounds_toArray, List.set_cons_zero, List.set_cons_succ, List.getElem_toArray, List.getElem_cons_succ, List.getElem_cons_zero]
                refine Lw.ready (rs := [20]) (by kernel_rfl) (by simp) (by assumption) (fun hc2 => ?_)
                refine Nxt1.cons rfl (by kernel_rfl) hc2 (fun K hK => ?_) ?_
                · -- operation 20
                  refine step_app_re rfl (.tmp 71) (.tmp 77) rfl w5.heap.size _ (([] : List En) ++ [(who, t)]) (([] : List En)) rfl (unhide x2) _ _ _ rfl (by first | exact re_nil _ _ _ | exact (unhide hD).next (unhide ba2) | (simp only [Nat.sub_self]; exact re_nil _ _ _)) (by first | exact fun _ => rfl | exact fun h => by cases h) (unhide zC) (unhide ba2).size ?_
                  intro v11 w11 x3 gr3; have ba3 := hide ((unhide ba2).trans (grown_below gr3 (unhide ba2).size (fun j hj => ((unhide x2).lt j hj).1))); obtain ⟨a11, n11, c11, rfl⟩ := pr_form x3; replace x3 := hide x3; clear gr3
                  refine unhide hK _ _ (fun _ => unhide hSS _ (by repeat (first | exact unhide ba3 | exact unhide ba2 | exact unhide ba1 | exact Below.refl _ _ | refine Below.drew ?_ | refine below_add ?_ _))) (fun hS2 hc3 => ?_)
                  clear hK K
                  try simp only [Act.put, List.setIfInBounds_toArray, List.set_cons_zero, List.set_cons_succ, List.getElem_toArray, List.getElem_cons_succ, List.getElem_cons_zero]
                  refine Lw.take (i := 21) [22, 23] (by kernel_rfl) (by rfl) (by decide) rfl (by kernel_rfl) (by kernel_rfl) (by kernel_rfl) (fun _ _ _ h => h) (by assumption) (v := ?_) (Or.inl ⟨by rfl, ?_⟩) (by first | assumption | exact unhide hSS _ (unhide ba3)) (fun hc1 => ?_)
                  rotate_left
                  · (intro w hSw; (try dsimp only at hSw); go_simp; first | done | with_reducible rfl)
                  try simp only [Act.put, List.setIfInBounds_toArray, List.set_cons_zero, List.set_cons_succ, List.getElem_toArray, List.getElem_cons_succ, List.getElem_cons_zero]
                  refine Lw.take (i := 22) [23] (by kernel_rfl) (by rfl) (by decide) rfl (by kernel_rfl) (by kernel_rfl) (by kernel_rfl) (fun _ _ _ h => h) (by assumption) (v := ?_) (Or.inl ⟨by rfl, ?_⟩) (by first | assumption | exact unhide hSS _ (unhide ba3)) (fun hc1 => ?_)
                  rotate_left
                  · (intro w hSw; (try dsimp only at hSw); go_simp; first | done | with_reducible rfl)
                  try simp only [Act.put, List.setIfInBounds_toArray, List.set_cons_zero, List.set_cons_succ, List.getElem_toArray, List.getElem_cons_succ, List.getElem_cons_zero]
                  refine Lw.ready (rs := [23]) (by kernel_rfl) (by simp) (by assumption) (fun hc2 => ?_)
                  refine Nxt1.cons rfl (by kernel_rfl) hc2 (fun K hK => ?_) ?_
                  · -- operation 23
                    have fr := unhide hFF _ (unhide ba3)
                    have cc := unhide hSS _ (unhide ba3)
                    go_simp
                    refine unhide hK _ _ (fun h => absurd h (by decide)) (fun _ hc3 => ?_)
                    clear hK K
                    try simp only [Act.put, List.setIfInBounds_toArray, List.set_cons_zero, List.set_cons_succ, List.getElem_toArray, List.getElem_cons_succ, List.getElem_cons_zero]
                    refine Lw.done (by kernel_rfl) ?_ _
                    have f1 := unhide x3
                    rw [unhide fin] at f1
                    have P := hide ((unhide HLx).put1 (unhide ba3) (pr_es f1))
                    clear f1
                    go_wp2
                    go_ret
                    exact ⟨rfl, _, _, (unhide P).1, (unhide P).2.1, (Mv.of_below (unhide Bx)).trans (unhide P).2.2⟩
                  exact Nxt1.nil
                exact Nxt1.nil
              exact Nxt1.nil
            exact Nxt1.nil
          exact Nxt1.nil
        refine Nxt1.cons rfl (by kernel_rfl) hc2 (fun K hK => ?_) ?_
        · -- operation 12
          go_simp
          refine unhide hK _ _ (fun _ => unhide hSS _ (by repeat (first | exact unhide ba3 | exact unhide ba2 | exact unhide ba1 | exact Below.refl _ _ | refine Below.drew ?_ | refine below_add ?_ _))) (fun hS2 hc3 => ?_)
          clear hK K
          try simp only [Act.put, List.setIfInBounds_toArray, List.set_cons_zero, List.set_cons_succ, List.getElem_toArray, List.getElem_cons_succ, List.getElem_cons_zero]
          refine Lw.ready (rs := [1]) (by kernel_rfl) (by simp) (by assumption) (fun hc2 => ?_)
          refine Nxt1.cons rfl (by kernel_rfl) hc2 (fun K hK => ?_) ?_
          · -- operation 1
            go_simp
            refine unhide hK _ _ (fun _ => unhide hSS _ (by repeat (first | exact unhide ba3 | exact unhide ba2 | exact unhide ba1 | exact Below.refl _ _ | refine Below.drew ?_ | refine below_add ?_ _))) (fun hS2 hc3 => ?_)
            clear hK K
            try simp only [Act.put, List.setIfInBounds_toArray, List.set_cons_zero, List.set_cons_succ, List.getElem_toArray, List.getElem_cons_succ, List.getElem_cons_zero]
            refine Lw.ready (rs := [8]) (by kernel_rfl) (by simp) (by assumption) (fun hc2 => ?_)
            refine Nxt1.cons rfl (by kernel_rfl) hc2 (fun K hK => ?_) ?_
            · -- operation 8
              refine step_app0 w5 rfl (some 66) rfl (.tmp 59) (.tmp 65) rfl (([] : List En)) _ rfl (by repeat (first | exact unhide ba3 | exact unhide ba2 | exact unhide ba1 | exact Below.refl _ _ | refine Below.drew ?_ | refine below_add ?_ _)) (by first | exact pr_lit w5.drew | exact (pr_lit w5.drew).next (below_new _ _) | exact pr_lit2 w5 _ _) _ _ _ rfl (by first | exact re_nil _ _ _ | exact unhide hA) (by first | exact fun _ => rfl | exact fun h => by cases h) (unhide zA) ?_
              intro v9 w9 x1 ba1 kp1; replace x1 := hide x1; replace ba1 := hide ba1; replace kp1 := hide kp1
              refine unhide hK _ _ (fun _ => unhide hSS _ (by repeat (first | exact unhide ba3 | exact unhide ba2 | exact unhide ba1 | exact Below.refl _ _ | refine Below.drew ?_ | refine below_add ?_ _))) (fun hS2 hc3 => ?_)
              clear hK K
              try simp only [Act.put, List.setIfInBounds_toArray, List.set_cons_zero, List.set_cons_succ, List.getElem_toArray, List.getElem_cons_succ, List.getElem_cons_zero]
              refine Lw.ready (rs := [13]) (by kernel_rfl) (by simp) (by assumption) (fun hc2 => ?_)
              refine Nxt1.cons rfl (by kernel_rfl) hc2 (fun K hK => ?_) ?_
              · -- operation 13
                refine step_new0 w5 rfl (some 71) rfl (.tmp 66) (.tmp 70) rfl v9 (([] : List En)) [(who, t)] 1 (0 + 1) rfl (by repeat (first | exact unhide ba3 | exact unhide ba2 | exact unhide ba1 | exact Below.refl _ _ | refine Below.drew ?_ | refine below_add ?_ _)) (by first | exact unhide x1 | exact (unhide x1).next (below_new _ _)) _ rfl (by first | exact heap_alloc_new _ _ | exact unhide kp1 _ _ (heap_d2a w5 _ _ _ _) (by omega) | exact unhide kp1 _ _ (heap_d2b w5 _ _ _ _) (by omega)) rfl (by rw [unhide lA]) (by decide) (unhide zB) ?_
                intro g10 cap10 w10 x2 ba2; replace x2 := hide x2; replace ba2 := hide ba2
                refine unhide hK _ _ (fun _ => unhide hSS _ (by repeat (first | exact unhide ba3 | exact unhide ba2 | exact unhide ba1 | exact Below.refl _ _ | refine Below.drew ?_ | refine below_add ?_ _))) (fun hS2 hc3 => ?_)
                clear hK K
                try simp only [Act.put, List.setIfInBounds_toArray, List.set_cons_zero, List.set_cons_succ, List.getElem_toArray, List.getElem_cons_succ, List.getElem_cons_zero]
                refine Lw.ready (rs := [20]) (by kernel_rfl) (by simp) (by assumption) (fun hc2 => ?_)
                refine Nxt1.cons rfl (by kernel_rfl) hc2 (fun K hK => ?_) ?_
                · -- operation 20
                  refine step_app_re rfl (.tmp 71) (.tmp 77) rfl w5.heap.size _ (([] : List En) ++ [(who, t)]) (([] : List En)) rfl (unhide x2) _ _ _ rfl (by first | exact re_nil _ _ _ | exact (unhide hD).next (unhide ba2) | (simp only [Nat.sub_self]; exact re_nil _ _ _)) (by first | exact fun _ => rfl | exact fun h => by cases h) (unhide zC) (unhide ba2).size ?_
                  intro v11 w11 x3 gr3; have ba3 := hide ((unhide ba2).trans (grown_below gr3 (unhide ba2).size (fun j hj => ((unhide x2).lt j hj).1))); obtain ⟨a11, n11, c11, rfl⟩ := pr_form x3; replace x3 := hide x3; clear gr3
                  refine unhide hK _ _ (fun _ => unhide hSS _ (by repeat (first | exact unhide ba3 | exact unhide ba2 | exact unhide ba1 | exact Below.refl _ _ | refine Below.drew ?_ | refine below_add ?_ _))) (fun hS2 hc3 => ?_)
                  clear hK K
                  try simp only [Act.put, List.setIfInBounds_toArray, List.set_cons_zero, List.set_cons_succ, List.getElem_toArray, List.getElem_cons_succ, List.getElem_cons_zero]
                  refine Lw.take (i := 21) [22, 23] (by kernel_rfl) (by rfl) (by decide) rfl (by kernel_rfl) (by kernel_rfl) (by kernel_rfl) (fun _ _ _ h => h) (by assumption) (v := ?_) (Or.inl ⟨by rfl, ?_⟩) (by first | assumption | exact unhide hSS _ (unhide ba3)) (fun hc1 => ?_)
                  rotate_left
                  · (intro w hSw; (try dsimp only at hSw); go_simp; first | done | with_reducible rfl)
                  try simp only [Act.put, List.setIfInBounds_toArray, List.set_cons_zero, List.set_cons_succ, List.getElem_toArray, List.getElem_cons_succ, List.getElem_cons_zero]
                  refine Lw.take (i := 22) [23] (by kernel_rfl) (by rfl) (by decide) rfl (by kernel_rfl) (by kernel_rfl) (by kernel_rfl) (fun _ _ _ h => h) (by assumption) (v := ?_) (Or.inl ⟨by rfl, ?_⟩) (by first | assumption | exact unhide hSS _ (unhide ba3)) (fun hc1 => ?_)
                  rotate_left
                  · (intro w hSw; (try dsimp only at hSw); go_simp; first | done | with_reducible rfl)
                  try simp only [Act.put, List.setIfInBounds_toArray, List.set_cons_zero, List.set_cons_succ, List.getElem_toArray, List.getElem_cons_succ, List.getElem_cons_zero]
                  refine Lw.ready (rs := [23]) (by kernel_rfl) (by simp) (by assumption) (fun hc2 => ?_)
                  refine Nxt1.cons rfl (by kernel_rfl) hc2 (fun K hK => ?_) ?_
                  · -- operation 23
                    have fr := unhide hFF _ (unhide ba3)
                    have cc := unhide hSS _ (unhide ba3)
                    go_simp
                    refine unhide hK _ _ (fun h => absurd h (by decide)) (fun _ hc3 => ?_)
                    clear hK K
                    try simp only [Act.put, List.setIfInBounds_toArray, List.set_cons_zero, List.set_cons_succ, List.getElem_toArray, List.getElem_cons_succ, List.getElem_cons_zero]
                    refine Lw.done (by kernel_rfl) ?_ _
                    have f1 := unhide x3
                    rw [unhide fin] at f1
                    have P := hide ((unhide HLx).put1 (unhide ba3) (pr_es f1))
                    clear f1
                    go_wp2
                    go_ret
                    exact ⟨rfl, _, _, (unhide P).1, (unhide P).2.1, (Mv.of_below (unhide Bx)).trans (unhide P).2.2⟩
                  exact Nxt1.nil
                exact Nxt1.nil
              exact Nxt1.nil
            exact Nxt1.nil
          exact Nxt1.nil
        exact Nxt1.nil
      · have q8 : 0 < cap := by omega
        obtain ⟨⟨h1, h2⟩, h3⟩ : (knownB m = true ∧ (m == 0) = false) ∧ (lookD who [] == 0) = true := by
          unfold okD at hk
          simpa using hk
        have HL := hide h
        have hd := hide hd
        have Ht := hide ht
        have Hh := hide hheld
        clear h hk ht hheld
        go_enter Tryz.func39, Tryz.ntmps39
        go_wp2_with fail
        refine (mode_any m _).mono ?_
        rw [h1]
        rintro e w ⟨rfl, rfl⟩
        go_wp2_with fail
        refine (rwaits_any _ (unhide HL) (by omega) who).mono ?_
        rintro e w ⟨rfl, rfl⟩
        have h4 : (lookD who [] != 0) = false := by unfold bne; rw [h3]; rfl
        clear h3
        generalize lookD who [] = z at h4 ⊢
        go_wp2_with fail
        refine (rholds_any _ (unhide HL) (by omega) who).mono ?_
        rw [unhide Hh]
        rintro e w ⟨rfl, rfl⟩
        clear h4
        go_wp2_with fail
        refine (rsup_any _ 2 2 [held, m] _ (seg2 w held m) (by decide)).mono ?_
        rw [show supL [held, m] = t from unhide Ht]
        rintro e w4 ⟨rfl, rfl⟩
        have B1 := hide (below_new w (.cells #[.int .i64 held, .int .i64 m] 3))
        generalize w.alloc (.cells #[.int .i64 held, .int .i64 m] 3) = wa at B1 ⊢
        have HL1 := hide ((unhide HL).next (unhide B1))
        have c1 := (unhide HL1).c1
        go_wp2_with fail
        refine (rfits_lane _ (unhide HL1) (by omega) who t).mono ?_
        rw [unhide hf]
        rintro e w5 ⟨rfl, b5⟩
        have B5 := hide (below_then (unhide B1) b5)
        have HL2 := hide ((unhide HL1).next b5)
        clear b5 c1
        have HLx := HL2
        have Bx := B5
        have hSS : Hid (∀ w', Below w5.heap.size w5 w' → w'.cell? ⟨b, 1, none⟩ = some (.slice (some ⟨g, 0, none⟩) 0 cap)) := fun w' k => ((unhide HLx).next k).c1
        have hFF : Hid (∀ w', Below w5.heap.size w5 w' → w'.frozen? ⟨b, 1, none⟩ = false) := fun w' k => ((unhide HLx).next k).free 1
        have hA : Hid (Re w5 _ (([] : List En))) := re_nil w5 none 0
        have hD : Hid (Re w5 _ (([] : List En))) := re_nil w5 none 0
        have lA : Hid ((([] : List En)).length = 0) := by show _ = _; rfl
        have zA : Hid ((([] : List En)).length ≤ 10000) := by have := unhide lA; show _ ≤ _; omega
        have zB : Hid (0 + 1 < 10000000) := by show _ < _; omega
        have zC : Hid ((([] : List En) ++ [(who, t)]).length + (([] : List En)).length ≤ 10000) := by show _ ≤ _; rw [List.length_append, unhide lA]; show 1 + 0 ≤ _; omega
        have fin : Hid (([] : List En) ++ [(who, t)] ++ [] = List.take 0 [] ++ (who, t) :: List.drop 0 []) := rfl
        go_wp2_with fail
        refine Lw.begin 23 (fun wz => wz.cell? ⟨b, 1, none⟩ = some (.slice (some ⟨g, 0, none⟩) 0 cap)) (by kernel_rfl) ?hS0 (fun hS1 hc0 => ?_)
        case hS0 => exact unhide hSS _ (by repeat (first | exact unhide ba3 | exact unhide ba2 | exact unhide ba1 | exact Below.refl _ _ | refine Below.drew ?_ | refine below_add ?_ _))
        refine Lw.take (i := 0) [21, 22, 23] (by kernel_rfl) (by rfl) (by decide) rfl (by kernel_rfl) (by kernel_rfl) (by kernel_rfl) (fun _ _ _ h => h) (by assumption) (v := ?_) (Or.inl ⟨by rfl, ?_⟩) (by first | assumption | exact unhide hSS _ (unhide ba3)) (fun hc1 => ?_)
        rotate_left
        · (intro w hSw; (try dsimp only at hSw); go_simp; first | done | with_reducible rfl)
        try simp only [Act.put, List.setIfInBounds_toArray, List.set_cons_zero, List.set_cons_succ, List.getElem_toArray, List.getElem_cons_succ, List.getElem_cons_zero]
        refine Lw.take (i := 2) [3, 4, 5, 7, 8, 13, 20, 23] (by kernel_rfl) (by rfl) (by decide) rfl (by kernel_rfl) (by kernel_rfl) (by kernel_rfl) (fun _ _ _ h => h) (by assumption) (v := ?_) (Or.inl ⟨by rfl, ?_⟩) (by first | assumption | exact unhide hSS _ (unhide ba3)) (fun hc1 => ?_)
        rotate_left
        · (intro w hSw; (try dsimp only at hSw); go_simp; first | done | with_reducible rfl)
        try simp only [Act.put, List.setIfInBounds_toArray, List.set_cons_zero, List.set_cons_succ, List.getElem_toArray, List.getElem_cons_succ, List.getElem_cons_zero]
        refine Lw.take (i := 3) [4, 5, 7, 8, 13, 20, 23] (by kernel_rfl) (by rfl) (by decide) rfl (by kernel_rfl) (by kernel_rfl) (by kernel_rfl) (fun _ _ _ h => h) (by assumption) (v := ?_) (Or.inl ⟨by rfl, ?_⟩) (by first | assumption | exact unhide hSS _ (unhide ba3)) (fun hc1 => ?_)
        rotate_left
        · (intro w hSw; (try dsimp only at hSw); go_simp; first | done | with_reducible rfl)
        try simp only [Act.put, List.setIfInBounds_toArray, List.set_cons_zero, List.set_cons_succ, List.getElem_toArray, List.getElem_cons_succ, List.getElem_cons_zero]
        refine Lw.take (i := 4) [5, 7, 8, 13, 20, 23] (by kernel_rfl) (by rfl) (by decide) rfl (by kernel_rfl) (by kernel_rfl) (by kernel_rfl) (fun _ _ _ h => h) (by assumption) (v := ?_) (Or.inl ⟨by rfl, ?_⟩) (by first | assumption | exact unhide hSS _ (unhide ba3)) (fun hc1 => ?_)
        rotate_left
        · (intro w hSw; (try dsimp only at hSw); go_simp; first | done | with_reducible rfl)
        try simp only [Act.put, List.setIfInBounds_toArray, List.set_cons_zero, List.set_cons_succ, List.getElem_toArray, List.getElem_cons_succ, List.getElem_cons_zero]
        refine Lw.take (i := 5) [7, 8, 13, 20, 23] (by kernel_rfl) (by rfl) (by decide) rfl (by kernel_rfl) (by kernel_rfl) (by kernel_rfl) (fun _ _ _ h => h) (by assumption) (v := ?_) (Or.inl ⟨by rfl, ?_⟩) (by first | assumption | exact unhide hSS _ (unhide ba3)) (fun hc1 => ?_)
        rotate_left
        · (intro w hSw; (try dsimp only at hSw); go_simp; first | done | with_reducible rfl)
        try simp only [Act.put, List.setIfInBounds_toArray, List.set_cons_zero, List.set_cons_succ, List.getElem_toArray, List.getElem_cons_succ, List.getElem_cons_zero]
        refine Lw.take (i := 6) [7, 8, 13, 20, 23] (by kernel_rfl) (by rfl) (by decide) rfl (by kernel_rfl) (by kernel_rfl) (by kernel_rfl) (fun _ _ _ h => h) (by assumption) (v := ?_) (Or.inl ⟨by rfl, ?_⟩) (by first | assumption | exact unhide hSS _ (unhide ba3)) (fun hc1 => ?_)
        rotate_left
        · (intro w hSw; (try dsimp only at hSw); go_simp; first | done | with_reducible rfl)
        try simp only [Act.put, List.setIfInBounds_toArray, List.set_cons_zero, List.set_cons_succ, List.getElem_toArray, List.getElem_cons_succ, List.getElem_cons_zero]
        refine Lw.take (i := 7) [8, 13, 20, 23] (by kernel_rfl) (by rfl) (by decide) rfl (by kernel_rfl) (by kernel_rfl) (by kernel_rfl) (fun _ _ _ h => h) (by assumption) (v := ?_) (Or.inl ⟨by rfl, ?_⟩) (by first | assumption | exact unhide hSS _ (unhide ba3)) (fun hc1 => ?_)
        rotate_left
        · (intro w hSw; (try dsimp only at hSw); go_simp; first | done | with_reducible rfl)
        try simp only [Act.put, List.setIfInBounds_toArray, List.set_cons_zero, List.set_cons_succ, List.getElem_toArray, List.getElem_cons_succ, List.getElem_cons_zero]
        refine Lw.take (i := 9) [11, 12, 13, 20, 23] (by kernel_rfl) (by rfl) (by decide) rfl (by kernel_rfl) (by kernel_rfl) (by kernel_rfl) (fun _ _ _ h => h) (by assumption) (v := ?_) (Or.inl ⟨by rfl, ?_⟩) (by first | assumption | exact unhide hSS _ (unhide ba3)) (fun hc1 => ?_)
        rotate_left
        · (intro w hSw; (try dsimp only at hSw); go_simp; first | done | with_reducible rfl)
        try simp only [Act.put, List.setIfInBounds_toArray, List.set_cons_zero, List.set_cons_succ, List.getElem_toArray, List.getElem_cons_succ, List.getElem_cons_zero]
        refine Lw.take (i := 10) [11, 12, 13, 20, 23] (by kernel_rfl) (by rfl) (by decide) rfl (by kernel_rfl) (by kernel_rfl) (by kernel_rfl) (fun _ _ _ h => h) (by assumption) (v := ?_) (Or.inl ⟨by rfl, ?_⟩) (by first | assumption | exact unhide hSS _ (unhide ba3)) (fun hc1 => ?_)
        rotate_left
        · (intro w hSw; (try dsimp only at hSw); go_simp; first | done | with_reducible rfl)
        try simp only [Act.put, List.setIfInBounds_toArray, List.set_cons_zero, List.set_cons_succ, List.getElem_toArray, List.getElem_cons_succ, List.getElem_cons_zero]
        refine Lw.take (i := 11) [12, 13, 20, 23] (by kernel_rfl) (by rfl) (by decide) rfl (by kernel_rfl) (by kernel_rfl) (by kernel_rfl) (fun _ _ _ h => h) (by assumption) (v := ?_) (Or.inl ⟨by rfl, ?_⟩) (by first | assumption | exact unhide hSS _ (unhide ba3)) (fun hc1 => ?_)
        rotate_left
        · (intro w hSw; (try dsimp only at hSw); go_simp; first | done | with_reducible rfl)
        try simp only [Act.put, List.setIfInBounds_toArray, List.set_cons_zero, List.set_cons_succ, List.getElem_toArray, List.getElem_cons_succ, List.getElem_cons_zero]
        refine Lw.take (i := 14) [15, 16, 17, 19, 20, 23] (by kernel_rfl) (by rfl) (by decide) rfl (by kernel_rfl) (by kernel_rfl) (by kernel_rfl) (fun _ _ _ h => h) (by assumption) (v := ?_) (Or.inl ⟨by rfl, ?_⟩) (by first | assumption | exact unhide hSS _ (unhide ba3)) (fun hc1 => ?_)
        rotate_left
        · (intro w hSw; (try dsimp only at hSw); go_simp; first | done | with_reducible rfl)
        try simp only [Act.put, List.setIfInBounds_toArray, List.set_cons_zero, List.set_cons_succ, List.getElem_toArray, List.getElem_cons_succ, List.getElem_cons_zero]
        refine Lw.take (i := 15) [16, 17, 19, 20, 23] (by kernel_rfl) (by rfl) (by decide) rfl (by kernel_rfl) (by kernel_rfl) (by kernel_rfl) (fun _ _ _ h => h) (by assumption) (v := ?_) (Or.inl ⟨by rfl, ?_⟩) (by first | assumption | exact unhide hSS _ (unhide ba3)) (fun hc1 => ?_)
        rotate_left
        · (intro w hSw; (try dsimp only at hSw); go_simp; first | done | with_reducible rfl)
        try simp only [Act.put, List.setIfInBounds_toArray, List.set_cons_zero, List.set_cons_succ, List.getElem_toArray, List.getElem_cons_succ, List.getElem_cons_zero]
        refine Lw.take (i := 16) [17, 19, 20, 23] (by kernel_rfl) (by rfl) (by decide) rfl (by kernel_rfl) (by kernel_rfl) (by kernel_rfl) (fun _ _ _ h => h) (by assumption) (v := ?_) (Or.inl ⟨by rfl, ?_⟩) (by first | assumption | exact unhide hSS _ (unhide ba3)) (fun hc1 => ?_)
        rotate_left
        · (intro w hSw; (try dsimp only at hSw); go_simp; first | done | with_reducible rfl)
        try simp only [Act.put, List.setIfInBounds_toArray, List.set_cons_zero, List.set_cons_succ, List.getElem_toArray, List.getElem_cons_succ, List.getElem_cons_zero]
        refine Lw.take (i := 17) [19, 20, 23] (by kernel_rfl) (by rfl) (by decide) rfl (by kernel_rfl) (by kernel_rfl) (by kernel_rfl) (fun _ _ _ h => h) (by assumption) (v := ?_) (Or.inl ⟨by rfl, ?_⟩) (by first | assumption | exact unhide hSS _ (unhide ba3)) (fun hc1 => ?_)
        rotate_left
        · (intro w hSw; (try dsimp only at hSw); go_simp; first | done | with_reducible rfl)
        try simp only [Act.put, List.setIfInBounds_toArray, List.set_cons_zero, List.set_cons_succ, List.getElem_toArray, List.getElem_cons_succ, List.getElem_cons_zero]
        refine Lw.take (i := 18) [19, 20, 23] (by kernel_rfl) (by rfl) (by decide) rfl (by kernel_rfl) (by kernel_rfl) (by kernel_rfl) (fun _ _ _ h => h) (by assumption) (v := ?_) (Or.inl ⟨by rfl, ?_⟩) (by first | assumption | exact unhide hSS _ (unhide ba3)) (fun hc1 => ?_)
        rotate_left
        · (intro w hSw; (try dsimp only at hSw); go_simp; first | done | with_reducible rfl)
        try simp only [Act.put, List.setIfInBounds_toArray, List.set_cons_zero, List.set_cons_succ, List.getElem_toArray, List.getElem_cons_succ, List.getElem_cons_zero]
        refine Lw.take (i := 19) [20, 23] (by kernel_rfl) (by rfl) (by decide) rfl (by kernel_rfl) (by kernel_rfl) (by kernel_rfl) (fun _ _ _ h => h) (by assumption) (v := ?_) (Or.inl ⟨by rfl, ?_⟩) (by first | assumption | exact unhide hSS _ (unhide ba3)) (fun hc1 => ?_)
        rotate_left
        · (intro w hSw; (try dsimp only at hSw); go_simp; first | done | with_reducible rfl)
        try simp only [Act.put, List.setIfInBounds_toArray, List.set_cons_zero, List.set_cons_succ, List.getElem_toArray, List.getElem_cons_succ, List.getElem_cons_zero]
        refine Lw.ready (rs := [1, 12]) (by kernel_rfl) (by simp) (by assumption) (fun hc2 => ?_)
        refine Nxt1.cons rfl (by kernel_rfl) hc2 (fun K hK => ?_) ?_
        · -- operation 1
          go_simp
          refine unhide hK _ _ (fun _ => unhide hSS _ (by repeat (first | exact unhide ba3 | exact unhide ba2 | exact unhide ba1 | exact Below.refl _ _ | refine Below.drew ?_ | refine below_add ?_ _))) (fun hS2 hc3 => ?_)
          clear hK K
          try simp only [Act.put, List.setIfInBounds_toArray, List.set_cons_zero, List.set_cons_succ, List.getElem_toArray, List.getElem_cons_succ, List.getElem_cons_zero]
          refine Lw.ready (rs := [8, 12]) (by kernel_rfl) (by simp) (by assumption) (fun hc2 => ?_)
          refine Nxt1.cons rfl (by kernel_rfl) hc2 (fun K hK => ?_) ?_
          · -- operation 8
            refine step_app0 w5 rfl (some 66) rfl (.tmp 59) (.tmp 65) rfl (([] : List En)) _ rfl (by repeat (first | exact unhide ba3 | exact unhide ba2 | exact unhide ba1 | exact Below.refl _ _ | refine Below.drew ?_ | refine below_add ?_ _)) (by first | exact pr_lit w5.drew | exact (pr_lit w5.drew).next (below_new _ _) | exact pr_lit2 w5 _ _) _ _ _ rfl (by first | exact re_nil _ _ _ | exact unhide hA) (by first | exact fun _ => rfl | exact fun h => by cases h) (unhide zA) ?_
            intro v9 w9 x1 ba1 kp1; replace x1 := hide x1; replace ba1 := hide ba1; replace kp1 := hide kp1
            refine unhide hK _ _ (fun _ => unhide hSS _ (by repeat (first | exact unhide ba3 | exact unhide ba2 | exact unhide ba1 | exact Below.refl _ _ | refine Below.drew ?_ | refine below_add ?_ _))) (fun hS2 hc3 => ?_)
            clear hK K
            try simp only [Act.put, List.setIfInBounds_toArray, List.set_cons_zero, List.set_cons_succ, List.getElem_toArray, List.getElem_cons_succ, List.getElem_cons_zero]
            refine Lw.ready (rs := [12]) (by kernel_rfl) (by simp) (by assumption) (fun hc2 => ?_)
            refine Nxt1.cons rfl (by kernel_rfl) hc2 (fun K hK => ?_) ?_
            · -- operation 12
              go_simp
              refine unhide hK _ _ (fun _ => unhide hSS _ (by repeat (first | exact unhide ba3 | exact unhide ba2 | exact unhide ba1 | exact Below.refl _ _ | refine Below.drew ?_ | refine below_add ?_ _))) (fun hS2 hc3 => ?_)
              clear hK K
              try simp only [Act.put, List.setIfInBounds_toArray, List.set_cons_zero, List.set_cons_succ, List.getElem_toArray, List.getElem_cons_succ, List.getElem_cons_zero]
              refine Lw.ready (rs := [13]) (by kernel_rfl) (by simp) (by assumption) (fun hc2 => ?_)
              refine Nxt1.cons rfl (by kernel_rfl) hc2 (fun K hK => ?_) ?_
              · -- operation 13
                refine step_new0 w5 rfl (some 71) rfl (.tmp 66) (.tmp 70) rfl v9 (([] : List En)) [(who, t)] 1 (0 + 1) rfl (by repeat (first | exact unhide ba3 | exact unhide ba2 | exact unhide ba1 | exact Below.refl _ _ | refine Below.drew ?_ | refine below_add ?_ _)) (by first | exact unhide x1 | exact (unhide x1).next (below_new _ _)) _ rfl (by first | exact heap_alloc_new _ _ | exact unhide kp1 _ _ (heap_d2a w5 _ _ _ _) (by omega) | exact unhide kp1 _ _ (heap_d2b w5 _ _ _ _) (by omega)) rfl (by rw [unhide lA]) (by decide) (unhide zB) ?_
                intro g10 cap10 w10 x2 ba2; replace x2 := hide x2; replace ba2 := hide ba2
                refine unhide hK _ _ (fun _ => unhide hSS _ (by repeat (first | exact unhide ba3 | exact unhide ba2 | exact unhide ba1 | exact Below.refl _ _ | refine Below.drew ?_ | refine below_add ?_ _))) (fun hS2 hc3 => ?_)
                clear hK K
                try simp only [Act.put, List.setIfInBounds_toArray, List.set_cons_zero, List.set_cons_succ, List.getElem_toArray, List.getElem_cons_succ, List.getElem_cons_zero]
                refine Lw.ready (rs := [20]) (by kernel_rfl) (by simp) (by assumption) (fun hc2 => ?_)
                refine Nxt1.cons rfl (by kernel_rfl) hc2 (fun K hK => ?_) ?_
                · -- operation 20
                  refine step_app_re rfl (.tmp 71) (.tmp 77) rfl w5.heap.size _ (([] : List En) ++ [(who, t)]) (([] : List En)) rfl (unhide x2) _ _ _ rfl (by first | exact re_nil _ _ _ | exact (unhide hD).next (unhide ba2) | (simp only [Nat.sub_self]; exact re_nil _ _ _)) (by first | exact fun _ => rfl | exact fun h => by cases h) (unhide zC) (unhide ba2).size ?_
                  intro v11 w11 x3 gr3; have ba3 := hide ((unhide ba2).trans (grown_below gr3 (unhide ba2).size (fun j hj => ((unhide x2).lt j hj).1))); obtain ⟨a11, n11, c11, rfl⟩ := pr_form x3; replace x3 := hide x3; clear gr3
                  refine unhide hK _ _ (fun _ => unhide hSS _ (by repeat (first | exact unhide ba3 | exact unhide ba2 | exact unhide ba1 | exact Below.refl _ _ | refine Below.drew ?_ | refine below_add ?_ _))) (fun hS2 hc3 => ?_)
                  clear hK K
                  try simp only [Act.put, List.setIfInBounds_toArray, List.set_cons_zero, List.set_cons_succ, List.getElem_toArray, List.getElem_cons_succ, List.getElem_cons_zero]
                  refine Lw.take (i := 21) [22, 23] (by kernel_rfl) (by rfl) (by decide) rfl (by kernel_rfl) (by kernel_rfl) (by kernel_rfl) (fun _ _ _ h => h) (by assumption) (v := ?_) (Or.inl ⟨by rfl, ?_⟩) (by first | assumption | exact unhide hSS _ (unhide ba3)) (fun hc1 => ?_)
                  rotate_left
                  · (intro w hSw; (try dsimp only at hSw); go_simp; first | done | with_reducible rfl)
                  try simp only [Act.put, List.setIfInBounds_toArray, List.set_cons_zero, List.set_cons_succ, List.getElem_toArray, List.getElem_cons_succ, List.getElem_cons_zero]
                  refine Lw.take (i := 22) [23] (by kernel_rfl) (by rfl) (by decide) rfl (by kernel_rfl) (by kernel_rfl) (by kernel_rfl) (fun _ _ _ h => h) (by assumption) (v := ?_) (Or.inl ⟨by rfl, ?_⟩) (by first | assumption | exact unhide hSS _ (unhide ba3)) (fun hc1 => ?_)
                  rotate_left
                  · (intro w hSw; (try dsimp only at hSw); go_simp; first | done | with_reducible rfl)
                  try simp only [Act.put, List.setIfInBounds_toArray, List.set_cons_zero, List.set_cons_succ, List.getElem_toArray, List.getElem_cons_succ, List.getElem_cons_zero]
                  refine Lw.ready (rs := [23]) (by kernel_rfl) (by simp) (by assumption) (fun hc2 => ?_)
                  refine Nxt1.cons rfl (by kernel_rfl) hc2 (fun K hK => ?_) ?_
                  · -- operation 23
                    have fr := unhide hFF _ (unhide ba3)
                    have cc := unhide hSS _ (unhide ba3)
                    go_simp
                    refine unhide hK _ _ (fun h => absurd h (by decide)) (fun _ hc3 => ?_)
                    clear hK K
                    try simp only [Act.put, List.setIfInBounds_toArray, List.set_cons_zero, List.set_cons_succ, List.getElem_toArray, List.getElem_cons_succ, List.getElem_cons_zero]
                    refine Lw.done (by kernel_rfl) ?_ _
                    have f1 := unhide x3
                    rw [unhide fin] at f1
                    have P := hide ((unhide HLx).put1 (unhide ba3) (pr_es f1))
                    clear f1
                    go_wp2
                    go_ret
                    exact ⟨rfl, _, _, (unhide P).1, (unhide P).2.1, (Mv.of_below (unhide Bx)).trans (unhide P).2.2⟩
                  exact Nxt1.nil
                exact Nxt1.nil
              exact Nxt1.nil
            exact Nxt1.nil
          refine Nxt1.cons rfl (by kernel_rfl) hc2 (fun K hK => ?_) ?_
          · -- operation 12
            go_simp
            refine unhide hK _ _ (fun _ => unhide hSS _ (by repeat (first | exact unhide ba3 | exact unhide ba2 | exact unhide ba1 | exact Below.refl _ _ | refine Below.drew ?_ | refine below_add ?_ _))) (fun hS2 hc3 => ?_)
            clear hK K
            try simp only [Act.put, List.setIfInBounds_toArray, List.set_cons_zero, List.set_cons_succ, List.getElem_toArray, List.getElem_cons_succ, List.getElem_cons_zero]
            refine Lw.ready (rs := [8]) (by kernel_rfl) (by simp) (by assumption) (fun hc2 => ?_)
            refine Nxt1.cons rfl (by kernel_rfl) hc2 (fun K hK => ?_) ?_
            · -- operation 8
              refine step_app0 w5 rfl (some 66) rfl (.tmp 59) (.tmp 65) rfl (([] : List En)) _ rfl (by repeat (first | exact unhide ba3 | exact unhide ba2 | exact unhide ba1 | exact Below.refl _ _ | refine Below.drew ?_ | refine below_add ?_ _)) (by first | exact pr_lit w5.drew | exact (pr_lit w5.drew).next (below_new _ _) | exact pr_lit2 w5 _ _) _ _ _ rfl (by first | exact re_nil _ _ _ | exact unhide hA) (by first | exact fun _ => rfl | exact fun h => by cases h) (unhide zA) ?_
              intro v9 w9 x1 ba1 kp1; replace x1 := hide x1; replace ba1 := hide ba1; replace kp1 := hide kp1
              refine unhide hK _ _ (fun _ => unhide hSS _ (by repeat (first | exact unhide ba3 | exact unhide ba2 | exact unhide ba1 | exact Below.refl _ _ | refine Below.drew ?_ | refine below_add ?_ _))) (fun hS2 hc3 => ?_)
              clear hK K
              try simp only [Act.put, List.setIfInBounds_toArray, List.set_cons_zero, List.set_cons_succ, List.getElem_toArray, List.getElem_cons_succ, List.getElem_cons_zero]
              refine Lw.ready (rs := [13]) (by kernel_rfl) (by simp) (by assumption) (fun hc2 => ?_)
              refine Nxt1.cons rfl (by kernel_rfl) hc2 (fun K hK => ?_) ?_
              · -- operation 13
                refine step_new0 w5 rfl (some 71) rfl (.tmp 66) (.tmp 70) rfl v9 (([] : List En)) [(who, t)] 1 (0 + 1) rfl (by repeat (first | exact unhide ba3 | exact unhide ba2 | exact unhide ba1 | exact Below.refl _ _ | refine Below.drew ?_ | refine below_add ?_ _)) (by first | exact unhide x1 | exact (unhide x1).next (below_new _ _)) _ rfl (by first | exact heap_alloc_new _ _ | exact unhide kp1 _ _ (heap_d2a w5 _ _ _ _) (by omega) | exact unhide kp1 _ _ (heap_d2b w5 _ _ _ _) (by omega)) rfl (by rw [unhide lA]) (by decide) (unhide zB) ?_
                intro g10 cap10 w10 x2 ba2; replace x2 := hide x2; replace ba2 := hide ba2
                refine unhide hK _ _ (fun _ => unhide hSS _ (by repeat (first | exact unhide ba3 | exact unhide ba2 | exact unhide ba1 | exact Below.refl _ _ | refine Below.drew ?_ | refine below_add ?_ _))) (fun hS2 hc3 => ?_)
                clear hK K
                try simp only [Act.put, List.setIfInBounds_toArray, List.set_cons_zero, List.set_cons_succ, List.getElem_toArray, List.getElem_cons_succ, List.getElem_cons_zero]
                refine Lw.ready (rs := [20]) (by kernel_rfl) (by simp) (by assumption) (fun hc2 => ?_)
                refine Nxt1.cons rfl (by kernel_rfl) hc2 (fun K hK => ?_) ?_
                · -- operation 20
                  refine step_app_re rfl (.tmp 71) (.tmp 77) rfl w5.heap.size _ (([] : List En) ++ [(who, t)]) (([] : List En)) rfl (unhide x2) _ _ _ rfl (by first | exact re_nil _ _ _ | exact (unhide hD).next (unhide ba2) | (simp only [Nat.sub_self]; exact re_nil _ _ _)) (by first | exact fun _ => rfl | exact fun h => by cases h) (unhide zC) (unhide ba2).size ?_
                  intro v11 w11 x3 gr3; have ba3 := hide ((unhide ba2).trans (grown_below gr3 (unhide ba2).size (fun j hj => ((unhide x2).lt j hj).1))); obtain ⟨a11, n11, c11, rfl⟩ := pr_form x3; replace x3 := hide x3; clear gr3
                  refine unhide hK _ _ (fun _ => unhide hSS _ (by repeat (first | exact unhide ba3 | exact unhide ba2 | exact unhide ba1 | exact Below.refl _ _ | refine Below.drew ?_ | refine below_add ?_ _))) (fun hS2 hc3 => ?_)
                  clear hK K
                  try simp only [Act.put, List.setIfInBounds_toArray, List.set_cons_zero, List.set_cons_succ, List.getElem_toArray, List.getElem_cons_succ, List.getElem_cons_zero]
                  refine Lw.take (i := 21) [22, 23] (by kernel_rfl) (by rfl) (by decide) rfl (by kernel_rfl) (by kernel_rfl) (by kernel_rfl) (fun _ _ _ h => h) (by assumption) (v := ?_) (Or.inl ⟨by rfl, ?_⟩) (by first | assumption | exact unhide hSS _ (unhide ba3)) (fun hc1 => ?_)
                  rotate_left
                  · (intro w hSw; (try dsimp only at hSw); go_simp; first | done | with_reducible rfl)
                  try simp only [Act.put, List.setIfInBounds_toArray, List.set_cons_zero, List.set_cons_succ, List.getElem_toArray, List.getElem_cons_succ, List.getElem_cons_zero]
                  refine Lw.take (i := 22) [23] (by kernel_rfl) (by rfl) (by decide) rfl (by kernel_rfl) (by kernel_rfl) (by kernel_rfl) (fun _ _ _ h => h) (by assumption) (v := ?_) (Or.inl ⟨by rfl, ?_⟩) (by first | assumption | exact unhide hSS _ (unhide ba3)) (fun hc1 => ?_)
                  rotate_left
                  · (intro w hSw; (try dsimp only at hSw); go_simp; first | done | with_reducible rfl)
                  try simp only [Act.put, List.setIfInBounds_toArray, List.set_cons_zero, List.set_cons_succ, List.getElem_toArray, List.getElem_cons_succ, List.getElem_cons_zero]
                  refine Lw.ready (rs := [23]) (by kernel_rfl) (by simp) (by assumption) (fun hc2 => ?_)
                  refine Nxt1.cons rfl (by kernel_rfl) hc2 (fun K hK => ?_) ?_
                  · -- operation 23
                    have fr := unhide hFF _ (unhide ba3)
                    have cc := unhide hSS _ (unhide ba3)
                    go_simp
                    refine unhide hK _ _ (fun h => absurd h (by decide)) (fun _ hc3 => ?_)
                    clear hK K
                    try simp only [Act.put, List.setIfInBounds_toArray, List.set_cons_zero, List.set_cons_succ, List.getElem_toArray, List.getElem_cons_succ, List.getElem_cons_zero]
                    refine Lw.done (by kernel_rfl) ?_ _
                    have f1 := unhide x3
                    rw [unhide fin] at f1
                    have P := hide ((unhide HLx).put1 (unhide ba3) (pr_es f1))
                    clear f1
                    go_wp2
                    go_ret
                    exact ⟨rfl, _, _, (unhide P).1, (unhide P).2.1, (Mv.of_below (unhide Bx)).trans (unhide P).2.2⟩
                  exact Nxt1.nil
                exact Nxt1.nil
              exact Nxt1.nil
            exact Nxt1.nil
          exact Nxt1.nil
        refine Nxt1.cons rfl (by kernel_rfl) hc2 (fun K hK => ?_) ?_
        · -- operation 12
          go_simp
          refine unhide hK _ _ (fun _ => unhide hSS _ (by repeat (first | exact unhide ba3 | exact unhide ba2 | exact unhide ba1 | exact Below.refl _ _ | refine Below.drew ?_ | refine below_add ?_ _))) (fun hS2 hc3 => ?_)
          clear hK K
          try simp only [Act.put, List.setIfInBounds_toArray, List.set_cons_zero, List.set_cons_succ, List.getElem_toArray, List.getElem_cons_succ, List.getElem_cons_zero]
          refine Lw.ready (rs := [1]) (by kernel_rfl) (by simp) (by assumption) (fun hc2 => ?_)
          refine Nxt1.cons rfl (by kernel_rfl) hc2 (fun K hK => ?_) ?_
          · -- operation 1
            go_simp
            refine unhide hK _ _ (fun _ => unhide hSS _ (by repeat (first | exact unhide ba3 | exact unhide ba2 | exact unhide ba1 | exact Below.refl _ _ | refine Below.drew ?_ | refine below_add ?_ _))) (fun hS2 hc3 => ?_)
            clear hK K
            try simp only [Act.put, List.setIfInBounds_toArray, List.set_cons_zero, List.set_cons_succ, List.getElem_toArray, List.getElem_cons_succ, List.getElem_cons_zero]
            refine Lw.ready (rs := [8]) (by kernel_rfl) (by simp) (by assumption) (fun hc2 => ?_)
            refine Nxt1.cons rfl (by kernel_rfl) hc2 (fun K hK => ?_) ?_
            · -- operation 8
              refine step_app0 w5 rfl (some 66) rfl (.tmp 59) (.tmp 65) rfl (([] : List En)) _ rfl (by repeat (first | exact unhide ba3 | exact unhide ba2 | exact unhide ba1 | exact Below.refl _ _ | refine Below.drew ?_ | refine below_add ?_ _)) (by first | exact pr_lit w5.drew | exact (pr_lit w5.drew).next (below_new _ _) | exact pr_lit2 w5 _ _) _ _ _ rfl (by first | exact re_nil _ _ _ | exact unhide hA) (by first | exact fun _ => rfl | exact fun h => by cases h) (unhide zA) ?_
              intro v9 w9 x1 ba1 kp1; replace x1 := hide x1; replace ba1 := hide ba1; replace kp1 := hide kp1
              refine unhide hK _ _ (fun _ => unhide hSS _ (by repeat (first | exact unhide ba3 | exact unhide ba2 | exact unhide ba1 | exact Below.refl _ _ | refine Below.drew ?_ | refine below_add ?_ _))) (fun hS2 hc3 => ?_)
              clear hK K
              try simp only [Act.put, List.setIfInBounds_toArray, List.set_cons_zero, List.set_cons_succ, List.getElem_toArray, List.getElem_cons_succ, List.getElem_cons_zero]
              refine Lw.ready (rs := [13]) (by kernel_rfl) (by simp) (by assumption) (fun hc2 => ?_)
              refine Nxt1.cons rfl (by kernel_rfl) hc2 (fun K hK => ?_) ?_
              · -- operation 13
                refine step_new0 w5 rfl (some 71) rfl (.tmp 66) (.tmp 70) rfl v9 (([] : List En)) [(who, t)] 1 (0 + 1) rfl (by repeat (first | exact unhide ba3 | exact unhide ba2 | exact unhide ba1 | exact Below.refl _ _ | refine Below.drew ?_ | refine below_add ?_ _)) (by first | exact unhide x1 | exact (unhide x1).next (below_new _ _)) _ rfl (by first | exact heap_alloc_new _ _ | exact unhide kp1 _ _ (heap_d2a w5 _ _ _ _) (by omega) | exact unhide kp1 _ _ (heap_d2b w5 _ _ _ _) (by omega)) rfl (by rw [unhide lA]) (by decide) (unhide zB) ?_
                intro g10 cap10 w10 x2 ba2; replace x2 := hide x2; replace ba2 := hide ba2
                refine unhide hK _ _ (fun _ => unhide hSS _ (by repeat (first | exact unhide ba3 | exact unhide ba2 | exact unhide ba1 | exact Below.refl _ _ | refine Below.drew ?_ | refine below_add ?_ _))) (fun hS2 hc3 => ?_)
                clear hK K
                try simp only [Act.put, List.setIfInBounds_toArray, List.set_cons_zero, List.set_cons_succ, List.getElem_toArray, List.getElem_cons_succ, List.getElem_cons_zero]
                refine Lw.ready (rs := [20]) (by kernel_rfl) (by simp) (by assumption) (fun hc2 => ?_)
                refine Nxt1.cons rfl (by kernel_rfl) hc2 (fun K hK => ?_) ?_
                · -- operation 20
                  refine step_app_re rfl (.tmp 71) (.tmp 77) rfl w5.heap.size _ (([] : List En) ++ [(who, t)]) (([] : List En)) rfl (unhide x2) _ _ _ rfl (by first | exact re_nil _ _ _ | exact (unhide hD).next (unhide ba2) | (simp only [Nat.sub_self]; exact re_nil _ _ _)) (by first | exact fun _ => rfl | exact fun h => by cases h) (unhide zC) (unhide ba2).size ?_
                  intro v11 w11 x3 gr3; have ba3 := hide ((unhide ba2).trans (grown_below gr3 (unhide ba2).size (fun j hj => ((unhide x2).lt j hj).1))); obtain ⟨a11, n11, c11, rfl⟩ := pr_form x3; replace x3 := hide x3; clear gr3
                  refine unhide hK _ _ (fun _ => unhide hSS _ (by repeat (first | exact unhide ba3 | exact unhide ba2 | exact unhide ba1 | exact Below.refl _ _ | refine Below.drew ?_ | refine below_add ?_ _))) (fun hS2 hc3 => ?_)
                  clear hK K
                  try simp only [Act.put, List.setIfInBounds_toArray, List.set_cons_zero, List.set_cons_succ, List.getElem_toArray, List.getElem_cons_succ, List.getElem_cons_zero]
                  refine Lw.take (i := 21) [22, 23] (by kernel_rfl) (by rfl) (by decide) rfl (by kernel_rfl) (by kernel_rfl) (by kernel_rfl) (fun _ _ _ h => h) (by assumption) (v := ?_) (Or.inl ⟨by rfl, ?_⟩) (by first | assumption | exact unhide hSS _ (unhide ba3)) (fun hc1 => ?_)
                  rotate_left
                  · (intro w hSw; (try dsimp only at hSw); go_simp; first | done | with_reducible rfl)
                  try simp only [Act.put, List.setIfInBounds_toArray, List.set_cons_zero, List.set_cons_succ, List.getElem_toArray, List.getElem_cons_succ, List.getElem_cons_zero]
                  refine Lw.take (i := 22) [23] (by kernel_rfl) (by rfl) (by decide) rfl (by kernel_rfl) (by kernel_rfl) (by kernel_rfl) (fun _ _ _ h => h) (by assumption) (v := ?_) (Or.inl ⟨by rfl, ?_⟩) (by first | assumption | exact unhide hSS _ (unhide ba3)) (fun hc1 => ?_)
                  rotate_left
                  · (intro w hSw; (try dsimp only at hSw); go_simp; first | done | with_reducible rfl)
                  try simp only [Act.put, List.setIfInBounds_toArray, List.set_cons_zero, List.set_cons_succ, List.getElem_toArray, List.getElem_cons_succ, List.getElem_cons_zero]
                  refine Lw.ready (rs := [23]) (by kernel_rfl) (by simp) (by assumption) (fun hc2 => ?_)
                  refine Nxt1.cons rfl (by kernel_rfl) hc2 (fun K hK => ?_) ?_
                  · -- operation 23
                    have fr := unhide hFF _ (unhide ba3)
                    have cc := unhide hSS _ (unhide ba3)
                    go_simp
                    refine unhide hK _ _ (fun h => absurd h (by decide)) (fun _ hc3 => ?_)
                    clear hK K
                    try simp only [Act.put, List.setIfInBounds_toArray, List.set_cons_zero, List.set_cons_succ, List.getElem_toArray, List.getElem_cons_succ, List.getElem_cons_zero]
                    refine Lw.done (by kernel_rfl) ?_ _
                    have f1 := unhide x3
                    rw [unhide fin] at f1
                    have P := hide ((unhide HLx).put1 (unhide ba3) (pr_es f1))
                    clear f1
                    go_wp2
                    go_ret
                    exact ⟨rfl, _, _, (unhide P).1, (unhide P).2.1, (Mv.of_below (unhide Bx)).trans (unhide P).2.2⟩
                  exact Nxt1.nil
                exact Nxt1.nil
              exact Nxt1.nil
            exact Nxt1.nil
          exact Nxt1.nil
        exact Nxt1.nil
    · have q6 : ((Q.length : Int) == 0) = false := beq_eq_false_iff_ne.2 (by omega)
      by_cases q9 : cap = Q.length
      · obtain rfl : cap = Q.length := q9
        have q7 : Q.length ≤ Q.length := Nat.le_refl _
        obtain ⟨⟨h1, h2⟩, h3⟩ : (knownB m = true ∧ (m == 0) = false) ∧ (lookD who Q == 0) = true := by
          unfold okD at hk
          simpa using hk
        have HL := hide h
        have hd := hide hd
        have Ht := hide ht
        have Hh := hide hheld
        clear h hk ht hheld
        go_enter Tryz.func39, Tryz.ntmps39
        go_wp2_with fail
        refine (mode_any m _).mono ?_
        rw [h1]
        rintro e w ⟨rfl, rfl⟩
        go_wp2_with fail
        refine (rwaits_any _ (unhide HL) (by omega) who).mono ?_
        rintro e w ⟨rfl, rfl⟩
        have h4 : (lookD who Q != 0) = false := by unfold bne; rw [h3]; rfl
        have h5 := hide h3
        clear h3
        generalize lookD who Q = z at h4 ⊢
        go_wp2_with fail
        refine (rholds_any _ (unhide HL) (by omega) who).mono ?_
        rw [unhide Hh]
        rintro e w ⟨rfl, rfl⟩
        clear h4
        go_wp2_with fail
        refine (rsup_any _ 2 2 [held, m] _ (seg2 w held m) (by decide)).mono ?_
        rw [show supL [held, m] = t from unhide Ht]
        rintro e w4 ⟨rfl, rfl⟩
        have B1 := hide (below_new w (.cells #[.int .i64 held, .int .i64 m] 3))
        generalize w.alloc (.cells #[.int .i64 held, .int .i64 m] 3) = wa at B1 ⊢
        have HL1 := hide ((unhide HL).next (unhide B1))
        have c1 := (unhide HL1).c1
        have re1 := hide (unhide HL1).qr
        have HLx := HL1
        have Bx := B1
        have hSS : Hid (∀ w', Below wa.heap.size wa w' → w'.cell? ⟨b, 1, none⟩ = some (.slice (some ⟨g, 0, none⟩) Q.length Q.length)) := fun w' k => ((unhide HLx).next k).c1
        have hFF : Hid (∀ w', Below wa.heap.size wa w' → w'.frozen? ⟨b, 1, none⟩ = false) := fun w' k => ((unhide HLx).next k).free 1
        have hA : Hid (Re wa _ (Q.take Q.length)) := re_take (unhide re1) Q.length Q.length (Nat.le_refl _)
        have hD : Hid (Re wa _ (([] : List En))) := re_nil wa none 0
        have lA : Hid ((Q.take Q.length).length = Q.length) := by show _ = _; rw [List.length_take]; omega
        have zA : Hid ((Q.take Q.length).length ≤ 10000) := by have := unhide lA; show _ ≤ _; omega
        have zB : Hid (Q.length + 1 < 10000000) := by show _ < _; omega
        have zC : Hid ((Q.take Q.length ++ [(who, t)]).length + (([] : List En)).length ≤ 10000) := by show _ ≤ _; rw [List.length_append, unhide lA]; simp; omega
        have fin : Hid (Q.take Q.length ++ [(who, t)] ++ [] = Q.take Q.length ++ (who, t) :: Q.drop Q.length) := by show _ = _; simp
        go_wp2_with fail
        refine Lw.begin 23 (fun wz => wz.cell? ⟨b, 1, none⟩ = some (.slice (some ⟨g, 0, none⟩) Q.length Q.length)) (by kernel_rfl) ?hS0 (fun hS1 hc0 => ?_)
        case hS0 => exact unhide hSS _ (by repeat (first | exact unhide ba3 | exact unhide ba2 | exact unhide ba1 | exact Below.refl _ _ | refine Below.drew ?_ | refine below_add ?_ _))
        refine Lw.take (i := 0) [21, 22, 23] (by kernel_rfl) (by rfl) (by decide) rfl (by kernel_rfl) (by kernel_rfl) (by kernel_rfl) (fun _ _ _ h => h) (by assumption) (v := ?_) (Or.inl ⟨by rfl, ?_⟩) (by first | assumption | exact unhide hSS _ (unhide ba3)) (fun hc1 => ?_)
        rotate_left
        · (intro w hSw; (try dsimp only at hSw); go_simp; first | done | with_reducible rfl)
        try simp only [Act.put, List.setIfInBounds_toArray, List.set_cons_zero, List.set_cons_succ, List.getElem_toArray, List.getElem_cons_succ, List.getElem_cons_zero]
        refine Lw.take (i := 2) [3, 4, 5, 7, 8, 13, 20, 23] (by kernel_rfl) (by rfl) (by decide) rfl (by kernel_rfl) (by kernel_rfl) (by kernel_rfl) (fun _ _ _ h => h) (by assumption) (v := ?_) (Or.inl ⟨by rfl, ?_⟩) (by first | assumption | exact unhide hSS _ (unhide ba3)) (fun hc1 => ?_)
        rotate_left
        · (intro w hSw; (try dsimp only at hSw); go_simp; first | done | with_reducible rfl)
        try simp only [Act.put, List.setIfInBounds_toArray, List.set_cons_zero, List.set_cons_succ, List.getElem_toArray, List.getElem_cons_succ, List.getElem_cons_zero]
        refine Lw.take (i := 3) [4, 5, 7, 8, 13, 20, 23] (by kernel_rfl) (by rfl) (by decide) rfl (by kernel_rfl) (by kernel_rfl) (by kernel_rfl) (fun _ _ _ h => h) (by assumption) (v := ?_) (Or.inl ⟨by rfl, ?_⟩) (by first | assumption | exact unhide hSS _ (unhide ba3)) (fun hc1 => ?_)
        rotate_left
        · (intro w hSw; (try dsimp only at hSw); go_simp; first | done | with_reducible rfl)
        try simp only [Act.put, List.setIfInBounds_toArray, List.set_cons_zero, List.set_cons_succ, List.getElem_toArray, List.getElem_cons_succ, List.getElem_cons_zero]
        refine Lw.take (i := 4) [5, 7, 8, 13, 20, 23] (by kernel_rfl) (by rfl) (by decide) rfl (by kernel_rfl) (by kernel_rfl) (by kernel_rfl) (fun _ _ _ h => h) (by assumption) (v := ?_) (Or.inl ⟨by rfl, ?_⟩) (by first | assumption | exact unhide hSS _ (unhide ba3)) (fun hc1 => ?_)
        rotate_left
        · (intro w hSw; (try dsimp only at hSw); go_simp; first | done | with_reducible rfl)
        try simp only [Act.put, List.setIfInBounds_toArray, List.set_cons_zero, List.set_cons_succ, List.getElem_toArray, List.getElem_cons_succ, List.getElem_cons_zero]
        refine Lw.take (i := 5) [7, 8, 13, 20, 23] (by kernel_rfl) (by rfl) (by decide) rfl (by kernel_rfl) (by kernel_rfl) (by kernel_rfl) (fun _ _ _ h => h) (by assumption) (v := ?_) (Or.inl ⟨by rfl, ?_⟩) (by first | assumption | exact unhide hSS _ (unhide ba3)) (fun hc1 => ?_)
        rotate_left
        · (intro w hSw; (try dsimp only at hSw); go_simp; first | done | with_reducible rfl)
        try simp only [Act.put, List.setIfInBounds_toArray, List.set_cons_zero, List.set_cons_succ, List.getElem_toArray, List.getElem_cons_succ, List.getElem_cons_zero]
        refine Lw.take (i := 6) [7, 8, 13, 20, 23] (by kernel_rfl) (by rfl) (by decide) rfl (by kernel_rfl) (by kernel_rfl) (by kernel_rfl) (fun _ _ _ h => h) (by assumption) (v := ?_) (Or.inl ⟨by rfl, ?_⟩) (by first | assumption | exact unhide hSS _ (unhide ba3)) (fun hc1 => ?_)
        rotate_left
        · (intro w hSw; (try dsimp only at hSw); go_simp; first | done | with_reducible rfl)
        try simp only [Act.put, List.setIfInBounds_toArray, List.set_cons_zero, List.set_cons_succ, List.getElem_toArray, List.getElem_cons_succ, List.getElem_cons_zero]
        refine Lw.take (i := 7) [8, 13, 20, 23] (by kernel_rfl) (by rfl) (by decide) rfl (by kernel_rfl) (by kernel_rfl) (by kernel_rfl) (fun _ _ _ h => h) (by assumption) (v := ?_) (Or.inl ⟨by rfl, ?_⟩) (by first | assumption | exact unhide hSS _ (unhide ba3)) (fun hc1 => ?_)
        rotate_left
        · (intro w hSw; (try dsimp only at hSw); go_simp; first | done | with_reducible rfl)
        try simp only [Act.put, List.setIfInBounds_toArray, List.set_cons_zero, List.set_cons_succ, List.getElem_toArray, List.getElem_cons_succ, List.getElem_cons_zero]
        refine Lw.take (i := 9) [11, 12, 13, 20, 23] (by kernel_rfl) (by rfl) (by decide) rfl (by kernel_rfl) (by kernel_rfl) (by kernel_rfl) (fun _ _ _ h => h) (by assumption) (v := ?_) (Or.inl ⟨by rfl, ?_⟩) (by first | assumption | exact unhide hSS _ (unhide ba3)) (fun hc1 => ?_)
        rotate_left
        · (intro w hSw; (try dsimp only at hSw); go_simp; first | done | with_reducible rfl)
        try simp only [Act.put, List.setIfInBounds_toArray, List.set_cons_zero, List.set_cons_succ, List.getElem_toArray, List.getElem_cons_succ, List.getElem_cons_zero]
        refine Lw.take (i := 10) [11, 12, 13, 20, 23] (by kernel_rfl) (by rfl) (by decide) rfl (by kernel_rfl) (by kernel_rfl) (by kernel_rfl) (fun _ _ _ h => h) (by assumption) (v := ?_) (Or.inl ⟨by rfl, ?_⟩) (by first | assumption | exact unhide hSS _ (unhide ba3)) (fun hc1 => ?_)
        rotate_left
        · (intro w hSw; (try dsimp only at hSw); go_simp; first | done | with_reducible rfl)
        try simp only [Act.put, List.setIfInBounds_toArray, List.set_cons_zero, List.set_cons_succ, List.getElem_toArray, List.getElem_cons_succ, List.getElem_cons_zero]
        refine Lw.take (i := 11) [12, 13, 20, 23] (by kernel_rfl) (by rfl) (by decide) rfl (by kernel_rfl) (by kernel_rfl) (by kernel_rfl) (fun _ _ _ h => h) (by assumption) (v := ?_) (Or.inl ⟨by rfl, ?_⟩) (by first | assumption | exact unhide hSS _ (unhide ba3)) (fun hc1 => ?_)
        rotate_left
        · (intro w hSw; (try dsimp only at hSw); go_simp; first | done | with_reducible rfl)
        try simp only [Act.put, List.setIfInBounds_toArray, List.set_cons_zero, List.set_cons_succ, List.getElem_toArray, List.getElem_cons_succ, List.getElem_cons_zero]
        refine Lw.take (i := 14) [15, 16, 17, 19, 20, 23] (by kernel_rfl) (by rfl) (by decide) rfl (by kernel_rfl) (by kernel_rfl) (by kernel_rfl) (fun _ _ _ h => h) (by assumption) (v := ?_) (Or.inl ⟨by rfl, ?_⟩) (by first | assumption | exact unhide hSS _ (unhide ba3)) (fun hc1 => ?_)
        rotate_left
        · (intro w hSw; (try dsimp only at hSw); go_simp; first | done | with_reducible rfl)
        try simp only [Act.put, List.setIfInBounds_toArray, List.set_cons_zero, List.set_cons_succ, List.getElem_toArray, List.getElem_cons_succ, List.getElem_cons_zero]
        refine Lw.take (i := 15) [16, 17, 19, 20, 23] (by kernel_rfl) (by rfl) (by decide) rfl (by kernel_rfl) (by kernel_rfl) (by kernel_rfl) (fun _ _ _ h => h) (by assumption) (v := ?_) (Or.inl ⟨by rfl, ?_⟩) (by first | assumption | exact unhide hSS _ (unhide ba3)) (fun hc1 => ?_)
        rotate_left
        · (intro w hSw; (try dsimp only at hSw); go_simp; first | done | with_reducible rfl)
        try simp only [Act.put, List.setIfInBounds_toArray, List.set_cons_zero, List.set_cons_succ, List.getElem_toArray, List.getElem_cons_succ, List.getElem_cons_zero]
        refine Lw.take (i := 16) [17, 19, 20, 23] (by kernel_rfl) (by rfl) (by decide) rfl (by kernel_rfl) (by kernel_rfl) (by kernel_rfl) (fun _ _ _ h => h) (by assumption) (v := ?_) (Or.inl ⟨by rfl, ?_⟩) (by first | assumption | exact unhide hSS _ (unhide ba3)) (fun hc1 => ?_)
        rotate_left
        · (intro w hSw; (try dsimp only at hSw); go_simp; first | done | with_reducible rfl)
        try simp only [Act.put, List.setIfInBounds_toArray, List.set_cons_zero, List.set_cons_succ, List.getElem_toArray, List.getElem_cons_succ, List.getElem_cons_zero]
        refine Lw.take (i := 17) [19, 20, 23] (by kernel_rfl) (by rfl) (by decide) rfl (by kernel_rfl) (by kernel_rfl) (by kernel_rfl) (fun _ _ _ h => h) (by assumption) (v := ?_) (Or.inl ⟨by rfl, ?_⟩) (by first | assumption | exact unhide hSS _ (unhide ba3)) (fun hc1 => ?_)
        rotate_left
        · (intro w hSw; (try dsimp only at hSw); go_simp; first | done | with_reducible rfl)
        try simp only [Act.put, List.setIfInBounds_toArray, List.set_cons_zero, List.set_cons_succ, List.getElem_toArray, List.getElem_cons_succ, List.getElem_cons_zero]
        refine Lw.take (i := 18) [19, 20, 23] (by kernel_rfl) (by rfl) (by decide) rfl (by kernel_rfl) (by kernel_rfl) (by kernel_rfl) (fun _ _ _ h => h) (by assumption) (v := ?_) (Or.inl ⟨by rfl, ?_⟩) (by first | assumption | exact unhide hSS _ (unhide ba3)) (fun hc1 => ?_)
        rotate_left
        · (intro w hSw; (try dsimp only at hSw); go_simp; first | done | with_reducible rfl)
        try simp only [Act.put, List.setIfInBounds_toArray, List.set_cons_zero, List.set_cons_succ, List.getElem_toArray, List.getElem_cons_succ, List.getElem_cons_zero]
        refine Lw.take (i := 19) [20, 23] (by kernel_rfl) (by rfl) (by decide) rfl (by kernel_rfl) (by kernel_rfl) (by kernel_rfl) (fun _ _ _ h => h) (by assumption) (v := ?_) (Or.inl ⟨by rfl, ?_⟩) (by first | assumption | exact unhide hSS _ (unhide ba3)) (fun hc1 => ?_)
        rotate_left
        · (intro w hSw; (try dsimp only at hSw); go_simp; first | done | with_reducible rfl)
        try simp only [Act.put, List.setIfInBounds_toArray, List.set_cons_zero, List.set_cons_succ, List.getElem_toArray, List.getElem_cons_succ, List.getElem_cons_zero]
        refine Lw.ready (rs := [1, 12]) (by kernel_rfl) (by simp) (by assumption) (fun hc2 => ?_)
        refine Nxt1.cons rfl (by kernel_rfl) hc2 (fun K hK => ?_) ?_
        · -- operation 1
          go_simp
          refine unhide hK _ _ (fun _ => unhide hSS _ (by repeat (first | exact unhide ba3 | exact unhide ba2 | exact unhide ba1 | exact Below.refl _ _ | refine Below.drew ?_ | refine below_add ?_ _))) (fun hS2 hc3 => ?_)
          clear hK K
          try simp only [Act.put, List.setIfInBounds_toArray, List.set_cons_zero, List.set_cons_succ, List.getElem_toArray, List.getElem_cons_succ, List.getElem_cons_zero]
          refine Lw.ready (rs := [8, 12]) (by kernel_rfl) (by simp) (by assumption) (fun hc2 => ?_)
          refine Nxt1.cons rfl (by kernel_rfl) hc2 (fun K hK => ?_) ?_
          · -- operation 8
            refine step_app0 wa rfl (some 66) rfl (.tmp 59) (.tmp 65) rfl (Q.take Q.length) _ rfl (by repeat (first | exact unhide ba3 | exact unhide ba2 | exact unhide ba1 | exact Below.refl _ _ | refine Below.drew ?_ | refine below_add ?_ _)) (by first | exact pr_lit wa.drew | exact (pr_lit wa.drew).next (below_new _ _) | exact pr_lit2 wa _ _) _ _ _ rfl (by first | exact re_nil _ _ _ | exact unhide hA) (by first | exact fun _ => rfl | exact fun h => by cases h) (unhide zA) ?_
            intro v9 w9 x1 ba1 kp1; replace x1 := hide x1; replace ba1 := hide ba1; replace kp1 := hide kp1
            refine unhide hK _ _ (fun _ => unhide hSS _ (by repeat (first | exact unhide ba3 | exact unhide ba2 | exact unhide ba1 | exact Below.refl _ _ | refine Below.drew ?_ | refine below_add ?_ _))) (fun hS2 hc3 => ?_)
            clear hK K
            try simp only [Act.put, List.setIfInBounds_toArray, List.set_cons_zero, List.set_cons_succ, List.getElem_toArray, List.getElem_cons_succ, List.getElem_cons_zero]
            refine Lw.ready (rs := [12]) (by kernel_rfl) (by simp) (by assumption) (fun hc2 => ?_)
            refine Nxt1.cons rfl (by kernel_rfl) hc2 (fun K hK => ?_) ?_
            · -- operation 12
              go_simp
              refine unhide hK _ _ (fun _ => unhide hSS _ (by repeat (first | exact unhide ba3 | exact unhide ba2 | exact unhide ba1 | exact Below.refl _ _ | refine Below.drew ?_ | refine below_add ?_ _))) (fun hS2 hc3 => ?_)
              clear hK K
              try simp only [Act.put, List.setIfInBounds_toArray, List.set_cons_zero, List.set_cons_succ, List.getElem_toArray, List.getElem_cons_succ, List.getElem_cons_zero]
              refine Lw.ready (rs := [13]) (by kernel_rfl) (by simp) (by assumption) (fun hc2 => ?_)
              refine Nxt1.cons rfl (by kernel_rfl) hc2 (fun K hK => ?_) ?_
              · -- operation 13
                refine step_new0 wa rfl (some 71) rfl (.tmp 66) (.tmp 70) rfl v9 (Q.take Q.length) [(who, t)] 1 (Q.length + 1) rfl (by repeat (first | exact unhide ba3 | exact unhide ba2 | exact unhide ba1 | exact Below.refl _ _ | refine Below.drew ?_ | refine below_add ?_ _)) (by first | exact unhide x1 | exact (unhide x1).next (below_new _ _)) _ rfl (by first | exact heap_alloc_new _ _ | exact unhide kp1 _ _ (heap_d2a wa _ _ _ _) (by omega) | exact unhide kp1 _ _ (heap_d2b wa _ _ _ _) (by omega)) rfl (by rw [unhide lA]) (by decide) (unhide zB) ?_
                intro g10 cap10 w10 x2 ba2; replace x2 := hide x2; replace ba2 := hide ba2
                refine unhide hK _ _ (fun _ => unhide hSS _ (by repeat (first | exact unhide ba3 | exact unhide ba2 | exact unhide ba1 | exact Below.refl _ _ | refine Below.drew ?_ | refine below_add ?_ _))) (fun hS2 hc3 => ?_)
                clear hK K
                try simp only [Act.put, List.setIfInBounds_toArray, List.set_cons_zero, List.set_cons_succ, List.getElem_toArray, List.getElem_cons_succ, List.getElem_cons_zero]
                refine Lw.ready (rs := [20]) (by kernel_rfl) (by simp) (by assumption) (fun hc2 => ?_)
                refine Nxt1.cons rfl (by kernel_rfl) hc2 (fun K hK => ?_) ?_
                · -- operation 20
                  refine step_app_re rfl (.tmp 71) (.tmp 77) rfl wa.heap.size _ (Q.take Q.length ++ [(who, t)]) (([] : List En)) rfl (unhide x2) _ _ _ rfl (by first | exact re_nil _ _ _ | exact (unhide hD).next (unhide ba2) | (simp only [Nat.sub_self]; exact re_nil _ _ _)) (by first | exact fun _ => rfl | exact fun h => by cases h) (unhide zC) (unhide ba2).size ?_
                  intro v11 w11 x3 gr3; have ba3 := hide ((unhide ba2).trans (grown_below gr3 (unhide ba2).size (fun j hj => ((unhide x2).lt j hj).1))); obtain ⟨a11, n11, c11, rfl⟩ := pr_form x3; replace x3 := hide x3; clear gr3
                  refine unhide hK _ _ (fun _ => unhide hSS _ (by repeat (first | exact unhide ba3 | exact unhide ba2 | exact unhide ba1 | exact Below.refl _ _ | refine Below.drew ?_ | refine below_add ?_ _))) (fun hS2 hc3 => ?_)
                  clear hK K
                  try simp only [Act.put, List.setIfInBounds_toArray, List.set_cons_zero, List.set_cons_succ, List.getElem_toArray, List.getElem_cons_succ, List.getElem_cons_zero]
                  refine Lw.take (i := 21) [22, 23] (by kernel_rfl) (by rfl) (by decide) rfl (by kernel_rfl) (by kernel_rfl) (by kernel_rfl) (fun _ _ _ h => h) (by assumption) (v := ?_) (Or.inl ⟨by rfl, ?_⟩) (by first | assumption | exact unhide hSS _ (unhide ba3)) (fun hc1 => ?_)
                  rotate_left
                  · (intro w hSw; (try dsimp only at hSw); go_simp; first | done | with_reducible rfl)
                  try simp only [Act.put, List.setIfInBounds_toArray, List.set_cons_zero, List.set_cons_succ, List.getElem_toArray, List.getElem_cons_succ, List.getElem_cons_zero]
                  refine Lw.take (i := 22) [23] (by kernel_rfl) (by rfl) (by decide) rfl (by kernel_rfl) (by kernel_rfl) (by kernel_rfl) (fun _ _ _ h => h) (by assumption) (v := ?_) (Or.inl ⟨by rfl, ?_⟩) (by first | assumption | exact unhide hSS _ (unhide ba3)) (fun hc1 => ?_)
                  rotate_left
                  · (intro w hSw; (try dsimp only at hSw); go_simp; first | done | with_reducible rfl)
                  try simp only [Act.put, List.setIfInBounds_toArray, List.set_cons_zero, List.set_cons_succ, List.getElem_toArray, List.getElem_cons_succ, List.getElem_cons_zero]
                  refine Lw.ready (rs := [23]) (by kernel_rfl) (by simp) (by assumption) (fun hc2 => ?_)
                  refine Nxt1.cons rfl (by kernel_rfl) hc2 (fun K hK => ?_) ?_
                  · -- operation 23
                    have fr := unhide hFF _ (unhide ba3)
                    have cc := unhide hSS _ (unhide ba3)
                    go_simp
                    refine unhide hK _ _ (fun h => absurd h (by decide)) (fun _ hc3 => ?_)
                    clear hK K
                    try simp only [Act.put, List.setIfInBounds_toArray, List.set_cons_zero, List.set_cons_succ, List.getElem_toArray, List.getElem_cons_succ, List.getElem_cons_zero]
                    refine Lw.done (by kernel_rfl) ?_ _
                    have f1 := unhide x3
                    rw [unhide fin] at f1
                    have P := hide ((unhide HLx).put1 (unhide ba3) (pr_es f1))
                    clear f1
                    go_wp2
                    go_ret
                    exact ⟨rfl, _, _, (unhide P).1, (unhide P).2.1, (Mv.of_below (unhide Bx)).trans (unhide P).2.2⟩
                  exact Nxt1.nil
                exact Nxt1.nil
              exact Nxt1.nil
            exact Nxt1.nil
          refine Nxt1.cons rfl (by kernel_rfl) hc2 (fun K hK => ?_) ?_
          · -- operation 12
            go_simp
            refine unhide hK _ _ (fun _ => unhide hSS _ (by repeat (first | exact unhide ba3 | exact unhide ba2 | exact unhide ba1 | exact Below.refl _ _ | refine Below.drew ?_ | refine below_add ?_ _))) (fun hS2 hc3 => ?_)
            clear hK K
            try simp only [Act.put, List.setIfInBounds_toArray, List.set_cons_zero, List.set_cons_succ, List.getElem_toArray, List.getElem_cons_succ, List.getElem_cons_zero]
            refine Lw.ready (rs := [8]) (by kernel_rfl) (by simp) (by assumption) (fun hc2 => ?_)
            refine Nxt1.cons rfl (by kernel_rfl) hc2 (fun K hK => ?_) ?_
            · -- operation 8
              refine step_app0 wa rfl (some 66) rfl (.tmp 59) (.tmp 65) rfl (Q.take Q.length) _ rfl (by repeat (first | exact unhide ba3 | exact unhide ba2 | exact unhide ba1 | exact Below.refl _ _ | refine Below.drew ?_ | refine below_add ?_ _)) (by first | exact pr_lit wa.drew | exact (pr_lit wa.drew).next (below_new _ _) | exact pr_lit2 wa _ _) _ _ _ rfl (by first | exact re_nil _ _ _ | exact unhide hA) (by first | exact fun _ => rfl | exact fun h => by cases h) (unhide zA) ?_
              intro v9 w9 x1 ba1 kp1; replace x1 := hide x1; replace ba1 := hide ba1; replace kp1 := hide kp1
              refine unhide hK _ _ (fun _ => unhide hSS _ (by repeat (first | exact unhide ba3 | exact unhide ba2 | exact unhide ba1 | exact Below.refl _ _ | refine Below.drew ?_ | refine below_add ?_ _))) (fun hS2 hc3 => ?_)
              clear hK K
              try simp only [Act.put, List.setIfInBounds_toArray, List.set_cons_zero, List.set_cons_succ, List.getElem_toArray, List.getElem_cons_succ, List.getElem_cons_zero]
              refine Lw.ready (rs := [13]) (by kernel_rfl) (by simp) (by assumption) (fun hc2 => ?_)
              refine Nxt1.cons rfl (by kernel_rfl) hc2 (fun K hK => ?_) ?_
              · -- operation 13
                refine step_new0 wa rfl (some 71) rfl (.tmp 66) (.tmp 70) rfl v9 (Q.take Q.length) [(who, t)] 1 (Q.length + 1) rfl (by repeat (first | exact unhide ba3 | exact unhide ba2 | exact unhide ba1 | exact Below.refl _ _ | refine Below.drew ?_ | refine below_add ?_ _)) (by first | exact unhide x1 | exact (unhide x1).next (below_new _ _)) _ rfl (by first | exact heap_alloc_new _ _ | exact unhide kp1 _ _ (heap_d2a wa _ _ _ _) (by omega) | exact unhide kp1 _ _ (heap_d2b wa _ _ _ _) (by omega)) rfl (by rw [unhide lA]) (by decide) (unhide zB) ?_
                intro g10 cap10 w10 x2 ba2; replace x2 := hide x2; replace ba2 := hide ba2
                refine unhide hK _ _ (fun _ => unhide hSS _ (by repeat (first | exact unhide ba3 | exact unhide ba2 | exact unhide ba1 | exact Below.refl _ _ | refine Below.drew ?_ | refine below_add ?_ _))) (fun hS2 hc3 => ?_)
                clear hK K
                try simp only [Act.put, List.setIfInBounds_toArray, List.set_cons_zero, List.set_cons_succ, List.getElem_toArray, List.getElem_cons_succ, List.getElem_cons_zero]
                refine Lw.ready (rs := [20]) (by kernel_rfl) (by simp) (by assumption) (fun hc2 => ?_)
                refine Nxt1.cons rfl (by kernel_rfl) hc2 (fun K hK => ?_) ?_
                · -- operation 20
                  refine step_app_re rfl (.tmp 71) (.tmp 77) rfl wa.heap.size _ (Q.take Q.length ++ [(who, t)]) (([] : List En)) rfl (unhide x2) _ _ _ rfl (by first | exact re_nil _ _ _ | exact (unhide hD).next (unhide ba2) | (simp only [Nat.sub_self]; exact re_nil _ _ _)) (by first | exact fun _ => rfl | exact fun h => by cases h) (unhide zC) (unhide ba2).size ?_
                  intro v11 w11 x3 gr3; have ba3 := hide ((unhide ba2).trans (grown_below gr3 (unhide ba2).size (fun j hj => ((unhide x2).lt j hj).1))); obtain ⟨a11, n11, c11, rfl⟩ := pr_form x3; replace x3 := hide x3; clear gr3
                  refine unhide hK _ _ (fun _ => unhide hSS _ (by repeat (first | exact unhide ba3 | exact unhide ba2 | exact unhide ba1 | exact Below.refl _ _ | refine Below.drew ?_ | refine below_add ?_ _))) (fun hS2 hc3 => ?_)
                  clear hK K
                  try simp only [Act.put, List.setIfInBounds_toArray, List.set_cons_zero, List.set_cons_succ, List.getElem_toArray, List.getElem_cons_succ, List.getElem_cons_zero]
                  refine Lw.take (i := 21) [22, 23] (by kernel_rfl) (by rfl) (by decide) rfl (by kernel_rfl) (by kernel_rfl) (by kernel_rfl) (fun _ _ _ h => h) (by assumption) (v := ?_) (Or.inl ⟨by rfl, ?_⟩) (by first | assumption | exact unhide hSS _ (unhide ba3)) (fun hc1 => ?_)
                  rotate_left
                  · (intro w hSw; (try dsimp only at hSw); go_simp; first | done | with_reducible rfl)
                  try simp only [Act.put, List.setIfInBounds_toArray, List.set_cons_zero, List.set_cons_succ, List.getElem_toArray, List.getElem_cons_succ, List.getElem_cons_zero]
                  refine Lw.take (i := 22) [23] (by kernel_rfl) (by rfl) (by decide) rfl (by kernel_rfl) (by kernel_rfl) (by kernel_rfl) (fun _ _ _ h => h) (by assumption) (v := ?_) (Or.inl ⟨by rfl, ?_⟩) (by first | assumption | exact unhide hSS _ (unhide ba3)) (fun hc1 => ?_)
                  rotate_left
                  · (intro w hSw; (try dsimp only at hSw); go_simp; first | done | with_reducible rfl)
                  try simp only [Act.put, List.setIfInBounds_toArray, List.set_cons_zero, List.set_cons_succ, List.getElem_toArray, List.getElem_cons_succ, List.getElem_cons_zero]
                  refine Lw.ready (rs := [23]) (by kernel_rfl) (by simp) (by assumption) (fun hc2 => ?_)
                  refine Nxt1.cons rfl (by kernel_rfl) hc2 (fun K hK => ?_) ?_
                  · -- operation 23
                    have fr := unhide hFF _ (unhide ba3)
                    have cc := unhide hSS _ (unhide ba3)
                    go_simp
                    refine unhide hK _ _ (fun h => absurd h (by decide)) (fun _ hc3 => ?_)
                    clear hK K
                    try simp only [Act.put, List.setIfInBounds_toArray, List.set_cons_zero, List.set_cons_succ, List.getElem_toArray, List.getElem_cons_succ, List.getElem_cons_zero]
                    refine Lw.done (by kernel_rfl) ?_ _
                    have f1 := unhide x3
                    rw [unhide fin] at f1
                    have P := hide ((unhide HLx).put1 (unhide ba3) (pr_es f1))
                    clear f1
                    go_wp2
                    go_ret
                    exact ⟨rfl, _, _, (unhide P).1, (unhide P).2.1, (Mv.of_below (unhide Bx)).trans (unhide P).2.2⟩
                  exact Nxt1.nil
                exact Nxt1.nil
              exact Nxt1.nil
            exact Nxt1.nil
          exact Nxt1.nil
        refine Nxt1.cons rfl (by kernel_rfl) hc2 (fun K hK => ?_) ?_
        · -- operation 12
          go_simp
          refine unhide hK _ _ (fun _ => unhide hSS _ (by repeat (first | exact unhide ba3 | exact unhide ba2 | exact unhide ba1 | exact Below.refl _ _ | refine Below.drew ?_ | refine below_add ?_ _))) (fun hS2 hc3 => ?_)
          clear hK K
          try simp only [Act.put, List.setIfInBounds_toArray, List.set_cons_zero, List.set_cons_succ, List.getElem_toArray, List.getElem_cons_succ, List.getElem_cons_zero]
          refine Lw.ready (rs := [1]) (by kernel_rfl) (by simp) (by assumption) (fun hc2 => ?_)
          refine Nxt1.cons rfl (by kernel_rfl) hc2 (fun K hK => ?_) ?_
          · -- operation 1
            go_simp
            refine unhide hK _ _ (fun _ => unhide hSS _ (by repeat (first | exact unhide ba3 | exact unhide ba2 | exact unhide ba1 | exact Below.refl _ _ | refine Below.drew ?_ | refine below_add ?_ _))) (fun hS2 hc3 => ?_)
            clear hK K
            try simp only [Act.put, List.setIfInBounds_toArray, List.set_cons_zero, List.set_cons_succ, List.getElem_toArray, List.getElem_cons_succ, List.getElem_cons_zero]
            refine Lw.ready (rs := [8]) (by kernel_rfl) (by simp) (by assumption) (fun hc2 => ?_)
            refine Nxt1.cons rfl (by kernel_rfl) hc2 (fun K hK => ?_) ?_
            · -- operation 8
              refine step_app0 wa rfl (some 66) rfl (.tmp 59) (.tmp 65) rfl (Q.take Q.length) _ rfl (by repeat (first | exact unhide ba3 | exact unhide ba2 | exact unhide ba1 | exact Below.refl _ _ | refine Below.drew ?_ | refine below_add ?_ _)) (by first | exact pr_lit wa.drew | exact (pr_lit wa.drew).next (below_new _ _) | exact pr_lit2 wa _ _) _ _ _ rfl (by first | exact re_nil _ _ _ | exact unhide hA) (by first | exact fun _ => rfl | exact fun h => by cases h) (unhide zA) ?_
              intro v9 w9 x1 ba1 kp1; replace x1 := hide x1; replace ba1 := hide ba1; replace kp1 := hide kp1
              refine unhide hK _ _ (fun _ => unhide hSS _ (by repeat (first | exact unhide ba3 | exact unhide ba2 | exact unhide ba1 | exact Below.refl _ _ | refine Below.drew ?_ | refine below_add ?_ _))) (fun hS2 hc3 => ?_)
              clear hK K
              try simp only [Act.put, List.setIfInBounds_toArray, List.set_cons_zero, List.set_cons_succ, List.getElem_toArray, List.getElem_cons_succ, List.getElem_cons_zero]
              refine Lw.ready (rs := [13]) (by kernel_rfl) (by simp) (by assumption) (fun hc2 => ?_)
              refine Nxt1.cons rfl (by kernel_rfl) hc2 (fun K hK => ?_) ?_
              · -- operation 13
                refine step_new0 wa rfl (some 71) rfl (.tmp 66) (.tmp 70) rfl v9 (Q.take Q.length) [(who, t)] 1 (Q.length + 1) rfl (by repeat (first | exact unhide ba3 | exact unhide ba2 | exact unhide ba1 | exact Below.refl _ _ | refine Below.drew ?_ | refine below_add ?_ _)) (by first | exact unhide x1 | exact (unhide x1).next (below_new _ _)) _ rfl (by first | exact heap_alloc_new _ _ | exact unhide kp1 _ _ (heap_d2a wa _ _ _ _) (by omega) | exact unhide kp1 _ _ (heap_d2b wa _ _ _ _) (by omega)) rfl (by rw [unhide lA]) (by decide) (unhide zB) ?_
                intro g10 cap10 w10 x2 ba2; replace x2 := hide x2; replace ba2 := hide ba2
                refine unhide hK _ _ (fun _ => unhide hSS _ (by repeat (first | exact unhide ba3 | exact unhide ba2 | exact unhide ba1 | exact Below.refl _ _ | refine Below.drew ?_ | refine below_add ?_ _))) (fun hS2 hc3 => ?_)
                clear hK K
                try simp only [Act.put, List.setIfInBounds_toArray, List.set_cons_zero, List.set_cons_succ, List.getElem_toArray, List.getElem_cons_succ, List.getElem_cons_zero]
                refine Lw.ready (rs := [20]) (by kernel_rfl) (by simp) (by assumption) (fun hc2 => ?_)
                refine Nxt1.cons rfl (by kernel_rfl) hc2 (fun K hK => ?_) ?_
                · -- operation 20
                  refine step_app_re rfl (.tmp 71) (.tmp 77) rfl wa.heap.size _ (Q.take Q.length ++ [(who, t)]) (([] : List En)) rfl (unhide x2) _ _ _ rfl (by first | exact re_nil _ _ _ | exact (unhide hD).next (unhide ba2) | (simp only [Nat.sub_self]; exact re_nil _ _ _)) (by first | exact fun _ => rfl | exact fun h => by cases h) (unhide zC) (unhide ba2).size ?_
                  intro v11 w11 x3 gr3; have ba3 := hide ((unhide ba2).trans (grown_below gr3 (unhide ba2).size (fun j hj => ((unhide x2).lt j hj).1))); obtain ⟨a11, n11, c11, rfl⟩ := pr_form x3; replace x3 := hide x3; clear gr3
                  refine unhide hK _ _ (fun _ => unhide hSS _ (by repeat (first | exact unhide ba3 | exact unhide ba2 | exact unhide ba1 | exact Below.refl _ _ | refine Below.drew ?_ | refine below_add ?_ _))) (fun hS2 hc3 => ?_)
                  clear hK K
                  try simp only [Act.put, List.setIfInBounds_toArray, List.set_cons_zero, List.set_cons_succ, List.getElem_toArray, List.getElem_cons_succ, List.getElem_cons_zero]
                  refine Lw.take (i := 21) [22, 23] (by kernel_rfl) (by rfl) (by decide) rfl (by kernel_rfl) (by kernel_rfl) (by kernel_rfl) (fun _ _ _ h => h) (by assumption) (v := ?_) (Or.inl ⟨by rfl, ?_⟩) (by first | assumption | exact unhide hSS _ (unhide ba3)) (fun hc1 => ?_)
                  rotate_left
                  · (intro w hSw; (try dsimp only at hSw); go_simp; first | done | with_reducible rfl)
                  try simp only [Act.put, List.setIfInBounds_toArray, List.set_cons_zero, List.set_cons_succ, List.getElem_toArray, List.getElem_cons_succ, List.getElem_cons_zero]
                  refine Lw.take (i := 22) [23] (by kernel_rfl) (by rfl) (by decide) rfl (by kernel_rfl) (by kernel_rfl) (by kernel_rfl) (fun _ _ _ h => h) (by assumption) (v := ?_) (Or.inl ⟨by rfl, ?_⟩) (by first | assumption | exact unhide hSS _ (unhide ba3)) (fun hc1 => ?_)
                  rotate_left
                  · (intro w hSw; (try dsimp only at hSw); go_simp; first | done | with_reducible rfl)
                  try simp only [Act.put, List.setIfInBounds_toArray, List.set_cons_zero, List.set_cons_succ, List.getElem_toArray, List.getElem_cons_succ, List.getElem_cons_zero]
                  refine Lw.ready (rs := [23]) (by kernel_rfl) (by simp) (by assumption) (fun hc2 => ?_)
                  refine Nxt1.cons rfl (by kernel_rfl) hc2 (fun K hK => ?_) ?_
                  · -- operation 23
                    have fr := unhide hFF _ (unhide ba3)
                    have cc := unhide hSS _ (unhide ba3)
                    go_simp
                    refine unhide hK _ _ (fun h => absurd h (by decide)) (fun _ hc3 => ?_)
                    clear hK K
                    try simp only [Act.put, List.setIfInBounds_toArray, List.set_cons_zero, List.set_cons_succ, List.getElem_toArray, List.getElem_cons_succ, List.getElem_cons_zero]
                    refine Lw.done (by kernel_rfl) ?_ _
                    have f1 := unhide x3
                    rw [unhide fin] at f1
                    have P := hide ((unhide HLx).put1 (unhide ba3) (pr_es f1))
                    clear f1
                    go_wp2
                    go_ret
                    exact ⟨rfl, _, _, (unhide P).1, (unhide P).2.1, (Mv.of_below (unhide Bx)).trans (unhide P).2.2⟩
                  exact Nxt1.nil
                exact Nxt1.nil
              exact Nxt1.nil
            exact Nxt1.nil
          exact Nxt1.nil
        exact Nxt1.nil
      · have q8 : Q.length < cap := by omega
        obtain ⟨⟨h1, h2⟩, h3⟩ : (knownB m = true ∧ (m == 0) = false) ∧ (lookD who Q == 0) = true := by
          unfold okD at hk
          simpa using hk
        have HL := hide h
        have hd := hide hd
        have Ht := hide ht
        have Hh := hide hheld
        clear h hk ht hheld
        go_enter Tryz.func39, Tryz.ntmps39
        go_wp2_with fail
        refine (mode_any m _).mono ?_
        rw [h1]
        rintro e w ⟨rfl, rfl⟩
        go_wp2_with fail
        refine (rwaits_any _ (unhide HL) (by omega) who).mono ?_
        rintro e w ⟨rfl, rfl⟩
        have h4 : (lookD who Q != 0) = false := by unfold bne; rw [h3]; rfl
        have h5 := hide h3
        clear h3
        generalize lookD who Q = z at h4 ⊢
        go_wp2_with fail
        refine (rholds_any _ (unhide HL) (by omega) who).mono ?_
        rw [unhide Hh]
        rintro e w ⟨rfl, rfl⟩
        clear h4
        go_wp2_with fail
        refine (rsup_any _ 2 2 [held, m] _ (seg2 w held m) (by decide)).mono ?_
        rw [show supL [held, m] = t from unhide Ht]
        rintro e w4 ⟨rfl, rfl⟩
        have B1 := hide (below_new w (.cells #[.int .i64 held, .int .i64 m] 3))
        generalize w.alloc (.cells #[.int .i64 held, .int .i64 m] 3) = wa at B1 ⊢
        have HL1 := hide ((unhide HL).next (unhide B1))
        have c1 := (unhide HL1).c1
        have re1 := hide (unhide HL1).qr
        have HLx := HL1
        have Bx := B1
        have hSS : Hid (∀ w', Below wa.heap.size wa w' → w'.cell? ⟨b, 1, none⟩ = some (.slice (some ⟨g, 0, none⟩) Q.length cap)) := fun w' k => ((unhide HLx).next k).c1
        have hFF : Hid (∀ w', Below wa.heap.size wa w' → w'.frozen? ⟨b, 1, none⟩ = false) := fun w' k => ((unhide HLx).next k).free 1
        have hA : Hid (Re wa _ (Q.take Q.length)) := re_take (unhide re1) Q.length cap (Nat.le_refl _)
        have hD : Hid (Re wa _ (([] : List En))) := re_nil wa none 0
        have lA : Hid ((Q.take Q.length).length = Q.length) := by show _ = _; rw [List.length_take]; omega
        have zA : Hid ((Q.take Q.length).length ≤ 10000) := by have := unhide lA; show _ ≤ _; omega
        have zB : Hid (Q.length + 1 < 10000000) := by show _ < _; omega
        have zC : Hid ((Q.take Q.length ++ [(who, t)]).length + (([] : List En)).length ≤ 10000) := by show _ ≤ _; rw [List.length_append, unhide lA]; simp; omega
        have fin : Hid (Q.take Q.length ++ [(who, t)] ++ [] = Q.take Q.length ++ (who, t) :: Q.drop Q.length) := by show _ = _; simp
        go_wp2_with fail
        refine Lw.begin 23 (fun wz => wz.cell? ⟨b, 1, none⟩ = some (.slice (some ⟨g, 0, none⟩) Q.length cap)) (by kernel_rfl) ?hS0 (fun hS1 hc0 => ?_)
        case hS0 => exact unhide hSS _ (by repeat (first | exact unhide ba3 | exact unhide ba2 | exact unhide ba1 | exact Below.refl _ _ | refine Below.drew ?_ | refine below_add ?_ _))
        refine Lw.take (i := 0) [21, 22, 23] (by kernel_rfl) (by rfl) (by decide) rfl (by kernel_rfl) (by kernel_rfl) (by kernel_rfl) (fun _ _ _ h => h) (by assumption) (v := ?_) (Or.inl ⟨by rfl, ?_⟩) (by first | assumption | exact unhide hSS _ (unhide ba3)) (fun hc1 => ?_)
        rotate_left
        · (intro w hSw; (try dsimp only at hSw); go_simp; first | done | with_reducible rfl)
        try simp only [Act.put, List.setIfInBounds_toArray, List.set_cons_zero, List.set_cons_succ, List.getElem_toArray, List.getElem_cons_succ, List.getElem_cons_zero]
        refine Lw.take (i := 2) [3, 4, 5, 7, 8, 13, 20, 23] (by kernel_rfl) (by rfl) (by decide) rfl (by kernel_rfl) (by kernel_rfl) (by kernel_rfl) (fun _ _ _ h => h) (by assumption) (v := ?_) (Or.inl ⟨by rfl, ?_⟩) (by first | assumption | exact unhide hSS _ (unhide ba3)) (fun hc1 => ?_)
        rotate_left
        · (intro w hSw; (try dsimp only at hSw); go_simp; first | done | with_reducible rfl)
        try simp only [Act.put, List.setIfInBounds_toArray, List.set_cons_zero, List.set_cons_succ, List.getElem_toArray, List.getElem_cons_succ, List.getElem_cons_zero]
        refine Lw.take (i := 3) [4, 5, 7, 8, 13, 20, 23] (by kernel_rfl) (by rfl) (by decide) rfl (by kernel_rfl) (by kernel_rfl) (by kernel_rfl) (fun _ _ _ h => h) (by assumption) (v := ?_) (Or.inl ⟨by rfl, ?_⟩) (by first | assumption | exact unhide hSS _ (unhide ba3)) (fun hc1 => ?_)
        rotate_left
        · (intro w hSw; (try dsimp only at hSw); go_simp; first | done | with_reducible rfl)
        try simp only [Act.put, List.setIfInBounds_toArray, List.set_cons_zero, List.set_cons_succ, List.getElem_toArray, List.getElem_cons_succ, List.getElem_cons_zero]
        refine Lw.take (i := 4) [5, 7, 8, 13, 20, 23] (by kernel_rfl) (by rfl) (by decide) rfl (by kernel_rfl) (by kernel_rfl) (by kernel_rfl) (fun _ _ _ h => h) (by assumption) (v := ?_) (Or.inl ⟨by rfl, ?_⟩) (by first | assumption | exact unhide hSS _ (unhide ba3)) (fun hc1 => ?_)
        rotate_left
        · (intro w hSw; (try dsimp only at hSw); go_simp; first | done | with_reducible rfl)
        try simp only [Act.put, List.setIfInBounds_toArray, List.set_cons_zero, List.set_cons_succ, List.getElem_toArray, List.getElem_cons_succ, List.getElem_cons_zero]
        refine Lw.take (i := 5) [7, 8, 13, 20, 23] (by kernel_rfl) (by rfl) (by decide) rfl (by kernel_rfl) (by kernel_rfl) (by kernel_rfl) (fun _ _ _ h => h) (by assumption) (v := ?_) (Or.inl ⟨by rfl, ?_⟩) (by first | assumption | exact unhide hSS _ (unhide ba3)) (fun hc1 => ?_)
        rotate_left
        · (intro w hSw; (try dsimp only at hSw); go_simp; first | done | with_reducible rfl)
        try simp only [Act.put, List.setIfInBounds_toArray, List.set_cons_zero, List.set_cons_succ, List.getElem_toArray, List.getElem_cons_succ, List.getElem_cons_zero]
        refine Lw.take (i := 6) [7, 8, 13, 20, 23] (by kernel_rfl) (by rfl) (by decide) rfl (by kernel_rfl) (by kernel_rfl) (by kernel_rfl) (fun _ _ _ h => h) (by assumption) (v := ?_) (Or.inl ⟨by rfl, ?_⟩) (by first | assumption | exact unhide hSS _ (unhide ba3)) (fun hc1 => ?_)
        rotate_left
        · (intro w hSw; (try dsimp only at hSw); go_simp; first | done | with_reducible rfl)
        try simp only [Act.put, List.setIfInBounds_toArray, List.set_cons_zero, List.set_cons_succ, List.getElem_toArray, List.getElem_cons_succ, List.getElem_cons_zero]
        refine Lw.take (i := 7) [8, 13, 20, 23] (by kernel_rfl) (by rfl) (by decide) rfl (by kernel_rfl) (by kernel_rfl) (by kernel_rfl) (fun _ _ _ h => h) (by assumption) (v := ?_) (Or.inl ⟨by rfl, ?_⟩) (by first | assumption | exact unhide hSS _ (unhide ba3)) (fun hc1 => ?_)
        rotate_left
        · (intro w hSw; (try dsimp only at hSw); go_simp; first | done | with_reducible rfl)
        try simp only [Act.put, List.setIfInBounds_toArray, List.set_cons_zero, List.set_cons_succ, List.getElem_toArray, List.getElem_cons_succ, List.getElem_cons_zero]
        refine Lw.take (i := 9) [11, 12, 13, 20, 23] (by kernel_rfl) (by rfl) (by decide) rfl (by kernel_rfl) (by kernel_rfl) (by kernel_rfl) (fun _ _ _ h => h) (by assumption) (v := ?_) (Or.inl ⟨by rfl, ?_⟩) (by first | assumption | exact unhide hSS _ (unhide ba3)) (fun hc1 => ?_)
        rotate_left
        · (intro w hSw; (try dsimp only at hSw); go_simp; first | done | with_reducible rfl)
        try simp only [Act.put, List.setIfInBounds_toArray, List.set_cons_zero, List.set_cons_succ, List.getElem_toArray, List.getElem_cons_succ, List.getElem_cons_zero]
        refine Lw.take (i := 10) [11, 12, 13, 20, 23] (by kernel_rfl) (by rfl) (by decide) rfl (by kernel_rfl) (by kernel_rfl) (by kernel_rfl) (fun _ _ _ h => h) (by assumption) (v := ?_) (Or.inl ⟨by rfl, ?_⟩) (by first | assumption | exact unhide hSS _ (unhide ba3)) (fun hc1 => ?_)
        rotate_left
        · (intro w hSw; (try dsimp only at hSw); go_simp; first | done | with_reducible rfl)
        try simp only [Act.put, List.setIfInBounds_toArray, List.set_cons_zero, List.set_cons_succ, List.getElem_toArray, List.getElem_cons_succ, List.getElem_cons_zero]
        refine Lw.take (i := 11) [12, 13, 20, 23] (by kernel_rfl) (by rfl) (by decide) rfl (by kernel_rfl) (by kernel_rfl) (by kernel_rfl) (fun _ _ _ h => h) (by assumption) (v := ?_) (Or.inl ⟨by rfl, ?_⟩) (by first | assumption | exact unhide hSS _ (unhide ba3)) (fun hc1 => ?_)
        rotate_left
        · (intro w hSw; (try dsimp only at hSw); go_simp; first | done | with_reducible rfl)
        try simp only [Act.put, List.setIfInBounds_toArray, List.set_cons_zero, List.set_cons_succ, List.getElem_toArray, List.getElem_cons_succ, List.getElem_cons_zero]
        refine Lw.take (i := 14) [15, 16, 17, 19, 20, 23] (by kernel_rfl) (by rfl) (by decide) rfl (by kernel_rfl) (by kernel_rfl) (by kernel_rfl) (fun _ _ _ h => h) (by assumption) (v := ?_) (Or.inl ⟨by rfl, ?_⟩) (by first | assumption | exact unhide hSS _ (unhide ba3)) (fun hc1 => ?_)
        rotate_left
        · (intro w hSw; (try dsimp only at hSw); go_simp; first | done | with_reducible rfl)
        try simp only [Act.put, List.setIfInBounds_toArray, List.set_cons_zero, List.set_cons_succ, List.getElem_toArray, List.getElem_cons_succ, List.getElem_cons_zero]
        refine Lw.take (i := 15) [16, 17, 19, 20, 23] (by kernel_rfl) (by rfl) (by decide) rfl (by kernel_rfl) (by kernel_rfl) (by kernel_rfl) (fun _ _ _ h => h) (by assumption) (v := ?_) (Or.inl ⟨by rfl, ?_⟩) (by first | assumption | exact unhide hSS _ (unhide ba3)) (fun hc1 => ?_)
        rotate_left
        · (intro w hSw; (try dsimp only at hSw); go_simp; first | done | with_reducible rfl)
        try simp only [Act.put, List.setIfInBounds_toArray, List.set_cons_zero, List.set_cons_succ, List.getElem_toArray, List.getElem_cons_succ, List.getElem_cons_zero]
        refine Lw.take (i := 16) [17, 19, 20, 23] (by kernel_rfl) (by rfl) (by decide) rfl (by kernel_rfl) (by kernel_rfl) (by kernel_rfl) (fun _ _ _ h => h) (by assumption) (v := ?_) (Or.inl ⟨by rfl, ?_⟩) (by first | assumption | exact unhide hSS _ (unhide ba3)) (fun hc1 => ?_)
        rotate_left
        · (intro w hSw; (try dsimp only at hSw); go_simp; first | done | with_reducible rfl)
        try simp only [Act.put, List.setIfInBounds_toArray, List.set_cons_zero, List.set_cons_succ, List.getElem_toArray, List.getElem_cons_succ, List.getElem_cons_zero]
        refine Lw.take (i := 17) [19, 20, 23] (by kernel_rfl) (by rfl) (by decide) rfl (by kernel_rfl) (by kernel_rfl) (by kernel_rfl) (fun _ _ _ h => h) (by assumption) (v := ?_) (Or.inl ⟨by rfl, ?_⟩) (by first | assumption | exact unhide hSS _ (unhide ba3)) (fun hc1 => ?_)
        rotate_left
        · (intro w hSw; (try dsimp only at hSw); go_simp; first | done | with_reducible rfl)
        try simp only [Act.put, List.setIfInBounds_toArray, List.set_cons_zero, List.set_cons_succ, List.getElem_toArray, List.getElem_cons_succ, List.getElem_cons_zero]
        refine Lw.take (i := 18) [19, 20, 23] (by kernel_rfl) (by rfl) (by decide) rfl (by kernel_rfl) (by kernel_rfl) (by kernel_rfl) (fun _ _ _ h => h) (by assumption) (v := ?_) (Or.inl ⟨by rfl, ?_⟩) (by first | assumption | exact unhide hSS _ (unhide ba3)) (fun hc1 => ?_)
        rotate_left
        · (intro w hSw; (try dsimp only at hSw); go_simp; first | done | with_reducible rfl)
        try simp only [Act.put, List.setIfInBounds_toArray, List.set_cons_zero, List.set_cons_succ, List.getElem_toArray, List.getElem_cons_succ, List.getElem_cons_zero]
        refine Lw.take (i := 19) [20, 23] (by kernel_rfl) (by rfl) (by decide) rfl (by kernel_rfl) (by kernel_rfl) (by kernel_rfl) (fun _ _ _ h => h) (by assumption) (v := ?_) (Or.inl ⟨by rfl, ?_⟩) (by first | assumption | exact unhide hSS _ (unhide ba3)) (fun hc1 => ?_)
        rotate_left
        · (intro w hSw; (try dsimp only at hSw); go_simp; first | done | with_reducible rfl)
        try simp only [Act.put, List.setIfInBounds_toArray, List.set_cons_zero, List.set_cons_succ, List.getElem_toArray, List.getElem_cons_succ, List.getElem_cons_zero]
        refine Lw.ready (rs := [1, 12]) (by kernel_rfl) (by simp) (by assumption) (fun hc2 => ?_)
        refine Nxt1.cons rfl (by kernel_rfl) hc2 (fun K hK => ?_) ?_
        · -- operation 1
          go_simp
          refine unhide hK _ _ (fun _ => unhide hSS _ (by repeat (first | exact unhide ba3 | exact unhide ba2 | exact unhide ba1 | exact Below.refl _ _ | refine Below.drew ?_ | refine below_add ?_ _))) (fun hS2 hc3 => ?_)
          clear hK K
          try simp only [Act.put, List.setIfInBounds_toArray, List.set_cons_zero, List.set_cons_succ, List.getElem_toArray, List.getElem_cons_succ, List.getElem_cons_zero]
          refine Lw.ready (rs := [8, 12]) (by kernel_rfl) (by simp) (by assumption) (fun hc2 => ?_)
          refine Nxt1.cons rfl (by kernel_rfl) hc2 (fun K hK => ?_) ?_
          · -- operation 8
            refine step_app0 wa rfl (some 66) rfl (.tmp 59) (.tmp 65) rfl (Q.take Q.length) _ rfl (by repeat (first | exact unhide ba3 | exact unhide ba2 | exact unhide ba1 | exact Below.refl _ _ | refine Below.drew ?_ | refine below_add ?_ _)) (by first | exact pr_lit wa.drew | exact (pr_lit wa.drew).next (below_new _ _) | exact pr_lit2 wa _ _) _ _ _ rfl (by first | exact re_nil _ _ _ | exact unhide hA) (by first | exact fun _ => rfl | exact fun h => by cases h) (unhide zA) ?_
            intro v9 w9 x1 ba1 kp1; replace x1 := hide x1; replace ba1 := hide ba1; replace kp1 := hide kp1
            refine unhide hK _ _ (fun _ => unhide hSS _ (by repeat (first | exact unhide ba3 | exact unhide ba2 | exact unhide ba1 | exact Below.refl _ _ | refine Below.drew ?_ | refine below_add ?_ _))) (fun hS2 hc3 => ?_)
            clear hK K
            try simp only [Act.put, List.setIfInBounds_toArray, List.set_cons_zero, List.set_cons_succ, List.getElem_toArray, List.getElem_cons_succ, List.getElem_cons_zero]
            refine Lw.ready (rs := [12]) (by kernel_rfl) (by simp) (by assumption) (fun hc2 => ?_)
            refine Nxt1.cons rfl (by kernel_rfl) hc2 (fun K hK => ?_) ?_
            · -- operation 12
              go_simp
              refine unhide hK _ _ (fun _ => unhide hSS _ (by repeat (first | exact unhide ba3 | exact unhide ba2 | exact unhide ba1 | exact Below.refl _ _ | refine Below.drew ?_ | refine below_add ?_ _))) (fun hS2 hc3 => ?_)
              clear hK K
              try simp only [Act.put, List.setIfInBounds_toArray, List.set_cons_zero, List.set_cons_succ, List.getElem_toArray, List.getElem_cons_succ, List.getElem_cons_zero]
              refine Lw.ready (rs := [13]) (by kernel_rfl) (by simp) (by assumption) (fun hc2 => ?_)
              refine Nxt1.cons rfl (by kernel_rfl) hc2 (fun K hK => ?_) ?_
              · -- operation 13
                refine step_new0 wa rfl (some 71) rfl (.tmp 66) (.tmp 70) rfl v9 (Q.take Q.length) [(who, t)] 1 (Q.length + 1) rfl (by repeat (first | exact unhide ba3 | exact unhide ba2 | exact unhide ba1 | exact Below.refl _ _ | refine Below.drew ?_ | refine below_add ?_ _)) (by first | exact unhide x1 | exact (unhide x1).next (below_new _ _)) _ rfl (by first | exact heap_alloc_new _ _ | exact unhide kp1 _ _ (heap_d2a wa _ _ _ _) (by omega) | exact unhide kp1 _ _ (heap_d2b wa _ _ _ _) (by omega)) rfl (by rw [unhide lA]) (by decide) (unhide zB) ?_
                intro g10 cap10 w10 x2 ba2; replace x2 := hide x2; replace ba2 := hide ba2
                refine unhide hK _ _ (fun _ => unhide hSS _ (by repeat (first | exact unhide ba3 | exact unhide ba2 | exact unhide ba1 | exact Below.refl _ _ | refine Below.drew ?_ | refine below_add ?_ _))) (fun hS2 hc3 => ?_)
                clear hK K
                try simp only [Act.put, List.setIfInBounds_toArray, List.set_cons_zero, List.set_cons_succ, List.getElem_toArray, List.getElem_cons_succ, List.getElem_cons_zero]
                refine Lw.ready (rs := [20]) (by kernel_rfl) (by simp) (by assumption) (fun hc2 => ?_)
                refine Nxt1.cons rfl (by kernel_rfl) hc2 (fun K hK => ?_) ?_
                · -- operation 20
                  refine step_app_re rfl (.tmp 71) (.tmp 77) rfl wa.heap.size _ (Q.take Q.length ++ [(who, t)]) (([] : List En)) rfl (unhide x2) _ _ _ rfl (by first | exact re_nil _ _ _ | exact (unhide hD).next (unhide ba2) | (simp only [Nat.sub_self]; exact re_nil _ _ _)) (by first | exact fun _ => rfl | exact fun h => by cases h) (unhide zC) (unhide ba2).size ?_
                  intro v11 w11 x3 gr3; have ba3 := hide ((unhide ba2).trans (grown_below gr3 (unhide ba2).size (fun j hj => ((unhide x2).lt j hj).1))); obtain ⟨a11, n11, c11, rfl⟩ := pr_form x3; replace x3 := hide x3; clear gr3
                  refine unhide hK _ _ (fun _ => unhide hSS _ (by repeat (first | exact unhide ba3 | exact unhide ba2 | exact unhide ba1 | exact Below.refl _ _ | refine Below.drew ?_ | refine below_add ?_ _))) (fun hS2 hc3 => ?_)
                  clear hK K
                  try simp only [Act.put, List.setIfInBounds_toArray, List.set_cons_zero, List.set_cons_succ, List.getElem_toArray, List.getElem_cons_succ, List.getElem_cons_zero]
                  refine Lw.take (i := 21) [22, 23] (by kernel_rfl) (by rfl) (by decide) rfl (by kernel_rfl) (by kernel_rfl) (by kernel_rfl) (fun _ _ _ h => h) (by assumption) (v := ?_) (Or.inl ⟨by rfl, ?_⟩) (by first | assumption | exact unhide hSS _ (unhide ba3)) (fun hc1 => ?_)
                  rotate_left
                  · (intro w hSw; (try dsimp only at hSw); go_simp; first | done | with_reducible rfl)
                  try simp only [Act.put, List.setIfInBounds_toArray, List.set_cons_zero, List.set_cons_succ, List.getElem_toArray, List.getElem_cons_succ, List.getElem_cons_zero]
                  refine Lw.take (i := 22) [23] (by kernel_rfl) (by rfl) (by decide) rfl (by kernel_rfl) (by kernel_rfl) (by kernel_rfl) (fun _ _ _ h => h) (by assumption) (v := ?_) (Or.inl ⟨by rfl, ?_⟩) (by first | assumption | exact unhide hSS _ (unhide ba3)) (fun hc1 => ?_)
                  rotate_left
                  · (intro w hSw; (try dsimp only at hSw); go_simp; first | done | with_reducible rfl)
                  try simp only [Act.put, List.setIfInBounds_toArray, List.set_cons_zero, List.set_cons_succ, List.getElem_toArray, List.getElem_cons_succ, List.getElem_cons_zero]
                  refine Lw.ready (rs := [23]) (by kernel_rfl) (by simp) (by assumption) (fun hc2 => ?_)
                  refine Nxt1.cons rfl (by kernel_rfl) hc2 (fun K hK => ?_) ?_
                  · -- operation 23
                    have fr := unhide hFF _ (unhide ba3)
                    have cc := unhide hSS _ (unhide ba3)
                    go_simp
                    refine unhide hK _ _ (fun h => absurd h (by decide)) (fun _ hc3 => ?_)
                    clear hK K
                    try simp only [Act.put, List.setIfInBounds_toArray, List.set_cons_zero, List.set_cons_succ, List.getElem_toArray, List.getElem_cons_succ, List.getElem_cons_zero]
                    refine Lw.done (by kernel_rfl) ?_ _
                    have f1 := unhide x3
                    rw [unhide fin] at f1
                    have P := hide ((unhide HLx).put1 (unhide ba3) (pr_es f1))
                    clear f1
                    go_wp2
                    go_ret
                    exact ⟨rfl, _, _, (unhide P).1, (unhide P).2.1, (Mv.of_below (unhide Bx)).trans (unhide P).2.2⟩
                  exact Nxt1.nil
                exact Nxt1.nil
              exact Nxt1.nil
            exact Nxt1.nil
          refine Nxt1.cons rfl (by kernel_rfl) hc2 (fun K hK => ?_) ?_
          · -- operation 12
            go_simp
            refine unhide hK _ _ (fun _ => unhide hSS _ (by repeat (first | exact unhide ba3 | exact unhide ba2 | exact unhide ba1 | exact Below.refl _ _ | refine Below.drew ?_ | refine below_add ?_ _))) (fun hS2 hc3 => ?_)
            clear hK K
            try simp only [Act.put, List.setIfInBounds_toArray, List.set_cons_zero, List.set_cons_succ, List.getElem_toArray, List.getElem_cons_succ, List.getElem_cons_zero]
            refine Lw.ready (rs := [8]) (by kernel_rfl) (by simp) (by assumption) (fun hc2 => ?_)
            refine Nxt1.cons rfl (by kernel_rfl) hc2 (fun K hK => ?_) ?_
            · -- operation 8
              refine step_app0 wa rfl (some 66) rfl (.tmp 59) (.tmp 65) rfl (Q.take Q.length) _ rfl (by repeat (first | exact unhide ba3 | exact unhide ba2 | exact unhide ba1 | exact Below.refl _ _ | refine Below.drew ?_ | refine below_add ?_ _)) (by first | exact pr_lit wa.drew | exact (pr_lit wa.drew).next (below_new _ _) | exact pr_lit2 wa _ _) _ _ _ rfl (by first | exact re_nil _ _ _ | exact unhide hA) (by first | exact fun _ => rfl | exact fun h => by cases h) (unhide zA) ?_
              intro v9 w9 x1 ba1 kp1; replace x1 := hide x1; replace ba1 := hide ba1; replace kp1 := hide kp1
              refine unhide hK _ _ (fun _ => unhide hSS _ (by repeat (first | exact unhide ba3 | exact unhide ba2 | exact unhide ba1 | exact Below.refl _ _ | refine Below.drew ?_ | refine below_add ?_ _))) (fun hS2 hc3 => ?_)
              clear hK K
              try simp only [Act.put, List.setIfInBounds_toArray, List.set_cons_zero, List.set_cons_succ, List.getElem_toArray, List.getElem_cons_succ, List.getElem_cons_zero]
              refine Lw.ready (rs := [13]) (by kernel_rfl) (by simp) (by assumption) (fun hc2 => ?_)
              refine Nxt1.cons rfl (by kernel_rfl) hc2 (fun K hK => ?_) ?_
              · -- operation 13
                refine step_new0 wa rfl (some 71) rfl (.tmp 66) (.tmp 70) rfl v9 (Q.take Q.length) [(who, t)] 1 (Q.length + 1) rfl (by repeat (first | exact unhide ba3 | exact unhide ba2 | exact unhide ba1 | exact Below.refl _ _ | refine Below.drew ?_ | refine below_add ?_ _)) (by first | exact unhide x1 | exact (unhide x1).next (below_new _ _)) _ rfl (by first | exact heap_alloc_new _ _ | exact unhide kp1 _ _ (heap_d2a wa _ _ _ _) (by omega) | exact unhide kp1 _ _ (heap_d2b wa _ _ _ _) (by omega)) rfl (by rw [unhide lA]) (by decide) (unhide zB) ?_
                intro g10 cap10 w10 x2 ba2; replace x2 := hide x2; replace ba2 := hide ba2
                refine unhide hK _ _ (fun _ => unhide hSS _ (by repeat (first | exact unhide ba3 | exact unhide ba2 | exact unhide ba1 | exact Below.refl _ _ | refine Below.drew ?_ | refine below_add ?_ _))) (fun hS2 hc3 => ?_)
                clear hK K
                try simp only [Act.put, List.setIfInBounds_toArray, List.set_cons_zero, List.set_cons_succ, List.getElem_toArray, List.getElem_cons_succ, List.getElem_cons_zero]
                refine Lw.ready (rs := [20]) (by kernel_rfl) (by simp) (by assumption) (fun hc2 => ?_)
                refine Nxt1.cons rfl (by kernel_rfl) hc2 (fun K hK => ?_) ?_
                · -- operation 20
                  refine step_app_re rfl (.tmp 71) (.tmp 77) rfl wa.heap.size _ (Q.take Q.length ++ [(who, t)]) (([] : List En)) rfl (unhide x2) _ _ _ rfl (by first | exact re_nil _ _ _ | exact (unhide hD).next (unhide ba2) | (simp only [Nat.sub_self]; exact re_nil _ _ _)) (by first | exact fun _ => rfl | exact fun h => by cases h) (unhide zC) (unhide ba2).size ?_
                  intro v11 w11 x3 gr3; have ba3 := hide ((unhide ba2).trans (grown_below gr3 (unhide ba2).size (fun j hj => ((unhide x2).lt j hj).1))); obtain ⟨a11, n11, c11, rfl⟩ := pr_form x3; replace x3 := hide x3; clear gr3
                  refine unhide hK _ _ (fun _ => unhide hSS _ (by repeat (first | exact unhide ba3 | exact unhide ba2 | exact unhide ba1 | exact Below.refl _ _ | refine Below.drew ?_ | refine below_add ?_ _))) (fun hS2 hc3 => ?_)
                  clear hK K
                  try simp only [Act.put, List.setIfInBounds_toArray, List.set_cons_zero, List.set_cons_succ, List.getElem_toArray, List.getElem_cons_succ, List.getElem_cons_zero]
                  refine Lw.take (i := 21) [22, 23] (by kernel_rfl) (by rfl) (by decide) rfl (by kernel_rfl) (by kernel_rfl) (by kernel_rfl) (fun _ _ _ h => h) (by assumption) (v := ?_) (Or.inl ⟨by rfl, ?_⟩) (by first | assumption | exact unhide hSS _ (unhide ba3)) (fun hc1 => ?_)
                  rotate_left
                  · (intro w hSw; (try dsimp only at hSw); go_simp; first | done | with_reducible rfl)
                  try simp only [Act.put, List.setIfInBounds_toArray, List.set_cons_zero, List.set_cons_succ, List.getElem_toArray, List.getElem_cons_succ, List.getElem_cons_zero]
                  refine Lw.take (i := 22) [23] (by kernel_rfl) (by rfl) (by decide) rfl (by kernel_rfl) (by kernel_rfl) (by kernel_rfl) (fun _ _ _ h => h) (by assumption) (v := ?_) (Or.inl ⟨by rfl, ?_⟩) (by first | assumption | exact unhide hSS _ (unhide ba3)) (fun hc1 => ?_)
                  rotate_left
                  · (intro w hSw; (try dsimp only at hSw); go_simp; first | done | with_reducible rfl)
                  try simp only [Act.put, List.setIfInBounds_toArray, List.set_cons_zero, List.set_cons_succ, List.getElem_toArray, List.getElem_cons_succ, List.getElem_cons_zero]
                  refine Lw.ready (rs := [23]) (by kernel_rfl) (by simp) (by assumption) (fun hc2 => ?_)
                  refine Nxt1.cons rfl (by kernel_rfl) hc2 (fun K hK => ?_) ?_
                  · -- operation 23
                    have fr := unhide hFF _ (unhide ba3)
                    have cc := unhide hSS _ (unhide ba3)
                    go_simp
                    refine unhide hK _ _ (fun h => absurd h (by decide)) (fun _ hc3 => ?_)
                    clear hK K
                    try simp only [Act.put, List.setIfInBounds_toArray, List.set_cons_zero, List.set_cons_succ, List.getElem_toArray, List.getElem_cons_succ, List.getElem_cons_zero]
                    refine Lw.done (by kernel_rfl) ?_ _
                    have f1 := unhide x3
                    rw [unhide fin] at f1
                    have P := hide ((unhide HLx).put1 (unhide ba3) (pr_es f1))
                    clear f1
                    go_wp2
                    go_ret
                    exact ⟨rfl, _, _, (unhide P).1, (unhide P).2.1, (Mv.of_below (unhide Bx)).trans (unhide P).2.2⟩
                  exact Nxt1.nil
                exact Nxt1.nil
              exact Nxt1.nil
            exact Nxt1.nil
          exact Nxt1.nil
        refine Nxt1.cons rfl (by kernel_rfl) hc2 (fun K hK => ?_) ?_
        · -- operation 12
          go_simp
          refine unhide hK _ _ (fun _ => unhide hSS _ (by repeat (first | exact unhide ba3 | exact unhide ba2 | exact unhide ba1 | exact Below.refl _ _ | refine Below.drew ?_ | refine below_add ?_ _))) (fun hS2 hc3 => ?_)
          clear hK K
          try simp only [Act.put, List.setIfInBounds_toArray, List.set_cons_zero, List.set_cons_succ, List.getElem_toArray, List.getElem_cons_succ, List.getElem_cons_zero]
          refine Lw.ready (rs := [1]) (by kernel_rfl) (by simp) (by assumption) (fun hc2 => ?_)
          refine Nxt1.cons rfl (by kernel_rfl) hc2 (fun K hK => ?_) ?_
          · -- operation 1
            go_simp
            refine unhide hK _ _ (fun _ => unhide hSS _ (by repeat (first | exact unhide ba3 | exact unhide ba2 | exact unhide ba1 | exact Below.refl _ _ | refine Below.drew ?_ | refine below_add ?_ _))) (fun hS2 hc3 => ?_)
            clear hK K
            try simp only [Act.put, List.setIfInBounds_toArray, List.set_cons_zero, List.set_cons_succ, List.getElem_toArray, List.getElem_cons_succ, List.getElem_cons_zero]
            refine Lw.ready (rs := [8]) (by kernel_rfl) (by simp) (by assumption) (fun hc2 => ?_)
            refine Nxt1.cons rfl (by kernel_rfl) hc2 (fun K hK => ?_) ?_
            · -- operation 8
              refine step_app0 wa rfl (some 66) rfl (.tmp 59) (.tmp 65) rfl (Q.take Q.length) _ rfl (by repeat (first | exact unhide ba3 | exact unhide ba2 | exact unhide ba1 | exact Below.refl _ _ | refine Below.drew ?_ | refine below_add ?_ _)) (by first | exact pr_lit wa.drew | exact (pr_lit wa.drew).next (below_new _ _) | exact pr_lit2 wa _ _) _ _ _ rfl (by first | exact re_nil _ _ _ | exact unhide hA) (by first | exact fun _ => rfl | exact fun h => by cases h) (unhide zA) ?_
              intro v9 w9 x1 ba1 kp1; replace x1 := hide x1; replace ba1 := hide ba1; replace kp1 := hide kp1
              refine unhide hK _ _ (fun _ => unhide hSS _ (by repeat (first | exact unhide ba3 | exact unhide ba2 | exact unhide ba1 | exact Below.refl _ _ | refine Below.drew ?_ | refine below_add ?_ _))) (fun hS2 hc3 => ?_)
              clear hK K
              try simp only [Act.put, List.setIfInBounds_toArray, List.set_cons_zero, List.set_cons_succ, List.getElem_toArray, List.getElem_cons_succ, List.getElem_cons_zero]
              refine Lw.ready (rs := [13]) (by kernel_rfl) (by simp) (by assumption) (fun hc2 => ?_)
              refine Nxt1.cons rfl (by kernel_rfl) hc2 (fun K hK => ?_) ?_
              · -- operation 13
                refine step_new0 wa rfl (some 71) rfl (.tmp 66) (.tmp 70) rfl v9 (Q.take Q.length) [(who, t)] 1 (Q.length + 1) rfl (by repeat (first | exact unhide ba3 | exact unhide ba2 | exact unhide ba1 | exact Below.refl _ _ | refine Below.drew ?_ | refine below_add ?_ _)) (by first | exact unhide x1 | exact (unhide x1).next (below_new _ _)) _ rfl (by first | exact heap_alloc_new _ _ | exact unhide kp1 _ _ (heap_d2a wa _ _ _ _) (by omega) | exact unhide kp1 _ _ (heap_d2b wa _ _ _ _) (by omega)) rfl (by rw [unhide lA]) (by decide) (unhide zB) ?_
                intro g10 cap10 w10 x2 ba2; replace x2 := hide x2; replace ba2 := hide ba2
                refine unhide hK _ _ (fun _ => unhide hSS _ (by repeat (first | exact unhide ba3 | exact unhide ba2 | exact unhide ba1 | exact Below.refl _ _ | refine Below.drew ?_ | refine below_add ?_ _))) (fun hS2 hc3 => ?_)
                clear hK K
                try simp only [Act.put, List.setIfInBounds_toArray, List.set_cons_zero, List.set_cons_succ, List.getElem_toArray, List.getElem_cons_succ, List.getElem_cons_zero]
                refine Lw.ready (rs := [20]) (by kernel_rfl) (by simp) (by assumption) (fun hc2 => ?_)
                refine Nxt1.cons rfl (by kernel_rfl) hc2 (fun K hK => ?_) ?_
                · -- operation 20
                  refine step_app_re rfl (.tmp 71) (.tmp 77) rfl wa.heap.size _ (Q.take Q.length ++ [(who, t)]) (([] : List En)) rfl (unhide x2) _ _ _ rfl (by first | exact re_nil _ _ _ | exact (unhide hD).next (unhide ba2) | (simp only [Nat.sub_self]; exact re_nil _ _ _)) (by first | exact fun _ => rfl | exact fun h => by cases h) (unhide zC) (unhide ba2).size ?_
                  intro v11 w11 x3 gr3; have ba3 := hide ((unhide ba2).trans (grown_below gr3 (unhide ba2).size (fun j hj => ((unhide x2).lt j hj).1))); obtain ⟨a11, n11, c11, rfl⟩ := pr_form x3; replace x3 := hide x3; clear gr3
                  refine unhide hK _ _ (fun _ => unhide hSS _ (by repeat (first | exact unhide ba3 | exact unhide ba2 | exact unhide ba1 | exact Below.refl _ _ | refine Below.drew ?_ | refine below_add ?_ _))) (fun hS2 hc3 => ?_)
                  clear hK K
                  try simp only [Act.put, List.setIfInBounds_toArray, List.set_cons_zero, List.set_cons_succ, List.getElem_toArray, List.getElem_cons_succ, List.getElem_cons_zero]
                  refine Lw.take (i := 21) [22, 23] (by kernel_rfl) (by rfl) (by decide) rfl (by kernel_rfl) (by kernel_rfl) (by kernel_rfl) (fun _ _ _ h => h) (by assumption) (v := ?_) (Or.inl ⟨by rfl, ?_⟩) (by first | assumption | exact unhide hSS _ (unhide ba3)) (fun hc1 => ?_)
                  rotate_left
                  · (intro w hSw; (try dsimp only at hSw); go_simp; first | done | with_reducible rfl)
                  try simp only [Act.put, List.setIfInBounds_toArray, List.set_cons_zero, List.set_cons_succ, List.getElem_toArray, List.getElem_cons_succ, List.getElem_cons_zero]
                  refine Lw.take (i := 22) [23] (by kernel_rfl) (by rfl) (by decide) rfl (by kernel_rfl) (by kernel_rfl) (by kernel_rfl) (fun _ _ _ h => h) (by assumption) (v := ?_) (Or.inl ⟨by rfl, ?_⟩) (by first | assumption | exact unhide hSS _ (unhide ba3)) (fun hc1 => ?_)
                  rotate_left
                  · (intro w hSw; (try dsimp only at hSw); go_simp; first | done | with_reducible rfl)
                  try simp only [Act.put, List.setIfInBounds_toArray, List.set_cons_zero, List.set_cons_succ, List.getElem_toArray, List.getElem_cons_succ, List.getElem_cons_zero]
                  refine Lw.ready (rs := [23]) (by kernel_rfl) (by simp) (by assumption) (fun hc2 => ?_)
                  refine Nxt1.cons rfl (by kernel_rfl) hc2 (fun K hK => ?_) ?_
                  · -- operation 23
                    have fr := unhide hFF _ (unhide ba3)
                    have cc := unhide hSS _ (unhide ba3)
                    go_simp
                    refine unhide hK _ _ (fun h => absurd h (by decide)) (fun _ hc3 => ?_)
                    clear hK K
                    try simp only [Act.put, List.setIfInBounds_toArray, List.set_cons_zero, List.set_cons_succ, List.getElem_toArray, List.getElem_cons_succ, List.getElem_cons_zero]
                    refine Lw.done (by kernel_rfl) ?_ _
                    have f1 := unhide x3
                    rw [unhide fin] at f1
                    have P := hide ((unhide HLx).put1 (unhide ba3) (pr_es f1))
                    clear f1
                    go_wp2
                    go_ret
                    exact ⟨rfl, _, _, (unhide P).1, (unhide P).2.1, (Mv.of_below (unhide Bx)).trans (unhide P).2.2⟩
                  exact Nxt1.nil
                exact Nxt1.nil
              exact Nxt1.nil
            exact Nxt1.nil
          exact Nxt1.nil
        exact Nxt1.nil
end Go.Proofs.YtgiklggnolbiiaaGreat
