/- Texts of this claim, put together in their order. -/
import Derived.Test.YtgiklggnolbiiaaGreatBase1
import Derived.Test.YtgiklggnolbiiaaGreatBase2
import Derived.Test.YtgiklggnolbiiaaGreatBase3
import Derived.Test.YtgiklggnolbiiaaGreatBase4
import Derived.Test.YtgiklggnolbiiaaGreatBase5
import Derived.Test.YtgiklggnolbiiaaGreatBase6
import Derived.Test.YtgiklggnolbiiaaGreatBase7
import Derived.Test.YtgiklggnolbiiaaGreatBase8
/- The reference's Ask: all its ways but the wait. -/
namespace Go.Proofs.YtgiklggnolbiiaaGreat
open Go.RowKit
set_option linter.unusedVariables false
set_option linter.unusedSimpArgs false
variable {B : Nat} {H Q : List En} {b : Nat} {hv qv : Value}
def RAskPost (w : World) (b : Nat) (hv qv : Value) (B : Nat) (r : Int × List En × List En) (e : Ending) (w' : World) : Prop :=
  e = .returned (.int .i64 r.1) ∧ ∃ hv' qv', Lr B r.2.1 r.2.2 b hv' qv' w' ∧ Dq hv' qv' ∧ Mv b hv qv hv' qv' w w'
set_option maxRecDepth 100000 in
set_option maxHeartbeats 8000000 in
theorem rask_bad (w : World) (h : Lr B H Q b hv qv w) (hd : Dq hv qv) (hH : H.length < 1000) (hQ : Q.length < 1000) (who m : Int) (hk : okD who m Q = false) :
    Calls Tryz.prog 39 #[.pointer (some ⟨b, 0, none⟩), .int .i64 who, .int .i64 m] w (RAskPost w b hv qv B (0, H, Q)) := by
  have HL := hide h
  have hd := hide hd
  clear h
  unfold okD at hk
  cases h1 : knownB m
  · clear hk
    go_enter Tryz.func39, Tryz.ntmps39
    go_wp2_with fail
    refine (mode_any m _).mono ?_
    rw [h1]
    rintro e w' ⟨rfl, rfl⟩
    go_wp2
    go_ret
    exact ⟨rfl, _, _, unhide HL, unhide hd, Mv.of_below (Below.refl _ _)⟩
  · cases h2 : (m == 0)
    · have h3 : (lookD who Q == 0) = false := by simpa [h1, h2] using hk
      clear hk
      go_enter Tryz.func39, Tryz.ntmps39
      go_wp2_with fail
      refine (mode_any m _).mono ?_
      rw [h1]
      rintro e w' ⟨rfl, rfl⟩
      go_wp2_with fail
      refine (rwaits_any _ (unhide HL) (by omega) who).mono ?_
      rintro e w2 ⟨rfl, rfl⟩
      have h4 : (lookD who Q != 0) = true := by unfold bne; rw [h3]; rfl
      generalize lookD who Q = z at *
      go_wp2
      go_ret
      exact ⟨rfl, _, _, unhide HL, unhide hd, Mv.of_below (Below.refl _ _)⟩
    · clear hk
      go_enter Tryz.func39, Tryz.ntmps39
      go_wp2_with fail
      refine (mode_any m _).mono ?_
      rw [h1]
      rintro e w' ⟨rfl, rfl⟩
      go_wp2
      go_ret
      exact ⟨rfl, _, _, unhide HL, unhide hd, Mv.of_below (Below.refl _ _)⟩
set_option maxRecDepth 100000 in
set_option maxHeartbeats 8000000 in
theorem rask_same (w : World) (h : Lr B H Q b hv qv w) (hd : Dq hv qv) (hH : H.length < 1000) (hQ : Q.length < 1000) (who m : Int) (held t : Int) (hk : okD who m Q = true) (hheld : lookD who H = held) (ht : goal held m = t) (h0 : (held == 0) = false) (hs : (t == held) = true) :
    Calls Tryz.prog 39 #[.pointer (some ⟨b, 0, none⟩), .int .i64 who, .int .i64 m] w (RAskPost w b hv qv B (1, H, Q)) := by
  have h00 : (held != 0) = true := by unfold bne; rw [h0]; rfl
  obtain ⟨⟨h1, h2⟩, h3⟩ : (knownB m = true ∧ (m == 0) = false) ∧ (lookD who Q == 0) = true := by
    unfold okD at hk
    simpa using hk
  have HL := hide h
  have hd := hide hd
  have Ht := hide ht
  have Hh := hide hheld
  clear h hk ht hheld
  go_enter Tryz.func39, Tryz.ntmps39
  go_wp2_with fail
  refine (mode_any m _).mono ?_
  rw [h1]
  rintro e w ⟨rfl, rfl⟩
  go_wp2_with fail
  refine (rwaits_any _ (unhide HL) (by omega) who).mono ?_
  rintro e w ⟨rfl, rfl⟩
  have h4 : (lookD who Q != 0) = false := by unfold bne; rw [h3]; rfl
  have h5 := hide h3
  clear h3
  generalize lookD who Q = z at h4 ⊢
  go_wp2_with fail
  refine (rholds_any _ (unhide HL) (by omega) who).mono ?_
  rw [unhide Hh]
  rintro e w ⟨rfl, rfl⟩
  clear h4
  go_wp2_with fail
  refine (rsup_any _ 2 2 [held, m] _ (seg2 w held m) (by decide)).mono ?_
  rw [show supL [held, m] = t from unhide Ht]
  rintro e w4 ⟨rfl, rfl⟩
  have B1 := hide (below_new w (.cells #[.int .i64 held, .int .i64 m] 3))
  generalize w.alloc (.cells #[.int .i64 held, .int .i64 m] 3) = wa at B1 ⊢
  have HL1 := hide ((unhide HL).next (unhide B1))
  go_wp2
  go_ret
  exact ⟨rfl, _, _, unhide HL1, unhide hd, Mv.of_below (unhide B1)⟩
set_option maxRecDepth 100000 in
set_option maxHeartbeats 8000000 in
theorem rask_holdz (w : World) (h : Lr B H Q b hv qv w) (hd : Dq hv qv) (hH : H.length < 1000) (hQ : Q.length < 1000) (who m : Int) (held t : Int) (hk : okD who m Q = true) (hheld : lookD who H = held) (ht : goal held m = t) (h0 : (held == 0) = true) (hn : (Q.length : Int) = 0) (hsr : Srt H) (hf : fitsL (who, t) H = true) :
    Calls Tryz.prog 39 #[.pointer (some ⟨b, 0, none⟩), .int .i64 who, .int .i64 m] w (RAskPost w b hv qv B (1, putD (who, t) H, Q)) := by
  have h00 : (held != 0) = false := by unfold bne; rw [h0]; rfl
  have hsr := hide hsr
  have hf := hide hf
  obtain ⟨⟨h1, h2⟩, h3⟩ : (knownB m = true ∧ (m == 0) = false) ∧ (lookD who Q == 0) = true := by
    unfold okD at hk
    simpa using hk
  have HL := hide h
  have hd := hide hd
  have Ht := hide ht
  have Hh := hide hheld
  clear h hk ht hheld
  go_enter Tryz.func39, Tryz.ntmps39
  go_wp2_with fail
  refine (mode_any m _).mono ?_
  rw [h1]
  rintro e w ⟨rfl, rfl⟩
  go_wp2_with fail
  refine (rwaits_any _ (unhide HL) (by omega) who).mono ?_
  rintro e w ⟨rfl, rfl⟩
  have h4 : (lookD who Q != 0) = false := by unfold bne; rw [h3]; rfl
  have h5 := hide h3
  clear h3
  generalize lookD who Q = z at h4 ⊢
  go_wp2_with fail
  refine (rholds_any _ (unhide HL) (by omega) who).mono ?_
  rw [unhide Hh]
  rintro e w ⟨rfl, rfl⟩
  clear h4
  go_wp2_with fail
  refine (rsup_any _ 2 2 [held, m] _ (seg2 w held m) (by decide)).mono ?_
  rw [show supL [held, m] = t from unhide Ht]
  rintro e w4 ⟨rfl, rfl⟩
  have B1 := hide (below_new w (.cells #[.int .i64 held, .int .i64 m] 3))
  generalize w.alloc (.cells #[.int .i64 held, .int .i64 m] 3) = wa at B1 ⊢
  have HL1 := hide ((unhide HL).next (unhide B1))
  obtain ⟨aq, nq, cq, rfl, hnq⟩ := slice_form' (unhide HL1).qr
  have c1 := (unhide HL1).c1
  have nq0 : nq = 0 := by omega
  subst nq0
  clear hnq
  go_wp2_with fail
  refine (rfits_lane _ (unhide HL1) (by omega) who t).mono ?_
  rw [unhide hf]
  rintro e w5 ⟨rfl, b5⟩
  have B5 := hide (below_then (unhide B1) b5)
  have HL2 := hide ((unhide HL1).next b5)
  clear b5 c1
  go_wp2_with fail
  refine (rput_any _ (unhide HL2) (unhide hd) (unhide hsr) hH who t).mono ?_
  rintro e w6 ⟨rfl, hv6, L6, D6, M6⟩
  have L6 := hide L6
  have D6 := hide D6
  have M6 := hide ((Mv.of_below (unhide B5)).trans M6)
  go_wp2
  go_ret
  exact ⟨rfl, _, _, unhide L6, unhide D6, unhide M6⟩
set_option maxRecDepth 100000 in
set_option maxHeartbeats 8000000 in
theorem rask_holdn (w : World) (h : Lr B H Q b hv qv w) (hd : Dq hv qv) (hH : H.length < 1000) (hQ : Q.length < 1000) (who m : Int) (held t : Int) (hk : okD who m Q = true) (hheld : lookD who H = held) (ht : goal held m = t) (h0 : (held == 0) = false) (hs : (t == held) = false) (hn : cnvD H Q = 0) (hsr : Srt H) (hf : fitsL (who, t) H = true) :
    Calls Tryz.prog 39 #[.pointer (some ⟨b, 0, none⟩), .int .i64 who, .int .i64 m] w (RAskPost w b hv qv B (1, putD (who, t) H, Q)) := by
  have h00 : (held != 0) = true := by unfold bne; rw [h0]; rfl
  have hsr := hide hsr
  have hf := hide hf
  have hn := hide hn
  obtain ⟨⟨h1, h2⟩, h3⟩ : (knownB m = true ∧ (m == 0) = false) ∧ (lookD who Q == 0) = true := by
    unfold okD at hk
    simpa using hk
  have HL := hide h
  have hd := hide hd
  have Ht := hide ht
  have Hh := hide hheld
  clear h hk ht hheld
  go_enter Tryz.func39, Tryz.ntmps39
  go_wp2_with fail
  refine (mode_any m _).mono ?_
  rw [h1]
  rintro e w ⟨rfl, rfl⟩
  go_wp2_with fail
  refine (rwaits_any _ (unhide HL) (by omega) who).mono ?_
  rintro e w ⟨rfl, rfl⟩
  have h4 : (lookD who Q != 0) = false := by unfold bne; rw [h3]; rfl
  have h5 := hide h3
  clear h3
  generalize lookD who Q = z at h4 ⊢
  go_wp2_with fail
  refine (rholds_any _ (unhide HL) (by omega) who).mono ?_
  rw [unhide Hh]
  rintro e w ⟨rfl, rfl⟩
  clear h4
  go_wp2_with fail
  refine (rsup_any _ 2 2 [held, m] _ (seg2 w held m) (by decide)).mono ?_
  rw [show supL [held, m] = t from unhide Ht]
  rintro e w4 ⟨rfl, rfl⟩
  have B1 := hide (below_new w (.cells #[.int .i64 held, .int .i64 m] 3))
  generalize w.alloc (.cells #[.int .i64 held, .int .i64 m] 3) = wa at B1 ⊢
  have HL1 := hide ((unhide HL).next (unhide B1))
  obtain ⟨aq, nq, cq, rfl, hnq⟩ := slice_form' (unhide HL1).qr
  have c1 := (unhide HL1).c1
  have hnq := hide hnq
  go_wp2_with fail
  refine (rconv_any _ (unhide HL1) (by omega) (by omega)).mono ?_
  rw [unhide hn]
  rintro e wa ⟨rfl, rfl⟩
  go_wp2_with fail
  refine (rfits_lane _ (unhide HL1) (by omega) who t).mono ?_
  rw [unhide hf]
  rintro e w5 ⟨rfl, b5⟩
  have B5 := hide (below_then (unhide B1) b5)
  have HL2 := hide ((unhide HL1).next b5)
  clear b5 c1
  go_wp2_with fail
  refine (rput_any _ (unhide HL2) (unhide hd) (unhide hsr) hH who t).mono ?_
  rintro e w6 ⟨rfl, hv6, L6, D6, M6⟩
  have L6 := hide L6
  have D6 := hide D6
  have M6 := hide ((Mv.of_below (unhide B5)).trans M6)
  go_wp2
  go_ret
  exact ⟨rfl, _, _, unhide L6, unhide D6, unhide M6⟩
end Go.Proofs.YtgiklggnolbiiaaGreat
