/- serve: one leaves. -/
import Derived.Test.YtbmoapeeahigkaaInv
import Derived.Deep.RegionHeld3
namespace Go.Proofs.Ytbmoapeeahigkaa
open Go.RowKit
variable {B : Nat} {H Q : List En} {b : Nat}

/-- i were granted, the first t of those that waited are behind us. -/
def J (who : Int) (Q : List En) (i t : Nat) : Prop := (out1 who Q).drop i = out1 who (Q.drop t)
theorem j_start (who : Int) (Q : List En) : J who Q 0 0 := by unfold J; rw [List.drop_zero, List.drop_zero]
theorem out_same {who : Int} {l : List En} (h : ∀ x ∈ l, x.1 ≠ who) : out1 who l = l := by
  apply out_no
  cases e : hasD who l
  · rfl
  · obtain ⟨x, hx, e2⟩ := has_iff.1 e
    exact absurd e2 (h x hx)
theorem j_skip {who : Int} {Q : List En} {i t : Nat} (ho : Once Q) (ht : t < Q.length) (he : (Q.getD t (0, 0)).1 = who) (h : J who Q i t) : J who Q i (t + 1) := by
  unfold J at h ⊢
  rw [h, drop_at ht]
  have ho2 : Once (Q.getD t (0, 0) :: Q.drop (t + 1)) := by rw [← drop_at ht]; exact ho.sublist (List.drop_sublist _ _)
  obtain ⟨h1, _⟩ := List.pairwise_cons.1 ho2
  rw [out_same (l := Q.drop (t + 1)) (fun x hx => by have := h1 x hx; rw [he] at this; exact this.symm)]
  unfold out1
  rw [List.eraseP_cons]
  have e : isWho who (Q.getD t (0, 0)) = true := by simp only [isWho, beq_iff_eq]; exact he
  rw [e]; rfl
theorem j_take {who : Int} {Q : List En} {i t : Nat} (ht : t < Q.length) (he : (Q.getD t (0, 0)).1 ≠ who) (h : J who Q i t) : i < (out1 who Q).length ∧ (out1 who Q).getD i (0, 0) = Q.getD t (0, 0) ∧ J who Q (i + 1) (t + 1) := by
  unfold J at h ⊢
  have e : isWho who (Q.getD t (0, 0)) = false := by simp only [isWho, beq_eq_false_iff_ne]; exact he
  have h2 : (out1 who Q).drop i = Q.getD t (0, 0) :: out1 who (Q.drop (t + 1)) := by
    rw [h, drop_at ht]
    unfold out1
    rw [List.eraseP_cons, e]; rfl
  have hi : i < (out1 who Q).length := by
    by_cases hi : i < (out1 who Q).length
    · exact hi
    · rw [List.drop_eq_nil_of_le (by omega)] at h2; cases h2
  rw [drop_at hi] at h2
  injection h2 with e1 e2
  exact ⟨hi, e1, e2⟩
theorem j_in {who : Int} {Q : List En} {i t : Nat} (hi : i < (out1 who Q).length) (h : J who Q i t) : t < Q.length := by
  by_cases ht : t < Q.length
  · exact ht
  · unfold J at h
    rw [List.drop_eq_nil_of_le (show Q.length ≤ t by omega), drop_at hi] at h
    cases h
/-- Who was granted holds what it waited for, and waits no more. -/
theorem granted {who : Int} (hs : Srt H) (h : Ok H Q) {i : Nat} (hi : i < (grantD (out1 who H) (out1 who Q)).1) : lookD ((out1 who Q).getD i (0, 0)).1 (leaveD who H Q).2.1 = ((out1 who Q).getD i (0, 0)).2 ∧ lookD ((out1 who Q).getD i (0, 0)).1 (leaveD who H Q).2.2 = 0 := by
  have hle := grant_le (out1 who Q) (out1 who H)
  have ho1 := out_once (who := who) h.once
  obtain ⟨i1, _, _, i4, _⟩ := grant_facts (out1 who Q) (out1 who H) (out_srt hs) ho1 (fun x hx => h.hm x (out_mem hx)) (fun x hx => h.qm x (out_mem hx))
  have hil : i < (out1 who Q).length := by omega
  have e : (out1 who Q).getD i (0, 0) = (out1 who Q)[i] := by simp [List.getD, hil]
  constructor
  · refine look_uniq i4 (i1 _ ?_)
    rw [e]
    rw [List.mem_take_iff_getElem]
    exact ⟨i, by omega, rfl⟩
  · apply look_no
    cases e2 : hasD ((out1 who Q).getD i (0, 0)).1 (leaveD who H Q).2.2
    · rfl
    · obtain ⟨z, hz, e3⟩ := has_iff.1 e2
      obtain ⟨j, hj, rfl⟩ := List.getElem_of_mem hz
      unfold leaveD at hj e3
      simp only [List.length_drop] at hj
      simp only [List.getElem_drop] at e3
      have := List.pairwise_iff_getElem.1 ho1 i ((grantD (out1 who H) (out1 who Q)).1 + j) hil (by omega) (by omega)
      rw [e] at e3
      exact absurd e3.symm this
theorem Ln.drew {w : World} (h : Ln B H Q b w) : Ln B H Q b w.drew := h.next ⟨rfl, rfl, rfl, Nat.le_refl _, fun _ _ => rfl⟩
set_option maxRecDepth 100000 in
set_option maxHeartbeats 4000000 in
theorem serve_any (w : World) (h : Ln B H Q b w) (hk : Ok H Q) (hn : H.length + Q.length < 1000) (who : Int) :
    Calls Try.prog 29 #[.pointer (some ⟨b, 0, none⟩), .int .i64 who] w fun e w' => e = .returned (.bool true) ∧ Ln B (leaveD who H Q).2.1 (leaveD who H Q).2.2 b w' ∧ Below B w w' := by
  obtain ⟨hv, qv, l⟩ := h
  have hs := l.srt
  have HL := hide l
  have hkl := leave_ok who hs hk
  have hql := out_len who Q
  have hgr := grant_le (out1 who Q) (out1 who H)
  obtain ⟨n, hnn⟩ : ∃ n, n = (grantD (out1 who H) (out1 who Q)).1 := ⟨_, rfl⟩
  obtain ⟨H2, hH2⟩ : ∃ H2, H2 = (leaveD who H Q).2.1 := ⟨_, rfl⟩
  obtain ⟨Q2, hQ2⟩ : ∃ Q2, Q2 = (leaveD who H Q).2.2 := ⟨_, rfl⟩
  have hgl : (leaveD who H Q).1 = ((out1 who Q).take n).map (·.1) := by rw [hnn]; rfl
  have hlen : ((leaveD who H Q).1).length = n := by rw [hgl, List.length_map, List.length_take]; omega
  have hsum : H2.length + Q2.length < 1000 := by rw [hH2, hQ2]; have := hkl.2.1; omega
  have hgt : ∀ i, i < n → (leaveD who H Q).1.getD i 0 = ((out1 who Q).getD i (0, 0)).1 ∧ lookD ((out1 who Q).getD i (0, 0)).1 H2 = ((out1 who Q).getD i (0, 0)).2 ∧ lookD ((out1 who Q).getD i (0, 0)).1 Q2 = 0 := fun i hi => by
    have h1 := granted (who := who) hs hk (i := i) (by omega)
    rw [hH2, hQ2]
    refine ⟨?_, h1⟩
    rw [hgl]
    have hi2 : i < (out1 who Q).length := by omega
    simp [List.getD, hi, hi2]
  have ho := hide hk.once
  have hnq : n ≤ (out1 who Q).length := by omega
  have hn1 : n < 1000 := by omega
  have hq1 : Q.length < 1000 := by omega
  have HG := hide hgt
  rw [← hH2, ← hQ2]
  replace hH2 := hide hH2
  replace hQ2 := hide hQ2
  replace hnn := hide hnn
  replace hlen := hide hlen
  replace hnq := hide hnq
  clear l hkl hql hgr hgl hgt hs hk
  go_enter Try.func29, Try.ntmps29
  go_wp2_with fail
  refine (queue_any w (unhide HL) (by omega)).mono ?_
  rintro e w1 ⟨v1, rfl, E1, b1⟩
  obtain ⟨a1, n1, c1, rfl, hn1'⟩ := slice_form' E1
  subst hn1'
  replace E1 := hide E1
  have L1 := hide ((unhide HL).next b1)
  replace b1 := hide b1
  go_wp2_with fail
  refine (leave_any w1 (unhide L1) (by omega) who).mono ?_
  rintro e w2 ⟨gv, hv2, qv2, rfl, I2, L2, M2⟩
  obtain ⟨a2, c2, rfl⟩ := I2.form
  have R2 := hide I2.rd
  rw [unhide hlen] at R2 ⊢
  have E2 : Hid (Es w.heap.size (.slice a1 Q.length c1) Q w2) := (unhide E1).keep fun k hk => by
    have hk2 := (unhide E1).lt k hk
    refine M2.block k hk2.2 ?_ ?_ ?_
    · have := (unhide HL).lt; omega
    · intro e; have := ((unhide HL).hr.lt k e).2; omega
    · intro e; have := ((unhide HL).qr.lt k e).2; omega
  have B2 : Hid (Below B w w2) := ((unhide b1).mono (unhide HL).low).trans (M2.below (unhide L1))
  have LN : Hid (Ln B H2 Q2 b w2) := by rw [unhide hH2, unhide hQ2]; exact ⟨_, _, L2⟩
  clear I2 L2 M2
  go_wp2_with fail
  go_loopw [7, 8] (fun s7 s8 wr => ∃ t i : Nat, t ≤ Q.length ∧ i ≤ n ∧ s7 = .int .i64 t ∧ s8 = .int .i64 i ∧ Hid (J who Q i t) ∧ Hid (Below w2.heap.size w2 wr)) (fun _ s8 _ => n - (intOf s8).toNat)
  case atStart => exact ⟨0, 0, Nat.zero_le _, Nat.zero_le _, rfl, rfl, j_start who Q, Below.refl _ _⟩
  case round =>
    obtain ⟨t, i, htq, hi, rfl, rfl, hJ, b3⟩ := hrel
    by_cases hlt : i < n
    · go_wp2_with fail
      go_loopw [7] (fun s7 wz => ∃ t : Nat, t ≤ Q.length ∧ s7 = .int .i64 t ∧ Hid (J who Q i t) ∧ wz = wr) (fun s7 _ => Q.length - (intOf s7).toNat)
      case atStart => exact ⟨t, htq, rfl, unhide hJ, rfl⟩
      case round =>
        obtain ⟨t2, htq2, rfl, hJ2, rfl⟩ := hrel
        have ht3 : t2 < Q.length := j_in (by have := unhide hnq; omega) (unhide hJ2)
        obtain ⟨g, rfl, r⟩ : ∃ g, a1 = some ⟨g, 0, none⟩ ∧ Rb g c1 Q wr := by
          rcases (unhide E2).next (unhide b3) with ⟨_, e⟩ | ⟨g, cap', e, _, r⟩
          · rw [e] at ht3; simp at ht3
          · injection e with e1 _ e2
            subst e1 e2
            exact ⟨g, rfl, r⟩
        obtain ⟨x, hx⟩ : ∃ x, x = Q.getD t2 (0, 0) := ⟨_, rfl⟩
        have d1 : wr.cell? ⟨g, t2 * 2, none⟩ = some (.int .i64 x.1) := by rw [hx]; exact r.fst ht3
        have d2 : wr.cell? ⟨g, t2 * 2 + 1, none⟩ = some (.int .i64 x.2) := by rw [hx]; exact r.snd ht3
        have hgl2 := hide r.lt
        have Hx := hide hx
        clear hx r
        have htd : (t2 : Int) < (Q.length : Int) := by omega
        have hq8 : decide (Q.length ≤ t2) = false := by simp; omega
        have hq9 : ¬ (Q.length ≤ t2) := by omega
        cases hw : (x.1 == who)
        · obtain ⟨q1, q2, q3⟩ := j_take ht3 (by rw [← unhide Hx]; simpa using hw) (unhide hJ2)
          obtain ⟨s1, s2, s3⟩ := unhide HG i hlt
          rw [q2, ← unhide Hx] at s1 s2 s3
          obtain ⟨a, c, e, sg⟩ := (unhide R2).next (unhide b3)
          injection e with e1 e2 e3
          subst e1 e3
          obtain ⟨gg, o, rfl, d3⟩ := seg_at sg (i := i) (by omega)
          rw [s1] at d3
          have hggl : Hid (gg < wr.heap.size) := by
            show _ < _
            exact World.block_lt_of_cell? _ _ d3
          have L3 := hide ((unhide LN).next (unhide b3))
          have S2 := hide s2
          have S3 := hide s3
          have Q3 := hide q3
          have E2n := hide e2
          clear s1 s2 s3 q1 q2 q3 sg e2
          go_wp2_with fail
          go_region_held3 (fun wz => wz.cell? ⟨g, t2 * 2, none⟩ = some (.int .i64 x.1) ∧ wz.cell? ⟨g, t2 * 2 + 1, none⟩ = some (.int .i64 x.2) ∧ wz.cell? ⟨gg, o + i, none⟩ = some (.int .i64 x.1))
            (first | exact ⟨d1, d2, d3⟩ | exact ⟨m1, m2, m3⟩ | exact ⟨k1, k2, k3⟩)
            (first | (go_at_call 16; refine Calls.mono (holds_ln (B := B) (H := H2) (Q := Q2) _ (unhide L3).drew (by omega) x.1 (unhide S2)) ?_; rintro e w5 ⟨rfl, b5⟩; have m1 := (b5.cell (p := ⟨g, t2 * 2, none⟩) (unhide hgl2)).trans d1; have m2 := (b5.cell (p := ⟨g, t2 * 2 + 1, none⟩) (unhide hgl2)).trans d2; have m3 := (b5.cell (p := ⟨gg, o + i, none⟩) (unhide hggl)).trans d3; have L5 := hide ((unhide L3).drew.next b5); have K5 := hide (below_then (unhide b3) (w' := wr) (w'' := w5) ⟨b5.os, b5.tape, b5.output, b5.size, b5.block⟩); have sz5 := hide b5.size; clear b5) | (go_at_call 18; refine Calls.mono (waits_ln (B := B) (H := H2) (Q := Q2) _ (unhide L5) (by omega) x.1 (unhide S3)) ?_; rintro e w6 ⟨rfl, b6⟩; have k1 := (b6.cell (p := ⟨g, t2 * 2, none⟩) (Nat.lt_of_lt_of_le (unhide hgl2) (unhide sz5))).trans m1; have k2 := (b6.cell (p := ⟨g, t2 * 2 + 1, none⟩) (Nat.lt_of_lt_of_le (unhide hgl2) (unhide sz5))).trans m2; have k3 := (b6.cell (p := ⟨gg, o + i, none⟩) (Nat.lt_of_lt_of_le (unhide hggl) (unhide sz5))).trans m3; have K6 := hide (below_then (unhide K5) (w' := w5) (w'' := w6) ⟨b6.os, b6.tape, b6.output, b6.size, b6.block⟩); clear b6))
          go_wp2
          go_roundw
          case rel => exact ⟨t2 + 1, i + 1, by omega, by omega, by go_num, by go_num, unhide Q3, unhide K6⟩
          case measure => simp [intOf]; omega
        · have J3 := hide (j_skip (unhide ho) ht3 (by rw [← unhide Hx]; simpa using hw) (unhide hJ2))
          go_wp2
          go_roundw
          case rel => exact ⟨t2 + 1, by omega, by go_num, unhide J3, by first | rfl | trivial⟩
          case measure => simp [intOf]; omega
    · obtain rfl : i = n := by omega
      go_wp2
      go_ret
      exact ⟨rfl, (unhide LN).next (unhide b3), bt (unhide B2) (unhide b3) (unhide LN).low⟩
end Go.Proofs.Ytbmoapeeahigkaa
