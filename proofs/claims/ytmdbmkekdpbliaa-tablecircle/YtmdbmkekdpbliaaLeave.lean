/- Leave. -/
import Derived.Test.YtmdbmkekdpbliaaGrant
namespace Go.Proofs.Ytmdbmkekdpbliaa
open Go.RowKit
variable {B : Nat} {H Q : List En} {b : Nat} {hv qv : Value}

/-- All but who. -/
def out1 (who : Int) (l : List En) : List En := l.eraseP (isWho who)
theorem out_at (who : Int) : ∀ {l : List En} {i : Nat}, i < l.length → (∀ t, t < i → isWho who (l.getD t (0, 0)) = false) → isWho who (l.getD i (0, 0)) = true → l.take i ++ l.drop (i + 1) = out1 who l
  | [], i, h, _, _ => by simp at h
  | p :: r, 0, _, _, h => by
    have h2 : isWho who p = true := h
    unfold out1
    rw [List.eraseP_cons, h2]; rfl
  | p :: r, i + 1, hi, h1, h2 => by
    have h0 : isWho who p = false := h1 0 (by omega)
    unfold out1
    rw [List.eraseP_cons, h0]
    show p :: (r.take i ++ r.drop (i + 1)) = p :: r.eraseP (isWho who)
    rw [out_at who (l := r) (i := i) (by simpa using hi) (fun t ht => by simpa using h1 (t + 1) (by omega)) (by simpa using h2)]; rfl
theorem out_no {who : Int} {l : List En} (h : hasD who l = false) : out1 who l = l := by
  unfold out1
  rw [List.eraseP_of_forall_not]
  intro a ha
  have := List.any_eq_false.1 h a ha
  simpa [isWho] using this
theorem out_pos {who : Int} {l : List En} (hs : Srt l) (h : hasD who l = true) : l.take (posD who l) ++ l.drop (posD who l + 1) = out1 who l := by
  obtain ⟨p1, p2, _⟩ := look_pos hs h
  refine out_at who p1 (fun t ht => ?_) ?_
  · have := pos_below who ht
    simp only [isWho, beq_eq_false_iff_ne]; omega
  · simp only [isWho, beq_iff_eq]; exact p2
theorem out_idx {who : Int} {l : List En} : (hasD who l = false ∧ idxD (isWho who) l = -1) ∨ ∃ i : Nat, i < l.length ∧ idxD (isWho who) l = (i : Int) ∧ l.take i ++ l.drop (i + 1) = out1 who l := by
  rcases look_idx (k := who) (l := l) with h | ⟨i, hi, h1, e, _, _⟩
  · exact .inl h
  · have e2 : l.findIdx (isWho who) = i := by
      have h2 : l.any (isWho who) = true := h1
      unfold idxD at e
      rw [h2] at e
      have e3 : ((l.findIdx (isWho who) : Nat) : Int) = (i : Int) := by simpa using e
      exact Int.ofNat.inj e3
    refine .inr ⟨i, hi, e, out_at who hi (fun t ht => ?_) ?_⟩
    · have := List.not_of_lt_findIdx (p := isWho who) (xs := l) (i := t) (by omega)
      simpa [List.getD, show t < l.length by omega] using this
    · have := List.findIdx_getElem (xs := l) (p := isWho who) (w := by omega)
      simp only [e2] at this
      simpa [List.getD, hi] using this
theorem out_len (who : Int) (l : List En) : (out1 who l).length ≤ l.length := List.length_eraseP_le
theorem out_srt {who : Int} {l : List En} (h : Srt l) : Srt (out1 who l) := h.sublist List.eraseP_sublist
theorem Is.down {B' : Nat} {v : Value} {l : List Int} {w : World} (h : Is B' v l w) (hB : B ≤ B') : Is B v l w := by
  refine ⟨h.1, ?_⟩
  rcases h.2 with h0 | ⟨g, cap, cur, e, h1, r⟩
  · exact .inl h0
  · exact .inr ⟨g, cap, cur, e, Nat.le_trans hB h1, r⟩
/-- What Leave answers, and those that hold and wait behind it. -/
def leaveD (who : Int) (H Q : List En) : List Int × List En × List En :=
  (((out1 who Q).take (grantD (out1 who H) (out1 who Q)).1).map (·.1), (grantD (out1 who H) (out1 who Q)).2, (out1 who Q).drop (grantD (out1 who H) (out1 who Q)).1)
def LeavePost (w : World) (b : Nat) (hv qv : Value) (B : Nat) (r : List Int × List En × List En) (e : Ending) (w' : World) : Prop :=
  ∃ gv hv' qv', e = .returned gv ∧ Is w.heap.size gv r.1 w' ∧ La B r.2.1 r.2.2 b hv' qv' w' ∧ Mv b hv qv hv' qv' w w'
theorem leave_end {w w1 : World} {hv1 qv1 : Value} {who : Int} (M : Mv b hv qv hv1 qv1 w w1) {e : Ending} {w' : World} (g : GrantPost w1 b hv1 qv1 B (out1 who H) (out1 who Q) e w') : LeavePost w b hv qv B (leaveD who H Q) e w' := by
  obtain ⟨gv, hv', qv', e1, g1, g2, g3⟩ := g
  exact ⟨gv, hv', qv', e1, g1.down M.size, g2, M.trans g3⟩
set_option maxRecDepth 100000 in
set_option maxHeartbeats 1000000 in
theorem leave_ff (w : World) (h : La B H Q b hv qv w) (hn : H.length + Q.length < 999999) (who : Int) (h1 : hasD who H = false) (h2 : hasD who Q = false) (h3 : idxD (isWho who) Q = -1) :
    Calls Try.prog 15 #[.pointer (some ⟨b, 0, none⟩), .int .i64 who] w (LeavePost w b hv qv B (leaveD who H Q)) := by
  have HL := hide h
  have P2 := hide (out_no h1)
  have P4 := hide (out_no h2)
  clear h2
  have O1 := hide (out_len who H)
  have O2 := hide (out_srt (who := who) h.srt)
  have H3 := hide h3
  have H1 := hide h1
  clear h1 h3 h
  go_enter Try.func15, Try.ntmps15
  go_wp2_with fail
  refine (holder_any w (unhide HL) (by omega) who).mono ?_
  rw [unhide H1]
  rintro e w1 ⟨rfl, hb⟩
  have L1 := hide ((unhide HL).next hb)
  have M1 := hide (Mv.of_below (b := b) (hv := hv) (qv := qv) hb)
  clear hb
  have HX : Hid (out1 who H = H) := P2
  generalize posD who H = p at *
  go_wp2_with fail
  have L3 : Hid (La B (out1 who H) Q b hv qv w1) := by rw [unhide HX]; exact unhide L1
  have M3 := M1
  refine (place_any w1 (unhide L3) (by omega) who).mono ?_
  rw [unhide H3]
  rintro e w4 ⟨rfl, hb⟩
  have L4 := hide ((unhide L3).next hb)
  have M4 := hide ((unhide M3).then_ hb)
  clear hb
  go_wp2_with fail
  have L6 : Hid (La B (out1 who H) (out1 who Q) b hv qv w4) := by rw [unhide P4]; exact unhide L4
  refine (grant_any w4 (unhide L6) (by have := unhide O1; rw [unhide P4]; omega)).mono ?_
  rintro e w7 hG
  obtain ⟨gv, e1, hG2⟩ : ∃ gv, e = .returned gv ∧ GrantPost w4 b _ _ B (out1 who H) (out1 who Q) (.returned gv) w7 := by
    obtain ⟨gv, h1, h2, rfl, r⟩ := hG
    exact ⟨gv, rfl, gv, h1, h2, rfl, r⟩
  subst e1
  have PG := hide (leave_end (unhide M4) hG2)
  clear hG hG2
  go_wp2
  go_ret
  exact unhide PG
set_option maxRecDepth 100000 in
set_option maxHeartbeats 1000000 in
theorem leave_ft (w : World) (h : La B H Q b hv qv w) (hn : H.length + Q.length < 999999) (who : Int) (h1 : hasD who H = false) (i : Nat) (hi : i < Q.length) (h3 : idxD (isWho who) Q = (i : Int)) (h4 : Q.take i ++ Q.drop (i + 1) = out1 who Q) :
    Calls Try.prog 15 #[.pointer (some ⟨b, 0, none⟩), .int .i64 who] w (LeavePost w b hv qv B (leaveD who H Q)) := by
  have HL := hide h
  have P2 := hide (out_no h1)
  have P4 := hide h4
  clear h4
  have O1 := hide (out_len who H)
  have O2 := hide (out_srt (who := who) h.srt)
  have H3 := hide h3
  have H1 := hide h1
  clear h1 h3 h
  go_enter Try.func15, Try.ntmps15
  go_wp2_with fail
  refine (holder_any w (unhide HL) (by omega) who).mono ?_
  rw [unhide H1]
  rintro e w1 ⟨rfl, hb⟩
  have L1 := hide ((unhide HL).next hb)
  have M1 := hide (Mv.of_below (b := b) (hv := hv) (qv := qv) hb)
  clear hb
  have HX : Hid (out1 who H = H) := P2
  generalize posD who H = p at *
  go_wp2_with fail
  have L3 : Hid (La B (out1 who H) Q b hv qv w1) := by rw [unhide HX]; exact unhide L1
  have M3 := M1
  refine (place_any w1 (unhide L3) (by omega) who).mono ?_
  rw [unhide H3]
  rintro e w4 ⟨rfl, hb⟩
  have L4 := hide ((unhide L3).next hb)
  have M4 := hide ((unhide M3).then_ hb)
  clear hb
  have c1 := (unhide L4).c1
  have hdel2 : Hid (Calls Try.prog 53 #[qv, .int .i64 i, .int .i64 ((i : Int) + 1)] w4 fun e w' => ∃ v', e = .returned v' ∧ Es B v' (Q.take i ++ Q.drop (i + 1)) w' ∧ w4.grownBy w' qv.ownBlock ∧ At qv v' w4.heap.size) := delete_any w4 (unhide L4).qr i (i + 1) (by omega) (by omega)
  go_wp2_with fail
  refine (unhide hdel2).mono ?_
  rw [unhide P4]
  rintro e w5 ⟨v', rfl, es, gr, at4⟩
  obtain ⟨a5, n5, cap5, rfl, hn5⟩ := slice_form' es
  replace hn5 := hide hn5
  have q0 := (unhide L4).grown1 gr
  have m0 : w5.cell? ⟨b, 1, none⟩ = some qv := (by simp [World.cell?, q0])
  have m3 : w5.frozen? ⟨b, 1, none⟩ = false := (by simp [World.frozen?, q0])
  have PT := (unhide L4).put1 gr es at4
  obtain ⟨w6, hw6⟩ : ∃ w6, w6 = w5.setCell ⟨b, 1, none⟩ (.slice a5 n5 cap5) := ⟨_, rfl⟩
  rw [← hw6] at PT
  have L6 := hide PT.1
  have M6 := hide ((unhide M4).trans PT.2)
  have HW6 := hide hw6
  clear PT gr es at4 q0 c1 hw6
  have O4 := hide (out_len who Q)
  go_wp2_with fail
  rw [← unhide HW6]
  clear m0 m3
  refine (grant_any w6 (unhide L6) (by have := unhide O1; have := unhide O4; omega)).mono ?_
  rintro e w7 hG
  obtain ⟨gv, e1, hG2⟩ : ∃ gv, e = .returned gv ∧ GrantPost w6 b _ _ B (out1 who H) (out1 who Q) (.returned gv) w7 := by
    obtain ⟨gv, h1, h2, rfl, r⟩ := hG
    exact ⟨gv, rfl, gv, h1, h2, rfl, r⟩
  subst e1
  have PG := hide (leave_end (unhide M6) hG2)
  clear hG hG2
  go_wp2
  go_ret
  exact unhide PG
set_option maxRecDepth 100000 in
set_option maxHeartbeats 1000000 in
theorem leave_tf (w : World) (h : La B H Q b hv qv w) (hn : H.length + Q.length < 999999) (who : Int) (h1 : hasD who H = true) (h2 : hasD who Q = false) (h3 : idxD (isWho who) Q = -1) :
    Calls Try.prog 15 #[.pointer (some ⟨b, 0, none⟩), .int .i64 who] w (LeavePost w b hv qv B (leaveD who H Q)) := by
  have HL := hide h
  have P1 := hide (look_pos h.srt h1).1
  have P2 := hide (out_pos h.srt h1)
  have P4 := hide (out_no h2)
  clear h2
  have O1 := hide (out_len who H)
  have O2 := hide (out_srt (who := who) h.srt)
  have H3 := hide h3
  have H1 := hide h1
  clear h1 h3 h
  go_enter Try.func15, Try.ntmps15
  go_wp2_with fail
  refine (holder_any w (unhide HL) (by omega) who).mono ?_
  rw [unhide H1]
  rintro e w1 ⟨rfl, hb⟩
  have L1 := hide ((unhide HL).next hb)
  have M1 := hide (Mv.of_below (b := b) (hv := hv) (qv := qv) hb)
  clear hb
  generalize posD who H = p at *
  have hp9 : p < 999999 := by have := unhide P1; omega
  have c0 := (unhide L1).c0
  have hdel : Hid (Calls Try.prog 53 #[hv, .int .i64 p, .int .i64 ((p : Int) + 1)] w1 fun e w' => ∃ v', e = .returned v' ∧ Es B v' (H.take p ++ H.drop (p + 1)) w' ∧ w1.grownBy w' hv.ownBlock ∧ At hv v' w1.heap.size) := delete_any w1 (unhide L1).hr p (p + 1) (by omega) (by have := unhide P1; omega)
  go_wp2_with fail
  refine (unhide hdel).mono ?_
  rw [unhide P2]
  rintro e w2 ⟨v', rfl, es, gr, at4⟩
  obtain ⟨a4, n4, cap4, rfl, hn4⟩ := slice_form' es
  replace hn4 := hide hn4
  have q0 := (unhide L1).grown0 gr
  have m0 : w2.cell? ⟨b, 0, none⟩ = some hv := (by simp [World.cell?, q0])
  have m3 : w2.frozen? ⟨b, 0, none⟩ = false := (by simp [World.frozen?, q0])
  have PT := (unhide L1).put0 gr es at4 (unhide O2)
  obtain ⟨w3, hw3⟩ : ∃ w3, w3 = w2.setCell ⟨b, 0, none⟩ (.slice a4 n4 cap4) := ⟨_, rfl⟩
  rw [← hw3] at PT
  have L3 := hide PT.1
  have M3 := hide ((unhide M1).trans PT.2)
  have HW3 := hide hw3
  clear PT gr es at4 q0 c0 hw3
  go_wp2_with fail
  rw [← unhide HW3]
  clear m0 m3
  refine (place_any w3 (unhide L3) (by omega) who).mono ?_
  rw [unhide H3]
  rintro e w4 ⟨rfl, hb⟩
  have L4 := hide ((unhide L3).next hb)
  have M4 := hide ((unhide M3).then_ hb)
  clear hb
  go_wp2_with fail
  have L6 : Hid (La B (out1 who H) (out1 who Q) b (.slice a4 n4 cap4) qv w4) := by rw [unhide P4]; exact unhide L4
  refine (grant_any w4 (unhide L6) (by have := unhide O1; rw [unhide P4]; omega)).mono ?_
  rintro e w7 hG
  obtain ⟨gv, e1, hG2⟩ : ∃ gv, e = .returned gv ∧ GrantPost w4 b _ _ B (out1 who H) (out1 who Q) (.returned gv) w7 := by
    obtain ⟨gv, h1, h2, rfl, r⟩ := hG
    exact ⟨gv, rfl, gv, h1, h2, rfl, r⟩
  subst e1
  have PG := hide (leave_end (unhide M4) hG2)
  clear hG hG2
  go_wp2
  go_ret
  exact unhide PG
set_option maxRecDepth 100000 in
set_option maxHeartbeats 1000000 in
theorem leave_tt (w : World) (h : La B H Q b hv qv w) (hn : H.length + Q.length < 999999) (who : Int) (h1 : hasD who H = true) (i : Nat) (hi : i < Q.length) (h3 : idxD (isWho who) Q = (i : Int)) (h4 : Q.take i ++ Q.drop (i + 1) = out1 who Q) :
    Calls Try.prog 15 #[.pointer (some ⟨b, 0, none⟩), .int .i64 who] w (LeavePost w b hv qv B (leaveD who H Q)) := by
  have HL := hide h
  have P1 := hide (look_pos h.srt h1).1
  have P2 := hide (out_pos h.srt h1)
  have P4 := hide h4
  clear h4
  have O1 := hide (out_len who H)
  have O2 := hide (out_srt (who := who) h.srt)
  have H3 := hide h3
  have H1 := hide h1
  clear h1 h3 h
  go_enter Try.func15, Try.ntmps15
  go_wp2_with fail
  refine (holder_any w (unhide HL) (by omega) who).mono ?_
  rw [unhide H1]
  rintro e w1 ⟨rfl, hb⟩
  have L1 := hide ((unhide HL).next hb)
  have M1 := hide (Mv.of_below (b := b) (hv := hv) (qv := qv) hb)
  clear hb
  generalize posD who H = p at *
  have hp9 : p < 999999 := by have := unhide P1; omega
  have c0 := (unhide L1).c0
  have hdel : Hid (Calls Try.prog 53 #[hv, .int .i64 p, .int .i64 ((p : Int) + 1)] w1 fun e w' => ∃ v', e = .returned v' ∧ Es B v' (H.take p ++ H.drop (p + 1)) w' ∧ w1.grownBy w' hv.ownBlock ∧ At hv v' w1.heap.size) := delete_any w1 (unhide L1).hr p (p + 1) (by omega) (by have := unhide P1; omega)
  go_wp2_with fail
  refine (unhide hdel).mono ?_
  rw [unhide P2]
  rintro e w2 ⟨v', rfl, es, gr, at4⟩
  obtain ⟨a4, n4, cap4, rfl, hn4⟩ := slice_form' es
  replace hn4 := hide hn4
  have q0 := (unhide L1).grown0 gr
  have m0 : w2.cell? ⟨b, 0, none⟩ = some hv := (by simp [World.cell?, q0])
  have m3 : w2.frozen? ⟨b, 0, none⟩ = false := (by simp [World.frozen?, q0])
  have PT := (unhide L1).put0 gr es at4 (unhide O2)
  obtain ⟨w3, hw3⟩ : ∃ w3, w3 = w2.setCell ⟨b, 0, none⟩ (.slice a4 n4 cap4) := ⟨_, rfl⟩
  rw [← hw3] at PT
  have L3 := hide PT.1
  have M3 := hide ((unhide M1).trans PT.2)
  have HW3 := hide hw3
  clear PT gr es at4 q0 c0 hw3
  go_wp2_with fail
  rw [← unhide HW3]
  clear m0 m3
  refine (place_any w3 (unhide L3) (by omega) who).mono ?_
  rw [unhide H3]
  rintro e w4 ⟨rfl, hb⟩
  have L4 := hide ((unhide L3).next hb)
  have M4 := hide ((unhide M3).then_ hb)
  clear hb
  have c1 := (unhide L4).c1
  have hdel2 : Hid (Calls Try.prog 53 #[qv, .int .i64 i, .int .i64 ((i : Int) + 1)] w4 fun e w' => ∃ v', e = .returned v' ∧ Es B v' (Q.take i ++ Q.drop (i + 1)) w' ∧ w4.grownBy w' qv.ownBlock ∧ At qv v' w4.heap.size) := delete_any w4 (unhide L4).qr i (i + 1) (by omega) (by omega)
  go_wp2_with fail
  refine (unhide hdel2).mono ?_
  rw [unhide P4]
  rintro e w5 ⟨v', rfl, es, gr, at4⟩
  obtain ⟨a5, n5, cap5, rfl, hn5⟩ := slice_form' es
  replace hn5 := hide hn5
  have q0 := (unhide L4).grown1 gr
  have m0 : w5.cell? ⟨b, 1, none⟩ = some qv := (by simp [World.cell?, q0])
  have m3 : w5.frozen? ⟨b, 1, none⟩ = false := (by simp [World.frozen?, q0])
  have PT := (unhide L4).put1 gr es at4
  obtain ⟨w6, hw6⟩ : ∃ w6, w6 = w5.setCell ⟨b, 1, none⟩ (.slice a5 n5 cap5) := ⟨_, rfl⟩
  rw [← hw6] at PT
  have L6 := hide PT.1
  have M6 := hide ((unhide M4).trans PT.2)
  have HW6 := hide hw6
  clear PT gr es at4 q0 c1 hw6
  have O4 := hide (out_len who Q)
  go_wp2_with fail
  rw [← unhide HW6]
  clear m0 m3
  refine (grant_any w6 (unhide L6) (by have := unhide O1; have := unhide O4; omega)).mono ?_
  rintro e w7 hG
  obtain ⟨gv, e1, hG2⟩ : ∃ gv, e = .returned gv ∧ GrantPost w6 b _ _ B (out1 who H) (out1 who Q) (.returned gv) w7 := by
    obtain ⟨gv, h1, h2, rfl, r⟩ := hG
    exact ⟨gv, rfl, gv, h1, h2, rfl, r⟩
  subst e1
  have PG := hide (leave_end (unhide M6) hG2)
  clear hG hG2
  go_wp2
  go_ret
  exact unhide PG
theorem leave_any (w : World) (h : La B H Q b hv qv w) (hn : H.length + Q.length < 999999) (who : Int) :
    Calls Try.prog 15 #[.pointer (some ⟨b, 0, none⟩), .int .i64 who] w (LeavePost w b hv qv B (leaveD who H Q)) := by
  cases h1 : hasD who H
  · rcases out_idx (who := who) (l := Q) with ⟨h2, h3⟩ | ⟨i, hi, h3, h4⟩
    · exact leave_ff w h hn who h1 h2 h3
    · exact leave_ft w h hn who h1 i hi h3 h4
  · rcases out_idx (who := who) (l := Q) with ⟨h2, h3⟩ | ⟨i, hi, h3, h4⟩
    · exact leave_tf w h hn who h1 h2 h3
    · exact leave_tt w h hn who h1 i hi h3 h4
end Go.Proofs.Ytmdbmkekdpbliaa
