/- What only reads a table: known, has, locks, Len, Waits, Holds, Lane. -/
import Derived.Test.YtmdbmkekdpbliaaTab
namespace Go.Proofs.Ytmdbmkekdpbliaa
open Go.RowKit
variable {B n : Nat} {most : Int} {T : Nat → Lv} {b rb : Nat} {lb : Nat → Nat} {hv qv : Nat → Value}

theorem known_t (w : World) (h : Tb B n most T b rb lb hv qv w) (k : Int) : Calls Try.prog 67 #[.pointer (some ⟨b, 0, none⟩), .int .i64 k] w fun e w' => e = .returned (.bool (decide (0 ≤ k) && decide (k < n))) ∧ w' = w := by
  have c0 := h.c0
  by_cases h1 : 0 ≤ k <;> by_cases h2 : k < n
  all_goals
    go_enter Try.func67, Try.ntmps67
    go_wp2
    go_ret
    exact ⟨by simp [h1, h2], rfl⟩
/-- Has who a lock here? -/
def hasL (who : Int) (x : Lv) : Bool := (lookD who x.1 != 0) || (lookD who x.2 != 0)
theorem has_t (w : World) {x : Lv} {l : Nat} (h : Ln B x.1 x.2 l w) (hn : x.1.length < 1000000) (hq : x.2.length < 1000000) (who : Int) : Calls Try.prog 66 #[.agg #[.pointer (some ⟨l, 0, none⟩)], .int .i64 who] w fun e w' => e = .returned (.bool (hasL who x)) ∧ Below w.heap.size w w' := by
  unfold hasL
  have H1 := hide (h.next (below_new w (.cells #[.pointer (some ⟨l, 0, none⟩)] 95)))
  obtain ⟨m, hm⟩ : ∃ m, m = lookD who x.1 := ⟨_, rfl⟩
  rw [← hm]
  replace hm := hide hm
  cases h1 : (m != 0)
  · go_enter Try.func66, Try.ntmps66
    go_wp2_with fail
    refine (holds_ln _ (unhide H1) hn who (unhide hm).symm).mono ?_
    rintro e w1 ⟨rfl, b1⟩
    have H2 := hide ((unhide H1).next b1)
    have cb : w1.cell? ⟨w.heap.size, 0, none⟩ = some (.pointer (some ⟨l, 0, none⟩)) := (b1.cell (p := ⟨w.heap.size, 0, none⟩) (by simp)).trans (by rw [World.cell?_alloc_new]; rfl)
    replace b1 := hide (below_then (below_new w _) b1)
    go_wp2_with fail
    refine (waits_ln _ (unhide H2) hq who rfl).mono ?_
    rintro e w2 ⟨rfl, b2⟩
    replace b2 := hide (below_then (unhide b1) b2)
    go_wp2
    go_ret
    exact ⟨rfl, unhide b2⟩
  · go_enter Try.func66, Try.ntmps66
    go_wp2_with fail
    refine (holds_ln _ (unhide H1) hn who (unhide hm).symm).mono ?_
    rintro e w1 ⟨rfl, b1⟩
    replace b1 := hide (below_then (below_new w _) b1)
    go_wp2
    go_ret
    exact ⟨rfl, unhide b1⟩
/-- How many of those that wait hold nothing. -/
def newD (H : List En) (Q : List En) : List En := Q.filter (fun y => lookD y.1 H == 0)
theorem new_succ (H Q : List En) (t : Nat) (ht : t < Q.length) : (newD H (Q.take (t + 1))).length = (newD H (Q.take t)).length + (if lookD (Q.getD t (0, 0)).1 H == 0 then 1 else 0) := by
  unfold newD
  rw [List.take_succ_eq_append_getElem ht, List.filter_append, List.length_append]
  have e : Q.getD t (0, 0) = Q[t] := by simp [List.getD, ht]
  rw [e]
  cases h : (lookD Q[t].1 H == 0) <;> simp [h]
theorem new_le (H Q : List En) : (newD H Q).length ≤ Q.length := List.length_filter_le _ _
/-- How many have a lock here. -/
def locksD (x : Lv) : Nat := x.1.length + (newD x.1 x.2).length
set_option maxRecDepth 100000 in
set_option maxHeartbeats 2000000 in
theorem locks_t (w : World) {x : Lv} {l : Nat} (h : Ln B x.1 x.2 l w) (hn : x.1.length < 1000000) (hq : x.2.length < 1000000) : Calls Try.prog 68 #[.agg #[.pointer (some ⟨l, 0, none⟩)]] w fun e w' => e = .returned (.int .i64 (locksD x : Nat)) ∧ Below w.heap.size w w' := by
  obtain ⟨H, Q⟩ := x
  have H1 := hide (h.next (below_new w (.cells #[.pointer (some ⟨l, 0, none⟩)] 95)))
  unfold locksD
  dsimp only at hn hq H1 ⊢
  clear h
  go_enter Try.func68, Try.ntmps68
  go_wp2_with fail
  refine (holders_ln _ (unhide H1) hn).mono ?_
  rintro e w1 ⟨v1, rfl, E1, b1⟩
  have H2 := hide ((unhide H1).next b1)
  have cb : w1.cell? ⟨w.heap.size, 0, none⟩ = some (.pointer (some ⟨l, 0, none⟩)) := (b1.cell (p := ⟨w.heap.size, 0, none⟩) (by simp)).trans (by rw [World.cell?_alloc_new]; rfl)
  have hbl : Hid (w.heap.size < w1.heap.size) := by have := b1.size; show _ < _; simp at this; omega
  obtain ⟨a1, n1, c1, rfl, hn1⟩ := slice_form' E1
  subst hn1
  clear E1
  replace b1 := hide (below_then (below_new w _) b1)
  go_wp2_with fail
  refine (queue_ln _ (unhide H2) hq).mono ?_
  rintro e w2 ⟨v2, rfl, E2, b2⟩
  have H3 := hide ((unhide H2).next b2)
  have CB := hide ((b2.cell (p := ⟨w.heap.size, 0, none⟩) (unhide hbl)).trans cb)
  have hbl2 : Hid (w.heap.size < w2.heap.size) := Nat.lt_of_lt_of_le (unhide hbl) b2.size
  replace b2 := hide (below_then (unhide b1) b2)
  obtain ⟨a2, n2, c2, rfl, hn2⟩ := slice_form' E2
  subst hn2
  replace E2 := hide E2
  clear cb
  go_wp2_with fail
  go_loopw [3, 14] (fun s3 s14 wr => ∃ t : Nat, t ≤ Q.length ∧ s3 = .int .i64 (H.length + (newD H (Q.take t)).length : Nat) ∧ s14 = .int .i64 t ∧ Hid (Below w2.heap.size w2 wr)) (fun _ s14 _ => Q.length - (intOf s14).toNat)
  case atStart => exact ⟨0, Nat.zero_le _, by simp [newD], rfl, Below.refl _ _⟩
  case round =>
    obtain ⟨t, ht, rfl, rfl, b3⟩ := hrel
    by_cases hlt : t < Q.length
    · obtain ⟨g, rfl, r⟩ : ∃ g, a2 = some ⟨g, 0, none⟩ ∧ Rb g c2 Q wr := by
        rcases (unhide E2).next (unhide b3) with ⟨_, e⟩ | ⟨g, cap', e, _, r⟩
        · rw [e] at hlt; simp at hlt
        · injection e with e1 _ e2
          subst e1 e2
          exact ⟨g, rfl, r⟩
      obtain ⟨y, hy⟩ : ∃ y, y = Q.getD t (0, 0) := ⟨_, rfl⟩
      have d1 : wr.cell? ⟨g, t * 2, none⟩ = some (.int .i64 y.1) := by rw [hy]; exact r.fst hlt
      have d2 : wr.cell? ⟨g, t * 2 + 1, none⟩ = some (.int .i64 y.2) := by rw [hy]; exact r.snd hlt
      have hns := hide (new_succ H Q t hlt)
      have hnle := Nat.le_trans (new_le H (Q.take t)) (List.length_take_le t Q)
      rw [← hy] at hns
      have H4 := hide (((unhide H3).next (unhide b3)).next (below_new wr (.cells #[.int .i64 y.1, .int .i64 y.2] 41)))
      have cb : (wr.alloc (.cells #[.int .i64 y.1, .int .i64 y.2] 41)).cell? ⟨w.heap.size, 0, none⟩ = some (.pointer (some ⟨l, 0, none⟩)) := (below_then (unhide b3) (below_new wr _)).cell (p := ⟨w.heap.size, 0, none⟩) (unhide hbl2) |>.trans (unhide CB)
      clear hy r
      obtain ⟨m, hm⟩ : ∃ m, m = lookD y.1 H := ⟨_, rfl⟩
      rw [← hm] at hns
      replace hm := hide hm
      generalize (newD H (List.take t Q)).length = c at hns hnle ⊢
      go_wp2_with fail
      refine (holds_ln _ (unhide H4) hn y.1 (unhide hm).symm).mono ?_
      rintro e w5 ⟨rfl, b5⟩
      replace b5 := hide (below_then (unhide b3) (below_then (below_new wr _) b5))
      clear d1 d2 cb
      cases hz : (m == 0)
      · rw [hz] at hns
        go_wp2
        go_roundw
        case rel => exact ⟨t + 1, by omega, by rw [unhide hns]; rfl, by go_num, unhide b5⟩
        case measure => simp [intOf]; omega
      · rw [hz] at hns
        go_wp2
        go_roundw
        case rel => exact ⟨t + 1, by omega, by rw [unhide hns]; go_num, by go_num, unhide b5⟩
        case measure => simp [intOf]; omega
    · obtain rfl : t = Q.length := by omega
      go_wp2
      go_ret
      exact ⟨by rw [List.take_length]; rfl, below_then (unhide b2) (unhide b3)⟩
end Go.Proofs.Ytmdbmkekdpbliaa
