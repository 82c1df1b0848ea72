/- Texts of this claim, put together in their order. -/
import Derived.Test.YtgiklggnolbiiaaGreatBase1
import Derived.Test.YtgiklggnolbiiaaGreatBase2
import Derived.Test.YtgiklggnolbiiaaGreatBase3
import Derived.Test.YtgiklggnolbiiaaGreatBase4
import Derived.Test.YtgiklggnolbiiaaGreatBase5
import Derived.Test.YtgiklggnolbiiaaGreatBase6
import Derived.Test.YtgiklggnolbiiaaGreatBase7
/- The reference's lane: put. -/
namespace Go.Proofs.YtgiklggnolbiiaaGreat
open Go.RowKit
set_option linter.unusedVariables false
set_option linter.unusedSimpArgs false

theorem pairs_set2 (l : List En) (i : Nat) (y : En) (hi : i < l.length) (h : (l.getD i (0, 0)).1 = y.1) : pairs (l.set i y) = (pairs l).set (i * 2 + 1) (.int .i64 y.2) := by
  have hf := pairs_fst l i hi
  rw [pairs_set]
  congr 1
  have hlt : i * 2 < (pairs l).length := by rw [pairs_len]; omega
  rw [List.getElem?_eq_getElem hlt, h] at hf
  injection hf with hf
  rw [← hf, List.set_getElem_self]
theorem Rb.set2 {g cap : Nat} {l : List En} {w : World} (h : Rb g cap l w) {i : Nat} (hi : i < l.length) (y : En) (hy : (l.getD i (0, 0)).1 = y.1) : Rb g cap (l.set i y) (w.setCell ⟨g, i * 2 + 1, none⟩ (.int .i64 y.2)) := by
  obtain ⟨⟨cur, h, hs, e⟩, h1, h2⟩ := h
  refine ⟨⟨cur.setIfInBounds (i * 2 + 1) (.int .i64 y.2), setc _ h, ?_, ?_⟩, ?_, h2⟩
  · rw [Array.size_setIfInBounds]; exact hs
  · rw [List.length_set, Array.toList_setIfInBounds, List.take_set, e, pairs_set2 l i y hi hy]
  · rw [List.length_set]; exact h1
/-- The two rows lie apart. -/
def Dq (u v : Value) : Prop := ∀ k, u.ownBlock = some k → v.ownBlock ≠ some k
theorem Dq.comm {u v : Value} (h : Dq u v) : Dq v u := fun k h1 h2 => h k h2 h1
namespace Lr
variable {B : Nat} {H Q : List En} {b : Nat} {hv qv : Value} {w w' : World}
theorem ne_h (h : Lr B H Q b hv qv w) : hv.ownBlock ≠ some b := fun e => by
  obtain ⟨cur, hc⟩ := h.hr.ty b e
  rw [h.blk] at hc; cases hc
theorem ne_q (h : Lr B H Q b hv qv w) : qv.ownBlock ≠ some b := fun e => by
  obtain ⟨cur, hc⟩ := h.qr.ty b e
  rw [h.blk] at hc; cases hc
theorem free (h : Lr B H Q b hv qv w) (k : Nat) : w.frozen? ⟨b, k, none⟩ = false := by have := h.blk; simp [World.frozen?, this]
/-- A new row in the one field. -/
theorem put0 (h : Lr B H Q b hv qv w) {v : Value} {H' : List En} (hb : Below w.heap.size w w') (he : Es w.heap.size v H' w') : Lr B H' Q b v qv (w'.setCell ⟨b, 0, none⟩ v) ∧ Dq v qv ∧ Mv b hv qv v qv w (w'.setCell ⟨b, 0, none⟩ v) := by
  have hblk := (hb.block b h.lt).trans h.blk
  have nv : v.ownBlock ≠ some b := fun e => by have := (he.lt b e).1; have := h.lt; omega
  have hlow := h.low
  refine ⟨⟨?_, ?_, ?_, h.bB⟩, fun k hk hk2 => ?_, ⟨hb.os, hb.tape, hb.output, ?_, fun k hk h1 _ _ => ?_, fun k hk => .inr (he.lt k hk).1, At.refl _ _⟩⟩
  · show (w'.heap.modify b _)[b]? = _
    rw [Array.getElem?_modify, if_pos rfl, hblk]; rfl
  · have h1 := he.keep (w' := w'.setCell ⟨b, 0, none⟩ v) fun k hk => set_other _ _ _ _ _ (fun e => nv (by rw [← e]; exact hk))
    rcases h1 with h2 | ⟨g, cap, e, hg, r⟩
    · exact .inl h2
    · exact .inr ⟨g, cap, e, Nat.le_trans hlow hg, r⟩
  · exact (h.qr.next hb).keep fun k hk => set_other _ _ _ _ _ (fun e => h.ne_q (by rw [← e]; exact hk))
  · have h1 := (he.lt k hk).1
    have h2 := (h.qr.lt k hk2).2
    omega
  · show w.heap.size ≤ (w'.heap.modify b _).size
    rw [Array.size_modify]; exact hb.size
  · exact (set_other _ _ _ _ _ h1).trans (hb.block k hk)
theorem put1 (h : Lr B H Q b hv qv w) {v : Value} {Q' : List En} (hb : Below w.heap.size w w') (he : Es w.heap.size v Q' w') : Lr B H Q' b hv v (w'.setCell ⟨b, 1, none⟩ v) ∧ Dq hv v ∧ Mv b hv qv hv v w (w'.setCell ⟨b, 1, none⟩ v) := by
  have hblk := (hb.block b h.lt).trans h.blk
  have nv : v.ownBlock ≠ some b := fun e => by have := (he.lt b e).1; have := h.lt; omega
  have hlow := h.low
  refine ⟨⟨?_, ?_, ?_, h.bB⟩, fun k hk hk2 => ?_, ⟨hb.os, hb.tape, hb.output, ?_, fun k hk h1 _ _ => ?_, At.refl _ _, fun k hk => .inr (he.lt k hk).1⟩⟩
  · show (w'.heap.modify b _)[b]? = _
    rw [Array.getElem?_modify, if_pos rfl, hblk]; rfl
  · exact (h.hr.next hb).keep fun k hk => set_other _ _ _ _ _ (fun e => h.ne_h (by rw [← e]; exact hk))
  · have h1 := he.keep (w' := w'.setCell ⟨b, 1, none⟩ v) fun k hk => set_other _ _ _ _ _ (fun e => nv (by rw [← e]; exact hk))
    rcases h1 with h2 | ⟨g, cap, e, hg, r⟩
    · exact .inl h2
    · exact .inr ⟨g, cap, e, Nat.le_trans hlow hg, r⟩
  · have h1 := (he.lt k hk2).1
    have h2 := (h.hr.lt k hk).2
    omega
  · show w.heap.size ≤ (w'.heap.modify b _).size
    rw [Array.size_modify]; exact hb.size
  · exact (set_other _ _ _ _ _ h1).trans (hb.block k hk)
/-- One who holds it already. -/
theorem over {g cap : Nat} (h : Lr B H Q b (.slice (some ⟨g, 0, none⟩) H.length cap) qv w) (d : Dq (.slice (some ⟨g, 0, none⟩) H.length cap) qv) {i : Nat} (hi : i < H.length) (y : En) (hy : (H.getD i (0, 0)).1 = y.1) :
    Lr B (H.set i y) Q b (.slice (some ⟨g, 0, none⟩) H.length cap) qv (w.setCell ⟨g, i * 2 + 1, none⟩ (.int .i64 y.2)) ∧ Mv b (.slice (some ⟨g, 0, none⟩) H.length cap) qv (.slice (some ⟨g, 0, none⟩) H.length cap) qv w (w.setCell ⟨g, i * 2 + 1, none⟩ (.int .i64 y.2)) := by
  have hgb : b ≠ g := fun e => h.ne_h (by rw [e]; rfl)
  have far : ∀ k, k ≠ g → (w.setCell ⟨g, i * 2 + 1, none⟩ (.int .i64 y.2)).heap[k]? = w.heap[k]? := fun k hk => set_other _ _ _ _ _ hk
  have hrow : B ≤ g ∧ Rb g cap H w := by
    rcases h.hr with ⟨e, e2⟩ | ⟨g', cap', e, hB, r⟩
    · rw [e2] at hi; simp at hi
    · injection e with e1 e2 e3
      injection e1 with e1
      injection e1 with e1
      subst e1 e3
      exact ⟨hB, r⟩
  refine ⟨⟨(far b hgb).trans h.blk, .inr ⟨g, cap, by rw [List.length_set], hrow.1, hrow.2.set2 hi y hy⟩, h.qr.keep fun k hk => far k (fun e => d k (by rw [e]; rfl) hk), h.bB⟩, ⟨rfl, rfl, rfl, ?_, fun k _ _ hk _ => far k (fun e => hk (by rw [e]; rfl)), At.refl _ _, At.refl _ _⟩⟩
  show w.heap.size ≤ (w.heap.modify g _).size
  rw [Array.size_modify]; exact Nat.le_refl _
end Lr
/-- Part of a row of entries. -/
theorem re_take {B n c : Nat} {a : Option Addr} {l : List En} {w : World} (h : Es B (.slice a n c) l w) (k c2 : Nat) (hk : k ≤ l.length) : Re w (.slice a k c2) (l.take k) := by
  have hl : (l.take k).length = k := by rw [List.length_take]; omega
  refine ⟨a, c2, by rw [hl], ?_⟩
  rcases Nat.eq_zero_or_pos k with e | e
  · exact .inl (by omega)
  · rcases h with ⟨_, e2⟩ | ⟨g, cap, e2, _, r⟩
    · rw [e2] at hk; simp at hk; omega
    · injection e2 with e3 _ _
      refine .inr ⟨g, 0, e3, fun i hi => ?_⟩
      rw [hl] at hi
      have e4 : (l.take k).getD i (0, 0) = l.getD i (0, 0) := by rw [List.getD_eq_getElem?_getD, List.getD_eq_getElem?_getD, List.getElem?_take_of_lt hi]
      rw [e4, Nat.zero_add]
      exact ⟨r.fst (by omega), r.snd (by omega)⟩
theorem re_drop {B n c g : Nat} {l : List En} {w : World} (h : Es B (.slice (some ⟨g, 0, none⟩) n c) l w) (k c2 : Nat) (hk : k ≤ l.length) : Re w (.slice (some ⟨g, k * 2, none⟩) (l.length - k) c2) (l.drop k) := by
  have hl : (l.drop k).length = l.length - k := List.length_drop
  refine ⟨_, c2, by rw [hl], ?_⟩
  rcases h with ⟨e2, _⟩ | ⟨g', cap, e2, _, r⟩
  · cases e2
  · injection e2 with e3 _ _
    injection e3 with e3
    injection e3 with e3
    subst e3
    refine .inr ⟨g, k * 2, rfl, fun i hi => ?_⟩
    rw [hl] at hi
    have e4 : (l.drop k).getD i (0, 0) = l.getD (k + i) (0, 0) := by rw [List.getD_eq_getElem?_getD, List.getD_eq_getElem?_getD, List.getElem?_drop]
    have e5 : k * 2 + i * 2 = (k + i) * 2 := by omega
    rw [e4, e5]
    exact ⟨r.fst (by omega), r.snd (by omega)⟩
theorem re_empty (w : World) (a : Option Addr) (k c : Nat) (hk : k = 0) (l : List En) (hl : l = []) : Re w (.slice a k c) l := by
  subst hk hl
  exact re_nil w a c
variable {B : Nat} {H Q : List En} {b : Nat} {hv qv : Value}
theorem put_at {H : List En} {k : Nat} {y : En} (hs : Srt H) (hk : k ≤ H.length) (h1 : ∀ t, t < k → (H.getD t (0, 0)).1 < y.1) (h2 : k < H.length → y.1 ≤ (H.getD k (0, 0)).1) :
    ((k < H.length ∧ (H.getD k (0, 0)).1 = y.1) → putD y H = H.set k y) ∧ (¬ (k < H.length ∧ (H.getD k (0, 0)).1 = y.1) → putD y H = H.take k ++ [y] ++ H.drop k) := by
  have hp : posD y.1 H = k := posD_eq y.1 H k hk h1 h2
  refine ⟨fun h => ?_, fun h => ?_⟩
  · unfold putD
    rw [has_yes' h.1 h.2, if_pos rfl, hp]
  · have hn : hasD y.1 H = false := by
      cases e : hasD y.1 H
      · rfl
      · obtain ⟨p1, p2, _⟩ := look_pos hs e
        rw [hp] at p1 p2
        exact absurd ⟨p1, p2⟩ h
    unfold putD
    rw [hn, if_neg (by decide), hp]
    simp
theorem pr_es {v : Value} {l : List En} {w : World} (h : Pr 92 B v l w) : Es B v l w := by
  rcases h.2 with ⟨e, e2⟩ | ⟨g, cap, cur, e, hB, hg, h1, h2, h3, h4⟩
  · exact .inl ⟨e, List.eq_nil_of_length_eq_zero e2⟩
  · exact .inr ⟨g, cap, e, hB, ⟨⟨cur, hg, h3, h4⟩, h1, h2⟩⟩
theorem pr_form {t : TypeId} {v : Value} {l : List En} {w : World} (h : Pr t B v l w) : ∃ a n c, v = .slice a n c := by
  obtain ⟨a, c, e⟩ := h.form
  exact ⟨a, _, c, e⟩
set_option maxRecDepth 100000 in
set_option maxHeartbeats 8000000 in
theorem rput_any (w : World) (h : Lr B H Q b hv qv w) (hd : Dq hv qv) (hs : Srt H) (hn : H.length < 1000) (who m : Int) :
    Calls Tryz.prog 84 #[.pointer (some ⟨b, 0, none⟩), .int .i64 who, .int .i64 m] w fun e w' => e = .returned (.tuple #[]) ∧ ∃ hv', Lr B (putD (who, m) H) Q b hv' qv w' ∧ Dq hv' qv ∧ Mv b hv qv hv' qv w w' := by
  have hS0 : Hid (∀ w', Below w.heap.size w w' → w'.cell? ⟨b, 0, none⟩ = some hv) := fun w' k => (h.next k).c0
  have hFF : Hid (∀ w', Below w.heap.size w w' → w'.frozen? ⟨b, 0, none⟩ = false) := fun w' k => (h.next k).free 0
  have HL := hide h
  have hd := hide hd
  have c0 := h.c0
  have pa : Hid (∀ k, k ≤ H.length → (∀ t, t < k → (H.getD t (0, 0)).1 < who) → (k < H.length → who ≤ (H.getD k (0, 0)).1) → ((k < H.length ∧ (H.getD k (0, 0)).1 = who) → putD (who, m) H = H.set k (who, m)) ∧ (¬ (k < H.length ∧ (H.getD k (0, 0)).1 = who) → putD (who, m) H = H.take k ++ [(who, m)] ++ H.drop k)) := fun k h1 h2 h3 => put_at (y := (who, m)) hs h1 h2 h3
  rcases h.hr with ⟨rfl, rfl⟩ | ⟨g, cap, rfl, _, r⟩
  · have fin : Hid (([] : List En) ++ [(who, m)] ++ [] = putD (who, m) []) := (((unhide pa) 0 (Nat.le_refl _) (fun t ht => by omega) (fun h => by cases h)).2 (fun h => by cases h.1)).symm
    have hSS := hS0
    have hA := hide (re_nil w none 0)
    have hD := hA
    have zA : Hid (([] : List En).length ≤ 10000) := by show 0 ≤ 10000; omega
    have lA : Hid (([] : List En).length = 0) := rfl
    have zB : Hid (0 + 1 < 10000000) := by show 0 + 1 < _; omega
    have zC : Hid ((([] : List En) ++ [(who, m)]).length + ([] : List En).length ≤ 10000) := by show 1 + 0 ≤ _; omega
    clear h hs pa hS0
    go_enter Tryz.func84, Tryz.ntmps84
    go_wp2
    go_loop [6] (fun i => i = .int .i64 0) (fun _ => 1)
    case atStart => exact rfl
    case round =>
      subst hrel
      go_wp2_with fail
      refine Lw.begin 23 (fun wz => wz.cell? ⟨b, 0, none⟩ = some (.slice none 0 0)) (by kernel_rfl) ?hS0 (fun hS1 hc0 => ?_)
      case hS0 => exact unhide hSS _ (by repeat (first | exact unhide ba3 | exact unhide ba2 | exact unhide ba1 | exact Below.refl _ _ | refine Below.drew ?_ | refine below_add ?_ _))
      refine Lw.take (i := 0) [21, 22, 23] (by kernel_rfl) (by rfl) (by decide) rfl (by kernel_rfl) (by kernel_rfl) (by kernel_rfl) (fun _ _ _ h => h) (by assumption) (v := ?_) (Or.inl ⟨by rfl, ?_⟩) (by first | assumption | exact unhide hSS _ (unhide ba3)) (fun hc1 => ?_)
      rotate_left
      · (intro w hSw; (try dsimp only at hSw); go_simp; first | done | with_reducible rfl)
      try simp only [Act.put, List.setIfInBounds_toArray, List.set_cons_zero, List.set_cons_succ, List.getElem_toArray, List.getElem_cons_succ, List.getElem_cons_zero]
      refine Lw.take (i := 2) [3, 4, 5, 7, 8, 13, 20, 23] (by kernel_rfl) (by rfl) (by decide) rfl (by kernel_rfl) (by kernel_rfl) (by kernel_rfl) (fun _ _ _ h => h) (by assumption) (v := ?_) (Or.inl ⟨by rfl, ?_⟩) (by first | assumption | exact unhide hSS _ (unhide ba3)) (fun hc1 => ?_)
      rotate_left
      · (intro w hSw; (try dsimp only at hSw); go_simp; first | done | with_reducible rfl)
      try simp only [Act.put, List.setIfInBounds_toArray, List.set_cons_zero, List.set_cons_succ, List.getElem_toArray, List.getElem_cons_succ, List.getElem_cons_zero]
      refine Lw.take (i := 3) [4, 5, 7, 8, 13, 20, 23] (by kernel_rfl) (by rfl) (by decide) rfl (by kernel_rfl) (by kernel_rfl) (by kernel_rfl) (fun _ _ _ h => h) (by assumption) (v := ?_) (Or.inl ⟨by rfl, ?_⟩) (by first | assumption | exact unhide hSS _ (unhide ba3)) (fun hc1 => ?_)
      rotate_left
      · (intro w hSw; (try dsimp only at hSw); go_simp; first | done | with_reducible rfl)
      try simp only [Act.put, List.setIfInBounds_toArray, List.set_cons_zero, List.set_cons_succ, List.getElem_toArray, List.getElem_cons_succ, List.getElem_cons_zero]
      refine Lw.take (i := 4) [5, 7, 8, 13, 20, 23] (by kernel_rfl) (by rfl) (by decide) rfl (by kernel_rfl) (by kernel_rfl) (by kernel_rfl) (fun _ _ _ h => h) (by assumption) (v := ?_) (Or.inl ⟨by rfl, ?_⟩) (by first | assumption | exact unhide hSS _ (unhide ba3)) (fun hc1 => ?_)
      rotate_left
      · (intro w hSw; (try dsimp only at hSw); go_simp; first | done | with_reducible rfl)
      try simp only [Act.put, List.setIfInBounds_toArray, List.set_cons_zero, List.set_cons_succ, List.getElem_toArray, List.getElem_cons_succ, List.getElem_cons_zero]
      refine Lw.take (i := 5) [7, 8, 13, 20, 23] (by kernel_rfl) (by rfl) (by decide) rfl (by kernel_rfl) (by kernel_rfl) (by kernel_rfl) (fun _ _ _ h => h) (by assumption) (v := ?_) (Or.inl ⟨by rfl, ?_⟩) (by first | assumption | exact unhide hSS _ (unhide ba3)) (fun hc1 => ?_)
      rotate_left
      · (intro w hSw; (try dsimp only at hSw); go_simp; first | done | with_reducible rfl)
      try simp only [Act.put, List.setIfInBounds_toArray, List.set_cons_zero, List.set_cons_succ, List.getElem_toArray, List.getElem_cons_succ, List.getElem_cons_zero]
      refine Lw.take (i := 6) [7, 8, 13, 20, 23] (by kernel_rfl) (by rfl) (by decide) rfl (by kernel_rfl) (by kernel_rfl) (by kernel_rfl) (fun _ _ _ h => h) (by assumption) (v := ?_) (Or.inl ⟨by rfl, ?_⟩) (by first | assumption | exact unhide hSS _ (unhide ba3)) (fun hc1 => ?_)
      rotate_left
      · (intro w hSw; (try dsimp only at hSw); go_simp; first | done | with_reducible rfl)
      try simp only [Act.put, List.setIfInBounds_toArray, List.set_cons_zero, List.set_cons_succ, List.getElem_toArray, List.getElem_cons_succ, List.getElem_cons_zero]
      refine Lw.take (i := 7) [8, 13, 20, 23] (by kernel_rfl) (by rfl) (by decide) rfl (by kernel_rfl) (by kernel_rfl) (by kernel_rfl) (fun _ _ _ h => h) (by assumption) (v := ?_) (Or.inl ⟨by rfl, ?_⟩) (by first | assumption | exact unhide hSS _ (unhide ba3)) (fun hc1 => ?_)
      rotate_left
      · (intro w hSw; (try dsimp only at hSw); go_simp; first | done | with_reducible rfl)
      try simp only [Act.put, List.setIfInBounds_toArray, List.set_cons_zero, List.set_cons_succ, List.getElem_toArray, List.getElem_cons_succ, List.getElem_cons_zero]
      refine Lw.take (i := 9) [11, 12, 13, 20, 23] (by kernel_rfl) (by rfl) (by decide) rfl (by kernel_rfl) (by kernel_rfl) (by kernel_rfl) (fun _ _ _ h => h) (by assumption) (v := ?_) (Or.inl ⟨by rfl, ?_⟩) (by first | assumption | exact unhide hSS _ (unhide ba3)) (fun hc1 => ?_)
      rotate_left
      · (intro w hSw; (try dsimp only at hSw); go_simp; first | done | with_reducible rfl)
      try simp only [Act.put, List.setIfInBounds_toArray, List.set_cons_zero, List.set_cons_succ, List.getElem_toArray, List.getElem_cons_succ, List.getElem_cons_zero]
      refine Lw.take (i := 10) [11, 12, 13, 20, 23] (by kernel_rfl) (by rfl) (by decide) rfl (by kernel_rfl) (by kernel_rfl) (by kernel_rfl) (fun _ _ _ h => h) (by assumption) (v := ?_) (Or.inl ⟨by rfl, ?_⟩) (by first | assumption | exact unhide hSS _ (unhide ba3)) (fun hc1 => ?_)
      rotate_left
      · (intro w hSw; (try dsimp only at hSw); go_simp; first | done | with_reducible rfl)
      try simp only [Act.put, List.setIfInBounds_toArray, List.set_cons_zero, List.set_cons_succ, List.getElem_toArray, List.getElem_cons_succ, List.getElem_cons_zero]
      refine Lw.take (i := 11) [12, 13, 20, 23] (by kernel_rfl) (by rfl) (by decide) rfl (by kernel_rfl) (by kernel_rfl) (by kernel_rfl) (fun _ _ _ h => h) (by assumption) (v := ?_) (Or.inl ⟨by rfl, ?_⟩) (by first | assumption | exact unhide hSS _ (unhide ba3)) (fun hc1 => ?_)
      rotate_left
      · (intro w hSw; (try dsimp only at hSw); go_simp; first | done | with_reducible rfl)
      try simp only [Act.put, List.setIfInBounds_toArray, List.set_cons_zero, List.set_cons_succ, List.getElem_toArray, List.getElem_cons_succ, List.getElem_cons_zero]
      refine Lw.take (i := 14) [15, 16, 17, 19, 20, 23] (by kernel_rfl) (by rfl) (by decide) rfl (by kernel_rfl) (by kernel_rfl) (by kernel_rfl) (fun _ _ _ h => h) (by assumption) (v := ?_) (Or.inl ⟨by rfl, ?_⟩) (by first | assumption | exact unhide hSS _ (unhide ba3)) (fun hc1 => ?_)
      rotate_left
      · (intro w hSw; (try dsimp only at hSw); go_simp; first | done | with_reducible rfl)
      try simp only [Act.put, List.setIfInBounds_toArray, List.set_cons_zero, List.set_cons_succ, List.getElem_toArray, List.getElem_cons_succ, List.getElem_cons_zero]
      refine Lw.take (i := 15) [16, 17, 19, 20, 23] (by kernel_rfl) (by rfl) (by decide) rfl (by kernel_rfl) (by kernel_rfl) (by kernel_rfl) (fun _ _ _ h => h) (by assumption) (v := ?_) (Or.inl ⟨by rfl, ?_⟩) (by first | assumption | exact unhide hSS _ (unhide ba3)) (fun hc1 => ?_)
      rotate_left
      · (intro w hSw; (try dsimp only at hSw); go_simp; first | done | with_reducible rfl)
      try simp only [Act.put, List.setIfInBounds_toArray, List.set_cons_zero, List.set_cons_succ, List.getElem_toArray, List.getElem_cons_succ, List.getElem_cons_zero]
      refine Lw.take (i := 16) [17, 19, 20, 23] (by kernel_rfl) (by rfl) (by decide) rfl (by kernel_rfl) (by kernel_rfl) (by kernel_rfl) (fun _ _ _ h => h) (by assumption) (v := ?_) (Or.inl ⟨by rfl, ?_⟩) (by first | assumption | exact unhide hSS _ (unhide ba3)) (fun hc1 => ?_)
      rotate_left
      · (intro w hSw; (try dsimp only at hSw); go_simp; first | done | with_reducible rfl)
      try simp only [Act.put, List.setIfInBounds_toArray, List.set_cons_zero, List.set_cons_succ, List.getElem_toArray, List.getElem_cons_succ, List.getElem_cons_zero]
      refine Lw.take (i := 17) [19, 20, 23] (by kernel_rfl) (by rfl) (by decide) rfl (by kernel_rfl) (by kernel_rfl) (by kernel_rfl) (fun _ _ _ h => h) (by assumption) (v := ?_) (Or.inl ⟨by rfl, ?_⟩) (by first | assumption | exact unhide hSS _ (unhide ba3)) (fun hc1 => ?_)
      rotate_left
      · (intro w hSw; (try dsimp only at hSw); go_simp; first | done | with_reducible rfl)
      try simp only [Act.put, List.setIfInBounds_toArray, List.set_cons_zero, List.set_cons_succ, List.getElem_toArray, List.getElem_cons_succ, List.getElem_cons_zero]
      refine Lw.take (i := 18) [19, 20, 23] (by kernel_rfl) (by rfl) (by decide) rfl (by kernel_rfl) (by kernel_rfl) (by kernel_rfl) (fun _ _ _ h => h) (by assumption) (v := ?_) (Or.inl ⟨by rfl, ?_⟩) (by first | assumption | exact unhide hSS _ (unhide ba3)) (fun hc1 => ?_)
      rotate_left
      · (intro w hSw; (try dsimp only at hSw); go_simp; first | done | with_reducible rfl)
      try simp only [Act.put, List.setIfInBounds_toArray, List.set_cons_zero, List.set_cons_succ, List.getElem_toArray, List.getElem_cons_succ, List.getElem_cons_zero]
      refine Lw.take (i := 19) [20, 23] (by kernel_rfl) (by rfl) (by decide) rfl (by kernel_rfl) (by kernel_rfl) (by kernel_rfl) (fun _ _ _ h => h) (by assumption) (v := ?_) (Or.inl ⟨by rfl, ?_⟩) (by first | assumption | exact unhide hSS _ (unhide ba3)) (fun hc1 => ?_)
      rotate_left
      · (intro w hSw; (try dsimp only at hSw); go_simp; first | done | with_reducible rfl)
      try simp only [Act.put, List.setIfInBounds_toArray, List.set_cons_zero, List.set_cons_succ, List.getElem_toArray, List.getElem_cons_succ, List.getElem_cons_zero]
      refine Lw.ready (rs := [1, 12]) (by kernel_rfl) (by simp) (by assumption) (fun hc2 => ?_)
      refine Nxt1.cons rfl (by kernel_rfl) hc2 (fun K hK => ?_) ?_
      · -- operation 1
        go_simp
        refine unhide hK _ _ (fun _ => unhide hSS _ (by repeat (first | exact unhide ba3 | exact unhide ba2 | exact unhide ba1 | exact Below.refl _ _ | refine Below.drew ?_ | refine below_add ?_ _))) (fun hS2 hc3 => ?_)
        clear hK K
        try simp only [Act.put, List.setIfInBounds_toArray, List.set_cons_zero, List.set_cons_succ, List.getElem_toArray, List.getElem_cons_succ, List.getElem_cons_zero]
        refine Lw.ready (rs := [8, 12]) (by kernel_rfl) (by simp) (by assumption) (fun hc2 => ?_)
        refine Nxt1.cons rfl (by kernel_rfl) hc2 (fun K hK => ?_) ?_
        · -- operation 8
          refine step_app0 w rfl (some 63) rfl (.tmp 56) (.tmp 62) rfl (([] : List En)) _ rfl (by repeat (first | exact unhide ba3 | exact unhide ba2 | exact unhide ba1 | exact Below.refl _ _ | refine Below.drew ?_ | refine below_add ?_ _)) (by first | exact pr_lit w.drew | exact (pr_lit w.drew).next (below_new _ _) | exact pr_lit2 w _ _) _ _ _ rfl (unhide hA) (by first | exact fun _ => rfl | exact fun h => by cases h) (unhide zA) ?_
          intro v9 w9 x1 ba1 kp1; replace x1 := hide x1; replace ba1 := hide ba1; replace kp1 := hide kp1
          refine unhide hK _ _ (fun _ => unhide hSS _ (by repeat (first | exact unhide ba3 | exact unhide ba2 | exact unhide ba1 | exact Below.refl _ _ | refine Below.drew ?_ | refine below_add ?_ _))) (fun hS2 hc3 => ?_)
          clear hK K
          try simp only [Act.put, List.setIfInBounds_toArray, List.set_cons_zero, List.set_cons_succ, List.getElem_toArray, List.getElem_cons_succ, List.getElem_cons_zero]
          refine Lw.ready (rs := [12]) (by kernel_rfl) (by simp) (by assumption) (fun hc2 => ?_)
          refine Nxt1.cons rfl (by kernel_rfl) hc2 (fun K hK => ?_) ?_
          · -- operation 12
            go_simp
            refine unhide hK _ _ (fun _ => unhide hSS _ (by repeat (first | exact unhide ba3 | exact unhide ba2 | exact unhide ba1 | exact Below.refl _ _ | refine Below.drew ?_ | refine below_add ?_ _))) (fun hS2 hc3 => ?_)
            clear hK K
            try simp only [Act.put, List.setIfInBounds_toArray, List.set_cons_zero, List.set_cons_succ, List.getElem_toArray, List.getElem_cons_succ, List.getElem_cons_zero]
            refine Lw.ready (rs := [13]) (by kernel_rfl) (by simp) (by assumption) (fun hc2 => ?_)
            refine Nxt1.cons rfl (by kernel_rfl) hc2 (fun K hK => ?_) ?_
            · -- operation 13
              refine step_new0 w rfl (some 68) rfl (.tmp 63) (.tmp 67) rfl v9 (([] : List En)) [(who, m)] 1 (0 + 1) rfl (by repeat (first | exact unhide ba3 | exact unhide ba2 | exact unhide ba1 | exact Below.refl _ _ | refine Below.drew ?_ | refine below_add ?_ _)) (by first | exact unhide x1 | exact (unhide x1).next (below_new _ _)) _ rfl (by first | exact heap_alloc_new _ _ | exact unhide kp1 _ _ (heap_d2a w _ _ _ _) (by omega) | exact unhide kp1 _ _ (heap_d2b w _ _ _ _) (by omega)) rfl (by rw [unhide lA]) (by decide) (unhide zB) ?_
              intro g10 cap10 w10 x2 ba2; replace x2 := hide x2; replace ba2 := hide ba2
              refine unhide hK _ _ (fun _ => unhide hSS _ (by repeat (first | exact unhide ba3 | exact unhide ba2 | exact unhide ba1 | exact Below.refl _ _ | refine Below.drew ?_ | refine below_add ?_ _))) (fun hS2 hc3 => ?_)
              clear hK K
              try simp only [Act.put, List.setIfInBounds_toArray, List.set_cons_zero, List.set_cons_succ, List.getElem_toArray, List.getElem_cons_succ, List.getElem_cons_zero]
              refine Lw.ready (rs := [20]) (by kernel_rfl) (by simp) (by assumption) (fun hc2 => ?_)
              refine Nxt1.cons rfl (by kernel_rfl) hc2 (fun K hK => ?_) ?_
              · -- operation 20
                refine step_app_re rfl (.tmp 68) (.tmp 74) rfl w.heap.size _ (([] : List En) ++ [(who, m)]) (([] : List En)) rfl (unhide x2) _ _ _ rfl (by first | exact re_nil _ _ _ | exact (unhide hD).next (unhide ba2) | (simp only [Nat.sub_self]; exact re_nil _ _ _)) (by first | exact fun _ => rfl | exact fun h => by cases h) (unhide zC) (unhide ba2).size ?_
                intro v11 w11 x3 gr3; have ba3 := hide ((unhide ba2).trans (grown_below gr3 (unhide ba2).size (fun j hj => ((unhide x2).lt j hj).1))); obtain ⟨a11, n11, c11, rfl⟩ := pr_form x3; replace x3 := hide x3; clear gr3
                refine unhide hK _ _ (fun _ => unhide hSS _ (by repeat (first | exact unhide ba3 | exact unhide ba2 | exact unhide ba1 | exact Below.refl _ _ | refine Below.drew ?_ | refine below_add ?_ _))) (fun hS2 hc3 => ?_)
                clear hK K
                try simp only [Act.put, List.setIfInBounds_toArray, List.set_cons_zero, List.set_cons_succ, List.getElem_toArray, List.getElem_cons_succ, List.getElem_cons_zero]
                refine Lw.take (i := 21) [22, 23] (by kernel_rfl) (by rfl) (by decide) rfl (by kernel_rfl) (by kernel_rfl) (by kernel_rfl) (fun _ _ _ h => h) (by assumption) (v := ?_) (Or.inl ⟨by rfl, ?_⟩) (by first | assumption | exact unhide hSS _ (unhide ba3)) (fun hc1 => ?_)
                rotate_left
                · (intro w hSw; (try dsimp only at hSw); go_simp; first | done | with_reducible rfl)
                try simp only [Act.put, List.setIfInBounds_toArray, List.set_cons_zero, List.set_cons_succ, List.getElem_toArray, List.getElem_cons_succ, List.getElem_cons_zero]
                refine Lw.take (i := 22) [23] (by kernel_rfl) (by rfl) (by decide) rfl (by kernel_rfl) (by kernel_rfl) (by kernel_rfl) (fun _ _ _ h => h) (by assumption) (v := ?_) (Or.inl ⟨by rfl, ?_⟩) (by first | assumption | exact unhide hSS _ (unhide ba3)) (fun hc1 => ?_)
                rotate_left
                · (intro w hSw; (try dsimp only at hSw); go_simp; first | done | with_reducible rfl)
                try simp only [Act.put, List.setIfInBounds_toArray, List.set_cons_zero, List.set_cons_succ, List.getElem_toArray, List.getElem_cons_succ, List.getElem_cons_zero]
                refine Lw.ready (rs := [23]) (by kernel_rfl) (by simp) (by assumption) (fun hc2 => ?_)
                refine Nxt1.cons rfl (by kernel_rfl) hc2 (fun K hK => ?_) ?_
                · -- operation 23
                  have fr := unhide hFF _ (unhide ba3)
                  have cc := unhide hSS _ (unhide ba3)
                  go_simp
                  refine unhide hK _ _ (fun h => absurd h (by decide)) (fun _ hc3 => ?_)
                  clear hK K
                  try simp only [Act.put, List.setIfInBounds_toArray, List.set_cons_zero, List.set_cons_succ, List.getElem_toArray, List.getElem_cons_succ, List.getElem_cons_zero]
                  refine Lw.done (by kernel_rfl) ?_ _
                  have f1 := unhide x3
                  rw [unhide fin] at f1
                  go_wp2
                  refine bodyPost_end (results_none rfl _ _ _) rfl ?_
                  exact ⟨rfl, _, (unhide HL).put0 (unhide ba3) (pr_es f1)⟩
                exact Nxt1.nil
              exact Nxt1.nil
            exact Nxt1.nil
          exact Nxt1.nil
        refine Nxt1.cons rfl (by kernel_rfl) hc2 (fun K hK => ?_) ?_
        · -- operation 12
          go_simp
          refine unhide hK _ _ (fun _ => unhide hSS _ (by repeat (first | exact unhide ba3 | exact unhide ba2 | exact unhide ba1 | exact Below.refl _ _ | refine Below.drew ?_ | refine below_add ?_ _))) (fun hS2 hc3 => ?_)
          clear hK K
          try simp only [Act.put, List.setIfInBounds_toArray, List.set_cons_zero, List.set_cons_succ, List.getElem_toArray, List.getElem_cons_succ, List.getElem_cons_zero]
          refine Lw.ready (rs := [8]) (by kernel_rfl) (by simp) (by assumption) (fun hc2 => ?_)
          refine Nxt1.cons rfl (by kernel_rfl) hc2 (fun K hK => ?_) ?_
          · -- operation 8
            refine step_app0 w rfl (some 63) rfl (.tmp 56) (.tmp 62) rfl (([] : List En)) _ rfl (by repeat (first | exact unhide ba3 | exact unhide ba2 | exact unhide ba1 | exact Below.refl _ _ | refine Below.drew ?_ | refine below_add ?_ _)) (by first | exact pr_lit w.drew | exact (pr_lit w.drew).next (below_new _ _) | exact pr_lit2 w _ _) _ _ _ rfl (unhide hA) (by first | exact fun _ => rfl | exact fun h => by cases h) (unhide zA) ?_
            intro v9 w9 x1 ba1 kp1; replace x1 := hide x1; replace ba1 := hide ba1; replace kp1 := hide kp1
            refine unhide hK _ _ (fun _ => unhide hSS _ (by repeat (first | exact unhide ba3 | exact unhide ba2 | exact unhide ba1 | exact Below.refl _ _ | refine Below.drew ?_ | refine below_add ?_ _))) (fun hS2 hc3 => ?_)
            clear hK K
            try simp only [Act.put, List.setIfInBounds_toArray, List.set_cons_zero, List.set_cons_succ, List.getElem_toArray, List.getElem_cons_succ, List.getElem_cons_zero]
            refine Lw.ready (rs := [13]) (by kernel_rfl) (by simp) (by assumption) (fun hc2 => ?_)
            refine Nxt1.cons rfl (by kernel_rfl) hc2 (fun K hK => ?_) ?_
            · -- operation 13
              refine step_new0 w rfl (some 68) rfl (.tmp 63) (.tmp 67) rfl v9 (([] : List En)) [(who, m)] 1 (0 + 1) rfl (by repeat (first | exact unhide ba3 | exact unhide ba2 | exact unhide ba1 | exact Below.refl _ _ | refine Below.drew ?_ | refine below_add ?_ _)) (by first | exact unhide x1 | exact (unhide x1).next (below_new _ _)) _ rfl (by first | exact heap_alloc_new _ _ | exact unhide kp1 _ _ (heap_d2a w _ _ _ _) (by omega) | exact unhide kp1 _ _ (heap_d2b w _ _ _ _) (by omega)) rfl (by rw [unhide lA]) (by decide) (unhide zB) ?_
              intro g10 cap10 w10 x2 ba2; replace x2 := hide x2; replace ba2 := hide ba2
              refine unhide hK _ _ (fun _ => unhide hSS _ (by repeat (first | exact unhide ba3 | exact unhide ba2 | exact unhide ba1 | exact Below.refl _ _ | refine Below.drew ?_ | refine below_add ?_ _))) (fun hS2 hc3 => ?_)
              clear hK K
              try simp only [Act.put, List.setIfInBounds_toArray, List.set_cons_zero, List.set_cons_succ, List.getElem_toArray, List.getElem_cons_succ, List.getElem_cons_zero]
              refine Lw.ready (rs := [20]) (by kernel_rfl) (by simp) (by assumption) (fun hc2 => ?_)
              refine Nxt1.cons rfl (by kernel_rfl) hc2 (fun K hK => ?_) ?_
              · -- operation 20
                refine step_app_re rfl (.tmp 68) (.tmp 74) rfl w.heap.size _ (([] : List En) ++ [(who, m)]) (([] : List En)) rfl (unhide x2) _ _ _ rfl (by first | exact re_nil _ _ _ | exact (unhide hD).next (unhide ba2) | (simp only [Nat.sub_self]; exact re_nil _ _ _)) (by first | exact fun _ => rfl | exact fun h => by cases h) (unhide zC) (unhide ba2).size ?_
                intro v11 w11 x3 gr3; have ba3 := hide ((unhide ba2).trans (grown_below gr3 (unhide ba2).size (fun j hj => ((unhide x2).lt j hj).1))); obtain ⟨a11, n11, c11, rfl⟩ := pr_form x3; replace x3 := hide x3; clear gr3
                refine unhide hK _ _ (fun _ => unhide hSS _ (by repeat (first | exact unhide ba3 | exact unhide ba2 | exact unhide ba1 | exact Below.refl _ _ | refine Below.drew ?_ | refine below_add ?_ _))) (fun hS2 hc3 => ?_)
                clear hK K
                try simp only [Act.put, List.setIfInBounds_toArray, List.set_cons_zero, List.set_cons_succ, List.getElem_toArray, List.getElem_cons_succ, List.getElem_cons_zero]
                refine Lw.take (i := 21) [22, 23] (by kernel_rfl) (by rfl) (by decide) rfl (by kernel_rfl) (by kernel_rfl) (by kernel_rfl) (fun _ _ _ h => h) (by assumption) (v := ?_) (Or.inl ⟨by rfl, ?_⟩) (by first | assumption | exact unhide hSS _ (unhide ba3)) (fun hc1 => ?_)
                rotate_left
                · (intro w hSw; (try dsimp only at hSw); go_simp; first | done | with_reducible rfl)
                try simp only [Act.put, List.setIfInBounds_toArray, List.set_cons_zero, List.set_cons_succ, List.getElem_toArray, List.getElem_cons_succ, List.getElem_cons_zero]
                refine Lw.take (i := 22) [23] (by kernel_rfl) (by rfl) (by decide) rfl (by kernel_rfl) (by kernel_rfl) (by kernel_rfl) (fun _ _ _ h => h) (by assumption) (v := ?_) (Or.inl ⟨by rfl, ?_⟩) (by first | assumption | exact unhide hSS _ (unhide ba3)) (fun hc1 => ?_)
                rotate_left
                · (intro w hSw; (try dsimp only at hSw); go_simp; first | done | with_reducible rfl)
                try simp only [Act.put, List.setIfInBounds_toArray, List.set_cons_zero, List.set_cons_succ, List.getElem_toArray, List.getElem_cons_succ, List.getElem_cons_zero]
                refine Lw.ready (rs := [23]) (by kernel_rfl) (by simp) (by assumption) (fun hc2 => ?_)
                refine Nxt1.cons rfl (by kernel_rfl) hc2 (fun K hK => ?_) ?_
                · -- operation 23
                  have fr := unhide hFF _ (unhide ba3)
                  have cc := unhide hSS _ (unhide ba3)
                  go_simp
                  refine unhide hK _ _ (fun h => absurd h (by decide)) (fun _ hc3 => ?_)
                  clear hK K
                  try simp only [Act.put, List.setIfInBounds_toArray, List.set_cons_zero, List.set_cons_succ, List.getElem_toArray, List.getElem_cons_succ, List.getElem_cons_zero]
                  refine Lw.done (by kernel_rfl) ?_ _
                  have f1 := unhide x3
                  rw [unhide fin] at f1
                  go_wp2
                  refine bodyPost_end (results_none rfl _ _ _) rfl ?_
                  exact ⟨rfl, _, (unhide HL).put0 (unhide ba3) (pr_es f1)⟩
                exact Nxt1.nil
              exact Nxt1.nil
            exact Nxt1.nil
          exact Nxt1.nil
        exact Nxt1.nil
      refine Nxt1.cons rfl (by kernel_rfl) hc2 (fun K hK => ?_) ?_
      · -- operation 12
        go_simp
        refine unhide hK _ _ (fun _ => unhide hSS _ (by repeat (first | exact unhide ba3 | exact unhide ba2 | exact unhide ba1 | exact Below.refl _ _ | refine Below.drew ?_ | refine below_add ?_ _))) (fun hS2 hc3 => ?_)
        clear hK K
        try simp only [Act.put, List.setIfInBounds_toArray, List.set_cons_zero, List.set_cons_succ, List.getElem_toArray, List.getElem_cons_succ, List.getElem_cons_zero]
        refine Lw.ready (rs := [1]) (by kernel_rfl) (by simp) (by assumption) (fun hc2 => ?_)
        refine Nxt1.cons rfl (by kernel_rfl) hc2 (fun K hK => ?_) ?_
        · -- operation 1
          go_simp
          refine unhide hK _ _ (fun _ => unhide hSS _ (by repeat (first | exact unhide ba3 | exact unhide ba2 | exact unhide ba1 | exact Below.refl _ _ | refine Below.drew ?_ | refine below_add ?_ _))) (fun hS2 hc3 => ?_)
          clear hK K
          try simp only [Act.put, List.setIfInBounds_toArray, List.set_cons_zero, List.set_cons_succ, List.getElem_toArray, List.getElem_cons_succ, List.getElem_cons_zero]
          refine Lw.ready (rs := [8]) (by kernel_rfl) (by simp) (by assumption) (fun hc2 => ?_)
          refine Nxt1.cons rfl (by kernel_rfl) hc2 (fun K hK => ?_) ?_
          · -- operation 8
            refine step_app0 w rfl (some 63) rfl (.tmp 56) (.tmp 62) rfl (([] : List En)) _ rfl (by repeat (first | exact unhide ba3 | exact unhide ba2 | exact unhide ba1 | exact Below.refl _ _ | refine Below.drew ?_ | refine below_add ?_ _)) (by first | exact pr_lit w.drew | exact (pr_lit w.drew).next (below_new _ _) | exact pr_lit2 w _ _) _ _ _ rfl (unhide hA) (by first | exact fun _ => rfl | exact fun h => by cases h) (unhide zA) ?_
            intro v9 w9 x1 ba1 kp1; replace x1 := hide x1; replace ba1 := hide ba1; replace kp1 := hide kp1
            refine unhide hK _ _ (fun _ => unhide hSS _ (by repeat (first | exact unhide ba3 | exact unhide ba2 | exact unhide ba1 | exact Below.refl _ _ | refine Below.drew ?_ | refine below_add ?_ _))) (fun hS2 hc3 => ?_)
            clear hK K
            try simp only [Act.put, List.setIfInBounds_toArray, List.set_cons_zero, List.set_cons_succ, List.getElem_toArray, List.getElem_cons_succ, List.getElem_cons_zero]
            refine Lw.ready (rs := [13]) (by kernel_rfl) (by simp) (by assumption) (fun hc2 => ?_)
            refine Nxt1.cons rfl (by kernel_rfl) hc2 (fun K hK => ?_) ?_
            · -- operation 13
              refine step_new0 w rfl (some 68) rfl (.tmp 63) (.tmp 67) rfl v9 (([] : List En)) [(who, m)] 1 (0 + 1) rfl (by repeat (first | exact unhide ba3 | exact unhide ba2 | exact unhide ba1 | exact Below.refl _ _ | refine Below.drew ?_ | refine below_add ?_ _)) (by first | exact unhide x1 | exact (unhide x1).next (below_new _ _)) _ rfl (by first | exact heap_alloc_new _ _ | exact unhide kp1 _ _ (heap_d2a w _ _ _ _) (by omega) | exact unhide kp1 _ _ (heap_d2b w _ _ _ _) (by omega)) rfl (by rw [unhide lA]) (by decide) (unhide zB) ?_
              intro g10 cap10 w10 x2 ba2; replace x2 := hide x2; replace ba2 := hide ba2
              refine unhide hK _ _ (fun _ => unhide hSS _ (by repeat (first | exact unhide ba3 | exact unhide ba2 | exact unhide ba1 | exact Below.refl _ _ | refine Below.drew ?_ | refine below_add ?_ _))) (fun hS2 hc3 => ?_)
              clear hK K
              try simp only [Act.put, List.setIfInBounds_toArray, List.set_cons_zero, List.set_cons_succ, List.getElem_toArray, List.getElem_cons_succ, List.getElem_cons_zero]
              refine Lw.ready (rs := [20]) (by kernel_rfl) (by simp) (by assumption) (fun hc2 => ?_)
              refine Nxt1.cons rfl (by kernel_rfl) hc2 (fun K hK => ?_) ?_
              · -- operation 20
                refine step_app_re rfl (.tmp 68) (.tmp 74) rfl w.heap.size _ (([] : List En) ++ [(who, m)]) (([] : List En)) rfl (unhide x2) _ _ _ rfl (by first | exact re_nil _ _ _ | exact (unhide hD).next (unhide ba2) | (simp only [Nat.sub_self]; exact re_nil _ _ _)) (by first | exact fun _ => rfl | exact fun h => by cases h) (unhide zC) (unhide ba2).size ?_
                intro v11 w11 x3 gr3; have ba3 := hide ((unhide ba2).trans (grown_below gr3 (unhide ba2).size (fun j hj => ((unhide x2).lt j hj).1))); obtain ⟨a11, n11, c11, rfl⟩ := pr_form x3; replace x3 := hide x3; clear gr3
                refine unhide hK _ _ (fun _ => unhide hSS _ (by repeat (first | exact unhide ba3 | exact unhide ba2 | exact unhide ba1 | exact Below.refl _ _ | refine Below.drew ?_ | refine below_add ?_ _))) (fun hS2 hc3 => ?_)
                clear hK K
                try simp only [Act.put, List.setIfInBounds_toArray, List.set_cons_zero, List.set_cons_succ, List.getElem_toArray, List.getElem_cons_succ, List.getElem_cons_zero]
                refine Lw.take (i := 21) [22, 23] (by kernel_rfl) (by rfl) (by decide) rfl (by kernel_rfl) (by kernel_rfl) (by kernel_rfl) (fun _ _ _ h => h) (by assumption) (v := ?_) (Or.inl ⟨by rfl, ?_⟩) (by first | assumption | exact unhide hSS _ (unhide ba3)) (fun hc1 => ?_)
                rotate_left
                · (intro w hSw; (try dsimp only at hSw); go_simp; first | done | with_reducible rfl)
                try simp only [Act.put, List.setIfInBounds_toArray, List.set_cons_zero, List.set_cons_succ, List.getElem_toArray, List.getElem_cons_succ, List.getElem_cons_zero]
                refine Lw.take (i := 22) [23] (by kernel_rfl) (by rfl) (by decide) rfl (by kernel_rfl) (by kernel_rfl) (by kernel_rfl) (fun _ _ _ h => h) (by assumption) (v := ?_) (Or.inl ⟨by rfl, ?_⟩) (by first | assumption | exact unhide hSS _ (unhide ba3)) (fun hc1 => ?_)
                rotate_left
                · (intro w hSw; (try dsimp only at hSw); go_simp; first | done | with_reducible rfl)
                try simp only [Act.put, List.setIfInBounds_toArray, List.set_cons_zero, List.set_cons_succ, List.getElem_toArray, List.getElem_cons_succ, List.getElem_cons_zero]
                refine Lw.ready (rs := [23]) (by kernel_rfl) (by simp) (by assumption) (fun hc2 => ?_)
                refine Nxt1.cons rfl (by kernel_rfl) hc2 (fun K hK => ?_) ?_
                · -- operation 23
                  have fr := unhide hFF _ (unhide ba3)
                  have cc := unhide hSS _ (unhide ba3)
                  go_simp
                  refine unhide hK _ _ (fun h => absurd h (by decide)) (fun _ hc3 => ?_)
                  clear hK K
                  try simp only [Act.put, List.setIfInBounds_toArray, List.set_cons_zero, List.set_cons_succ, List.getElem_toArray, List.getElem_cons_succ, List.getElem_cons_zero]
                  refine Lw.done (by kernel_rfl) ?_ _
                  have f1 := unhide x3
                  rw [unhide fin] at f1
                  go_wp2
                  refine bodyPost_end (results_none rfl _ _ _) rfl ?_
                  exact ⟨rfl, _, (unhide HL).put0 (unhide ba3) (pr_es f1)⟩
                exact Nxt1.nil
              exact Nxt1.nil
            exact Nxt1.nil
          exact Nxt1.nil
        exact Nxt1.nil
      exact Nxt1.nil
  · have R := hide r
    have re := hide h.hr
    clear h r hs
    go_enter Tryz.func84, Tryz.ntmps84
    go_wp2
    go_loop [6] (fun i => ∃ k : Nat, k ≤ H.length ∧ i = .int .i64 k ∧ Hid (∀ t, t < k → (H.getD t (0, 0)).1 < who)) (fun i => H.length - (intOf i).toNat)
    case atStart => exact ⟨0, Nat.zero_le _, rfl, fun t ht => by omega⟩
    case round =>
      obtain ⟨k, hk, rfl, lo⟩ := hrel
      by_cases hlt : k < H.length
      · obtain ⟨y, hy⟩ : ∃ y, y = H.getD k (0, 0) := ⟨_, rfl⟩
        have d1 : w.cell? ⟨g, k * 2, none⟩ = some (.int .i64 y.1) := by rw [hy]; exact (unhide R).fst hlt
        have d2 : w.cell? ⟨g, k * 2 + 1, none⟩ = some (.int .i64 y.2) := by rw [hy]; exact (unhide R).snd hlt
        have hfr : w.frozen? ⟨g, k * 2 + 1, none⟩ = false := (unhide R).free _
        by_cases hq : y.1 < who
        · have b1 : decide (y.1 < who) = true := decide_eq_true hq
          have lo2 : Hid (∀ t, t < k + 1 → (H.getD t (0, 0)).1 < who) := fun t ht => by
            rcases (show t < k ∨ t = k by omega) with h | rfl
            · exact unhide lo t h
            · rw [← hy]; exact hq
          replace hy := hide hy
          clear hq
          go_wp2
          go_round
          case rel => exact ⟨k + 1, by omega, by go_num, unhide lo2⟩
          case measure => simp [intOf]; omega
        · have b1 : decide (y.1 < who) = false := decide_eq_false hq
          have pk := hide ((unhide pa) k hk (unhide lo) (fun _ => by rw [← hy]; omega))
          by_cases he : y.1 = who
          · have b2 : (y.1 == who) = true := beq_iff_eq.2 he
            have fin : Hid (putD (who, m) H = H.set k (who, m)) := (unhide pk).1 ⟨hlt, by rw [← hy]; exact he⟩
            have ov := hide ((unhide HL).over (unhide hd) hlt (who, m) (by rw [← hy]; exact he))
            have hy2 : Hid (y = H.getD k (0, 0)) := hy
            clear hy hq pk pa lo he
            go_wp2
            refine bodyPost_ret (results_none rfl _ _ _) rfl ?_
            refine ⟨rfl, _, ?_, unhide hd, (unhide ov).2⟩
            rw [unhide fin]
            exact (unhide ov).1
          · have b2 : (y.1 == who) = false := beq_eq_false_iff_ne.2 he
            have fin : Hid (H.take k ++ [(who, m)] ++ H.drop k = putD (who, m) H) := ((unhide pk).2 (fun h => he (by rw [hy]; exact h.2))).symm
            have hSS := hS0
            have hA := hide (re_take (unhide re) k cap hk)
            have hD := hide (re_drop (unhide re) k (cap - k) hk)
            have lA : Hid ((H.take k).length = k) := by show _ = _; rw [List.length_take]; omega
            have zA : Hid ((H.take k).length ≤ 10000) := by have := unhide lA; show _ ≤ _; omega
            have zB : Hid (k + 1 < 10000000) := by show _ < _; omega
            have zC : Hid ((H.take k ++ [(who, m)]).length + (H.drop k).length ≤ 10000) := by show _ ≤ _; rw [List.length_append, unhide lA, List.length_drop]; simp; omega
            have q7 := (unhide R).le
            have q9 : ¬ cap = k := by omega
            have q8 : k < cap := by omega
            have q6 : k ≤ cap := by omega
            have hy2 : Hid (y = H.getD k (0, 0)) := hy
            clear hy hq pk pa lo he q7
            go_wp2_with fail
            refine Lw.begin 23 (fun wz => wz.cell? ⟨b, 0, none⟩ = some (.slice (some ⟨g, 0, none⟩) H.length cap)) (by kernel_rfl) ?hS0 (fun hS1 hc0 => ?_)
            case hS0 => exact unhide hSS _ (by repeat (first | exact unhide ba3 | exact unhide ba2 | exact unhide ba1 | exact Below.refl _ _ | refine Below.drew ?_ | refine below_add ?_ _))
            refine Lw.take (i := 0) [21, 22, 23] (by kernel_rfl) (by rfl) (by decide) rfl (by kernel_rfl) (by kernel_rfl) (by kernel_rfl) (fun _ _ _ h => h) (by assumption) (v := ?_) (Or.inl ⟨by rfl, ?_⟩) (by first | assumption | exact unhide hSS _ (unhide ba3)) (fun hc1 => ?_)
            rotate_left
            · (intro w hSw; (try dsimp only at hSw); go_simp; first | done | with_reducible rfl)
            try simp only [Act.put, List.setIfInBounds_toArray, List.set_cons_zero, List.set_cons_succ, List.getElem_toArray, List.getElem_cons_succ, List.getElem_cons_zero]
            refine Lw.take (i := 2) [3, 4, 5, 7, 8, 13, 20, 23] (by kernel_rfl) (by rfl) (by decide) rfl (by kernel_rfl) (by kernel_rfl) (by kernel_rfl) (fun _ _ _ h => h) (by assumption) (v := ?_) (Or.inl ⟨by rfl, ?_⟩) (by first | assumption | exact unhide hSS _ (unhide ba3)) (fun hc1 => ?_)
            rotate_left
            · (intro w hSw; (try dsimp only at hSw); go_simp; first | done | with_reducible rfl)
            try simp only [Act.put, List.setIfInBounds_toArray, List.set_cons_zero, List.set_cons_succ, List.getElem_toArray, List.getElem_cons_succ, List.getElem_cons_zero]
            refine Lw.take (i := 3) [4, 5, 7, 8, 13, 20, 23] (by kernel_rfl) (by rfl) (by decide) rfl (by kernel_rfl) (by kernel_rfl) (by kernel_rfl) (fun _ _ _ h => h) (by assumption) (v := ?_) (Or.inl ⟨by rfl, ?_⟩) (by first | assumption | exact unhide hSS _ (unhide ba3)) (fun hc1 => ?_)
            rotate_left
            · (intro w hSw; (try dsimp only at hSw); go_simp; first | done | with_reducible rfl)
            try simp only [Act.put, List.setIfInBounds_toArray, List.set_cons_zero, List.set_cons_succ, List.getElem_toArray, List.getElem_cons_succ, List.getElem_cons_zero]
            refine Lw.take (i := 4) [5, 7, 8, 13, 20, 23] (by kernel_rfl) (by rfl) (by decide) rfl (by kernel_rfl) (by kernel_rfl) (by kernel_rfl) (fun _ _ _ h => h) (by assumption) (v := ?_) (Or.inl ⟨by rfl, ?_⟩) (by first | assumption | exact unhide hSS _ (unhide ba3)) (fun hc1 => ?_)
            rotate_left
            · (intro w hSw; (try dsimp only at hSw); go_simp; first | done | with_reducible rfl)
            try simp only [Act.put, List.setIfInBounds_toArray, List.set_cons_zero, List.set_cons_succ, List.getElem_toArray, List.getElem_cons_succ, List.getElem_cons_zero]
            refine Lw.take (i := 5) [7, 8, 13, 20, 23] (by kernel_rfl) (by rfl) (by decide) rfl (by kernel_rfl) (by kernel_rfl) (by kernel_rfl) (fun _ _ _ h => h) (by assumption) (v := ?_) (Or.inl ⟨by rfl, ?_⟩) (by first | assumption | exact unhide hSS _ (unhide ba3)) (fun hc1 => ?_)
            rotate_left
            · (intro w hSw; (try dsimp only at hSw); go_simp; first | done | with_reducible rfl)
            try simp only [Act.put, List.setIfInBounds_toArray, List.set_cons_zero, List.set_cons_succ, List.getElem_toArray, List.getElem_cons_succ, List.getElem_cons_zero]
            refine Lw.take (i := 6) [7, 8, 13, 20, 23] (by kernel_rfl) (by rfl) (by decide) rfl (by kernel_rfl) (by kernel_rfl) (by kernel_rfl) (fun _ _ _ h => h) (by assumption) (v := ?_) (Or.inl ⟨by rfl, ?_⟩) (by first | assumption | exact unhide hSS _ (unhide ba3)) (fun hc1 => ?_)
            rotate_left
            · (intro w hSw; (try dsimp only at hSw); go_simp; first | done | with_reducible rfl)
            try simp only [Act.put, List.setIfInBounds_toArray, List.set_cons_zero, List.set_cons_succ, List.getElem_toArray, List.getElem_cons_succ, List.getElem_cons_zero]
            refine Lw.take (i := 7) [8, 13, 20, 23] (by kernel_rfl) (by rfl) (by decide) rfl (by kernel_rfl) (by kernel_rfl) (by kernel_rfl) (fun _ _ _ h => h) (by assumption) (v := ?_) (Or.inl ⟨by rfl, ?_⟩) (by first | assumption | exact unhide hSS _ (unhide ba3)) (fun hc1 => ?_)
            rotate_left
            · (intro w hSw; (try dsimp only at hSw); go_simp; first | done | with_reducible rfl)
            try simp only [Act.put, List.setIfInBounds_toArray, List.set_cons_zero, List.set_cons_succ, List.getElem_toArray, List.getElem_cons_succ, List.getElem_cons_zero]
            refine Lw.take (i := 9) [11, 12, 13, 20, 23] (by kernel_rfl) (by rfl) (by decide) rfl (by kernel_rfl) (by kernel_rfl) (by kernel_rfl) (fun _ _ _ h => h) (by assumption) (v := ?_) (Or.inl ⟨by rfl, ?_⟩) (by first | assumption | exact unhide hSS _ (unhide ba3)) (fun hc1 => ?_)
            rotate_left
            · (intro w hSw; (try dsimp only at hSw); go_simp; first | done | with_reducible rfl)
            try simp only [Act.put, List.setIfInBounds_toArray, List.set_cons_zero, List.set_cons_succ, List.getElem_toArray, List.getElem_cons_succ, List.getElem_cons_zero]
            refine Lw.take (i := 10) [11, 12, 13, 20, 23] (by kernel_rfl) (by rfl) (by decide) rfl (by kernel_rfl) (by kernel_rfl) (by kernel_rfl) (fun _ _ _ h => h) (by assumption) (v := ?_) (Or.inl ⟨by rfl, ?_⟩) (by first | assumption | exact unhide hSS _ (unhide ba3)) (fun hc1 => ?_)
            rotate_left
            · (intro w hSw; (try dsimp only at hSw); go_simp; first | done | with_reducible rfl)
            try simp only [Act.put, List.setIfInBounds_toArray, List.set_cons_zero, List.set_cons_succ, List.getElem_toArray, List.getElem_cons_succ, List.getElem_cons_zero]
            refine Lw.take (i := 11) [12, 13, 20, 23] (by kernel_rfl) (by rfl) (by decide) rfl (by kernel_rfl) (by kernel_rfl) (by kernel_rfl) (fun _ _ _ h => h) (by assumption) (v := ?_) (Or.inl ⟨by rfl, ?_⟩) (by first | assumption | exact unhide hSS _ (unhide ba3)) (fun hc1 => ?_)
            rotate_left
            · (intro w hSw; (try dsimp only at hSw); go_simp; first | done | with_reducible rfl)
            try simp only [Act.put, List.setIfInBounds_toArray, List.set_cons_zero, List.set_cons_succ, List.getElem_toArray, List.getElem_cons_succ, List.getElem_cons_zero]
            refine Lw.take (i := 14) [15, 16, 17, 19, 20, 23] (by kernel_rfl) (by rfl) (by decide) rfl (by kernel_rfl) (by kernel_rfl) (by kernel_rfl) (fun _ _ _ h => h) (by assumption) (v := ?_) (Or.inl ⟨by rfl, ?_⟩) (by first | assumption | exact unhide hSS _ (unhide ba3)) (fun hc1 => ?_)
            rotate_left
            · (intro w hSw; (try dsimp only at hSw); go_simp; first | done | with_reducible rfl)
            try simp only [Act.put, List.setIfInBounds_toArray, List.set_cons_zero, List.set_cons_succ, List.getElem_toArray, List.getElem_cons_succ, List.getElem_cons_zero]
            refine Lw.take (i := 15) [16, 17, 19, 20, 23] (by kernel_rfl) (by rfl) (by decide) rfl (by kernel_rfl) (by kernel_rfl) (by kernel_rfl) (fun _ _ _ h => h) (by assumption) (v := ?_) (Or.inl ⟨by rfl, ?_⟩) (by first | assumption | exact unhide hSS _ (unhide ba3)) (fun hc1 => ?_)
            rotate_left
            · (intro w hSw; (try dsimp only at hSw); go_simp; first | done | with_reducible rfl)
            try simp only [Act.put, List.setIfInBounds_toArray, List.set_cons_zero, List.set_cons_succ, List.getElem_toArray, List.getElem_cons_succ, List.getElem_cons_zero]
            refine Lw.take (i := 16) [17, 19, 20, 23] (by kernel_rfl) (by rfl) (by decide) rfl (by kernel_rfl) (by kernel_rfl) (by kernel_rfl) (fun _ _ _ h => h) (by assumption) (v := ?_) (Or.inl ⟨by rfl, ?_⟩) (by first | assumption | exact unhide hSS _ (unhide ba3)) (fun hc1 => ?_)
            rotate_left
            · (intro w hSw; (try dsimp only at hSw); go_simp; first | done | with_reducible rfl)
            try simp only [Act.put, List.setIfInBounds_toArray, List.set_cons_zero, List.set_cons_succ, List.getElem_toArray, List.getElem_cons_succ, List.getElem_cons_zero]
            refine Lw.take (i := 17) [19, 20, 23] (by kernel_rfl) (by rfl) (by decide) rfl (by kernel_rfl) (by kernel_rfl) (by kernel_rfl) (fun _ _ _ h => h) (by assumption) (v := ?_) (Or.inl ⟨by rfl, ?_⟩) (by first | assumption | exact unhide hSS _ (unhide ba3)) (fun hc1 => ?_)
            rotate_left
            · (intro w hSw; (try dsimp only at hSw); go_simp; first | done | with_reducible rfl)
            try simp only [Act.put, List.setIfInBounds_toArray, List.set_cons_zero, List.set_cons_succ, List.getElem_toArray, List.getElem_cons_succ, List.getElem_cons_zero]
            refine Lw.take (i := 18) [19, 20, 23] (by kernel_rfl) (by rfl) (by decide) rfl (by kernel_rfl) (by kernel_rfl) (by kernel_rfl) (fun _ _ _ h => h) (by assumption) (v := ?_) (Or.inl ⟨by rfl, ?_⟩) (by first | assumption | exact unhide hSS _ (unhide ba3)) (fun hc1 => ?_)
            rotate_left
            · (intro w hSw; (try dsimp only at hSw); go_simp; first | done | with_reducible rfl)
            try simp only [Act.put, List.setIfInBounds_toArray, List.set_cons_zero, List.set_cons_succ, List.getElem_toArray, List.getElem_cons_succ, List.getElem_cons_zero]
            refine Lw.take (i := 19) [20, 23] (by kernel_rfl) (by rfl) (by decide) rfl (by kernel_rfl) (by kernel_rfl) (by kernel_rfl) (fun _ _ _ h => h) (by assumption) (v := ?_) (Or.inl ⟨by rfl, ?_⟩) (by first | assumption | exact unhide hSS _ (unhide ba3)) (fun hc1 => ?_)
            rotate_left
            · (intro w hSw; (try dsimp only at hSw); go_simp; first | done | with_reducible rfl)
            try simp only [Act.put, List.setIfInBounds_toArray, List.set_cons_zero, List.set_cons_succ, List.getElem_toArray, List.getElem_cons_succ, List.getElem_cons_zero]
            refine Lw.ready (rs := [1, 12]) (by kernel_rfl) (by simp) (by assumption) (fun hc2 => ?_)
            refine Nxt1.cons rfl (by kernel_rfl) hc2 (fun K hK => ?_) ?_
            · -- operation 1
              go_simp
              refine unhide hK _ _ (fun _ => unhide hSS _ (by repeat (first | exact unhide ba3 | exact unhide ba2 | exact unhide ba1 | exact Below.refl _ _ | refine Below.drew ?_ | refine below_add ?_ _))) (fun hS2 hc3 => ?_)
              clear hK K
              try simp only [Act.put, List.setIfInBounds_toArray, List.set_cons_zero, List.set_cons_succ, List.getElem_toArray, List.getElem_cons_succ, List.getElem_cons_zero]
              refine Lw.ready (rs := [8, 12]) (by kernel_rfl) (by simp) (by assumption) (fun hc2 => ?_)
              refine Nxt1.cons rfl (by kernel_rfl) hc2 (fun K hK => ?_) ?_
              · -- operation 8
                refine step_app0 w rfl (some 63) rfl (.tmp 56) (.tmp 62) rfl (H.take k) _ rfl (by repeat (first | exact unhide ba3 | exact unhide ba2 | exact unhide ba1 | exact Below.refl _ _ | refine Below.drew ?_ | refine below_add ?_ _)) (by first | exact pr_lit w.drew | exact (pr_lit w.drew).next (below_new _ _) | exact pr_lit2 w _ _) _ _ _ rfl (unhide hA) (by first | exact fun _ => rfl | exact fun h => by cases h) (unhide zA) ?_
                intro v9 w9 x1 ba1 kp1; replace x1 := hide x1; replace ba1 := hide ba1; replace kp1 := hide kp1
                refine unhide hK _ _ (fun _ => unhide hSS _ (by repeat (first | exact unhide ba3 | exact unhide ba2 | exact unhide ba1 | exact Below.refl _ _ | refine Below.drew ?_ | refine below_add ?_ _))) (fun hS2 hc3 => ?_)
                clear hK K
                try simp only [Act.put, List.setIfInBounds_toArray, List.set_cons_zero, List.set_cons_succ, List.getElem_toArray, List.getElem_cons_succ, List.getElem_cons_zero]
                refine Lw.ready (rs := [12]) (by kernel_rfl) (by simp) (by assumption) (fun hc2 => ?_)
                refine Nxt1.cons rfl (by kernel_rfl) hc2 (fun K hK => ?_) ?_
                · -- operation 12
                  go_simp
                  refine unhide hK _ _ (fun _ => unhide hSS _ (by repeat (first | exact unhide ba3 | exact unhide ba2 | exact unhide ba1 | exact Below.refl _ _ | refine Below.drew ?_ | refine below_add ?_ _))) (fun hS2 hc3 => ?_)
                  clear hK K
                  try simp only [Act.put, List.setIfInBounds_toArray, List.set_cons_zero, List.set_cons_succ, List.getElem_toArray, List.getElem_cons_succ, List.getElem_cons_zero]
                  refine Lw.ready (rs := [13]) (by kernel_rfl) (by simp) (by assumption) (fun hc2 => ?_)
                  refine Nxt1.cons rfl (by kernel_rfl) hc2 (fun K hK => ?_) ?_
                  · -- operation 13
                    refine step_new0 w rfl (some 68) rfl (.tmp 63) (.tmp 67) rfl v9 (H.take k) [(who, m)] 1 (k + 1) rfl (by repeat (first | exact unhide ba3 | exact unhide ba2 | exact unhide ba1 | exact Below.refl _ _ | refine Below.drew ?_ | refine below_add ?_ _)) (by first | exact unhide x1 | exact (unhide x1).next (below_new _ _)) _ rfl (by first | exact heap_alloc_new _ _ | exact unhide kp1 _ _ (heap_d2a w _ _ _ _) (by omega) | exact unhide kp1 _ _ (heap_d2b w _ _ _ _) (by omega)) rfl (by rw [unhide lA]) (by decide) (unhide zB) ?_
                    intro g10 cap10 w10 x2 ba2; replace x2 := hide x2; replace ba2 := hide ba2
                    refine unhide hK _ _ (fun _ => unhide hSS _ (by repeat (first | exact unhide ba3 | exact unhide ba2 | exact unhide ba1 | exact Below.refl _ _ | refine Below.drew ?_ | refine below_add ?_ _))) (fun hS2 hc3 => ?_)
                    clear hK K
                    try simp only [Act.put, List.setIfInBounds_toArray, List.set_cons_zero, List.set_cons_succ, List.getElem_toArray, List.getElem_cons_succ, List.getElem_cons_zero]
                    refine Lw.ready (rs := [20]) (by kernel_rfl) (by simp) (by assumption) (fun hc2 => ?_)
                    refine Nxt1.cons rfl (by kernel_rfl) hc2 (fun K hK => ?_) ?_
                    · -- operation 20
                      refine step_app_re rfl (.tmp 68) (.tmp 74) rfl w.heap.size _ (H.take k ++ [(who, m)]) (H.drop k) rfl (unhide x2) _ _ _ rfl (by first | exact re_nil _ _ _ | exact (unhide hD).next (unhide ba2) | (simp only [Nat.sub_self]; exact re_nil _ _ _)) (by first | exact fun _ => rfl | exact fun h => by cases h) (unhide zC) (unhide ba2).size ?_
                      intro v11 w11 x3 gr3; have ba3 := hide ((unhide ba2).trans (grown_below gr3 (unhide ba2).size (fun j hj => ((unhide x2).lt j hj).1))); obtain ⟨a11, n11, c11, rfl⟩ := pr_form x3; replace x3 := hide x3; clear gr3
                      refine unhide hK _ _ (fun _ => unhide hSS _ (by repeat (first | exact unhide ba3 | exact unhide ba2 | exact unhide ba1 | exact Below.refl _ _ | refine Below.drew ?_ | refine below_add ?_ _))) (fun hS2 hc3 => ?_)
                      clear hK K
                      try simp only [Act.put, List.setIfInBounds_toArray, List.set_cons_zero, List.set_cons_succ, List.getElem_toArray, List.getElem_cons_succ, List.getElem_cons_zero]
                      refine Lw.take (i := 21) [22, 23] (by kernel_rfl) (by rfl) (by decide) rfl (by kernel_rfl) (by kernel_rfl) (by kernel_rfl) (fun _ _ _ h => h) (by assumption) (v := ?_) (Or.inl ⟨by rfl, ?_⟩) (by first | assumption | exact unhide hSS _ (unhide ba3)) (fun hc1 => ?_)
                      rotate_left
                      · (intro w hSw; (try dsimp only at hSw); go_simp; first | done | with_reducible rfl)
                      try simp only [Act.put, List.setIfInBounds_toArray, List.set_cons_zero, List.set_cons_succ, List.getElem_toArray, List.getElem_cons_succ, List.getElem_cons_zero]
                      refine Lw.take (i := 22) [23] (by kernel_rfl) (by rfl) (by decide) rfl (by kernel_rfl) (by kernel_rfl) (by kernel_rfl) (fun _ _ _ h => h) (by assumption) (v := ?_) (Or.inl ⟨by rfl, ?_⟩) (by first | assumption | exact unhide hSS _ (unhide ba3)) (fun hc1 => ?_)
                      rotate_left
                      · (intro w hSw; (try dsimp only at hSw); go_simp; first | done | with_reducible rfl)
                      try simp only [Act.put, List.setIfInBounds_toArray, List.set_cons_zero, List.set_cons_succ, List.getElem_toArray, List.getElem_cons_succ, List.getElem_cons_zero]
                      refine Lw.ready (rs := [23]) (by kernel_rfl) (by simp) (by assumption) (fun hc2 => ?_)
                      refine Nxt1.cons rfl (by kernel_rfl) hc2 (fun K hK => ?_) ?_
                      · -- operation 23
                        have fr := unhide hFF _ (unhide ba3)
                        have cc := unhide hSS _ (unhide ba3)
                        go_simp
                        refine unhide hK _ _ (fun h => absurd h (by decide)) (fun _ hc3 => ?_)
                        clear hK K
                        try simp only [Act.put, List.setIfInBounds_toArray, List.set_cons_zero, List.set_cons_succ, List.getElem_toArray, List.getElem_cons_succ, List.getElem_cons_zero]
                        refine Lw.done (by kernel_rfl) ?_ _
                        have f1 := unhide x3
                        rw [unhide fin] at f1
                        go_wp2
                        refine bodyPost_end (results_none rfl _ _ _) rfl ?_
                        exact ⟨rfl, _, (unhide HL).put0 (unhide ba3) (pr_es f1)⟩
                      exact Nxt1.nil
                    exact Nxt1.nil
                  exact Nxt1.nil
                exact Nxt1.nil
              refine Nxt1.cons rfl (by kernel_rfl) hc2 (fun K hK => ?_) ?_
              · -- operation 12
                go_simp
                refine unhide hK _ _ (fun _ => unhide hSS _ (by repeat (first | exact unhide ba3 | exact unhide ba2 | exact unhide ba1 | exact Below.refl _ _ | refine Below.drew ?_ | refine below_add ?_ _))) (fun hS2 hc3 => ?_)
                clear hK K
                try simp only [Act.put, List.setIfInBounds_toArray, List.set_cons_zero, List.set_cons_succ, List.getElem_toArray, List.getElem_cons_succ, List.getElem_cons_zero]
                refine Lw.ready (rs := [8]) (by kernel_rfl) (by simp) (by assumption) (fun hc2 => ?_)
                refine Nxt1.cons rfl (by kernel_rfl) hc2 (fun K hK => ?_) ?_
                · -- operation 8
                  refine step_app0 w rfl (some 63) rfl (.tmp 56) (.tmp 62) rfl (H.take k) _ rfl (by repeat (first | exact unhide ba3 | exact unhide ba2 | exact unhide ba1 | exact Below.refl _ _ | refine Below.drew ?_ | refine below_add ?_ _)) (by first | exact pr_lit w.drew | exact (pr_lit w.drew).next (below_new _ _) | exact pr_lit2 w _ _) _ _ _ rfl (unhide hA) (by first | exact fun _ => rfl | exact fun h => by cases h) (unhide zA) ?_
                  intro v9 w9 x1 ba1 kp1; replace x1 := hide x1; replace ba1 := hide ba1; replace kp1 := hide kp1
                  refine unhide hK _ _ (fun _ => unhide hSS _ (by repeat (first | exact unhide ba3 | exact unhide ba2 | exact unhide ba1 | exact Below.refl _ _ | refine Below.drew ?_ | refine below_add ?_ _))) (fun hS2 hc3 => ?_)
                  clear hK K
                  try simp only [Act.put, List.setIfInBounds_toArray, List.set_cons_zero, List.set_cons_succ, List.getElem_toArray, List.getElem_cons_succ, List.getElem_cons_zero]
                  refine Lw.ready (rs := [13]) (by kernel_rfl) (by simp) (by assumption) (fun hc2 => ?_)
                  refine Nxt1.cons rfl (by kernel_rfl) hc2 (fun K hK => ?_) ?_
                  · -- operation 13
                    refine step_new0 w rfl (some 68) rfl (.tmp 63) (.tmp 67) rfl v9 (H.take k) [(who, m)] 1 (k + 1) rfl (by repeat (first | exact unhide ba3 | exact unhide ba2 | exact unhide ba1 | exact Below.refl _ _ | refine Below.drew ?_ | refine below_add ?_ _)) (by first | exact unhide x1 | exact (unhide x1).next (below_new _ _)) _ rfl (by first | exact heap_alloc_new _ _ | exact unhide kp1 _ _ (heap_d2a w _ _ _ _) (by omega) | exact unhide kp1 _ _ (heap_d2b w _ _ _ _) (by omega)) rfl (by rw [unhide lA]) (by decide) (unhide zB) ?_
                    intro g10 cap10 w10 x2 ba2; replace x2 := hide x2; replace ba2 := hide ba2
                    refine unhide hK _ _ (fun _ => unhide hSS _ (by repeat (first | exact unhide ba3 | exact unhide ba2 | exact unhide ba1 | exact Below.refl _ _ | refine Below.drew ?_ | refine below_add ?_ _))) (fun hS2 hc3 => ?_)
                    clear hK K
                    try simp only [Act.put, List.setIfInBounds_toArray, List.set_cons_zero, List.set_cons_succ, List.getElem_toArray, List.getElem_cons_succ, List.getElem_cons_zero]
                    refine Lw.ready (rs := [20]) (by kernel_rfl) (by simp) (by assumption) (fun hc2 => ?_)
                    refine Nxt1.cons rfl (by kernel_rfl) hc2 (fun K hK => ?_) ?_
                    · -- operation 20
                      refine step_app_re rfl (.tmp 68) (.tmp 74) rfl w.heap.size _ (H.take k ++ [(who, m)]) (H.drop k) rfl (unhide x2) _ _ _ rfl (by first | exact re_nil _ _ _ | exact (unhide hD).next (unhide ba2) | (simp only [Nat.sub_self]; exact re_nil _ _ _)) (by first | exact fun _ => rfl | exact fun h => by cases h) (unhide zC) (unhide ba2).size ?_
                      intro v11 w11 x3 gr3; have ba3 := hide ((unhide ba2).trans (grown_below gr3 (unhide ba2).size (fun j hj => ((unhide x2).lt j hj).1))); obtain ⟨a11, n11, c11, rfl⟩ := pr_form x3; replace x3 := hide x3; clear gr3
                      refine unhide hK _ _ (fun _ => unhide hSS _ (by repeat (first | exact unhide ba3 | exact unhide ba2 | exact unhide ba1 | exact Below.refl _ _ | refine Below.drew ?_ | refine below_add ?_ _))) (fun hS2 hc3 => ?_)
                      clear hK K
                      try simp only [Act.put, List.setIfInBounds_toArray, List.set_cons_zero, List.set_cons_succ, List.getElem_toArray, List.getElem_cons_succ, List.getElem_cons_zero]
                      refine Lw.take (i := 21) [22, 23] (by kernel_rfl) (by rfl) (by decide) rfl (by kernel_rfl) (by kernel_rfl) (by kernel_rfl) (fun _ _ _ h => h) (by assumption) (v := ?_) (Or.inl ⟨by rfl, ?_⟩) (by first | assumption | exact unhide hSS _ (unhide ba3)) (fun hc1 => ?_)
                      rotate_left
                      · (intro w hSw; (try dsimp only at hSw); go_simp; first | done | with_reducible rfl)
                      try simp only [Act.put, List.setIfInBounds_toArray, List.set_cons_zero, List.set_cons_succ, List.getElem_toArray, List.getElem_cons_succ, List.getElem_cons_zero]
                      refine Lw.take (i := 22) [23] (by kernel_rfl) (by rfl) (by decide) rfl (by kernel_rfl) (by kernel_rfl) (by kernel_rfl) (fun _ _ _ h => h) (by assumption) (v := ?_) (Or.inl ⟨by rfl, ?_⟩) (by first | assumption | exact unhide hSS _ (unhide ba3)) (fun hc1 => ?_)
                      rotate_left
                      · (intro w hSw; (try dsimp only at hSw); go_simp; first | done | with_reducible rfl)
                      try simp only [Act.put, List.setIfInBounds_toArray, List.set_cons_zero, List.set_cons_succ, List.getElem_toArray, List.getElem_cons_succ, List.getElem_cons_zero]
                      refine Lw.ready (rs := [23]) (by kernel_rfl) (by simp) (by assumption) (fun hc2 => ?_)
                      refine Nxt1.cons rfl (by kernel_rfl) hc2 (fun K hK => ?_) ?_
                      · -- operation 23
                        have fr := unhide hFF _ (unhide ba3)
                        have cc := unhide hSS _ (unhide ba3)
                        go_simp
                        refine unhide hK _ _ (fun h => absurd h (by decide)) (fun _ hc3 => ?_)
                        clear hK K
                        try simp only [Act.put, List.setIfInBounds_toArray, List.set_cons_zero, List.set_cons_succ, List.getElem_toArray, List.getElem_cons_succ, List.getElem_cons_zero]
                        refine Lw.done (by kernel_rfl) ?_ _
                        have f1 := unhide x3
                        rw [unhide fin] at f1
                        go_wp2
                        refine bodyPost_end (results_none rfl _ _ _) rfl ?_
                        exact ⟨rfl, _, (unhide HL).put0 (unhide ba3) (pr_es f1)⟩
                      exact Nxt1.nil
                    exact Nxt1.nil
                  exact Nxt1.nil
                exact Nxt1.nil
              exact Nxt1.nil
            refine Nxt1.cons rfl (by kernel_rfl) hc2 (fun K hK => ?_) ?_
            · -- operation 12
              go_simp
              refine unhide hK _ _ (fun _ => unhide hSS _ (by repeat (first | exact unhide ba3 | exact unhide ba2 | exact unhide ba1 | exact Below.refl _ _ | refine Below.drew ?_ | refine below_add ?_ _))) (fun hS2 hc3 => ?_)
              clear hK K
              try simp only [Act.put, List.setIfInBounds_toArray, List.set_cons_zero, List.set_cons_succ, List.getElem_toArray, List.getElem_cons_succ, List.getElem_cons_zero]
              refine Lw.ready (rs := [1]) (by kernel_rfl) (by simp) (by assumption) (fun hc2 => ?_)
              refine Nxt1.cons rfl (by kernel_rfl) hc2 (fun K hK => ?_) ?_
              · -- operation 1
                go_simp
                refine unhide hK _ _ (fun _ => unhide hSS _ (by repeat (first | exact unhide ba3 | exact unhide ba2 | exact unhide ba1 | exact Below.refl _ _ | refine Below.drew ?_ | refine below_add ?_ _))) (fun hS2 hc3 => ?_)
                clear hK K
                try simp only [Act.put, List.setIfInBounds_toArray, List.set_cons_zero, List.set_cons_succ, List.getElem_toArray, List.getElem_cons_succ, List.getElem_cons_zero]
                refine Lw.ready (rs := [8]) (by kernel_rfl) (by simp) (by assumption) (fun hc2 => ?_)
                refine Nxt1.cons rfl (by kernel_rfl) hc2 (fun K hK => ?_) ?_
                · -- operation 8
                  refine step_app0 w rfl (some 63) rfl (.tmp 56) (.tmp 62) rfl (H.take k) _ rfl (by repeat (first | exact unhide ba3 | exact unhide ba2 | exact unhide ba1 | exact Below.refl _ _ | refine Below.drew ?_ | refine below_add ?_ _)) (by first | exact pr_lit w.drew | exact (pr_lit w.drew).next (below_new _ _) | exact pr_lit2 w _ _) _ _ _ rfl (unhide hA) (by first | exact fun _ => rfl | exact fun h => by cases h) (unhide zA) ?_
                  intro v9 w9 x1 ba1 kp1; replace x1 := hide x1; replace ba1 := hide ba1; replace kp1 := hide kp1
                  refine unhide hK _ _ (fun _ => unhide hSS _ (by repeat (first | exact unhide ba3 | exact unhide ba2 | exact unhide ba1 | exact Below.refl _ _ | refine Below.drew ?_ | refine below_add ?_ _))) (fun hS2 hc3 => ?_)
                  clear hK K
                  try simp only [Act.put, List.setIfInBounds_toArray, List.set_cons_zero, List.set_cons_succ, List.getElem_toArray, List.getElem_cons_succ, List.getElem_cons_zero]
                  refine Lw.ready (rs := [13]) (by kernel_rfl) (by simp) (by assumption) (fun hc2 => ?_)
                  refine Nxt1.cons rfl (by kernel_rfl) hc2 (fun K hK => ?_) ?_
                  · -- operation 13
                    refine step_new0 w rfl (some 68) rfl (.tmp 63) (.tmp 67) rfl v9 (H.take k) [(who, m)] 1 (k + 1) rfl (by repeat (first | exact unhide ba3 | exact unhide ba2 | exact unhide ba1 | exact Below.refl _ _ | refine Below.drew ?_ | refine below_add ?_ _)) (by first | exact unhide x1 | exact (unhide x1).next (below_new _ _)) _ rfl (by first | exact heap_alloc_new _ _ | exact unhide kp1 _ _ (heap_d2a w _ _ _ _) (by omega) | exact unhide kp1 _ _ (heap_d2b w _ _ _ _) (by omega)) rfl (by rw [unhide lA]) (by decide) (unhide zB) ?_
                    intro g10 cap10 w10 x2 ba2; replace x2 := hide x2; replace ba2 := hide ba2
                    refine unhide hK _ _ (fun _ => unhide hSS _ (by repeat (first | exact unhide ba3 | exact unhide ba2 | exact unhide ba1 | exact Below.refl _ _ | refine Below.drew ?_ | refine below_add ?_ _))) (fun hS2 hc3 => ?_)
                    clear hK K
                    try simp only [Act.put, List.setIfInBounds_toArray, List.set_cons_zero, List.set_cons_succ, List.getElem_toArray, List.getElem_cons_succ, List.getElem_cons_zero]
                    refine Lw.ready (rs := [20]) (by kernel_rfl) (by simp) (by assumption) (fun hc2 => ?_)
                    refine Nxt1.cons rfl (by kernel_rfl) hc2 (fun K hK => ?_) ?_
                    · -- operation 20
                      refine step_app_re rfl (.tmp 68) (.tmp 74) rfl w.heap.size _ (H.take k ++ [(who, m)]) (H.drop k) rfl (unhide x2) _ _ _ rfl (by first | exact re_nil _ _ _ | exact (unhide hD).next (unhide ba2) | (simp only [Nat.sub_self]; exact re_nil _ _ _)) (by first | exact fun _ => rfl | exact fun h => by cases h) (unhide zC) (unhide ba2).size ?_
                      intro v11 w11 x3 gr3; have ba3 := hide ((unhide ba2).trans (grown_below gr3 (unhide ba2).size (fun j hj => ((unhide x2).lt j hj).1))); obtain ⟨a11, n11, c11, rfl⟩ := pr_form x3; replace x3 := hide x3; clear gr3
                      refine unhide hK _ _ (fun _ => unhide hSS _ (by repeat (first | exact unhide ba3 | exact unhide ba2 | exact unhide ba1 | exact Below.refl _ _ | refine Below.drew ?_ | refine below_add ?_ _))) (fun hS2 hc3 => ?_)
                      clear hK K
                      try simp only [Act.put, List.setIfInBounds_toArray, List.set_cons_zero, List.set_cons_succ, List.getElem_toArray, List.getElem_cons_succ, List.getElem_cons_zero]
                      refine Lw.take (i := 21) [22, 23] (by kernel_rfl) (by rfl) (by decide) rfl (by kernel_rfl) (by kernel_rfl) (by kernel_rfl) (fun _ _ _ h => h) (by assumption) (v := ?_) (Or.inl ⟨by rfl, ?_⟩) (by first | assumption | exact unhide hSS _ (unhide ba3)) (fun hc1 => ?_)
                      rotate_left
                      · (intro w hSw; (try dsimp only at hSw); go_simp; first | done | with_reducible rfl)
                      try simp only [Act.put, List.setIfInBounds_toArray, List.set_cons_zero, List.set_cons_succ, List.getElem_toArray, List.getElem_cons_succ, List.getElem_cons_zero]
                      refine Lw.take (i := 22) [23] (by kernel_rfl) (by rfl) (by decide) rfl (by kernel_rfl) (by kernel_rfl) (by kernel_rfl) (fun _ _ _ h => h) (by assumption) (v := ?_) (Or.inl ⟨by rfl, ?_⟩) (by first | assumption | exact unhide hSS _ (unhide ba3)) (fun hc1 => ?_)
                      rotate_left
                      · (intro w hSw; (try dsimp only at hSw); go_simp; first | done | with_reducible rfl)
                      try simp only [Act.put, List.setIfInBounds_toArray, List.set_cons_zero, List.set_cons_succ, List.getElem_toArray, List.getElem_cons_succ, List.getElem_cons_zero]
                      refine Lw.ready (rs := [23]) (by kernel_rfl) (by simp) (by assumption) (fun hc2 => ?_)
                      refine Nxt1.cons rfl (by kernel_rfl) hc2 (fun K hK => ?_) ?_
                      · -- operation 23
                        have fr := unhide hFF _ (unhide ba3)
                        have cc := unhide hSS _ (unhide ba3)
                        go_simp
                        refine unhide hK _ _ (fun h => absurd h (by decide)) (fun _ hc3 => ?_)
                        clear hK K
                        try simp only [Act.put, List.setIfInBounds_toArray, List.set_cons_zero, List.set_cons_succ, List.getElem_toArray, List.getElem_cons_succ, List.getElem_cons_zero]
                        refine Lw.done (by kernel_rfl) ?_ _
                        have f1 := unhide x3
                        rw [unhide fin] at f1
                        go_wp2
                        refine bodyPost_end (results_none rfl _ _ _) rfl ?_
                        exact ⟨rfl, _, (unhide HL).put0 (unhide ba3) (pr_es f1)⟩
                      exact Nxt1.nil
                    exact Nxt1.nil
                  exact Nxt1.nil
                exact Nxt1.nil
              exact Nxt1.nil
            exact Nxt1.nil
      · obtain rfl : k = H.length := by omega
        have pk := hide ((unhide pa) H.length hk (unhide lo) (fun h => absurd h hlt))
        have fin : Hid (H.take H.length ++ [(who, m)] ++ [] = putD (who, m) H) := by
          have h := (unhide pk).2 (fun h => hlt h.1)
          rw [List.drop_eq_nil_of_le (by omega)] at h
          exact h.symm
        have hSS := hS0
        have hA := hide (re_take (unhide re) H.length cap hk)
        have lA : Hid ((H.take H.length).length = H.length) := by show _ = _; rw [List.length_take]; omega
        have zA : Hid ((H.take H.length).length ≤ 10000) := by have := unhide lA; show _ ≤ _; omega
        have zB : Hid (H.length + 1 < 10000000) := by show _ < _; omega
        have zC : Hid ((H.take H.length ++ [(who, m)]).length + ([] : List En).length ≤ 10000) := by show _ ≤ _; rw [List.length_append, unhide lA]; simp; omega
        have q7 := (unhide R).le
        have hD : Hid (Re w (.slice none 0 0) []) := re_nil w none 0
        clear pk pa lo
        by_cases q9 : cap = H.length
        · obtain rfl : cap = H.length := q9
          have q6 : H.length ≤ H.length := Nat.le_refl _
          go_wp2_with fail
          refine Lw.begin 23 (fun wz => wz.cell? ⟨b, 0, none⟩ = some (.slice (some ⟨g, 0, none⟩) H.length H.length)) (by kernel_rfl) ?hS0 (fun hS1 hc0 => ?_)
          case hS0 => exact unhide hSS _ (by repeat (first | exact unhide ba3 | exact unhide ba2 | exact unhide ba1 | exact Below.refl _ _ | refine Below.drew ?_ | refine below_add ?_ _))
          refine Lw.take (i := 0) [21, 22, 23] (by kernel_rfl) (by rfl) (by decide) rfl (by kernel_rfl) (by kernel_rfl) (by kernel_rfl) (fun _ _ _ h => h) (by assumption) (v := ?_) (Or.inl ⟨by rfl, ?_⟩) (by first | assumption | exact unhide hSS _ (unhide ba3)) (fun hc1 => ?_)
          rotate_left
          · (intro w hSw; (try dsimp only at hSw); go_simp; first | done | with_reducible rfl)
          try simp only [Act.put, List.setIfInBounds_toArray, List.set_cons_zero, List.set_cons_succ, List.getElem_toArray, List.getElem_cons_succ, List.getElem_cons_zero]
          refine Lw.take (i := 2) [3, 4, 5, 7, 8, 13, 20, 23] (by kernel_rfl) (by rfl) (by decide) rfl (by kernel_rfl) (by kernel_rfl) (by kernel_rfl) (fun _ _ _ h => h) (by assumption) (v := ?_) (Or.inl ⟨by rfl, ?_⟩) (by first | assumption | exact unhide hSS _ (unhide ba3)) (fun hc1 => ?_)
          rotate_left
          · (intro w hSw; (try dsimp only at hSw); go_simp; first | done | with_reducible rfl)
          try simp only [Act.put, List.setIfInBounds_toArray, List.set_cons_zero, List.set_cons_succ, List.getElem_toArray, List.getElem_cons_succ, List.getElem_cons_zero]
          refine Lw.take (i := 3) [4, 5, 7, 8, 13, 20, 23] (by kernel_rfl) (by rfl) (by decide) rfl (by kernel_rfl) (by kernel_rfl) (by kernel_rfl) (fun _ _ _ h => h) (by assumption) (v := ?_) (Or.inl ⟨by rfl, ?_⟩) (by first | assumption | exact unhide hSS _ (unhide ba3)) (fun hc1 => ?_)
          rotate_left
          · (intro w hSw; (try dsimp only at hSw); go_simp; first | done | with_reducible rfl)
          try simp only [Act.put, List.setIfInBounds_toArray, List.set_cons_zero, List.set_cons_succ, List.getElem_toArray, List.getElem_cons_succ, List.getElem_cons_zero]
          refine Lw.take (i := 4) [5, 7, 8, 13, 20, 23] (by kernel_rfl) (by rfl) (by decide) rfl (by kernel_rfl) (by kernel_rfl) (by kernel_rfl) (fun _ _ _ h => h) (by assumption) (v := ?_) (Or.inl ⟨by rfl, ?_⟩) (by first | assumption | exact unhide hSS _ (unhide ba3)) (fun hc1 => ?_)
          rotate_left
          · (intro w hSw; (try dsimp only at hSw); go_simp; first | done | with_reducible rfl)
          try simp only [Act.put, List.setIfInBounds_toArray, List.set_cons_zero, List.set_cons_succ, List.getElem_toArray, List.getElem_cons_succ, List.getElem_cons_zero]
          refine Lw.take (i := 5) [7, 8, 13, 20, 23] (by kernel_rfl) (by rfl) (by decide) rfl (by kernel_rfl) (by kernel_rfl) (by kernel_rfl) (fun _ _ _ h => h) (by assumption) (v := ?_) (Or.inl ⟨by rfl, ?_⟩) (by first | assumption | exact unhide hSS _ (unhide ba3)) (fun hc1 => ?_)
          rotate_left
          · (intro w hSw; (try dsimp only at hSw); go_simp; first | done | with_reducible rfl)
          try simp only [Act.put, List.setIfInBounds_toArray, List.set_cons_zero, List.set_cons_succ, List.getElem_toArray, List.getElem_cons_succ, List.getElem_cons_zero]
          refine Lw.take (i := 6) [7, 8, 13, 20, 23] (by kernel_rfl) (by rfl) (by decide) rfl (by kernel_rfl) (by kernel_rfl) (by kernel_rfl) (fun _ _ _ h => h) (by assumption) (v := ?_) (Or.inl ⟨by rfl, ?_⟩) (by first | assumption | exact unhide hSS _ (unhide ba3)) (fun hc1 => ?_)
          rotate_left
          · (intro w hSw; (try dsimp only at hSw); go_simp; first | done | with_reducible rfl)
          try simp only [Act.put, List.setIfInBounds_toArray, List.set_cons_zero, List.set_cons_succ, List.getElem_toArray, List.getElem_cons_succ, List.getElem_cons_zero]
          refine Lw.take (i := 7) [8, 13, 20, 23] (by kernel_rfl) (by rfl) (by decide) rfl (by kernel_rfl) (by kernel_rfl) (by kernel_rfl) (fun _ _ _ h => h) (by assumption) (v := ?_) (Or.inl ⟨by rfl, ?_⟩) (by first | assumption | exact unhide hSS _ (unhide ba3)) (fun hc1 => ?_)
          rotate_left
          · (intro w hSw; (try dsimp only at hSw); go_simp; first | done | with_reducible rfl)
          try simp only [Act.put, List.setIfInBounds_toArray, List.set_cons_zero, List.set_cons_succ, List.getElem_toArray, List.getElem_cons_succ, List.getElem_cons_zero]
          refine Lw.take (i := 9) [11, 12, 13, 20, 23] (by kernel_rfl) (by rfl) (by decide) rfl (by kernel_rfl) (by kernel_rfl) (by kernel_rfl) (fun _ _ _ h => h) (by assumption) (v := ?_) (Or.inl ⟨by rfl, ?_⟩) (by first | assumption | exact unhide hSS _ (unhide ba3)) (fun hc1 => ?_)
          rotate_left
          · (intro w hSw; (try dsimp only at hSw); go_simp; first | done | with_reducible rfl)
          try simp only [Act.put, List.setIfInBounds_toArray, List.set_cons_zero, List.set_cons_succ, List.getElem_toArray, List.getElem_cons_succ, List.getElem_cons_zero]
          refine Lw.take (i := 10) [11, 12, 13, 20, 23] (by kernel_rfl) (by rfl) (by decide) rfl (by kernel_rfl) (by kernel_rfl) (by kernel_rfl) (fun _ _ _ h => h) (by assumption) (v := ?_) (Or.inl ⟨by rfl, ?_⟩) (by first | assumption | exact unhide hSS _ (unhide ba3)) (fun hc1 => ?_)
          rotate_left
          · (intro w hSw; (try dsimp only at hSw); go_simp; first | done | with_reducible rfl)
          try simp only [Act.put, List.setIfInBounds_toArray, List.set_cons_zero, List.set_cons_succ, List.getElem_toArray, List.getElem_cons_succ, List.getElem_cons_zero]
          refine Lw.take (i := 11) [12, 13, 20, 23] (by kernel_rfl) (by rfl) (by decide) rfl (by kernel_rfl) (by kernel_rfl) (by kernel_rfl) (fun _ _ _ h => h) (by assumption) (v := ?_) (Or.inl ⟨by rfl, ?_⟩) (by first | assumption | exact unhide hSS _ (unhide ba3)) (fun hc1 => ?_)
          rotate_left
          · (intro w hSw; (try dsimp only at hSw); go_simp; first | done | with_reducible rfl)
          try simp only [Act.put, List.setIfInBounds_toArray, List.set_cons_zero, List.set_cons_succ, List.getElem_toArray, List.getElem_cons_succ, List.getElem_cons_zero]
          refine Lw.take (i := 14) [15, 16, 17, 19, 20, 23] (by kernel_rfl) (by rfl) (by decide) rfl (by kernel_rfl) (by kernel_rfl) (by kernel_rfl) (fun _ _ _ h => h) (by assumption) (v := ?_) (Or.inl ⟨by rfl, ?_⟩) (by first | assumption | exact unhide hSS _ (unhide ba3)) (fun hc1 => ?_)
          rotate_left
          · (intro w hSw; (try dsimp only at hSw); go_simp; first | done | with_reducible rfl)
          try simp only [Act.put, List.setIfInBounds_toArray, List.set_cons_zero, List.set_cons_succ, List.getElem_toArray, List.getElem_cons_succ, List.getElem_cons_zero]
          refine Lw.take (i := 15) [16, 17, 19, 20, 23] (by kernel_rfl) (by rfl) (by decide) rfl (by kernel_rfl) (by kernel_rfl) (by kernel_rfl) (fun _ _ _ h => h) (by assumption) (v := ?_) (Or.inl ⟨by rfl, ?_⟩) (by first | assumption | exact unhide hSS _ (unhide ba3)) (fun hc1 => ?_)
          rotate_left
          · (intro w hSw; (try dsimp only at hSw); go_simp; first | done | with_reducible rfl)
          try simp only [Act.put, List.setIfInBounds_toArray, List.set_cons_zero, List.set_cons_succ, List.getElem_toArray, List.getElem_cons_succ, List.getElem_cons_zero]
          refine Lw.take (i := 16) [17, 19, 20, 23] (by kernel_rfl) (by rfl) (by decide) rfl (by kernel_rfl) (by kernel_rfl) (by kernel_rfl) (fun _ _ _ h => h) (by assumption) (v := ?_) (Or.inl ⟨by rfl, ?_⟩) (by first | assumption | exact unhide hSS _ (unhide ba3)) (fun hc1 => ?_)
          rotate_left
          · (intro w hSw; (try dsimp only at hSw); go_simp; first | done | with_reducible rfl)
          try simp only [Act.put, List.setIfInBounds_toArray, List.set_cons_zero, List.set_cons_succ, List.getElem_toArray, List.getElem_cons_succ, List.getElem_cons_zero]
          refine Lw.take (i := 17) [19, 20, 23] (by kernel_rfl) (by rfl) (by decide) rfl (by kernel_rfl) (by kernel_rfl) (by kernel_rfl) (fun _ _ _ h => h) (by assumption) (v := ?_) (Or.inl ⟨by rfl, ?_⟩) (by first | assumption | exact unhide hSS _ (unhide ba3)) (fun hc1 => ?_)
          rotate_left
          · (intro w hSw; (try dsimp only at hSw); go_simp; first | done | with_reducible rfl)
          try simp only [Act.put, List.setIfInBounds_toArray, List.set_cons_zero, List.set_cons_succ, List.getElem_toArray, List.getElem_cons_succ, List.getElem_cons_zero]
          refine Lw.take (i := 18) [19, 20, 23] (by kernel_rfl) (by rfl) (by decide) rfl (by kernel_rfl) (by kernel_rfl) (by kernel_rfl) (fun _ _ _ h => h) (by assumption) (v := ?_) (Or.inl ⟨by rfl, ?_⟩) (by first | assumption | exact unhide hSS _ (unhide ba3)) (fun hc1 => ?_)
          rotate_left
          · (intro w hSw; (try dsimp only at hSw); go_simp; first | done | with_reducible rfl)
          try simp only [Act.put, List.setIfInBounds_toArray, List.set_cons_zero, List.set_cons_succ, List.getElem_toArray, List.getElem_cons_succ, List.getElem_cons_zero]
          refine Lw.take (i := 19) [20, 23] (by kernel_rfl) (by rfl) (by decide) rfl (by kernel_rfl) (by kernel_rfl) (by kernel_rfl) (fun _ _ _ h => h) (by assumption) (v := ?_) (Or.inl ⟨by rfl, ?_⟩) (by first | assumption | exact unhide hSS _ (unhide ba3)) (fun hc1 => ?_)
          rotate_left
          · (intro w hSw; (try dsimp only at hSw); go_simp; first | done | with_reducible rfl)
          try simp only [Act.put, List.setIfInBounds_toArray, List.set_cons_zero, List.set_cons_succ, List.getElem_toArray, List.getElem_cons_succ, List.getElem_cons_zero]
          refine Lw.ready (rs := [1, 12]) (by kernel_rfl) (by simp) (by assumption) (fun hc2 => ?_)
          refine Nxt1.cons rfl (by kernel_rfl) hc2 (fun K hK => ?_) ?_
          · -- operation 1
            go_simp
            refine unhide hK _ _ (fun _ => unhide hSS _ (by repeat (first | exact unhide ba3 | exact unhide ba2 | exact unhide ba1 | exact Below.refl _ _ | refine Below.drew ?_ | refine below_add ?_ _))) (fun hS2 hc3 => ?_)
            clear hK K
            try simp only [Act.put, List.setIfInBounds_toArray, List.set_cons_zero, List.set_cons_succ, List.getElem_toArray, List.getElem_cons_succ, List.getElem_cons_zero]
            refine Lw.ready (rs := [8, 12]) (by kernel_rfl) (by simp) (by assumption) (fun hc2 => ?_)
            refine Nxt1.cons rfl (by kernel_rfl) hc2 (fun K hK => ?_) ?_
            · -- operation 8
              refine step_app0 w rfl (some 63) rfl (.tmp 56) (.tmp 62) rfl (H.take H.length) _ rfl (by repeat (first | exact unhide ba3 | exact unhide ba2 | exact unhide ba1 | exact Below.refl _ _ | refine Below.drew ?_ | refine below_add ?_ _)) (by first | exact pr_lit w.drew | exact (pr_lit w.drew).next (below_new _ _) | exact pr_lit2 w _ _) _ _ _ rfl (unhide hA) (by first | exact fun _ => rfl | exact fun h => by cases h) (unhide zA) ?_
              intro v9 w9 x1 ba1 kp1; replace x1 := hide x1; replace ba1 := hide ba1; replace kp1 := hide kp1
              refine unhide hK _ _ (fun _ => unhide hSS _ (by repeat (first | exact unhide ba3 | exact unhide ba2 | exact unhide ba1 | exact Below.refl _ _ | refine Below.drew ?_ | refine below_add ?_ _))) (fun hS2 hc3 => ?_)
              clear hK K
              try simp only [Act.put, List.setIfInBounds_toArray, List.set_cons_zero, List.set_cons_succ, List.getElem_toArray, List.getElem_cons_succ, List.getElem_cons_zero]
              refine Lw.ready (rs := [12]) (by kernel_rfl) (by simp) (by assumption) (fun hc2 => ?_)
              refine Nxt1.cons rfl (by kernel_rfl) hc2 (fun K hK => ?_) ?_
              · -- operation 12
                go_simp
                refine unhide hK _ _ (fun _ => unhide hSS _ (by repeat (first | exact unhide ba3 | exact unhide ba2 | exact unhide ba1 | exact Below.refl _ _ | refine Below.drew ?_ | refine below_add ?_ _))) (fun hS2 hc3 => ?_)
                clear hK K
                try simp only [Act.put, List.setIfInBounds_toArray, List.set_cons_zero, List.set_cons_succ, List.getElem_toArray, List.getElem_cons_succ, List.getElem_cons_zero]
                refine Lw.ready (rs := [13]) (by kernel_rfl) (by simp) (by assumption) (fun hc2 => ?_)
                refine Nxt1.cons rfl (by kernel_rfl) hc2 (fun K hK => ?_) ?_
                · -- operation 13
                  refine step_new0 w rfl (some 68) rfl (.tmp 63) (.tmp 67) rfl v9 (H.take H.length) [(who, m)] 1 (H.length + 1) rfl (by repeat (first | exact unhide ba3 | exact unhide ba2 | exact unhide ba1 | exact Below.refl _ _ | refine Below.drew ?_ | refine below_add ?_ _)) (by first | exact unhide x1 | exact (unhide x1).next (below_new _ _)) _ rfl (by first | exact heap_alloc_new _ _ | exact unhide kp1 _ _ (heap_d2a w _ _ _ _) (by omega) | exact unhide kp1 _ _ (heap_d2b w _ _ _ _) (by omega)) rfl (by rw [unhide lA]) (by decide) (unhide zB) ?_
                  intro g10 cap10 w10 x2 ba2; replace x2 := hide x2; replace ba2 := hide ba2
                  refine unhide hK _ _ (fun _ => unhide hSS _ (by repeat (first | exact unhide ba3 | exact unhide ba2 | exact unhide ba1 | exact Below.refl _ _ | refine Below.drew ?_ | refine below_add ?_ _))) (fun hS2 hc3 => ?_)
                  clear hK K
                  try simp only [Act.put, List.setIfInBounds_toArray, List.set_cons_zero, List.set_cons_succ, List.getElem_toArray, List.getElem_cons_succ, List.getElem_cons_zero]
                  refine Lw.ready (rs := [20]) (by kernel_rfl) (by simp) (by assumption) (fun hc2 => ?_)
                  refine Nxt1.cons rfl (by kernel_rfl) hc2 (fun K hK => ?_) ?_
                  · -- operation 20
                    refine step_app_re rfl (.tmp 68) (.tmp 74) rfl w.heap.size _ (H.take H.length ++ [(who, m)]) (([] : List En)) rfl (unhide x2) _ _ _ rfl (by first | exact re_nil _ _ _ | exact (unhide hD).next (unhide ba2) | (simp only [Nat.sub_self]; exact re_nil _ _ _)) (by first | exact fun _ => rfl | exact fun h => by cases h) (unhide zC) (unhide ba2).size ?_
                    intro v11 w11 x3 gr3; have ba3 := hide ((unhide ba2).trans (grown_below gr3 (unhide ba2).size (fun j hj => ((unhide x2).lt j hj).1))); obtain ⟨a11, n11, c11, rfl⟩ := pr_form x3; replace x3 := hide x3; clear gr3
                    refine unhide hK _ _ (fun _ => unhide hSS _ (by repeat (first | exact unhide ba3 | exact unhide ba2 | exact unhide ba1 | exact Below.refl _ _ | refine Below.drew ?_ | refine below_add ?_ _))) (fun hS2 hc3 => ?_)
                    clear hK K
                    try simp only [Act.put, List.setIfInBounds_toArray, List.set_cons_zero, List.set_cons_succ, List.getElem_toArray, List.getElem_cons_succ, List.getElem_cons_zero]
                    refine Lw.take (i := 21) [22, 23] (by kernel_rfl) (by rfl) (by decide) rfl (by kernel_rfl) (by kernel_rfl) (by kernel_rfl) (fun _ _ _ h => h) (by assumption) (v := ?_) (Or.inl ⟨by rfl, ?_⟩) (by first | assumption | exact unhide hSS _ (unhide ba3)) (fun hc1 => ?_)
                    rotate_left
                    · (intro w hSw; (try dsimp only at hSw); go_simp; first | done | with_reducible rfl)
                    try simp only [Act.put, List.setIfInBounds_toArray, List.set_cons_zero, List.set_cons_succ, List.getElem_toArray, List.getElem_cons_succ, List.getElem_cons_zero]
                    refine Lw.take (i := 22) [23] (by kernel_rfl) (by rfl) (by decide) rfl (by kernel_rfl) (by kernel_rfl) (by kernel_rfl) (fun _ _ _ h => h) (by assumption) (v := ?_) (Or.inl ⟨by rfl, ?_⟩) (by first | assumption | exact unhide hSS _ (unhide ba3)) (fun hc1 => ?_)
                    rotate_left
                    · (intro w hSw; (try dsimp only at hSw); go_simp; first | done | with_reducible rfl)
                    try simp only [Act.put, List.setIfInBounds_toArray, List.set_cons_zero, List.set_cons_succ, List.getElem_toArray, List.getElem_cons_succ, List.getElem_cons_zero]
                    refine Lw.ready (rs := [23]) (by kernel_rfl) (by simp) (by assumption) (fun hc2 => ?_)
                    refine Nxt1.cons rfl (by kernel_rfl) hc2 (fun K hK => ?_) ?_
                    · -- operation 23
                      have fr := unhide hFF _ (unhide ba3)
                      have cc := unhide hSS _ (unhide ba3)
                      go_simp
                      refine unhide hK _ _ (fun h => absurd h (by decide)) (fun _ hc3 => ?_)
                      clear hK K
                      try simp only [Act.put, List.setIfInBounds_toArray, List.set_cons_zero, List.set_cons_succ, List.getElem_toArray, List.getElem_cons_succ, List.getElem_cons_zero]
                      refine Lw.done (by kernel_rfl) ?_ _
                      have f1 := unhide x3
                      rw [unhide fin] at f1
                      go_wp2
                      refine bodyPost_end (results_none rfl _ _ _) rfl ?_
                      exact ⟨rfl, _, (unhide HL).put0 (unhide ba3) (pr_es f1)⟩
                    exact Nxt1.nil
                  exact Nxt1.nil
                exact Nxt1.nil
              exact Nxt1.nil
            refine Nxt1.cons rfl (by kernel_rfl) hc2 (fun K hK => ?_) ?_
            · -- operation 12
              go_simp
              refine unhide hK _ _ (fun _ => unhide hSS _ (by repeat (first | exact unhide ba3 | exact unhide ba2 | exact unhide ba1 | exact Below.refl _ _ | refine Below.drew ?_ | refine below_add ?_ _))) (fun hS2 hc3 => ?_)
              clear hK K
              try simp only [Act.put, List.setIfInBounds_toArray, List.set_cons_zero, List.set_cons_succ, List.getElem_toArray, List.getElem_cons_succ, List.getElem_cons_zero]
              refine Lw.ready (rs := [8]) (by kernel_rfl) (by simp) (by assumption) (fun hc2 => ?_)
              refine Nxt1.cons rfl (by kernel_rfl) hc2 (fun K hK => ?_) ?_
              · -- operation 8
                refine step_app0 w rfl (some 63) rfl (.tmp 56) (.tmp 62) rfl (H.take H.length) _ rfl (by repeat (first | exact unhide ba3 | exact unhide ba2 | exact unhide ba1 | exact Below.refl _ _ | refine Below.drew ?_ | refine below_add ?_ _)) (by first | exact pr_lit w.drew | exact (pr_lit w.drew).next (below_new _ _) | exact pr_lit2 w _ _) _ _ _ rfl (unhide hA) (by first | exact fun _ => rfl | exact fun h => by cases h) (unhide zA) ?_
                intro v9 w9 x1 ba1 kp1; replace x1 := hide x1; replace ba1 := hide ba1; replace kp1 := hide kp1
                refine unhide hK _ _ (fun _ => unhide hSS _ (by repeat (first | exact unhide ba3 | exact unhide ba2 | exact unhide ba1 | exact Below.refl _ _ | refine Below.drew ?_ | refine below_add ?_ _))) (fun hS2 hc3 => ?_)
                clear hK K
                try simp only [Act.put, List.setIfInBounds_toArray, List.set_cons_zero, List.set_cons_succ, List.getElem_toArray, List.getElem_cons_succ, List.getElem_cons_zero]
                refine Lw.ready (rs := [13]) (by kernel_rfl) (by simp) (by assumption) (fun hc2 => ?_)
                refine Nxt1.cons rfl (by kernel_rfl) hc2 (fun K hK => ?_) ?_
                · -- operation 13
                  refine step_new0 w rfl (some 68) rfl (.tmp 63) (.tmp 67) rfl v9 (H.take H.length) [(who, m)] 1 (H.length + 1) rfl (by repeat (first | exact unhide ba3 | exact unhide ba2 | exact unhide ba1 | exact Below.refl _ _ | refine Below.drew ?_ | refine below_add ?_ _)) (by first | exact unhide x1 | exact (unhide x1).next (below_new _ _)) _ rfl (by first | exact heap_alloc_new _ _ | exact unhide kp1 _ _ (heap_d2a w _ _ _ _) (by omega) | exact unhide kp1 _ _ (heap_d2b w _ _ _ _) (by omega)) rfl (by rw [unhide lA]) (by decide) (unhide zB) ?_
                  intro g10 cap10 w10 x2 ba2; replace x2 := hide x2; replace ba2 := hide ba2
                  refine unhide hK _ _ (fun _ => unhide hSS _ (by repeat (first | exact unhide ba3 | exact unhide ba2 | exact unhide ba1 | exact Below.refl _ _ | refine Below.drew ?_ | refine below_add ?_ _))) (fun hS2 hc3 => ?_)
                  clear hK K
                  try simp only [Act.put, List.setIfInBounds_toArray, List.set_cons_zero, List.set_cons_succ, List.getElem_toArray, List.getElem_cons_succ, List.getElem_cons_zero]
                  refine Lw.ready (rs := [20]) (by kernel_rfl) (by simp) (by assumption) (fun hc2 => ?_)
                  refine Nxt1.cons rfl (by kernel_rfl) hc2 (fun K hK => ?_) ?_
                  · -- operation 20
                    refine step_app_re rfl (.tmp 68) (.tmp 74) rfl w.heap.size _ (H.take H.length ++ [(who, m)]) (([] : List En)) rfl (unhide x2) _ _ _ rfl (by first | exact re_nil _ _ _ | exact (unhide hD).next (unhide ba2) | (simp only [Nat.sub_self]; exact re_nil _ _ _)) (by first | exact fun _ => rfl | exact fun h => by cases h) (unhide zC) (unhide ba2).size ?_
                    intro v11 w11 x3 gr3; have ba3 := hide ((unhide ba2).trans (grown_below gr3 (unhide ba2).size (fun j hj => ((unhide x2).lt j hj).1))); obtain ⟨a11, n11, c11, rfl⟩ := pr_form x3; replace x3 := hide x3; clear gr3
                    refine unhide hK _ _ (fun _ => unhide hSS _ (by repeat (first | exact unhide ba3 | exact unhide ba2 | exact unhide ba1 | exact Below.refl _ _ | refine Below.drew ?_ | refine below_add ?_ _))) (fun hS2 hc3 => ?_)
                    clear hK K
                    try simp only [Act.put, List.setIfInBounds_toArray, List.set_cons_zero, List.set_cons_succ, List.getElem_toArray, List.getElem_cons_succ, List.getElem_cons_zero]
                    refine Lw.take (i := 21) [22, 23] (by kernel_rfl) (by rfl) (by decide) rfl (by kernel_rfl) (by kernel_rfl) (by kernel_rfl) (fun _ _ _ h => h) (by assumption) (v := ?_) (Or.inl ⟨by rfl, ?_⟩) (by first | assumption | exact unhide hSS _ (unhide ba3)) (fun hc1 => ?_)
                    rotate_left
                    · (intro w hSw; (try dsimp only at hSw); go_simp; first | done | with_reducible rfl)
                    try simp only [Act.put, List.setIfInBounds_toArray, List.set_cons_zero, List.set_cons_succ, List.getElem_toArray, List.getElem_cons_succ, List.getElem_cons_zero]
                    refine Lw.take (i := 22) [23] (by kernel_rfl) (by rfl) (by decide) rfl (by kernel_rfl) (by kernel_rfl) (by kernel_rfl) (fun _ _ _ h => h) (by assumption) (v := ?_) (Or.inl ⟨by rfl, ?_⟩) (by first | assumption | exact unhide hSS _ (unhide ba3)) (fun hc1 => ?_)
                    rotate_left
                    · (intro w hSw; (try dsimp only at hSw); go_simp; first | done | with_reducible rfl)
                    try simp only [Act.put, List.setIfInBounds_toArray, List.set_cons_zero, List.set_cons_succ, List.getElem_toArray, List.getElem_cons_succ, List.getElem_cons_zero]
                    refine Lw.ready (rs := [23]) (by kernel_rfl) (by simp) (by assumption) (fun hc2 => ?_)
                    refine Nxt1.cons rfl (by kernel_rfl) hc2 (fun K hK => ?_) ?_
                    · -- operation 23
                      have fr := unhide hFF _ (unhide ba3)
                      have cc := unhide hSS _ (unhide ba3)
                      go_simp
                      refine unhide hK _ _ (fun h => absurd h (by decide)) (fun _ hc3 => ?_)
                      clear hK K
                      try simp only [Act.put, List.setIfInBounds_toArray, List.set_cons_zero, List.set_cons_succ, List.getElem_toArray, List.getElem_cons_succ, List.getElem_cons_zero]
                      refine Lw.done (by kernel_rfl) ?_ _
                      have f1 := unhide x3
                      rw [unhide fin] at f1
                      go_wp2
                      refine bodyPost_end (results_none rfl _ _ _) rfl ?_
                      exact ⟨rfl, _, (unhide HL).put0 (unhide ba3) (pr_es f1)⟩
                    exact Nxt1.nil
                  exact Nxt1.nil
                exact Nxt1.nil
              exact Nxt1.nil
            exact Nxt1.nil
          refine Nxt1.cons rfl (by kernel_rfl) hc2 (fun K hK => ?_) ?_
          · -- operation 12
            go_simp
            refine unhide hK _ _ (fun _ => unhide hSS _ (by repeat (first | exact unhide ba3 | exact unhide ba2 | exact unhide ba1 | exact Below.refl _ _ | refine Below.drew ?_ | refine below_add ?_ _))) (fun hS2 hc3 => ?_)
            clear hK K
            try simp only [Act.put, List.setIfInBounds_toArray, List.set_cons_zero, List.set_cons_succ, List.getElem_toArray, List.getElem_cons_succ, List.getElem_cons_zero]
            refine Lw.ready (rs := [1]) (by kernel_rfl) (by simp) (by assumption) (fun hc2 => ?_)
            refine Nxt1.cons rfl (by kernel_rfl) hc2 (fun K hK => ?_) ?_
            · -- operation 1
              go_simp
              refine unhide hK _ _ (fun _ => unhide hSS _ (by repeat (first | exact unhide ba3 | exact unhide ba2 | exact unhide ba1 | exact Below.refl _ _ | refine Below.drew ?_ | refine below_add ?_ _))) (fun hS2 hc3 => ?_)
              clear hK K
              try simp only [Act.put, List.setIfInBounds_toArray, List.set_cons_zero, List.set_cons_succ, List.getElem_toArray, List.getElem_cons_succ, List.getElem_cons_zero]
              refine Lw.ready (rs := [8]) (by kernel_rfl) (by simp) (by assumption) (fun hc2 => ?_)
              refine Nxt1.cons rfl (by kernel_rfl) hc2 (fun K hK => ?_) ?_
              · -- operation 8
                refine step_app0 w rfl (some 63) rfl (.tmp 56) (.tmp 62) rfl (H.take H.length) _ rfl (by repeat (first | exact unhide ba3 | exact unhide ba2 | exact unhide ba1 | exact Below.refl _ _ | refine Below.drew ?_ | refine below_add ?_ _)) (by first | exact pr_lit w.drew | exact (pr_lit w.drew).next (below_new _ _) | exact pr_lit2 w _ _) _ _ _ rfl (unhide hA) (by first | exact fun _ => rfl | exact fun h => by cases h) (unhide zA) ?_
                intro v9 w9 x1 ba1 kp1; replace x1 := hide x1; replace ba1 := hide ba1; replace kp1 := hide kp1
                refine unhide hK _ _ (fun _ => unhide hSS _ (by repeat (first | exact unhide ba3 | exact unhide ba2 | exact unhide ba1 | exact Below.refl _ _ | refine Below.drew ?_ | refine below_add ?_ _))) (fun hS2 hc3 => ?_)
                clear hK K
                try simp only [Act.put, List.setIfInBounds_toArray, List.set_cons_zero, List.set_cons_succ, List.getElem_toArray, List.getElem_cons_succ, List.getElem_cons_zero]
                refine Lw.ready (rs := [13]) (by kernel_rfl) (by simp) (by assumption) (fun hc2 => ?_)
                refine Nxt1.cons rfl (by kernel_rfl) hc2 (fun K hK => ?_) ?_
                · -- operation 13
                  refine step_new0 w rfl (some 68) rfl (.tmp 63) (.tmp 67) rfl v9 (H.take H.length) [(who, m)] 1 (H.length + 1) rfl (by repeat (first | exact unhide ba3 | exact unhide ba2 | exact unhide ba1 | exact Below.refl _ _ | refine Below.drew ?_ | refine below_add ?_ _)) (by first | exact unhide x1 | exact (unhide x1).next (below_new _ _)) _ rfl (by first | exact heap_alloc_new _ _ | exact unhide kp1 _ _ (heap_d2a w _ _ _ _) (by omega) | exact unhide kp1 _ _ (heap_d2b w _ _ _ _) (by omega)) rfl (by rw [unhide lA]) (by decide) (unhide zB) ?_
                  intro g10 cap10 w10 x2 ba2; replace x2 := hide x2; replace ba2 := hide ba2
                  refine unhide hK _ _ (fun _ => unhide hSS _ (by repeat (first | exact unhide ba3 | exact unhide ba2 | exact unhide ba1 | exact Below.refl _ _ | refine Below.drew ?_ | refine below_add ?_ _))) (fun hS2 hc3 => ?_)
                  clear hK K
                  try simp only [Act.put, List.setIfInBounds_toArray, List.set_cons_zero, List.set_cons_succ, List.getElem_toArray, List.getElem_cons_succ, List.getElem_cons_zero]
                  refine Lw.ready (rs := [20]) (by kernel_rfl) (by simp) (by assumption) (fun hc2 => ?_)
                  refine Nxt1.cons rfl (by kernel_rfl) hc2 (fun K hK => ?_) ?_
                  · -- operation 20
                    refine step_app_re rfl (.tmp 68) (.tmp 74) rfl w.heap.size _ (H.take H.length ++ [(who, m)]) (([] : List En)) rfl (unhide x2) _ _ _ rfl (by first | exact re_nil _ _ _ | exact (unhide hD).next (unhide ba2) | (simp only [Nat.sub_self]; exact re_nil _ _ _)) (by first | exact fun _ => rfl | exact fun h => by cases h) (unhide zC) (unhide ba2).size ?_
                    intro v11 w11 x3 gr3; have ba3 := hide ((unhide ba2).trans (grown_below gr3 (unhide ba2).size (fun j hj => ((unhide x2).lt j hj).1))); obtain ⟨a11, n11, c11, rfl⟩ := pr_form x3; replace x3 := hide x3; clear gr3
                    refine unhide hK _ _ (fun _ => unhide hSS _ (by repeat (first | exact unhide ba3 | exact unhide ba2 | exact unhide ba1 | exact Below.refl _ _ | refine Below.drew ?_ | refine below_add ?_ _))) (fun hS2 hc3 => ?_)
                    clear hK K
                    try simp only [Act.put, List.setIfInBounds_toArray, List.set_cons_zero, List.set_cons_succ, List.getElem_toArray, List.getElem_cons_succ, List.getElem_cons_zero]
                    refine Lw.take (i := 21) [22, 23] (by kernel_rfl) (by rfl) (by decide) rfl (by kernel_rfl) (by kernel_rfl) (by kernel_rfl) (fun _ _ _ h => h) (by assumption) (v := ?_) (Or.inl ⟨by rfl, ?_⟩) (by first | assumption | exact unhide hSS _ (unhide ba3)) (fun hc1 => ?_)
                    rotate_left
                    · (intro w hSw; (try dsimp only at hSw); go_simp; first | done | with_reducible rfl)
                    try simp only [Act.put, List.setIfInBounds_toArray, List.set_cons_zero, List.set_cons_succ, List.getElem_toArray, List.getElem_cons_succ, List.getElem_cons_zero]
                    refine Lw.take (i := 22) [23] (by kernel_rfl) (by rfl) (by decide) rfl (by kernel_rfl) (by kernel_rfl) (by kernel_rfl) (fun _ _ _ h => h) (by assumption) (v := ?_) (Or.inl ⟨by rfl, ?_⟩) (by first | assumption | exact unhide hSS _ (unhide ba3)) (fun hc1 => ?_)
                    rotate_left
                    · (intro w hSw; (try dsimp only at hSw); go_simp; first | done | with_reducible rfl)
                    try simp only [Act.put, List.setIfInBounds_toArray, List.set_cons_zero, List.set_cons_succ, List.getElem_toArray, List.getElem_cons_succ, List.getElem_cons_zero]
                    refine Lw.ready (rs := [23]) (by kernel_rfl) (by simp) (by assumption) (fun hc2 => ?_)
                    refine Nxt1.cons rfl (by kernel_rfl) hc2 (fun K hK => ?_) ?_
                    · -- operation 23
                      have fr := unhide hFF _ (unhide ba3)
                      have cc := unhide hSS _ (unhide ba3)
                      go_simp
                      refine unhide hK _ _ (fun h => absurd h (by decide)) (fun _ hc3 => ?_)
                      clear hK K
                      try simp only [Act.put, List.setIfInBounds_toArray, List.set_cons_zero, List.set_cons_succ, List.getElem_toArray, List.getElem_cons_succ, List.getElem_cons_zero]
                      refine Lw.done (by kernel_rfl) ?_ _
                      have f1 := unhide x3
                      rw [unhide fin] at f1
                      go_wp2
                      refine bodyPost_end (results_none rfl _ _ _) rfl ?_
                      exact ⟨rfl, _, (unhide HL).put0 (unhide ba3) (pr_es f1)⟩
                    exact Nxt1.nil
                  exact Nxt1.nil
                exact Nxt1.nil
              exact Nxt1.nil
            exact Nxt1.nil
          exact Nxt1.nil
        · have q8 : H.length < cap := by omega
          have q6 : H.length ≤ cap := by omega
          go_wp2_with fail
          refine Lw.begin 23 (fun wz => wz.cell? ⟨b, 0, none⟩ = some (.slice (some ⟨g, 0, none⟩) H.length cap)) (by kernel_rfl) ?hS0 (fun hS1 hc0 => ?_)
          case hS0 => exact unhide hSS _ (by repeat (first | exact unhide ba3 | exact unhide ba2 | exact unhide ba1 | exact Below.refl _ _ | refine Below.drew ?_ | refine below_add ?_ _))
          refine Lw.take (i := 0) [21, 22, 23] (by kernel_rfl) (by rfl) (by decide) rfl (by kernel_rfl) (by kernel_rfl) (by kernel_rfl) (fun _ _ _ h => h) (by assumption) (v := ?_) (Or.inl ⟨by rfl, ?_⟩) (by first | assumption | exact unhide hSS _ (unhide ba3)) (fun hc1 => ?_)
          rotate_left
          · (intro w hSw; (try dsimp only at hSw); go_simp; first | done | with_reducible rfl)
          try simp only [Act.put, List.setIfInBounds_toArray, List.set_cons_zero, List.set_cons_succ, List.getElem_toArray, List.getElem_cons_succ, List.getElem_cons_zero]
          refine Lw.take (i := 2) [3, 4, 5, 7, 8, 13, 20, 23] (by kernel_rfl) (by rfl) (by decide) rfl (by kernel_rfl) (by kernel_rfl) (by kernel_rfl) (fun _ _ _ h => h) (by assumption) (v := ?_) (Or.inl ⟨by rfl, ?_⟩) (by first | assumption | exact unhide hSS _ (unhide ba3)) (fun hc1 => ?_)
          rotate_left
          · (intro w hSw; (try dsimp only at hSw); go_simp; first | done | with_reducible rfl)
          try simp only [Act.put, List.setIfInBounds_toArray, List.set_cons_zero, List.set_cons_succ, List.getElem_toArray, List.getElem_cons_succ, List.getElem_cons_zero]
          refine Lw.take (i := 3) [4, 5, 7, 8, 13, 20, 23] (by kernel_rfl) (by rfl) (by decide) rfl (by kernel_rfl) (by kernel_rfl) (by kernel_rfl) (fun _ _ _ h => h) (by assumption) (v := ?_) (Or.inl ⟨by rfl, ?_⟩) (by first | assumption | exact unhide hSS _ (unhide ba3)) (fun hc1 => ?_)
          rotate_left
          · (intro w hSw; (try dsimp only at hSw); go_simp; first | done | with_reducible rfl)
          try simp only [Act.put, List.setIfInBounds_toArray, List.set_cons_zero, List.set_cons_succ, List.getElem_toArray, List.getElem_cons_succ, List.getElem_cons_zero]
          refine Lw.take (i := 4) [5, 7, 8, 13, 20, 23] (by kernel_rfl) (by rfl) (by decide) rfl (by kernel_rfl) (by kernel_rfl) (by kernel_rfl) (fun _ _ _ h => h) (by assumption) (v := ?_) (Or.inl ⟨by rfl, ?_⟩) (by first | assumption | exact unhide hSS _ (unhide ba3)) (fun hc1 => ?_)
          rotate_left
          · (intro w hSw; (try dsimp only at hSw); go_simp; first | done | with_reducible rfl)
          try simp only [Act.put, List.setIfInBounds_toArray, List.set_cons_zero, List.set_cons_succ, List.getElem_toArray, List.getElem_cons_succ, List.getElem_cons_zero]
          refine Lw.take (i := 5) [7, 8, 13, 20, 23] (by kernel_rfl) (by rfl) (by decide) rfl (by kernel_rfl) (by kernel_rfl) (by kernel_rfl) (fun _ _ _ h => h) (by assumption) (v := ?_) (Or.inl ⟨by rfl, ?_⟩) (by first | assumption | exact unhide hSS _ (unhide ba3)) (fun hc1 => ?_)
          rotate_left
          · (intro w hSw; (try dsimp only at hSw); go_simp; first | done | with_reducible rfl)
          try simp only [Act.put, List.setIfInBounds_toArray, List.set_cons_zero, List.set_cons_succ, List.getElem_toArray, List.getElem_cons_succ, List.getElem_cons_zero]
          refine Lw.take (i := 6) [7, 8, 13, 20, 23] (by kernel_rfl) (by rfl) (by decide) rfl (by kernel_rfl) (by kernel_rfl) (by kernel_rfl) (fun _ _ _ h => h) (by assumption) (v := ?_) (Or.inl ⟨by rfl, ?_⟩) (by first | assumption | exact unhide hSS _ (unhide ba3)) (fun hc1 => ?_)
          rotate_left
          · (intro w hSw; (try dsimp only at hSw); go_simp; first | done | with_reducible rfl)
          try simp only [Act.put, List.setIfInBounds_toArray, List.set_cons_zero, List.set_cons_succ, List.getElem_toArray, List.getElem_cons_succ, List.getElem_cons_zero]
          refine Lw.take (i := 7) [8, 13, 20, 23] (by kernel_rfl) (by rfl) (by decide) rfl (by kernel_rfl) (by kernel_rfl) (by kernel_rfl) (fun _ _ _ h => h) (by assumption) (v := ?_) (Or.inl ⟨by rfl, ?_⟩) (by first | assumption | exact unhide hSS _ (unhide ba3)) (fun hc1 => ?_)
          rotate_left
          · (intro w hSw; (try dsimp only at hSw); go_simp; first | done | with_reducible rfl)
          try simp only [Act.put, List.setIfInBounds_toArray, List.set_cons_zero, List.set_cons_succ, List.getElem_toArray, List.getElem_cons_succ, List.getElem_cons_zero]
          refine Lw.take (i := 9) [11, 12, 13, 20, 23] (by kernel_rfl) (by rfl) (by decide) rfl (by kernel_rfl) (by kernel_rfl) (by kernel_rfl) (fun _ _ _ h => h) (by assumption) (v := ?_) (Or.inl ⟨by rfl, ?_⟩) (by first | assumption | exact unhide hSS _ (unhide ba3)) (fun hc1 => ?_)
          rotate_left
          · (intro w hSw; (try dsimp only at hSw); go_simp; first | done | with_reducible rfl)
          try simp only [Act.put, List.setIfInBounds_toArray, List.set_cons_zero, List.set_cons_succ, List.getElem_toArray, List.getElem_cons_succ, List.getElem_cons_zero]
          refine Lw.take (i := 10) [11, 12, 13, 20, 23] (by kernel_rfl) (by rfl) (by decide) rfl (by kernel_rfl) (by kernel_rfl) (by kernel_rfl) (fun _ _ _ h => h) (by assumption) (v := ?_) (Or.inl ⟨by rfl, ?_⟩) (by first | assumption | exact unhide hSS _ (unhide ba3)) (fun hc1 => ?_)
          rotate_left
          · (intro w hSw; (try dsimp only at hSw); go_simp; first | done | with_reducible rfl)
          try simp only [Act.put, List.setIfInBounds_toArray, List.set_cons_zero, List.set_cons_succ, List.getElem_toArray, List.getElem_cons_succ, List.getElem_cons_zero]
          refine Lw.take (i := 11) [12, 13, 20, 23] (by kernel_rfl) (by rfl) (by decide) rfl (by kernel_rfl) (by kernel_rfl) (by kernel_rfl) (fun _ _ _ h => h) (by assumption) (v := ?_) (Or.inl ⟨by rfl, ?_⟩) (by first | assumption | exact unhide hSS _ (unhide ba3)) (fun hc1 => ?_)
          rotate_left
          · (intro w hSw; (try dsimp only at hSw); go_simp; first | done | with_reducible rfl)
          try simp only [Act.put, List.setIfInBounds_toArray, List.set_cons_zero, List.set_cons_succ, List.getElem_toArray, List.getElem_cons_succ, List.getElem_cons_zero]
          refine Lw.take (i := 14) [15, 16, 17, 19, 20, 23] (by kernel_rfl) (by rfl) (by decide) rfl (by kernel_rfl) (by kernel_rfl) (by kernel_rfl) (fun _ _ _ h => h) (by assumption) (v := ?_) (Or.inl ⟨by rfl, ?_⟩) (by first | assumption | exact unhide hSS _ (unhide ba3)) (fun hc1 => ?_)
          rotate_left
          · (intro w hSw; (try dsimp only at hSw); go_simp; first | done | with_reducible rfl)
          try simp only [Act.put, List.setIfInBounds_toArray, List.set_cons_zero, List.set_cons_succ, List.getElem_toArray, List.getElem_cons_succ, List.getElem_cons_zero]
          refine Lw.take (i := 15) [16, 17, 19, 20, 23] (by kernel_rfl) (by rfl) (by decide) rfl (by kernel_rfl) (by kernel_rfl) (by kernel_rfl) (fun _ _ _ h => h) (by assumption) (v := ?_) (Or.inl ⟨by rfl, ?_⟩) (by first | assumption | exact unhide hSS _ (unhide ba3)) (fun hc1 => ?_)
          rotate_left
          · (intro w hSw; (try dsimp only at hSw); go_simp; first | done | with_reducible rfl)
          try simp only [Act.put, List.setIfInBounds_toArray, List.set_cons_zero, List.set_cons_succ, List.getElem_toArray, List.getElem_cons_succ, List.getElem_cons_zero]
          refine Lw.take (i := 16) [17, 19, 20, 23] (by kernel_rfl) (by rfl) (by decide) rfl (by kernel_rfl) (by kernel_rfl) (by kernel_rfl) (fun _ _ _ h => h) (by assumption) (v := ?_) (Or.inl ⟨by rfl, ?_⟩) (by first | assumption | exact unhide hSS _ (unhide ba3)) (fun hc1 => ?_)
          rotate_left
          · (intro w hSw; (try dsimp only at hSw); go_simp; first | done | with_reducible rfl)
          try simp only [Act.put, List.setIfInBounds_toArray, List.set_cons_zero, List.set_cons_succ, List.getElem_toArray, List.getElem_cons_succ, List.getElem_cons_zero]
          refine Lw.take (i := 17) [19, 20, 23] (by kernel_rfl) (by rfl) (by decide) rfl (by kernel_rfl) (by kernel_rfl) (by kernel_rfl) (fun _ _ _ h => h) (by assumption) (v := ?_) (Or.inl ⟨by rfl, ?_⟩) (by first | assumption | exact unhide hSS _ (unhide ba3)) (fun hc1 => ?_)
          rotate_left
          · (intro w hSw; (try dsimp only at hSw); go_simp; first | done | with_reducible rfl)
          try simp only [Act.put, List.setIfInBounds_toArray, List.set_cons_zero, List.set_cons_succ, List.getElem_toArray, List.getElem_cons_succ, List.getElem_cons_zero]
          refine Lw.take (i := 18) [19, 20, 23] (by kernel_rfl) (by rfl) (by decide) rfl (by kernel_rfl) (by kernel_rfl) (by kernel_rfl) (fun _ _ _ h => h) (by assumption) (v := ?_) (Or.inl ⟨by rfl, ?_⟩) (by first | assumption | exact unhide hSS _ (unhide ba3)) (fun hc1 => ?_)
          rotate_left
          · (intro w hSw; (try dsimp only at hSw); go_simp; first | done | with_reducible rfl)
          try simp only [Act.put, List.setIfInBounds_toArray, List.set_cons_zero, List.set_cons_succ, List.getElem_toArray, List.getElem_cons_succ, List.getElem_cons_zero]
          refine Lw.take (i := 19) [20, 23] (by kernel_rfl) (by rfl) (by decide) rfl (by kernel_rfl) (by kernel_rfl) (by kernel_rfl) (fun _ _ _ h => h) (by assumption) (v := ?_) (Or.inl ⟨by rfl, ?_⟩) (by first | assumption | exact unhide hSS _ (unhide ba3)) (fun hc1 => ?_)
          rotate_left
          · (intro w hSw; (try dsimp only at hSw); go_simp; first | done | with_reducible rfl)
          try simp only [Act.put, List.setIfInBounds_toArray, List.set_cons_zero, List.set_cons_succ, List.getElem_toArray, List.getElem_cons_succ, List.getElem_cons_zero]
          refine Lw.ready (rs := [1, 12]) (by kernel_rfl) (by simp) (by assumption) (fun hc2 => ?_)
          refine Nxt1.cons rfl (by kernel_rfl) hc2 (fun K hK => ?_) ?_
          · -- operation 1
            go_simp
            refine unhide hK _ _ (fun _ => unhide hSS _ (by repeat (first | exact unhide ba3 | exact unhide ba2 | exact unhide ba1 | exact Below.refl _ _ | refine Below.drew ?_ | refine below_add ?_ _))) (fun hS2 hc3 => ?_)
            clear hK K
            try simp only [Act.put, List.setIfInBounds_toArray, List.set_cons_zero, List.set_cons_succ, List.getElem_toArray, List.getElem_cons_succ, List.getElem_cons_zero]
            refine Lw.ready (rs := [8, 12]) (by kernel_rfl) (by simp) (by assumption) (fun hc2 => ?_)
            refine Nxt1.cons rfl (by kernel_rfl) hc2 (fun K hK => ?_) ?_
            · -- operation 8
              refine step_app0 w rfl (some 63) rfl (.tmp 56) (.tmp 62) rfl (H.take H.length) _ rfl (by repeat (first | exact unhide ba3 | exact unhide ba2 | exact unhide ba1 | exact Below.refl _ _ | refine Below.drew ?_ | refine below_add ?_ _)) (by first | exact pr_lit w.drew | exact (pr_lit w.drew).next (below_new _ _) | exact pr_lit2 w _ _) _ _ _ rfl (unhide hA) (by first | exact fun _ => rfl | exact fun h => by cases h) (unhide zA) ?_
              intro v9 w9 x1 ba1 kp1; replace x1 := hide x1; replace ba1 := hide ba1; replace kp1 := hide kp1
              refine unhide hK _ _ (fun _ => unhide hSS _ (by repeat (first | exact unhide ba3 | exact unhide ba2 | exact unhide ba1 | exact Below.refl _ _ | refine Below.drew ?_ | refine below_add ?_ _))) (fun hS2 hc3 => ?_)
              clear hK K
              try simp only [Act.put, List.setIfInBounds_toArray, List.set_cons_zero, List.set_cons_succ, List.getElem_toArray, List.getElem_cons_succ, List.getElem_cons_zero]
              refine Lw.ready (rs := [12]) (by kernel_rfl) (by simp) (by assumption) (fun hc2 => ?_)
              refine Nxt1.cons rfl (by kernel_rfl) hc2 (fun K hK => ?_) ?_
              · -- operation 12
                go_simp
                refine unhide hK _ _ (fun _ => unhide hSS _ (by repeat (first | exact unhide ba3 | exact unhide ba2 | exact unhide ba1 | exact Below.refl _ _ | refine Below.drew ?_ | refine below_add ?_ _))) (fun hS2 hc3 => ?_)
                clear hK K
                try simp only [Act.put, List.setIfInBounds_toArray, List.set_cons_zero, List.set_cons_succ, List.getElem_toArray, List.getElem_cons_succ, List.getElem_cons_zero]
                refine Lw.ready (rs := [13]) (by kernel_rfl) (by simp) (by assumption) (fun hc2 => ?_)
                refine Nxt1.cons rfl (by kernel_rfl) hc2 (fun K hK => ?_) ?_
                · -- operation 13
                  refine step_new0 w rfl (some 68) rfl (.tmp 63) (.tmp 67) rfl v9 (H.take H.length) [(who, m)] 1 (H.length + 1) rfl (by repeat (first | exact unhide ba3 | exact unhide ba2 | exact unhide ba1 | exact Below.refl _ _ | refine Below.drew ?_ | refine below_add ?_ _)) (by first | exact unhide x1 | exact (unhide x1).next (below_new _ _)) _ rfl (by first | exact heap_alloc_new _ _ | exact unhide kp1 _ _ (heap_d2a w _ _ _ _) (by omega) | exact unhide kp1 _ _ (heap_d2b w _ _ _ _) (by omega)) rfl (by rw [unhide lA]) (by decide) (unhide zB) ?_
                  intro g10 cap10 w10 x2 ba2; replace x2 := hide x2; replace ba2 := hide ba2
                  refine unhide hK _ _ (fun _ => unhide hSS _ (by repeat (first | exact unhide ba3 | exact unhide ba2 | exact unhide ba1 | exact Below.refl _ _ | refine Below.drew ?_ | refine below_add ?_ _))) (fun hS2 hc3 => ?_)
                  clear hK K
                  try simp only [Act.put, List.setIfInBounds_toArray, List.set_cons_zero, List.set_cons_succ, List.getElem_toArray, List.getElem_cons_succ, List.getElem_cons_zero]
                  refine Lw.ready (rs := [20]) (by kernel_rfl) (by simp) (by assumption) (fun hc2 => ?_)
                  refine Nxt1.cons rfl (by kernel_rfl) hc2 (fun K hK => ?_) ?_
                  · -- operation 20
                    refine step_app_re rfl (.tmp 68) (.tmp 74) rfl w.heap.size _ (H.take H.length ++ [(who, m)]) (([] : List En)) rfl (unhide x2) _ _ _ rfl (by first | exact re_nil _ _ _ | exact (unhide hD).next (unhide ba2) | (simp only [Nat.sub_self]; exact re_nil _ _ _)) (by first | exact fun _ => rfl | exact fun h => by cases h) (unhide zC) (unhide ba2).size ?_
                    intro v11 w11 x3 gr3; have ba3 := hide ((unhide ba2).trans (grown_below gr3 (unhide ba2).size (fun j hj => ((unhide x2).lt j hj).1))); obtain ⟨a11, n11, c11, rfl⟩ := pr_form x3; replace x3 := hide x3; clear gr3
                    refine unhide hK _ _ (fun _ => unhide hSS _ (by repeat (first | exact unhide ba3 | exact unhide ba2 | exact unhide ba1 | exact Below.refl _ _ | refine Below.drew ?_ | refine below_add ?_ _))) (fun hS2 hc3 => ?_)
                    clear hK K
                    try simp only [Act.put, List.setIfInBounds_toArray, List.set_cons_zero, List.set_cons_succ, List.getElem_toArray, List.getElem_cons_succ, List.getElem_cons_zero]
                    refine Lw.take (i := 21) [22, 23] (by kernel_rfl) (by rfl) (by decide) rfl (by kernel_rfl) (by kernel_rfl) (by kernel_rfl) (fun _ _ _ h => h) (by assumption) (v := ?_) (Or.inl ⟨by rfl, ?_⟩) (by first | assumption | exact unhide hSS _ (unhide ba3)) (fun hc1 => ?_)
                    rotate_left
                    · (intro w hSw; (try dsimp only at hSw); go_simp; first | done | with_reducible rfl)
                    try simp only [Act.put, List.setIfInBounds_toArray, List.set_cons_zero, List.set_cons_succ, List.getElem_toArray, List.getElem_cons_succ, List.getElem_cons_zero]
                    refine Lw.take (i := 22) [23] (by kernel_rfl) (by rfl) (by decide) rfl (by kernel_rfl) (by kernel_rfl) (by kernel_rfl) (fun _ _ _ h => h) (by assumption) (v := ?_) (Or.inl ⟨by rfl, ?_⟩) (by first | assumption | exact unhide hSS _ (unhide ba3)) (fun hc1 => ?_)
                    rotate_left
                    · (intro w hSw; (try dsimp only at hSw); go_simp; first | done | with_reducible rfl)
                    try simp only [Act.put, List.setIfInBounds_toArray, List.set_cons_zero, List.set_cons_succ, List.getElem_toArray, List.getElem_cons_succ, List.getElem_cons_zero]
                    refine Lw.ready (rs := [23]) (by kernel_rfl) (by simp) (by assumption) (fun hc2 => ?_)
                    refine Nxt1.cons rfl (by kernel_rfl) hc2 (fun K hK => ?_) ?_
                    · -- operation 23
                      have fr := unhide hFF _ (unhide ba3)
                      have cc := unhide hSS _ (unhide ba3)
                      go_simp
                      refine unhide hK _ _ (fun h => absurd h (by decide)) (fun _ hc3 => ?_)
                      clear hK K
                      try simp only [Act.put, List.setIfInBounds_toArray, List.set_cons_zero, List.set_cons_succ, List.getElem_toArray, List.getElem_cons_succ, List.getElem_cons_zero]
                      refine Lw.done (by kernel_rfl) ?_ _
                      have f1 := unhide x3
                      rw [unhide fin] at f1
                      go_wp2
                      refine bodyPost_end (results_none rfl _ _ _) rfl ?_
                      exact ⟨rfl, _, (unhide HL).put0 (unhide ba3) (pr_es f1)⟩
                    exact Nxt1.nil
                  exact Nxt1.nil
                exact Nxt1.nil
              exact Nxt1.nil
            refine Nxt1.cons rfl (by kernel_rfl) hc2 (fun K hK => ?_) ?_
            · -- operation 12
              go_simp
              refine unhide hK _ _ (fun _ => unhide hSS _ (by repeat (first | exact unhide ba3 | exact unhide ba2 | exact unhide ba1 | exact Below.refl _ _ | refine Below.drew ?_ | refine below_add ?_ _))) (fun hS2 hc3 => ?_)
              clear hK K
              try simp only [Act.put, List.setIfInBounds_toArray, List.set_cons_zero, List.set_cons_succ, List.getElem_toArray, List.getElem_cons_succ, List.getElem_cons_zero]
              refine Lw.ready (rs := [8]) (by kernel_rfl) (by simp) (by assumption) (fun hc2 => ?_)
              refine Nxt1.cons rfl (by kernel_rfl) hc2 (fun K hK => ?_) ?_
              · -- operation 8
                refine step_app0 w rfl (some 63) rfl (.tmp 56) (.tmp 62) rfl (H.take H.length) _ rfl (by repeat (first | exact unhide ba3 | exact unhide ba2 | exact unhide ba1 | exact Below.refl _ _ | refine Below.drew ?_ | refine below_add ?_ _)) (by first | exact pr_lit w.drew | exact (pr_lit w.drew).next (below_new _ _) | exact pr_lit2 w _ _) _ _ _ rfl (unhide hA) (by first | exact fun _ => rfl | exact fun h => by cases h) (unhide zA) ?_
                intro v9 w9 x1 ba1 kp1; replace x1 := hide x1; replace ba1 := hide ba1; replace kp1 := hide kp1
                refine unhide hK _ _ (fun _ => unhide hSS _ (by repeat (first | exact unhide ba3 | exact unhide ba2 | exact unhide ba1 | exact Below.refl _ _ | refine Below.drew ?_ | refine below_add ?_ _))) (fun hS2 hc3 => ?_)
                clear hK K
                try simp only [Act.put, List.setIfInBounds_toArray, List.set_cons_zero, List.set_cons_succ, List.getElem_toArray, List.getElem_cons_succ, List.getElem_cons_zero]
                refine Lw.ready (rs := [13]) (by kernel_rfl) (by simp) (by assumption) (fun hc2 => ?_)
                refine Nxt1.cons rfl (by kernel_rfl) hc2 (fun K hK => ?_) ?_
                · -- operation 13
                  refine step_new0 w rfl (some 68) rfl (.tmp 63) (.tmp 67) rfl v9 (H.take H.length) [(who, m)] 1 (H.length + 1) rfl (by repeat (first | exact unhide ba3 | exact unhide ba2 | exact unhide ba1 | exact Below.refl _ _ | refine Below.drew ?_ | refine below_add ?_ _)) (by first | exact unhide x1 | exact (unhide x1).next (below_new _ _)) _ rfl (by first | exact heap_alloc_new _ _ | exact unhide kp1 _ _ (heap_d2a w _ _ _ _) (by omega) | exact unhide kp1 _ _ (heap_d2b w _ _ _ _) (by omega)) rfl (by rw [unhide lA]) (by decide) (unhide zB) ?_
                  intro g10 cap10 w10 x2 ba2; replace x2 := hide x2; replace ba2 := hide ba2
                  refine unhide hK _ _ (fun _ => unhide hSS _ (by repeat (first | exact unhide ba3 | exact unhide ba2 | exact unhide ba1 | exact Below.refl _ _ | refine Below.drew ?_ | refine below_add ?_ _))) (fun hS2 hc3 => ?_)
                  clear hK K
                  try simp only [Act.put, List.setIfInBounds_toArray, List.set_cons_zero, List.set_cons_succ, List.getElem_toArray, List.getElem_cons_succ, List.getElem_cons_zero]
                  refine Lw.ready (rs := [20]) (by kernel_rfl) (by simp) (by assumption) (fun hc2 => ?_)
                  refine Nxt1.cons rfl (by kernel_rfl) hc2 (fun K hK => ?_) ?_
                  · -- operation 20
                    refine step_app_re rfl (.tmp 68) (.tmp 74) rfl w.heap.size _ (H.take H.length ++ [(who, m)]) (([] : List En)) rfl (unhide x2) _ _ _ rfl (by first | exact re_nil _ _ _ | exact (unhide hD).next (unhide ba2) | (simp only [Nat.sub_self]; exact re_nil _ _ _)) (by first | exact fun _ => rfl | exact fun h => by cases h) (unhide zC) (unhide ba2).size ?_
                    intro v11 w11 x3 gr3; have ba3 := hide ((unhide ba2).trans (grown_below gr3 (unhide ba2).size (fun j hj => ((unhide x2).lt j hj).1))); obtain ⟨a11, n11, c11, rfl⟩ := pr_form x3; replace x3 := hide x3; clear gr3
                    refine unhide hK _ _ (fun _ => unhide hSS _ (by repeat (first | exact unhide ba3 | exact unhide ba2 | exact unhide ba1 | exact Below.refl _ _ | refine Below.drew ?_ | refine below_add ?_ _))) (fun hS2 hc3 => ?_)
                    clear hK K
                    try simp only [Act.put, List.setIfInBounds_toArray, List.set_cons_zero, List.set_cons_succ, List.getElem_toArray, List.getElem_cons_succ, List.getElem_cons_zero]
                    refine Lw.take (i := 21) [22, 23] (by kernel_rfl) (by rfl) (by decide) rfl (by kernel_rfl) (by kernel_rfl) (by kernel_rfl) (fun _ _ _ h => h) (by assumption) (v := ?_) (Or.inl ⟨by rfl, ?_⟩) (by first | assumption | exact unhide hSS _ (unhide ba3)) (fun hc1 => ?_)
                    rotate_left
                    · (intro w hSw; (try dsimp only at hSw); go_simp; first | done | with_reducible rfl)
                    try simp only [Act.put, List.setIfInBounds_toArray, List.set_cons_zero, List.set_cons_succ, List.getElem_toArray, List.getElem_cons_succ, List.getElem_cons_zero]
                    refine Lw.take (i := 22) [23] (by kernel_rfl) (by rfl) (by decide) rfl (by kernel_rfl) (by kernel_rfl) (by kernel_rfl) (fun _ _ _ h => h) (by assumption) (v := ?_) (Or.inl ⟨by rfl, ?_⟩) (by first | assumption | exact unhide hSS _ (unhide ba3)) (fun hc1 => ?_)
                    rotate_left
                    · (intro w hSw; (try dsimp only at hSw); go_simp; first | done | with_reducible rfl)
                    try simp only [Act.put, List.setIfInBounds_toArray, List.set_cons_zero, List.set_cons_succ, List.getElem_toArray, List.getElem_cons_succ, List.getElem_cons_zero]
                    refine Lw.ready (rs := [23]) (by kernel_rfl) (by simp) (by assumption) (fun hc2 => ?_)
                    refine Nxt1.cons rfl (by kernel_rfl) hc2 (fun K hK => ?_) ?_
                    · -- operation 23
                      have fr := unhide hFF _ (unhide ba3)
                      have cc := unhide hSS _ (unhide ba3)
                      go_simp
                      refine unhide hK _ _ (fun h => absurd h (by decide)) (fun _ hc3 => ?_)
                      clear hK K
                      try simp only [Act.put, List.setIfInBounds_toArray, List.set_cons_zero, List.set_cons_succ, List.getElem_toArray, List.getElem_cons_succ, List.getElem_cons_zero]
                      refine Lw.done (by kernel_rfl) ?_ _
                      have f1 := unhide x3
                      rw [unhide fin] at f1
                      go_wp2
                      refine bodyPost_end (results_none rfl _ _ _) rfl ?_
                      exact ⟨rfl, _, (unhide HL).put0 (unhide ba3) (pr_es f1)⟩
                    exact Nxt1.nil
                  exact Nxt1.nil
                exact Nxt1.nil
              exact Nxt1.nil
            exact Nxt1.nil
          refine Nxt1.cons rfl (by kernel_rfl) hc2 (fun K hK => ?_) ?_
          · -- operation 12
            go_simp
            refine unhide hK _ _ (fun _ => unhide hSS _ (by repeat (first | exact unhide ba3 | exact unhide ba2 | exact unhide ba1 | exact Below.refl _ _ | refine Below.drew ?_ | refine below_add ?_ _))) (fun hS2 hc3 => ?_)
            clear hK K
            try simp only [Act.put, List.setIfInBounds_toArray, List.set_cons_zero, List.set_cons_succ, List.getElem_toArray, List.getElem_cons_succ, List.getElem_cons_zero]
            refine Lw.ready (rs := [1]) (by kernel_rfl) (by simp) (by assumption) (fun hc2 => ?_)
            refine Nxt1.cons rfl (by kernel_rfl) hc2 (fun K hK => ?_) ?_
            · -- operation 1
              go_simp
              refine unhide hK _ _ (fun _ => unhide hSS _ (by repeat (first | exact unhide ba3 | exact unhide ba2 | exact unhide ba1 | exact Below.refl _ _ | refine Below.drew ?_ | refine below_add ?_ _))) (fun hS2 hc3 => ?_)
              clear hK K
              try simp only [Act.put, List.setIfInBounds_toArray, List.set_cons_zero, List.set_cons_succ, List.getElem_toArray, List.getElem_cons_succ, List.getElem_cons_zero]
              refine Lw.ready (rs := [8]) (by kernel_rfl) (by simp) (by assumption) (fun hc2 => ?_)
              refine Nxt1.cons rfl (by kernel_rfl) hc2 (fun K hK => ?_) ?_
              · -- operation 8
                refine step_app0 w rfl (some 63) rfl (.tmp 56) (.tmp 62) rfl (H.take H.length) _ rfl (by repeat (first | exact unhide ba3 | exact unhide ba2 | exact unhide ba1 | exact Below.refl _ _ | refine Below.drew ?_ | refine below_add ?_ _)) (by first | exact pr_lit w.drew | exact (pr_lit w.drew).next (below_new _ _) | exact pr_lit2 w _ _) _ _ _ rfl (unhide hA) (by first | exact fun _ => rfl | exact fun h => by cases h) (unhide zA) ?_
                intro v9 w9 x1 ba1 kp1; replace x1 := hide x1; replace ba1 := hide ba1; replace kp1 := hide kp1
                refine unhide hK _ _ (fun _ => unhide hSS _ (by repeat (first | exact unhide ba3 | exact unhide ba2 | exact unhide ba1 | exact Below.refl _ _ | refine Below.drew ?_ | refine below_add ?_ _))) (fun hS2 hc3 => ?_)
                clear hK K
                try simp only [Act.put, List.setIfInBounds_toArray, List.set_cons_zero, List.set_cons_succ, List.getElem_toArray, List.getElem_cons_succ, List.getElem_cons_zero]
                refine Lw.ready (rs := [13]) (by kernel_rfl) (by simp) (by assumption) (fun hc2 => ?_)
                refine Nxt1.cons rfl (by kernel_rfl) hc2 (fun K hK => ?_) ?_
                · -- operation 13
                  refine step_new0 w rfl (some 68) rfl (.tmp 63) (.tmp 67) rfl v9 (H.take H.length) [(who, m)] 1 (H.length + 1) rfl (by repeat (first | exact unhide ba3 | exact unhide ba2 | exact unhide ba1 | exact Below.refl _ _ | refine Below.drew ?_ | refine below_add ?_ _)) (by first | exact unhide x1 | exact (unhide x1).next (below_new _ _)) _ rfl (by first | exact heap_alloc_new _ _ | exact unhide kp1 _ _ (heap_d2a w _ _ _ _) (by omega) | exact unhide kp1 _ _ (heap_d2b w _ _ _ _) (by omega)) rfl (by rw [unhide lA]) (by decide) (unhide zB) ?_
                  intro g10 cap10 w10 x2 ba2; replace x2 := hide x2; replace ba2 := hide ba2
                  refine unhide hK _ _ (fun _ => unhide hSS _ (by repeat (first | exact unhide ba3 | exact unhide ba2 | exact unhide ba1 | exact Below.refl _ _ | refine Below.drew ?_ | refine below_add ?_ _))) (fun hS2 hc3 => ?_)
                  clear hK K
                  try simp only [Act.put, List.setIfInBounds_toArray, List.set_cons_zero, List.set_cons_succ, List.getElem_toArray, List.getElem_cons_succ, List.getElem_cons_zero]
                  refine Lw.ready (rs := [20]) (by kernel_rfl) (by simp) (by assumption) (fun hc2 => ?_)
                  refine Nxt1.cons rfl (by kernel_rfl) hc2 (fun K hK => ?_) ?_
                  · -- operation 20
                    refine step_app_re rfl (.tmp 68) (.tmp 74) rfl w.heap.size _ (H.take H.length ++ [(who, m)]) (([] : List En)) rfl (unhide x2) _ _ _ rfl (by first | exact re_nil _ _ _ | exact (unhide hD).next (unhide ba2) | (simp only [Nat.sub_self]; exact re_nil _ _ _)) (by first | exact fun _ => rfl | exact fun h => by cases h) (unhide zC) (unhide ba2).size ?_
                    intro v11 w11 x3 gr3; have ba3 := hide ((unhide ba2).trans (grown_below gr3 (unhide ba2).size (fun j hj => ((unhide x2).lt j hj).1))); obtain ⟨a11, n11, c11, rfl⟩ := pr_form x3; replace x3 := hide x3; clear gr3
                    refine unhide hK _ _ (fun _ => unhide hSS _ (by repeat (first | exact unhide ba3 | exact unhide ba2 | exact unhide ba1 | exact Below.refl _ _ | refine Below.drew ?_ | refine below_add ?_ _))) (fun hS2 hc3 => ?_)
                    clear hK K
                    try simp only [Act.put, List.setIfInBounds_toArray, List.set_cons_zero, List.set_cons_succ, List.getElem_toArray, List.getElem_cons_succ, List.getElem_cons_zero]
                    refine Lw.take (i := 21) [22, 23] (by kernel_rfl) (by rfl) (by decide) rfl (by kernel_rfl) (by kernel_rfl) (by kernel_rfl) (fun _ _ _ h => h) (by assumption) (v := ?_) (Or.inl ⟨by rfl, ?_⟩) (by first | assumption | exact unhide hSS _ (unhide ba3)) (fun hc1 => ?_)
                    rotate_left
                    · (intro w hSw; (try dsimp only at hSw); go_simp; first | done | with_reducible rfl)
                    try simp only [Act.put, List.setIfInBounds_toArray, List.set_cons_zero, List.set_cons_succ, List.getElem_toArray, List.getElem_cons_succ, List.getElem_cons_zero]
                    refine Lw.take (i := 22) [23] (by kernel_rfl) (by rfl) (by decide) rfl (by kernel_rfl) (by kernel_rfl) (by kernel_rfl) (fun _ _ _ h => h) (by assumption) (v := ?_) (Or.inl ⟨by rfl, ?_⟩) (by first | assumption | exact unhide hSS _ (unhide ba3)) (fun hc1 => ?_)
                    rotate_left
                    · (intro w hSw; (try dsimp only at hSw); go_simp; first | done | with_reducible rfl)
                    try simp only [Act.put, List.setIfInBounds_toArray, List.set_cons_zero, List.set_cons_succ, List.getElem_toArray, List.getElem_cons_succ, List.getElem_cons_zero]
                    refine Lw.ready (rs := [23]) (by kernel_rfl) (by simp) (by assumption) (fun hc2 => ?_)
                    refine Nxt1.cons rfl (by kernel_rfl) hc2 (fun K hK => ?_) ?_
                    · -- operation 23
                      have fr := unhide hFF _ (unhide ba3)
                      have cc := unhide hSS _ (unhide ba3)
                      go_simp
                      refine unhide hK _ _ (fun h => absurd h (by decide)) (fun _ hc3 => ?_)
                      clear hK K
                      try simp only [Act.put, List.setIfInBounds_toArray, List.set_cons_zero, List.set_cons_succ, List.getElem_toArray, List.getElem_cons_succ, List.getElem_cons_zero]
                      refine Lw.done (by kernel_rfl) ?_ _
                      have f1 := unhide x3
                      rw [unhide fin] at f1
                      go_wp2
                      refine bodyPost_end (results_none rfl _ _ _) rfl ?_
                      exact ⟨rfl, _, (unhide HL).put0 (unhide ba3) (pr_es f1)⟩
                    exact Nxt1.nil
                  exact Nxt1.nil
                exact Nxt1.nil
              exact Nxt1.nil
            exact Nxt1.nil
          exact Nxt1.nil
end Go.Proofs.YtgiklggnolbiiaaGreat
