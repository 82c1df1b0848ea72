/- TableOrder: what the walk wants, plainly; SameLocks. -/
import Derived.Test.YtmdbmkekdpbliaaTabk
namespace Go.Proofs.Ytmdbmkekdpbliaa
open Go.RowKit

/-- Each lane in order, of k entries at most. -/
structure Gd (n k : Nat) (T : Nat → Lv) : Prop where
  fine : ∀ i, i < n → Fine (T i).1 (T i).2
  sum : ∀ i, i < n → (T i).1.length + (T i).2.length ≤ k
variable {n k : Nat} {most : Int} {T : Nat → Lv} {who node m : Int}
theorem gd_none (n k : Nat) : Gd n k none0 := ⟨fun _ _ => fine_nil, fun _ _ => Nat.zero_le _⟩
theorem Gd.few (h : Gd n k T) (hk : k ≤ 1000) : Few n 1000 T := fun i hi => by have := h.sum i hi; omega
theorem Gd.up (h : Gd n k T) {k' : Nat} (hk : k ≤ k') : Gd n k' T := ⟨h.fine, fun i hi => Nat.le_trans (h.sum i hi) hk⟩
theorem Gd.set (h : Gd n k T) (i : Nat) {x : Lv} (hx : Fine x.1 x.2) (hl : x.1.length + x.2.length ≤ k) : Gd n k (upd T i x) := by
  refine ⟨fun j hj => ?_, fun j hj => ?_⟩
  · by_cases e : j = i
    · subst e; rw [upd_same]; exact hx
    · rw [upd_other T x e]; exact h.fine j hj
  · by_cases e : j = i
    · subst e; rw [upd_same]; exact hl
    · rw [upd_other T x e]; exact h.sum j hj
theorem ask_yes (h : errD n most T who node m = 0) : askT n most T who node m = (((askD who m (T node.toNat).1 (T node.toNat).2).1, 0), upd T node.toNat (askD who m (T node.toNat).1 (T node.toNat).2).2) := by
  unfold askT; rw [if_pos h]
theorem ask_not (h : errD n most T who node m ≠ 0) : askT n most T who node m = ((0, errD n most T who node m), T) := by
  unfold askT; rw [if_neg h]
theorem gd_ask (hs : ∀ i, i < n → Srt (T i).1) (h : Gd n k T) : Gd n (k + 1) (askT n most T who node m).2 := by
  by_cases h0 : errD n most T who node m = 0
  · obtain ⟨p1, p2, _⟩ := err_node h0
    rw [ask_yes h0]
    have hi : node.toNat < n := by omega
    have f := h.fine _ hi
    refine (h.up (Nat.le_succ k)).set _ (ask_fine who m (hs _ hi) f).1 ?_
    have h1 := (ask_ok who m (hs _ hi) f.ok).2.1
    have h2 := h.sum _ hi
    omega
  · rw [ask_not h0]
    exact h.up (Nat.le_succ k)
theorem ask_other {H Q : List En} {a b m : Int} (hs : Srt H) (h : b ≠ a) : lookD b (askD a m H Q).2.1 = lookD b H := by
  unfold askD
  split
  · dsimp only
    split
    · rfl
    · split
      · exact look_put hs h
      · rfl
  · rfl
theorem held_other {b : Int} (hs : ∀ i, i < n → Srt (T i).1) (hb : b ≠ who) : heldD b (askT n most T who node m).2 n = heldD b T n := by
  by_cases h0 : errD n most T who node m = 0
  · obtain ⟨p1, p2, _⟩ := err_node h0
    rw [ask_yes h0]
    refine held_same b n (fun i hi => ?_)
    by_cases e : i = node.toNat
    · subst e
      show lookD b (upd _ _ _ _).1 = _
      rw [upd_same]
      exact ask_other (hs _ hi) hb
    · show lookD b (upd _ _ _ _).1 = _
      rw [upd_other _ _ e]
  · rw [ask_not h0]
theorem ask_cov (hs : ∀ i, i < n → Srt (T i).1) (h : Gd n k T) (he : (askT n most T who node m).1.2 = 0) (hr : (askT n most T who node m).1.1 = 1) : 0 ≤ node ∧ node < n ∧ coversB (lookD who ((askT n most T who node m).2 node.toNat).1) m = true := by
  by_cases h0 : errD n most T who node m = 0
  · obtain ⟨p1, p2, _⟩ := err_node h0
    rw [ask_yes h0] at hr ⊢
    have hi : node.toNat < n := by omega
    refine ⟨p1, p2, ?_⟩
    show coversB (lookD who (upd _ _ _ _).1) m = true
    rw [upd_same]
    exact ((ask_fine who m (hs _ hi) (h.fine _ hi)).2.1 hr).1
  · rw [ask_not h0] at he
    exact absurd he h0
theorem held_at (who : Int) (T : Nat → Lv) (n : Nat) {i : Nat} (hi : i < (heldD who T n).length) : ∃ j : Nat, j < n ∧ ((heldD who T n).getD i (0, 0)).1 = (j : Int) ∧ ((heldD who T n).getD i (0, 0)).2 = lookD who (T j).1 := by
  obtain ⟨j, h1, h2⟩ := held_mem who T n _ (show (heldD who T n).getD i (0, 0) ∈ heldD who T n by simp [List.getD, hi])
  exact ⟨j, h1, by rw [h2], by rw [h2]⟩
theorem held_rise (who : Int) (T : Nat → Lv) (n : Nat) {i : Nat} (hi : i + 1 < (heldD who T n).length) : ((heldD who T n).getD i (0, 0)).1 < ((heldD who T n).getD (i + 1) (0, 0)).1 := by
  have := List.pairwise_iff_getElem.1 (held_srt who T n) i (i + 1) (by omega) hi (by omega)
  simpa [List.getD, hi, show i < (heldD who T n).length by omega] using this
set_option maxRecDepth 100000 in
set_option maxHeartbeats 1000000 in
/-- SameLocks of two equal ones. -/
theorem same_yes (u v : Value) (l : List En) {B B' : Nat} (w : World) (hu : Pr 53 B u l w) (hv : Pr 53 B' v l w) (hn : l.length < 1000000) :
    Calls Try.prog 39 #[u, v] w fun e w' => e = .returned (.bool true) ∧ Below w.heap.size w w' := by
  obtain ⟨a1, c1, rfl⟩ := hu.form
  obtain ⟨a2, c2, rfl⟩ := hv.form
  replace hu := hide hu
  replace hv := hide hv
  go_enter Try.func39, Try.ntmps39
  go_wp2_with fail
  go_loopw [5] (fun s wr => ∃ i : Nat, i ≤ l.length ∧ s = .int .i64 i ∧ Hid (Below w.heap.size w wr)) (fun s _ => l.length - (intOf s).toNat)
  case atStart => exact ⟨0, Nat.zero_le _, rfl, Below.refl _ _⟩
  case round =>
    obtain ⟨i, hi, rfl, b3⟩ := hrel
    by_cases hlt : i < l.length
    · obtain ⟨g1, rfl, d1, d2, _⟩ := ((unhide hu).next (unhide b3)).elem hlt
      obtain ⟨g2, rfl, d3, d4, _⟩ := ((unhide hv).next (unhide b3)).elem hlt
      obtain ⟨x, hx⟩ : ∃ x, x = l.getD i (0, 0) := ⟨_, rfl⟩
      rw [← hx] at d1 d2 d3 d4
      replace hx := hide hx
      obtain ⟨x1, x2⟩ := x
      dsimp only at d1 d2 d3 d4
      go_wp2_with fail
      go_region
      all_goals
        go_wp2
        go_roundw
        case rel => exact ⟨i + 1, by omega, by go_num, (unhide b3).drew⟩
        case measure => simp [intOf]; omega
    · obtain rfl : i = l.length := by omega
      go_wp2
      go_ret
      exact ⟨rfl, unhide b3⟩
end Go.Proofs.Ytmdbmkekdpbliaa
