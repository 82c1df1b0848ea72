/- LaneTurns' walk as the closing text wants it. -/
import Derived.Test.YtbmoapeeahigkaaTrn
namespace Go.Proofs.Ytbmoapeeahigkaa
open Go.RowKit

theorem pair_eta (r : Int × List En × List En) {x : Int} (h : r.1 = x) : r = (x, r.2.1, r.2.2) := by subst h; rfl
theorem laneTurns_walk (a b m : Int) (w : World) (_ : (Lit.int .i64 a).wf = true) (_ : (Lit.int .i64 b).wf = true) (_ : (Lit.int .i64 m).wf = true) : Calls Try.prog 7 #[.int .i64 a, .int .i64 b, .int .i64 m] w fun e w' => e = .returned (.bool true) ∧ Below w.heap.size w w' := by
  by_cases h : (1 ≤ a ∧ a ≤ 5) ∧ (1 ≤ b ∧ b ≤ 5) ∧ (1 ≤ m ∧ m ≤ 5)
  · obtain ⟨ha, hb, hm⟩ := h
    have hk : tok a b m = true := by
      have := tok_all ⟨(a - 1).toNat, by omega⟩ ⟨(b - 1).toNat, by omega⟩ ⟨(m - 1).toNat, by omega⟩
      simp only at this
      rwa [show (((a - 1).toNat : Nat) : Int) + 1 = a by omega, show (((b - 1).toNat : Nat) : Int) + 1 = b by omega, show (((m - 1).toNat : Nat) : Int) + 1 = m by omega] at this
    unfold tok at hk
    simp only [Bool.and_eq_true, decide_eq_true_eq, beq_iff_eq] at hk
    obtain ⟨⟨⟨⟨⟨⟨⟨⟨⟨k1, k2⟩, k3⟩, k4⟩, k5⟩, k6⟩, k7⟩, k8⟩, k9⟩, k10⟩ := hk
    have e2 : askD 2 b [(1, a)] [] = ((t2 a b).1, (t2 a b).2.1, (t2 a b).2.2) := rfl
    have e3 : askD 3 5 (t2 a b).2.1 (t2 a b).2.2 = (2, (t3 a b).2.1, (t3 a b).2.2) := pair_eta (t3 a b) k3
    cases h4 : ((t4 a b m).1 == 1)
    · have h42 : (t4 a b m).1 = 2 := by rw [h4] at k5; simpa using k5
      have e4 : askD 1 m (t3 a b).2.1 (t3 a b).2.2 = (2, (t4 a b m).2.1, (t4 a b m).2.2) := pair_eta (t4 a b m) h42
      rw [h4] at k4
      rw [if_neg (by rw [h42]; decide)] at k6
      simp only [Bool.and_eq_true, decide_eq_true_eq, beq_iff_eq] at k6
      obtain ⟨⟨⟨⟨⟨c1, c2⟩, c3⟩, c4⟩, c5⟩, c6⟩ := k6
      have e5 : leaveD 2 (t4 a b m).2.1 (t4 a b m).2.2 = ([1], (t5 a b m).2.1, (t5 a b m).2.2) := by rw [← c5]; rfl
      refine turn_b a b m (tt a m) _ _ _ _ _ _ _ (fitsB a b) (tt a m == a) (fitsB (tt a m) b) w ha hb hm k1 e2 k2 rfl e3 rfl e4 rfl rfl ?_ k7 k8 k9 c2 c1 c3 c4 _ _ e5 c6 k10
      rw [← k2]; exact k4.symm
    · have h41 : (t4 a b m).1 = 1 := by simpa using h4
      have e4 : askD 1 m (t3 a b).2.1 (t3 a b).2.2 = (1, (t4 a b m).2.1, (t4 a b m).2.2) := pair_eta (t4 a b m) h41
      rw [h4] at k4
      rw [if_pos h41] at k6
      simp only [Bool.and_eq_true, decide_eq_true_eq, beq_iff_eq, Bool.not_eq_true'] at k6
      obtain ⟨⟨c1, c2⟩, c3⟩ := k6
      rw [k2] at k4
      cases hfb : fitsB a b
      · rw [hfb] at k2
        cases het : (tt a m == a)
        · exact turn_a_ff a b m (tt a m) _ _ _ _ _ _ _ w ha hb hm k1 e2 k2 hfb e3 rfl e4 het _ rfl k7 k8 k9 c2 c1 c3
        · exact turn_a_ft a b m (tt a m) _ _ _ _ _ _ _ w ha hb hm k1 e2 k2 hfb e3 rfl e4 het _ rfl k7 k8 k9 c2 c1 c3
      · rw [hfb] at k2 k4
        cases hfa : fitsB (tt a m) b
        · cases het : (tt a m == a)
          · rw [hfa, het] at k4; simp at k4
          · exact turn_a_tft a b m (tt a m) _ _ _ _ _ _ _ w ha hb hm k1 e2 k2 hfb e3 rfl e4 het hfa k7 k8 k9 c2 c1 c3
        · cases het : (tt a m == a)
          · exact turn_a_ttf a b m (tt a m) _ _ _ _ _ _ _ w ha hb hm k1 e2 k2 hfb e3 rfl e4 het hfa k7 k8 k9 c2 c1 c3
          · exact turn_a_ttt a b m (tt a m) _ _ _ _ _ _ _ w ha hb hm k1 e2 k2 hfb e3 rfl e4 het hfa k7 k8 k9 c2 c1 c3
  · exact turn_out a b m w (by omega)
end Go.Proofs.Ytbmoapeeahigkaa
