/- CalcOrder within its bounds. -/
import Derived.Test.YtkmcblhngnebpaaOrder
namespace Go.Proofs.Ytkmcblhngnebpaa
open Go.RowKit

theorem rev_step (l : List Int) (k : Nat) (h0 : 0 < k) (hk : k ≤ l.length) : (l.drop k).reverse ++ [l.getD (k - 1) 0] = (l.drop (k - 1)).reverse := by
  rw [← List.getElem_cons_drop (show k - 1 < l.length by omega), List.reverse_cons, show k - 1 + 1 = k from by omega, getD_at l (k - 1) (by omega)]
theorem rev_perm (l : List Int) : l.Perm (l.drop 0).reverse := by
  rw [List.drop_zero]; exact l.reverse_perm.symm
theorem turn_perm (l : List Int) (k : Nat) : l.Perm (l.drop k ++ l.take k) := by
  have h : (l.take k ++ l.drop k).Perm (l.drop k ++ l.take k) := List.perm_append_comm
  rwa [List.take_append_drop] at h
theorem seg_end {w : World} {b off len : Nat} {l : List Int} (hs : Seg w (some ⟨b, off, none⟩) len l) (k : Nat) (_hk : k ≤ len) (h : len ≤ k) : Seg w (some ⟨b, off, none⟩) (len - k) (l.drop k) :=
  ⟨by rw [List.length_drop, hs.1], .inl (by omega)⟩
theorem seg_drop2 {w : World} {b off len : Nat} {l : List Int} (hs : Seg w (some ⟨b, off, none⟩) len l) (k : Nat) (hk : k ≤ len) : Seg w (some ⟨b, off + k, none⟩) (len - k) (l.drop k) := by
  by_cases h : k < len
  · exact seg_drop hs k h
  · exact ⟨by rw [List.length_drop, hs.1], .inl (by omega)⟩
theorem eval_is (kind : Int) (a : Option Addr) (len cap : Nat) (l : List Int) (w : World) (r1 r2 : Int) (hs : Seg w a len l) (hm : len ≤ maxLen) (hcap : len ≤ cap) (h : (r1, r2) = evalL kind l) :
    Calls Try.prog 10 #[.int .i64 kind, .slice a len cap] w fun e w' => e = .returned (.tuple #[.int .i64 r1, .int .i64 r2]) ∧ Below w.heap.size w w' := by
  refine (eval_any kind a len cap l w hs hm hcap).mono ?_
  rw [← h]
  rintro e w' ⟨rfl, n, rfl⟩
  exact ⟨rfl, below_drewN (Below.refl _ _) _⟩

set_option maxRecDepth 100000 in
set_option maxHeartbeats 2000000 in
theorem order_in (kind : Int) (b off len cap k : Nat) (l : List Int) (w : World) (hs : Seg w (some ⟨b, off, none⟩) len l) (hlc : len ≤ cap) (hcm : cap ≤ maxLen) (h2 : k ≤ len) (h3 : len ≤ 1000) (k1 : kind ≠ 1) (k3 : kind ≠ 3) :
    Calls Try.prog 4 #[.int .i64 kind, .slice (some ⟨b, off, none⟩) len cap, .int .i64 k] w fun e w' => e = .returned (.bool true) ∧ Below w.heap.size w w' := by
  have d1 : decide ((1000 : Int) < (len : Int)) = false := decide_eq_false (by omega)
  have d2 : decide ((k : Int) < 0) = false := decide_eq_false (by omega)
  have d3 : decide ((len : Int) < (k : Int)) = false := decide_eq_false (by omega)
  have d3' : decide (len < k) = false := decide_eq_false (by omega)
  have d4 : (kind == 1) = false := beq_eq_false_iff_ne.2 k1
  have d5 : (kind == 3) = false := beq_eq_false_iff_ne.2 k3
  have hkc : (k : Int) ≤ (cap : Int) := by omega
  have hkl : (k : Int) ≤ (len : Int) := by omega
  have hk0 : (0 : Int) ≤ (k : Int) := by omega
  have m1 : len ≤ maxLen := by omega
  have hlen := hide hs.1
  have P1 := hide (evalL_perm kind (rev_perm l) k1 k3)
  have P2 := hide (evalL_perm kind (turn_perm l k) k1 k3)
  clear k1 k3
  go_enter Try.func4, Try.ntmps4
  go_wp2_with fail
  refine (first_any _).mono ?_
  rintro e w1 ⟨rfl, hb1⟩
  have hs1 := hs.later hb1
  go_wp2
  go_loopw [7, 8] (fun v i w' => ∃ j : Nat, j ≤ len ∧ i = .int .i64 ((j : Int) - 1) ∧ w'.ownsRow w1.heap.size 3 1 v (len - j) (vals (l.drop j).reverse) ∧ Below w1.heap.size w1 w') (fun _ i _ => (intOf i + 1).toNat)
  case atStart => exact ⟨len, Nat.le_refl _, rfl, by rw [List.drop_of_length_le (by rw [unhide hlen]; exact Nat.le_refl _), Nat.sub_self]; exact World.ownsRow_nil _ _ _ _, Below.refl _ _⟩
  case round =>
    obtain ⟨j, hj, rfl, hown, hb⟩ := hrel
    by_cases hlt : 0 < j
    · have hcell : wr.cell? ⟨b, off + (j - 1), none⟩ = some (.int .i64 (l.getD (j - 1) 0)) := by
        rcases (hs1.later hb).2 with h | ⟨b', off', he, hc⟩
        · omega
        · obtain ⟨rfl, rfl⟩ : b = b' ∧ off = off' := by simpa using he
          exact hc (j - 1) (by omega)
      have RS := hide (rev_step l j hlt (by rw [unhide hlen]; exact hj))
      generalize l.getD (j - 1) 0 = x at *
      have hjI : (0 : Int) < (j : Int) := by omega
      have hjl : (j : Int) ≤ (len : Int) := by omega
      have dj : decide ((0 : Int) ≤ (j : Int) - 1) = true := decide_eq_true (by omega)
      go_wp2_with (at_builtin; refine wpList_append_seg _ rfl _ _ rfl w1.heap.size _ _ _ rfl (hown.alloc _) _ 1 1 [x] rfl (seg_one wr x) (by simp) ?c2 ?c3 ?_)
      case c2 => omega
      case c3 => have := hb.size; simp; omega
      intro v2 w2 hown2 hgr2
      rw [unhide RS, show len - j + 1 = len - (j - 1) from by omega] at hown2
      have hb2 : Below w1.heap.size w1 w2 := (hb.alloc hb.size _).grown hgr2 (by have := hb.size; simp; omega) (fun q hq => (hown.lt q hq).1)
      go_wp2
      go_roundw
      case rel => exact ⟨j - 1, by omega, by rw [show ((j - 1 : Nat) : Int) - 1 = (j : Int) - 1 - 1 from by omega], hown2, hb2⟩
      case measure => simp [intOf]; omega
    · obtain rfl : j = 0 := by omega
      rw [Nat.sub_zero] at hown
      obtain ⟨a3, cap3, rfl, hc3, _, hs3⟩ := owns_vals hown
      have hs4 := hs1.later hb
      clear hown
      go_wp2_with fail
      refine (eval_any kind _ _ _ _ wr hs4 m1 hlc).mono ?_
      rintro e w2 ⟨rfl, t2, rfl⟩
      go_wp2_with fail
      refine (eval_any kind a3 len cap3 _ (wr.drewN t2) hs3 m1 hc3).mono ?_
      rw [← unhide P1]
      rintro e w3 ⟨rfl, t3, hw3⟩
      have hb3 : Below w.heap.size w w3 := bthen (bthen hb1 hb) (by rw [hw3]; exact below_drewN (below_drewN (Below.refl _ _) _) _)
      clear hw3 hs3 hs4 hb hb1
      have hs5 := hs.later hb3
      generalize hr : evalL kind l = r at *
      obtain ⟨r1, r2⟩ := r
      have HR := hide hr
      clear hr
      go_wp2
      have hba : ∀ n, Below w3.heap.size w3 ((w3.alloc (.cells #[] 3)).drewN n) := fun n => below_drewN ((Below.refl w3.heap.size w3).alloc (Nat.le_refl _) _) n
      by_cases hck : cap = k
      · have hsd := fun (n : Nat) => seg_end (hs5.later (hba n)) k h2 (by omega)
        go_region_held3 (fun _ => True) (trivial)
          (first
            | (refine step_append_seg _ (by rfl) (.tmp 67) (.tmp 70) (by rfl) w3.heap.size _ 0 [] (by rfl) (owns_start w3 _ (Nat.le_refl _)) _ _ _ _ (by rfl) (hsd 1) (fun h => by cases h) (by omega) (by simp) ?_; intro v4 w4 hown4 hgr4; rw [Nat.zero_add, List.nil_append] at hown4; have hb4 : Below w3.heap.size w3 w4 := (hba 1).grown hgr4 (by simp) (fun q hq => by simp [Value.ownBlock] at hq; omega); have hst4 := seg_take (hs5.later hb4) k h2)
            | (refine step_append_seg _ (by rfl) (.tmp 71) (.tmp 74) (by rfl) w3.heap.size _ _ _ (by rfl) hown4 _ _ _ _ (by rfl) hst4 (by simp) (by omega) hb4.size ?_; intro v5 w5 hown5 hgr5; rw [Nat.sub_add_cancel h2] at hown5; have hb5 : Below w3.heap.size w3 w5 := hb4.grown hgr5 hb4.size (fun q hq => (hown4.lt q hq).1); obtain ⟨a6, cap6, rfl, hc6, _, hs6⟩ := owns_vals hown5)
            | (go_at_call 10; refine (eval_is kind a6 len cap6 _ _ r1 r2 hs6 m1 hc6 (unhide P2)).mono ?_; rintro e w6 ⟨rfl, hb6⟩))
        go_wp2_with fail
        refine (first_any _).mono ?_
        rintro e w7 ⟨rfl, hb7⟩
        go_wp2
        go_ret
        exact ⟨rfl, bthen (bthen (bthen hb3 hb5) hb6) hb7⟩
      · have hsd := fun (n : Nat) => seg_drop2 (hs5.later (hba n)) k h2
        go_region_held3 (fun _ => True) (trivial)
          (first
            | (refine step_append_seg _ (by rfl) (.tmp 67) (.tmp 70) (by rfl) w3.heap.size _ 0 [] (by rfl) (owns_start w3 _ (Nat.le_refl _)) _ _ _ _ (by rfl) (hsd 1) (fun h => by cases h) (by omega) (by simp) ?_; intro v4 w4 hown4 hgr4; rw [Nat.zero_add, List.nil_append] at hown4; have hb4 : Below w3.heap.size w3 w4 := (hba 1).grown hgr4 (by simp) (fun q hq => by simp [Value.ownBlock] at hq; omega); have hst4 := seg_take (hs5.later hb4) k h2)
            | (refine step_append_seg _ (by rfl) (.tmp 71) (.tmp 74) (by rfl) w3.heap.size _ _ _ (by rfl) hown4 _ _ _ _ (by rfl) hst4 (by simp) (by omega) hb4.size ?_; intro v5 w5 hown5 hgr5; rw [Nat.sub_add_cancel h2] at hown5; have hb5 : Below w3.heap.size w3 w5 := hb4.grown hgr5 hb4.size (fun q hq => (hown4.lt q hq).1); obtain ⟨a6, cap6, rfl, hc6, _, hs6⟩ := owns_vals hown5)
            | (go_at_call 10; refine (eval_is kind a6 len cap6 _ _ r1 r2 hs6 m1 hc6 (unhide P2)).mono ?_; rintro e w6 ⟨rfl, hb6⟩))
        go_wp2_with fail
        refine (first_any _).mono ?_
        rintro e w7 ⟨rfl, hb7⟩
        go_wp2
        go_ret
        exact ⟨rfl, bthen (bthen (bthen hb3 hb5) hb6) hb7⟩
end Go.Proofs.Ytkmcblhngnebpaa
