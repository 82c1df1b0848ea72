/- CalcOrder of the empty list, and the whole of it. -/
import Derived.Test.YtkmcblhngnebpaaOrderb
namespace Go.Proofs.Ytkmcblhngnebpaa
open Go.RowKit

set_option maxRecDepth 100000 in
set_option maxHeartbeats 2000000 in
theorem order_nil (kind : Int) (w : World) (k1 : kind ≠ 1) (k3 : kind ≠ 3) :
    Calls Try.prog 4 #[.int .i64 kind, .slice none 0 0, .int .i64 0] w fun e w' => e = .returned (.bool true) ∧ Below w.heap.size w w' := by
  have d4 : (kind == 1) = false := beq_eq_false_iff_ne.2 k1
  have d5 : (kind == 3) = false := beq_eq_false_iff_ne.2 k3
  clear k1 k3
  go_enter Try.func4, Try.ntmps4
  go_wp2_with fail
  refine (first_any _).mono ?_
  rintro e w1 ⟨rfl, hb1⟩
  go_wp2
  go_loop [7, 8] (fun v i => v = .slice none 0 0 ∧ i = .int .i64 (-1)) (fun _ _ => 1)
  case atStart => exact ⟨rfl, rfl⟩
  case round =>
    obtain ⟨rfl, rfl⟩ := hrel
    generalize hr : evalL kind [] = r at *
    obtain ⟨r1, r2⟩ := r
    have HR := hide hr
    clear hr
    go_wp2_with fail
    refine (eval_is kind _ 0 _ [] _ r1 r2 (seg_nil _ _) (by decide) (Nat.zero_le _) (unhide HR).symm).mono ?_
    rintro e w2 ⟨rfl, hb2⟩
    go_wp2_with fail
    refine (eval_is kind _ 0 _ [] _ r1 r2 (seg_nil _ _) (by decide) (Nat.zero_le _) (unhide HR).symm).mono ?_
    rintro e w3 ⟨rfl, hb3'⟩
    have hb3 := bthen (bthen hb1 hb2) hb3'
    clear hb1 hb2 hb3'
    have hba : ∀ n, Below w3.heap.size w3 ((w3.alloc (.cells #[] 3)).drewN n) := fun n => below_drewN ((Below.refl w3.heap.size w3).alloc (Nat.le_refl _) _) n
    go_wp2
    go_region_held3 (fun _ => True) (trivial)
      (first
        | (refine step_append_seg _ (by rfl) (.tmp 67) (.tmp 70) (by rfl) w3.heap.size _ 0 [] (by rfl) (owns_start w3 _ (Nat.le_refl _)) _ _ _ _ (by rfl) (seg_nil _ _) (by simp) (by omega) (by simp) ?_; intro v4 w4 hown4 hgr4; rw [Nat.zero_add, List.nil_append] at hown4; have hb4 : Below w3.heap.size w3 w4 := (hba 1).grown hgr4 (by simp) (fun q hq => by simp [Value.ownBlock] at hq; omega))
        | (refine step_append_seg _ (by rfl) (.tmp 71) (.tmp 74) (by rfl) w3.heap.size _ _ _ (by rfl) hown4 _ _ _ _ (by rfl) (seg_nil _ _) (by simp) (by omega) hb4.size ?_; intro v5 w5 hown5 hgr5; rw [Nat.add_zero, List.nil_append] at hown5; have hb5 : Below w3.heap.size w3 w5 := hb4.grown hgr5 hb4.size (fun q hq => (hown4.lt q hq).1); obtain ⟨a6, cap6, rfl, hc6, _, hs6⟩ := owns_vals hown5)
        | (go_at_call 10; refine (eval_is kind a6 0 cap6 _ _ r1 r2 hs6 (by decide) hc6 (unhide HR).symm).mono ?_; rintro e w6 ⟨rfl, hb6⟩))
    go_wp2_with fail
    refine (first_any _).mono ?_
    rintro e w7 ⟨rfl, hb7⟩
    go_wp2
    go_ret
    exact ⟨rfl, bthen (bthen (bthen hb3 hb5) hb6) hb7⟩

set_option maxRecDepth 100000 in
set_option maxHeartbeats 2000000 in
theorem order_empty (kind : Int) (ad : Addr) (cap : Nat) (w : World) (k1 : kind ≠ 1) (k3 : kind ≠ 3) :
    Calls Try.prog 4 #[.int .i64 kind, .slice (some ad) 0 cap, .int .i64 0] w fun e w' => e = .returned (.bool true) ∧ Below w.heap.size w w' := by
  have d4 : (kind == 1) = false := beq_eq_false_iff_ne.2 k1
  have d5 : (kind == 3) = false := beq_eq_false_iff_ne.2 k3
  clear k1 k3
  go_enter Try.func4, Try.ntmps4
  go_wp2_with fail
  refine (first_any _).mono ?_
  rintro e w1 ⟨rfl, hb1⟩
  go_wp2
  go_loop [7, 8] (fun v i => v = .slice none 0 0 ∧ i = .int .i64 (-1)) (fun _ _ => 1)
  case atStart => exact ⟨rfl, rfl⟩
  case round =>
    obtain ⟨rfl, rfl⟩ := hrel
    generalize hr : evalL kind [] = r at *
    obtain ⟨r1, r2⟩ := r
    have HR := hide hr
    clear hr
    go_wp2_with fail
    refine (eval_is kind _ 0 _ [] _ r1 r2 (seg_nil _ _) (by decide) (Nat.zero_le _) (unhide HR).symm).mono ?_
    rintro e w2 ⟨rfl, hb2⟩
    go_wp2_with fail
    refine (eval_is kind _ 0 _ [] _ r1 r2 (seg_nil _ _) (by decide) (Nat.zero_le _) (unhide HR).symm).mono ?_
    rintro e w3 ⟨rfl, hb3'⟩
    have hb3 := bthen (bthen hb1 hb2) hb3'
    clear hb1 hb2 hb3'
    have hba : ∀ n, Below w3.heap.size w3 ((w3.alloc (.cells #[] 3)).drewN n) := fun n => below_drewN ((Below.refl w3.heap.size w3).alloc (Nat.le_refl _) _) n
    go_wp2
    by_cases hck : cap = 0
    · subst hck
      go_region_held3 (fun _ => True) (trivial)
        (first
          | (refine step_append_seg _ (by rfl) (.tmp 67) (.tmp 70) (by rfl) w3.heap.size _ 0 [] (by rfl) (owns_start w3 _ (Nat.le_refl _)) _ _ _ _ (by rfl) (seg_nil _ _) (by simp) (by omega) (by simp) ?_; intro v4 w4 hown4 hgr4; rw [Nat.zero_add, List.nil_append] at hown4; have hb4 : Below w3.heap.size w3 w4 := (hba 1).grown hgr4 (by simp) (fun q hq => by simp [Value.ownBlock] at hq; omega))
          | (refine step_append_seg _ (by rfl) (.tmp 71) (.tmp 74) (by rfl) w3.heap.size _ _ _ (by rfl) hown4 _ _ _ _ (by rfl) (seg_nil _ _) (by simp) (by omega) hb4.size ?_; intro v5 w5 hown5 hgr5; rw [Nat.add_zero, List.nil_append] at hown5; have hb5 : Below w3.heap.size w3 w5 := hb4.grown hgr5 hb4.size (fun q hq => (hown4.lt q hq).1); obtain ⟨a6, cap6, rfl, hc6, _, hs6⟩ := owns_vals hown5)
          | (go_at_call 10; refine (eval_is kind a6 0 cap6 _ _ r1 r2 hs6 (by decide) hc6 (unhide HR).symm).mono ?_; rintro e w6 ⟨rfl, hb6⟩))
      go_wp2_with fail
      refine (first_any _).mono ?_
      rintro e w7 ⟨rfl, hb7⟩
      go_wp2
      go_ret
      exact ⟨rfl, bthen (bthen (bthen hb3 hb5) hb6) hb7⟩
    · have hck0 : (cap == 0) = false := by simpa using hck
      go_region_held3 (fun _ => True) (trivial)
        (first
          | (refine step_append_seg _ (by rfl) (.tmp 67) (.tmp 70) (by rfl) w3.heap.size _ 0 [] (by rfl) (owns_start w3 _ (Nat.le_refl _)) _ _ _ _ (by rfl) (seg_nil _ _) (by simp) (by omega) (by simp) ?_; intro v4 w4 hown4 hgr4; rw [Nat.zero_add, List.nil_append] at hown4; have hb4 : Below w3.heap.size w3 w4 := (hba 1).grown hgr4 (by simp) (fun q hq => by simp [Value.ownBlock] at hq; omega))
          | (refine step_append_seg _ (by rfl) (.tmp 71) (.tmp 74) (by rfl) w3.heap.size _ _ _ (by rfl) hown4 _ _ _ _ (by rfl) (seg_nil _ _) (by simp) (by omega) hb4.size ?_; intro v5 w5 hown5 hgr5; rw [Nat.add_zero, List.nil_append] at hown5; have hb5 : Below w3.heap.size w3 w5 := hb4.grown hgr5 hb4.size (fun q hq => (hown4.lt q hq).1); obtain ⟨a6, cap6, rfl, hc6, _, hs6⟩ := owns_vals hown5)
          | (go_at_call 10; refine (eval_is kind a6 0 cap6 _ _ r1 r2 hs6 (by decide) hc6 (unhide HR).symm).mono ?_; rintro e w6 ⟨rfl, hb6⟩))
      go_wp2_with fail
      refine (first_any _).mono ?_
      rintro e w7 ⟨rfl, hb7⟩
      go_wp2
      go_ret
      exact ⟨rfl, bthen (bthen (bthen hb3 hb5) hb6) hb7⟩

theorem calcOrder_walk (kind : Int) (a : Option Addr) (len cap : Nat) (l : List Int) (at_ : Int) (w : World) (_w0 : (Lit.int .i64 kind).wf = true) (hs : Seg w a len l) (hlc : len ≤ cap) (hcm : cap ≤ maxLen) (hnil : a = none → cap = 0) (_w2 : (Lit.int .i64 at_).wf = true) :
    Calls Try.prog 4 #[.int .i64 kind, .slice a len cap, .int .i64 at_] w fun e w' => e = .returned (.bool true) ∧ Below w.heap.size w w' := by
  by_cases hbad : (len : Int) ≤ 1000 ∧ 0 ≤ at_ ∧ at_ ≤ len ∧ kind ≠ 1 ∧ kind ≠ 3
  · obtain ⟨h3, h1, h2, k1, k3⟩ := hbad
    obtain ⟨k, rfl⟩ := Int.eq_ofNat_of_zero_le h1
    rcases hs.2 with h | ⟨b, off, rfl, _⟩
    · subst h
      obtain rfl : k = 0 := by omega
      cases a with
      | none =>
        obtain rfl := hnil rfl
        exact order_nil kind w k1 k3
      | some ad => exact order_empty kind ad cap w k1 k3
    · exact order_in kind b off len cap k l w hs hlc hcm (by omega) (by omega) k1 k3
  · exact order_out kind a len cap at_ w hbad (Nat.le_trans hlc hcm)
end Go.Proofs.Ytkmcblhngnebpaa
