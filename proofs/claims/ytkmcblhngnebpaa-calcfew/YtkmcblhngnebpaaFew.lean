/- The walk of CalcFew: it answers true. -/
import Derived.Test.YtkmcblhngnebpaaFirst
import Derived.Test.YtkmcblhngnebpaaMathb
namespace Go.Proofs.Ytkmcblhngnebpaa
open Go.RowKit

/-- Eval of one number, or of two, that the caller lays in a new array. -/
theorem eval_new1 (kind n : Int) (w : World) {r : Int × Int} (h : evalL kind [n] = r) :
    Calls Try.prog 10 #[.int .i64 kind, .slice (some ⟨w.heap.size, 0, none⟩) 1 1] (w.alloc (.cells #[.int .i64 n] 3)) fun e w' => e = .returned (.tuple #[.int .i64 r.1, .int .i64 r.2]) ∧ Below w.heap.size w w' := by
  subst h
  refine (eval_any kind _ 1 1 [n] _ (seg_one w n) (by decide) (by decide)).mono ?_
  rintro e w' ⟨rfl, m, rfl⟩
  exact ⟨rfl, below_drewN ((Below.refl _ _).alloc (Nat.le_refl _) _) _⟩
theorem eval_new2 (kind n k : Int) (w : World) {r : Int × Int} (h : evalL kind [n, k] = r) :
    Calls Try.prog 10 #[.int .i64 kind, .slice (some ⟨w.heap.size, 0, none⟩) 2 2] (w.alloc (.cells #[.int .i64 n, .int .i64 k] 3)) fun e w' => e = .returned (.tuple #[.int .i64 r.1, .int .i64 r.2]) ∧ Below w.heap.size w w' := by
  subst h
  refine (eval_any kind _ 2 2 [n, k] _ (seg_two w n k) (by decide) (by decide)).mono ?_
  rintro e w' ⟨rfl, m, rfl⟩
  exact ⟨rfl, below_drewN ((Below.refl _ _).alloc (Nat.le_refl _) _) _⟩
theorem evalL_known2 (kind n : Int) (h : knownB kind = true) : evalL kind [n] = ((evalL kind [n]).1, 0) := by rw [← evalL_known kind n h]
/-- One behind the other. -/
theorem bthen {w w1 w2 : World} (h : Below w.heap.size w w1) (k : Below w1.heap.size w1 w2) : Below w.heap.size w w2 := h.trans (k.mono h.size)

def few : List Int := [0, 1, 2, 5, 6, 7, 8]
theorem few_at (k : Nat) (h : k < 7) : Joins (few.getD k 0) ∨ few.getD k 0 = 1 := by
  match k, h with
  | 0, _ => exact .inl (.inl rfl)
  | 1, _ => exact .inr rfl
  | 2, _ => exact .inl (.inr (.inl rfl))
  | 3, _ => exact .inl (.inr (.inr (.inl rfl)))
  | 4, _ => exact .inl (.inr (.inr (.inr (.inl rfl))))
  | 5, _ => exact .inl (.inr (.inr (.inr (.inr (.inl rfl)))))
  | 6, _ => exact .inl (.inr (.inr (.inr (.inr (.inr rfl)))))
def fewCells : Array Value := #[.int .i64 0, .int .i64 1, .int .i64 2, .int .i64 5, .int .i64 6, .int .i64 7, .int .i64 8]
theorem fewCells_at (k : Nat) (h : k < 7) : fewCells[k]? = some (.int .i64 (few.getD k 0)) := by
  match k, h with
  | 0, _ => rfl
  | 1, _ => rfl
  | 2, _ => rfl
  | 3, _ => rfl
  | 4, _ => rfl
  | 5, _ => rfl
  | 6, _ => rfl

set_option maxHeartbeats 1000000 in
theorem calcFew_walk (n kind : Int) (w : World) (w0 : (Lit.int .i64 n).wf = true) (_w1 : (Lit.int .i64 kind).wf = true) :
    Calls Try.prog 7 #[.int .i64 n, .int .i64 kind] w fun e w' => e = .returned (.bool true) ∧ Below w.heap.size w w' := by
  have hn : In n := in_of_wf w0
  go_enter Try.func7, Try.ntmps7
  go_wp2_with fail
  refine (first_any _).mono ?_
  rintro e w1 ⟨rfl, hb1⟩
  go_wp2
  go_loopw [6] (fun i w' => ∃ k : Nat, k ≤ 7 ∧ i = .int .i64 k ∧ Below (w1.heap.size + 1) (w1.alloc (.cells fewCells 3)) w') (fun i _ => 7 - (intOf i).toNat)
  case atStart => exact ⟨0, by omega, rfl, Below.refl _ _⟩
  case round =>
    obtain ⟨k, hk, rfl, hb⟩ := hrel
    have hsz : w1.heap.size + 1 ≤ wr.heap.size := by have := hb.size; simpa using this
    by_cases hlt : k < 7
    · obtain ⟨q, hq, hcell⟩ : ∃ q, (Joins q ∨ q = 1) ∧ wr.cell? ⟨w1.heap.size, k, none⟩ = some (.int .i64 q) :=
        ⟨_, few_at k hlt, by rw [hb.cell (p := ⟨w1.heap.size, k, none⟩) (by simp), World.cell?_alloc_new, fewCells_at k hlt]⟩
      have E := hide (evalL_one q hq n hn)
      go_wp2_with fail
      refine (eval_any q _ 1 1 [n] _ (seg_one wr n) (by decide) (by decide)).mono ?_
      rw [unhide E]
      rintro e w2 ⟨rfl, m, rfl⟩
      go_wp2
      go_roundw
      case rel => exact ⟨k + 1, by omega, by go_num, below_drewN (hb.alloc hsz _) _⟩
      case measure => simp [intOf]; omega
    · have hb2 : Below w.heap.size w wr := bthen hb1 (((Below.refl _ _).alloc (Nat.le_refl _) _).trans (hb.mono (by omega)))
      have E1 := hide (evalL_sub n hn)
      have E2 := hide (evalL_equal n)
      have E3 := hide (evalL_less n)
      clear hb hsz hb1
      go_wp2_with fail
      refine (eval_new2 1 n n wr (unhide E1)).mono ?_
      rintro e w2 ⟨rfl, hb3⟩
      go_wp2_with fail
      refine (eval_new2 4 n n w2 (unhide E2)).mono ?_
      rintro e w3 ⟨rfl, hb4⟩
      go_wp2_with fail
      refine (eval_new2 3 n n w3 (unhide E3)).mono ?_
      rintro e w4 ⟨rfl, hb5⟩
      have hb6 := bthen (bthen (bthen hb2 hb3) hb4) hb5
      clear hb2 hb3 hb4 hb5
      by_cases h0 : 0 ≤ kind
      · by_cases h9 : kind < 9
        · have HK := hide (show knownB kind = true from decide_eq_true ⟨h0, by omega⟩)
          have E4 := hide (evalL_known2 kind n (unhide HK))
          go_wp2_with fail
          refine (eval_new1 kind n w4 (unhide E4)).mono ?_
          rintro e w5 ⟨rfl, hb7⟩
          go_wp2_with fail
          refine (first_any _).mono ?_
          rintro e w6 ⟨rfl, hb8⟩
          go_wp2_with fail
          refine (known_any kind _).mono ?_
          rw [unhide HK]
          rintro e w7 ⟨rfl, rfl⟩
          go_wp2_with fail
          refine (known_any kind _).mono ?_
          rw [unhide HK]
          rintro e w8 ⟨rfl, rfl⟩
          go_wp2
          go_ret
          exact ⟨rfl, bthen (bthen hb6 hb7) hb8⟩
        · have HK := hide (show knownB kind = false from decide_eq_false (by omega))
          have E4 := hide (evalL_unknown kind [n] (unhide HK))
          have d9 : decide (kind < 9) = false := decide_eq_false h9
          go_wp2_with fail
          refine (eval_new1 kind n w4 (unhide E4)).mono ?_
          rintro e w5 ⟨rfl, hb7⟩
          go_wp2_with fail
          refine (first_any _).mono ?_
          rintro e w6 ⟨rfl, hb8⟩
          go_wp2_with fail
          refine (known_any kind _).mono ?_
          rw [unhide HK]
          rintro e w7 ⟨rfl, rfl⟩
          go_wp2_with fail
          refine (known_any kind _).mono ?_
          rw [unhide HK]
          rintro e w8 ⟨rfl, rfl⟩
          go_wp2
          go_ret
          exact ⟨rfl, bthen (bthen hb6 hb7) hb8⟩
      · have HK := hide (show knownB kind = false from decide_eq_false (by omega))
        have E4 := hide (evalL_unknown kind [n] (unhide HK))
        have d0 : decide (0 ≤ kind) = false := decide_eq_false h0
        go_wp2_with fail
        refine (eval_new1 kind n w4 (unhide E4)).mono ?_
        rintro e w5 ⟨rfl, hb7⟩
        go_wp2_with fail
        refine (first_any _).mono ?_
        rintro e w6 ⟨rfl, hb8⟩
        go_wp2_with fail
        refine (known_any kind _).mono ?_
        rw [unhide HK]
        rintro e w7 ⟨rfl, rfl⟩
        go_wp2_with fail
        refine (known_any kind _).mono ?_
        rw [unhide HK]
        rintro e w8 ⟨rfl, rfl⟩
        go_wp2
        go_ret
        exact ⟨rfl, bthen (bthen hb6 hb7) hb8⟩
end Go.Proofs.Ytkmcblhngnebpaa
