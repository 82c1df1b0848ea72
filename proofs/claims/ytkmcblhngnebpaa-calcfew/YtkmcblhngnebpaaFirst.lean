/- The statements' own helper 'first' answers true, whatever the world. -/
import Derived.Test.YtkmcblhngnebpaaEval
import Derived.Below
namespace Go.Proofs.Ytkmcblhngnebpaa
open Go.RowKit

theorem Seg.later {w w' : World} {a : Option Addr} {len : Nat} {l : List Int} (h : Seg w a len l) (hb : Below w.heap.size w w') : Seg w' a len l := by
  rcases h.2 with h0 | ⟨b, off, rfl, hc⟩
  · exact ⟨h.1, .inl h0⟩
  · exact ⟨h.1, .inr ⟨b, off, rfl, fun i hi => cell_later hb (hc i hi)⟩⟩
theorem seg_nil (w : World) (a : Option Addr) : Seg w a 0 [] := ⟨rfl, .inl rfl⟩

theorem seg_new (w : World) (vs : Array Value) (l : List Int) (h : ∀ i, i < l.length → vs[i]? = some (.int .i64 (l.getD i 0))) :
    Seg (w.alloc (.cells vs 3)) (some ⟨w.heap.size, 0, none⟩) l.length l :=
  ⟨rfl, .inr ⟨w.heap.size, 0, rfl, fun i hi => by rw [Nat.zero_add, World.cell?_alloc_new]; exact h i hi⟩⟩
theorem seg_one (w : World) (x : Int) : Seg (w.alloc (.cells #[.int .i64 x] 3)) (some ⟨w.heap.size, 0, none⟩) 1 [x] :=
  seg_new w _ [x] fun i hi => by
    obtain rfl : i = 0 := by simpa using hi
    rfl
theorem seg_two (w : World) (x y : Int) : Seg (w.alloc (.cells #[.int .i64 x, .int .i64 y] 3)) (some ⟨w.heap.size, 0, none⟩) 2 [x, y] :=
  seg_new w _ [x, y] fun i hi => by
    match i, hi with
    | 0, _ => rfl
    | 1, _ => rfl
theorem seg_three (w : World) (x y z : Int) : Seg (w.alloc (.cells #[.int .i64 x, .int .i64 y, .int .i64 z] 3)) (some ⟨w.heap.size, 0, none⟩) 3 [x, y, z] :=
  seg_new w _ [x, y, z] fun i hi => by
    match i, hi with
    | 0, _ => rfl
    | 1, _ => rfl
    | 2, _ => rfl

theorem first_any (w : World) : Calls Try.prog 9 #[] w fun e w' => e = .returned (.bool true) ∧ Below w.heap.size w w' := by
  have e1 : evalL 1 [9, 2, 3] = (4, 0) := by simp [evalL, diffL, sumL, wrap64]
  have e2 : evalL 7 [] = (0, 1) := by simp [evalL]
  have E1 := hide e1
  have E2 := hide e2
  clear e1 e2
  go_enter Try.func9, Try.ntmps9
  go_wp2_with fail
  refine (eval_any 1 _ 3 3 [9, 2, 3] _ (seg_three w 9 2 3) (by decide) (by decide)).mono ?_
  rw [unhide E1]
  rintro e w' ⟨rfl, n, rfl⟩
  go_wp2_with fail
  refine (eval_any 7 _ 0 0 [] _ (seg_nil _ _) (by decide) (by decide)).mono ?_
  rw [unhide E2]
  rintro e w' ⟨rfl, n2, rfl⟩
  go_wp2
  go_ret
  exact ⟨rfl, below_drewN ((Below.refl _ _).alloc (Nat.le_refl _) _) _⟩
end Go.Proofs.Ytkmcblhngnebpaa
