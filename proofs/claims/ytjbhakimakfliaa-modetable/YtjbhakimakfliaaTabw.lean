/- ModeTable's own three tables: what its loop leaves in memory. -/
import Derived.Test.YtjbhakimakfliaaFits
namespace Go.Proofs.Ytjbhakimakfliaa
open Go.RowKit

/-- Something below is written. -/
def someB (m : Int) : Bool := (m == 2) || (m == 4) || (m == 5)
/-- A table of six, the first k of which are told. -/
def tb (f : Int → Bool) (k : Nat) : Array Value := #[.bool (Nat.blt 0 k && f 0), .bool (Nat.blt 1 k && f 1), .bool (Nat.blt 2 k && f 2), .bool (Nat.blt 3 k && f 3), .bool (Nat.blt 4 k && f 4), .bool (Nat.blt 5 k && f 5)]
def tabW (w : World) (k : Nat) : World := ((w.alloc (.cells (tb readsB k) 31)).alloc (.cells (tb writesB k) 31)).alloc (.cells (tb someB k) 31)
theorem tabW_size (w : World) (k : Nat) : (tabW w k).heap.size = w.heap.size + 1 + 1 + 1 := by simp [tabW]
theorem tabW_below (w : World) (k : Nat) : Below w.heap.size w (tabW w k) :=
  below_add (below_add (below_new _ _) _) _
theorem tb_at (f : Int → Bool) (n : Nat) (h : n < 6) : (tb f 6)[n]? = some (.bool (f n)) := by
  rcases (show n = 0 ∨ n = 1 ∨ n = 2 ∨ n = 3 ∨ n = 4 ∨ n = 5 by omega) with rfl | rfl | rfl | rfl | rfl | rfl <;> simp [tb]
theorem tabW_cells (w : World) (n : Nat) (h : n < 6) :
    (tabW w 6).cell? ⟨w.heap.size, n, none⟩ = some (.bool (readsB n)) ∧ (tabW w 6).cell? ⟨w.heap.size + 1, n, none⟩ = some (.bool (writesB n)) ∧ (tabW w 6).cell? ⟨w.heap.size + 1 + 1, n, none⟩ = some (.bool (someB n)) := by
  have s1 : (w.alloc (.cells (tb readsB 6) 31)).heap.size = w.heap.size + 1 := by simp
  have s2 : ((w.alloc (.cells (tb readsB 6) 31)).alloc (.cells (tb writesB 6) 31)).heap.size = w.heap.size + 1 + 1 := by simp
  unfold tabW
  refine ⟨?_, ?_, ?_⟩
  · rw [(below_new _ _).cell (p := ⟨w.heap.size, n, none⟩) (by rw [s2]; exact Nat.lt_succ_of_lt (Nat.lt_succ_self _)), (below_new _ _).cell (p := ⟨w.heap.size, n, none⟩) (by rw [s1]; exact Nat.lt_succ_self _), World.cell?_alloc_new]
    exact tb_at _ n h
  · rw [(below_new _ _).cell (p := ⟨w.heap.size + 1, n, none⟩) (by rw [s2]; exact Nat.lt_succ_self _), ← s1, World.cell?_alloc_new]
    exact tb_at _ n h
  · rw [← s2, World.cell?_alloc_new]
    exact tb_at _ n h
/-- What may not go together. -/
def clashB (a b : Int) : Bool := writesB a || writesB b || readsB a && someB b || readsB b && someB a
theorem table_facts : ∀ i j : Fin 6, let a : Int := i.val; let b : Int := j.val; fitsB a b = (((a == 0) || (b == 0)) || !clashB a b) := by decide +kernel
end Go.Proofs.Ytjbhakimakfliaa
