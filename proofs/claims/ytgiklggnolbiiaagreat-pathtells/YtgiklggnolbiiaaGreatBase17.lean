/- Texts of this claim, put together in their order. -/
import Derived.Test.YtgiklggnolbiiaaGreatBase1
import Derived.Test.YtgiklggnolbiiaaGreatBase2
import Derived.Test.YtgiklggnolbiiaaGreatBase3
import Derived.Test.YtgiklggnolbiiaaGreatBase4
import Derived.Test.YtgiklggnolbiiaaGreatBase5
import Derived.Test.YtgiklggnolbiiaaGreatBase6
import Derived.Test.YtgiklggnolbiiaaGreatBase7
import Derived.Test.YtgiklggnolbiiaaGreatBase8
import Derived.Test.YtgiklggnolbiiaaGreatBase9
import Derived.Test.YtgiklggnolbiiaaGreatBase10
import Derived.Test.YtgiklggnolbiiaaGreatBase11
import Derived.Test.YtgiklggnolbiiaaGreatBase12
import Derived.Test.YtgiklggnolbiiaaGreatBase13
import Derived.Test.YtgiklggnolbiiaaGreatBase14
import Derived.Test.YtgiklggnolbiiaaGreatBase15
import Derived.Test.YtgiklggnolbiiaaGreatBase16
/- What TablePlays' tail wants besides. -/
namespace Go.Proofs.YtgiklggnolbiiaaGreat
open Go.RowKit
variable {B n : Nat} {most : Int} {T : Nat → Lv} {b rb : Nat} {lb : Nat → Nat} {hv qv : Nat → Value}

theorem Tb.dal {w : World} (h : Tb B n most T b rb lb hv qv w) (o : Obj) : Tb B n most T b rb lb hv qv (w.drew.alloc o) := h.drew.next (below_new _ _)
theorem set1_cell {w : World} {P p j o : Nat} (h : p ≠ P) (u : Value) (_ : Unit) : (w.setCell ⟨P, j, none⟩ u).cell? ⟨p, o, none⟩ = w.cell? ⟨p, o, none⟩ := by
  have a := set_other w P j p u h
  simp only [World.cell?, a]
theorem set2_cell {w : World} {P p o : Nat} (h : p ≠ P) (u v : Value) : ((w.setCell ⟨P, 0, none⟩ u).setCell ⟨P, 1, none⟩ v).cell? ⟨p, o, none⟩ = w.cell? ⟨p, o, none⟩ := by
  have a := set_other (w.setCell ⟨P, 0, none⟩ u) P 1 p v h
  have c := set_other w P 0 p u h
  simp only [World.cell?, a, c]
theorem set2_own {w : World} {P : Nat} {x y u v : Value} (h : w.cell? ⟨P, 0, none⟩ = some x) (h2 : w.cell? ⟨P, 1, none⟩ = some y) : ((w.setCell ⟨P, 0, none⟩ u).setCell ⟨P, 1, none⟩ v).cell? ⟨P, 0, none⟩ = some u ∧ ((w.setCell ⟨P, 0, none⟩ u).setCell ⟨P, 1, none⟩ v).cell? ⟨P, 1, none⟩ = some v := by
  refine ⟨by rw [World.cell?_setCell_other _ _ _ _ (by simp), World.cell?_setCell_same _ _ _ h], ?_⟩
  have h3 : (w.setCell ⟨P, 0, none⟩ u).cell? ⟨P, 1, none⟩ = some y := by rw [World.cell?_setCell_other _ _ _ _ (by simp)]; exact h2
  rw [World.cell?_setCell_same _ _ _ h3]
/-- The lock's two cells. -/
def Lk (P : Nat) (x y : Int) (w : World) : Prop := w.cell? ⟨P, 0, none⟩ = some (.int .i64 x) ∧ w.cell? ⟨P, 1, none⟩ = some (.int .i64 y) ∧ P < w.heap.size
theorem Lk.next {P : Nat} {x y : Int} {w w' : World} (h : Lk P x y w) (k : Below w.heap.size w w') : Lk P x y w' := ⟨(k.cell (p := ⟨P, 0, none⟩) h.2.2).trans h.1, (k.cell (p := ⟨P, 1, none⟩) h.2.2).trans h.2.1, Nat.lt_of_lt_of_le h.2.2 k.size⟩
theorem lk_new (w : World) (x y : Int) : Lk w.heap.size x y (w.alloc (.cells #[.int .i64 x, .int .i64 y] 39)) := ⟨(lock_cells (heap_alloc_new w _)).1, (lock_cells (heap_alloc_new w _)).2.1, by simp⟩
theorem lk_set {w : World} {P : Nat} {x y : Int} {u v : Value} (h : w.cell? ⟨P, 0, none⟩ = some u) (h2 : w.cell? ⟨P, 1, none⟩ = some v) : Lk P x y ((w.setCell ⟨P, 0, none⟩ (.int .i64 x)).setCell ⟨P, 1, none⟩ (.int .i64 y)) := by
  obtain ⟨a, c⟩ := set2_own (u := .int .i64 x) (v := .int .i64 y) h h2
  exact ⟨a, c, World.block_lt_of_cell? _ _ a⟩
theorem wait_letters (who : Int) (n : Nat) (T : Nat → Lv) (s : Nat) : ∃ (x y : Int) (v : Bool), waitV who n T s = .tuple #[.agg #[.int .i64 x, .int .i64 y], .bool v] := ⟨_, _, _, rfl⟩
set_option maxRecDepth 100000 in
theorem holds_any15 (w : World) (h : Tb B n most T b rb lb hv qv w) (hf : Few n 1000 T) (who node : Int) {r : Int} (hr : holdN n T who node = r) :
    Calls Tryz.prog 15 #[.pointer (some ⟨b, 0, none⟩), .int .i64 who, .int .i64 node] w fun e w' => e = .returned (.int .i64 r) ∧ Below w.heap.size w w' := by
  unfold holdN at hr
  by_cases hk : 0 ≤ node ∧ node < n
  · rw [if_pos hk] at hr
    subst hr
    exact holds_t w h hf who node hk.1 hk.2
  · rw [if_neg hk] at hr
    subst hr
    have K := known_t w h node
    have e : (decide (0 ≤ node) && decide (node < n)) = false := by
      cases h : (decide (0 ≤ node) && decide (node < n))
      · rfl
      · exact absurd (by simpa using h) hk
    rw [e] at K
    replace K := hide K
    clear hk h e
    go_enter Tryz.func15, Tryz.ntmps15
    go_wp2_with fail
    refine (unhide K).mono ?_
    rintro e w1 ⟨rfl, rfl⟩
    go_wp2
    go_ret
    exact ⟨rfl, Below.refl _ _⟩
set_option maxRecDepth 100000 in
theorem lane_no (w : World) (h : Tb B n most T b rb lb hv qv w) (node : Int) (hk : ¬ (0 ≤ node ∧ node < n)) :
    Calls Tryz.prog 25 #[.pointer (some ⟨b, 0, none⟩), .int .i64 node] w fun e w' => e = .returned (.pointer none) ∧ w' = w := by
  have K := known_t w h node
  have e : (decide (0 ≤ node) && decide (node < n)) = false := by
    cases h : (decide (0 ≤ node) && decide (node < n))
    · rfl
    · exact absurd (by simpa using h) hk
  rw [e] at K
  replace K := hide K
  clear hk h e
  go_enter Tryz.func25, Tryz.ntmps25
  go_wp2_with fail
  refine (unhide K).mono ?_
  rintro e w1 ⟨rfl, rfl⟩
  go_wp2
  go_ret
  exact ⟨rfl, rfl⟩
theorem edgeL_le {H Q : List En} {k : Nat} (h : H.length + Q.length ≤ k) : (edgeL H Q).length ≤ k * k := by
  unfold edgeL
  have key : ∀ l : List En, l.length ≤ k → (l.flatMap (edge1 H Q)).length ≤ l.length * k := fun l => by
    induction l with
    | nil => exact fun _ => Nat.zero_le _
    | cons x r ih =>
      intro hl
      have h1 := ih (by rw [List.length_cons] at hl; omega)
      have h2 : (edge1 H Q x).length ≤ k := by
        unfold edge1
        rw [List.length_map]
        have := blocks_len (H := H) (Q := Q) x.1
        omega
      rw [List.flatMap_cons, List.length_append, List.length_cons, Nat.succ_mul]
      omega
  exact Nat.le_trans (key Q (by omega)) (Nat.mul_le_mul_right _ (by omega))
theorem rawE_le {k : Nat} (hg : Gd n k T) : ∀ m, m ≤ n → (rawE T m).length ≤ m * (k * k)
  | 0, _ => Nat.zero_le _
  | m + 1, hm => by
    have h1 := rawE_le hg m (by omega)
    have h2 := edgeL_le (hg.sum m (by omega))
    unfold rawE
    rw [List.length_append, Nat.succ_mul]
    omega
theorem edgesD_le (hg : Gd n 399 T) (hn : n ≤ 60) : (edgesD T n).length < 10000000 := by
  have h1 := rawE_le hg n (Nat.le_refl _)
  have h2 : n * (399 * 399) ≤ 60 * (399 * 399) := Nat.mul_le_mul_right _ hn
  unfold edgesD
  rw [srtE_len]
  omega
end Go.Proofs.YtgiklggnolbiiaaGreat
