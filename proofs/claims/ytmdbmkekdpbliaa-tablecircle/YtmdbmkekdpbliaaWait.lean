/- wait, grant. -/
import Derived.Test.YtmdbmkekdpbliaaHold
namespace Go.Proofs.Ytmdbmkekdpbliaa
open Go.RowKit
variable {B : Nat} {H Q : List En} {b : Nat} {hv qv : Value}

/-- y waits: a conversion behind the conversions, a new one behind all. -/
def waitD (held : Int) (y : En) (H Q : List En) : List En :=
  if held == 0 then Q ++ [y] else Q.take (convD H Q) ++ y :: Q.drop (convD H Q)
theorem wait_at (held : Int) (y : En) (H Q : List En) : waitD held y H Q = Q.take (if held == 0 then Q.length else convD H Q) ++ y :: Q.drop (if held == 0 then Q.length else convD H Q) := by
  unfold waitD
  split <;> simp
set_option maxRecDepth 100000 in
set_option maxHeartbeats 2000000 in
theorem wait_new (w : World) (h : La B H Q b hv qv w) (hQ : Q.length < 999999) (held : Int) (y : En) (he : (held == 0) = true) :
    Calls Try.prog 46 #[.pointer (some ⟨b, 0, none⟩), .int .i64 held, .agg #[.int .i64 y.1, .int .i64 y.2]] w fun e w' => e = .returned (.tuple #[]) ∧ ∃ qv', La B H (waitD held y H Q) b hv qv' w' ∧ Mv b hv qv hv qv' w w' := by
  have HL := hide h
  have hbn := hide h.lt
  have c1 : ∀ o, (w.alloc o).cell? ⟨b, 1, none⟩ = some qv := fun o => (h.next (below_new w o)).c1
  obtain ⟨a, n, cap, rfl, hn0⟩ := slice_form' h.qr
  have e0 : Hid (waitD held y H Q = Q.take n ++ y :: Q.drop n) := by have := wait_at held y H Q; rw [he] at this; rw [hn0]; exact this
  have he2 : (held != 0) = !true := by rw [← he]; rfl
  clear h he
  go_enter Try.func46, Try.ntmps46
  obtain ⟨w2, hw2⟩ : ∃ w2, w2 = w.alloc (.cells #[.int .i64 y.1, .int .i64 y.2] 41) := ⟨_, rfl⟩
  have hb2 : Hid (Below w.heap.size w w2) := by rw [hw2]; exact below_new w _
  have bx : w2.heap[w.heap.size]? = some (.cells #[.int .i64 y.1, .int .i64 y.2] 41 (0, 0)) := by rw [hw2]; exact box_new w y
  have l2 := (unhide HL).next (unhide hb2)
  obtain ⟨d0, d1⟩ := box_cells bx
  have c0 := l2.c1
  have ca : ∀ o, (w2.alloc o).cell? ⟨w.heap.size, 0, none⟩ = some (.int .i64 y.1) ∧ (w2.alloc o).cell? ⟨w.heap.size, 1, none⟩ = some (.int .i64 y.2) := fun o => box_cells (((below_new w2 o).block _ (heap_lt bx)).trans bx)
  have cb : ∀ o, (w2.alloc o).cell? ⟨b, 1, none⟩ = some (.slice a n cap) := fun o => (l2.next (below_new w2 o)).c1
  have hp : n ≤ Q.length := Nat.le_of_eq hn0
  have hne : Hid (w.heap.size ≠ b) := fun e => Nat.lt_irrefl _ (by have := unhide hbn; rw [e] at this; exact this)
  have HW := hide (la_new (W := (w2.alloc (.cells #[.int .i64 y.1, .int .i64 y.2] 41)).drew) l2 (unhide hb2) y rfl rfl rfl rfl)
  have hbw := hide (heap_lt bx)
  have L2 := hide l2
  have Bx := hide bx
  have hq2 := hide hQ
  clear l2 bx
  have hw3 := hide hw2
  clear hw2

  have ca0 := fun o => (ca o).1
  have ca1 := fun o => (ca o).2
  clear ca
  have Hp := hide hp
  have hp2 := hide hn0
  clear hp hn0
  go_wp2_with fail
  rw [← unhide hw3]
  go_region_with (first | (go_at_call 78; refine Calls.mono (insert_any (B := B) _ (unhide HW).1.qr n (unhide Hp) y _ (unhide HW).2.1 (unhide HW).2.2.2.2 (unhide HW).1.low (by have := unhide hq2; omega)) ?_; rintro e w4 ⟨v', rfl, es, gr, at4⟩; obtain ⟨a4, n4, cap4, rfl, hn4⟩ := slice_form' es; replace hn4 := hide hn4; have q0 := (unhide HW).1.grown1 gr; have m0 : w4.cell? ⟨b, 1, none⟩ = some (.slice a n cap) := (by simp [World.cell?, q0]); have q1 : w4.heap[w.heap.size]? = some (.cells #[.int .i64 y.1, .int .i64 y.2] 41 (0, 0)) := ((gr.block _ (Nat.lt_of_lt_of_le (unhide hbw) (Nat.le_of_lt (heap_lt (unhide HW).2.1))) (fun e => Nat.lt_irrefl _ ((unhide HL).qr.lt _ e.symm).2)).trans (((below_new w2 _).block _ (unhide hbw)).trans (unhide Bx))); have m1 := (box_cells q1).1; have m2 := (box_cells q1).2; have m3 : w4.frozen? ⟨b, 1, none⟩ = false := (by simp [World.frozen?, q0]); have PT := hide ((unhide HW).1.put1 gr es at4); clear gr es at4 q0 q1))
  all_goals
    go_wp2
    go_end0
    exact ⟨rfl, _, by rw [unhide e0]; exact (unhide PT).1, (unhide HW).2.2.1.trans (unhide PT).2⟩
set_option maxRecDepth 100000 in
set_option maxHeartbeats 2000000 in
theorem wait_conv (w : World) (h : La B H Q b hv qv w) (hH : H.length < 999999) (hQ : Q.length < 999999) (held : Int) (y : En) (he : (held == 0) = false) :
    Calls Try.prog 46 #[.pointer (some ⟨b, 0, none⟩), .int .i64 held, .agg #[.int .i64 y.1, .int .i64 y.2]] w fun e w' => e = .returned (.tuple #[]) ∧ ∃ qv', La B H (waitD held y H Q) b hv qv' w' ∧ Mv b hv qv hv qv' w w' := by
  have HL := hide h
  have hbn := hide h.lt
  have e0 : Hid (waitD held y H Q = Q.take (convD H Q) ++ y :: Q.drop (convD H Q)) := by have := wait_at held y H Q; rw [he] at this; exact this
  have c1 : ∀ o, (w.alloc o).cell? ⟨b, 1, none⟩ = some qv := fun o => (h.next (below_new w o)).c1
  obtain ⟨a, n, cap, rfl, hn0⟩ := slice_form' h.qr
  have he2 : (held != 0) = !false := by rw [← he]; rfl
  clear h he
  go_enter Try.func46, Try.ntmps46
  go_wp2_with fail
  refine (conv_any _ ((unhide HL).next (below_new w _)) (by omega) (by omega)).mono ?_
  rintro e w2 ⟨rfl, hb⟩
  have hb2 := hide (below_then (below_new w _) hb)
  have bx : w2.heap[w.heap.size]? = some (.cells #[.int .i64 y.1, .int .i64 y.2] 41 (0, 0)) := (hb.block _ (by simp)).trans (box_new w y)
  have l2 := (unhide HL).next (unhide hb2)
  obtain ⟨d0, d1⟩ := box_cells bx
  have c0 := l2.c1
  have ca : ∀ o, (w2.alloc o).cell? ⟨w.heap.size, 0, none⟩ = some (.int .i64 y.1) ∧ (w2.alloc o).cell? ⟨w.heap.size, 1, none⟩ = some (.int .i64 y.2) := fun o => box_cells (((below_new w2 o).block _ (heap_lt bx)).trans bx)
  have cb : ∀ o, (w2.alloc o).cell? ⟨b, 1, none⟩ = some (.slice a n cap) := fun o => (l2.next (below_new w2 o)).c1
  have hp : convD H Q ≤ Q.length := conv_le H Q
  have hne : Hid (w.heap.size ≠ b) := fun e => Nat.lt_irrefl _ (by have := unhide hbn; rw [e] at this; exact this)
  have HW := hide (la_new (W := (w2.alloc (.cells #[.int .i64 y.1, .int .i64 y.2] 41)).drew) l2 (unhide hb2) y rfl rfl rfl rfl)
  have hbw := hide (heap_lt bx)
  have L2 := hide l2
  have Bx := hide bx
  have hq2 := hide hQ
  clear l2 bx
  clear hb
  generalize convD H Q = i at *
  have ca0 := fun o => (ca o).1
  have ca1 := fun o => (ca o).2
  clear ca
  have Hp := hide hp
  have hp2 := hide hn0
  clear hp hn0
  go_wp2_with fail
  go_region_with (first | (go_at_call 78; refine Calls.mono (insert_any (B := B) _ (unhide HW).1.qr i (unhide Hp) y _ (unhide HW).2.1 (unhide HW).2.2.2.2 (unhide HW).1.low (by have := unhide hq2; omega)) ?_; rintro e w4 ⟨v', rfl, es, gr, at4⟩; obtain ⟨a4, n4, cap4, rfl, hn4⟩ := slice_form' es; replace hn4 := hide hn4; have q0 := (unhide HW).1.grown1 gr; have m0 : w4.cell? ⟨b, 1, none⟩ = some (.slice a n cap) := (by simp [World.cell?, q0]); have q1 : w4.heap[w.heap.size]? = some (.cells #[.int .i64 y.1, .int .i64 y.2] 41 (0, 0)) := ((gr.block _ (Nat.lt_of_lt_of_le (unhide hbw) (Nat.le_of_lt (heap_lt (unhide HW).2.1))) (fun e => Nat.lt_irrefl _ ((unhide HL).qr.lt _ e.symm).2)).trans (((below_new w2 _).block _ (unhide hbw)).trans (unhide Bx))); have m1 := (box_cells q1).1; have m2 := (box_cells q1).2; have m3 : w4.frozen? ⟨b, 1, none⟩ = false := (by simp [World.frozen?, q0]); have PT := hide ((unhide HW).1.put1 gr es at4); clear gr es at4 q0 q1))
  all_goals
    go_wp2
    go_end0
    exact ⟨rfl, _, by rw [unhide e0]; exact (unhide PT).1, (unhide HW).2.2.1.trans (unhide PT).2⟩
theorem wait_any (w : World) (h : La B H Q b hv qv w) (hH : H.length < 999999) (hQ : Q.length < 999999) (held : Int) (y : En) :
    Calls Try.prog 46 #[.pointer (some ⟨b, 0, none⟩), .int .i64 held, .agg #[.int .i64 y.1, .int .i64 y.2]] w fun e w' => e = .returned (.tuple #[]) ∧ ∃ qv', La B H (waitD held y H Q) b hv qv' w' ∧ Mv b hv qv hv qv' w w' := by
  cases he : (held == 0)
  · exact wait_conv w h hH hQ held y he
  · exact wait_new w h hQ held y he
end Go.Proofs.Ytmdbmkekdpbliaa
