/- Ways of the reference's Check in which a part that is not the heap's is out of its bounds. -/
import Derived.Test.YtdhfpfkcbcgnaaaCheck
namespace Go.Proofs.Ytdhfpfkcbcgnaaa
open Go.RowKit

set_option maxHeartbeats 2000000 in
set_option maxRecDepth 100000 in
theorem rcheck_lo4 (c : Cf) (w : World) (h : Hp c) (t0 : 1 ≤ c.t) (z0 : c.t ≤ 64) (t1 : 0 ≤ c.l) (z1 : c.l ≤ 48) (t2 : 1 ≤ c.g) (z2 : c.g ≤ 8) (t3 : 1 ≤ c.k) (z3 : c.k ≤ 4096) (u : c.u < 1) : Calls Try.prog 33 #[cv c] w fun e w' => e = .returned (.int .i64 (errOf (okB c))) ∧ Below w.heap.size w w' := by
  have h1 := h.r1
  have h2 := h.r8
  have h3 := h.o1
  have h4 := h.o8
  have h5 := h.s1
  have h6 := h.s8
  have h7 := h.d1
  have h8 := h.d8
  have EB : Hid (errOf (okB c) = 1) := by
    have e0 : inB c.u 1 1000 = false := inB_no.2 (by omega)
    have eb : okB c = false := by simp [okB, heapB, roomB, e0]
    rw [eb]; rfl
  clear h
  unfold cv
  go_enter Try.func33, Try.ntmps33
  go_wp2
  go_loop [4] (fun i => ∃ k : Int, i = .int .i64 k ∧ (k = 0 ∨ k = 1 ∨ k = 2 ∨ k = 3 ∨ k = 4)) (fun i => (4 - intOf i).toNat)
  case atStart => exact ⟨0, rfl, .inl rfl⟩
  case round =>
    obtain ⟨k, rfl, hk⟩ := hrel
    rcases hk with rfl | rfl | rfl | rfl | rfl
    · go_wp2
      go_round
      case rel => exact ⟨1, rfl, by omega⟩
      case measure => simp [intOf]
    · go_wp2
      go_round
      case rel => exact ⟨2, rfl, by omega⟩
      case measure => simp [intOf]
    · go_wp2
      go_round
      case rel => exact ⟨3, rfl, by omega⟩
      case measure => simp [intOf]
    · go_wp2
      go_round
      case rel => exact ⟨4, rfl, by omega⟩
      case measure => simp [intOf]
    · clear h1 h2 h3 h4 h5 h6 h7 h8
      go_wp2
      go_ret
      exact ⟨ret_int (unhide EB).symm, (below_new _ _).alloc (by simp) _⟩

set_option maxHeartbeats 2000000 in
set_option maxRecDepth 100000 in
theorem rcheck_hi4 (c : Cf) (w : World) (h : Hp c) (t0 : 1 ≤ c.t) (z0 : c.t ≤ 64) (t1 : 0 ≤ c.l) (z1 : c.l ≤ 48) (t2 : 1 ≤ c.g) (z2 : c.g ≤ 8) (t3 : 1 ≤ c.k) (z3 : c.k ≤ 4096) (t4 : 1 ≤ c.u) (u : 1000 < c.u) : Calls Try.prog 33 #[cv c] w fun e w' => e = .returned (.int .i64 (errOf (okB c))) ∧ Below w.heap.size w w' := by
  have h1 := h.r1
  have h2 := h.r8
  have h3 := h.o1
  have h4 := h.o8
  have h5 := h.s1
  have h6 := h.s8
  have h7 := h.d1
  have h8 := h.d8
  have EB : Hid (errOf (okB c) = 1) := by
    have e0 : inB c.u 1 1000 = false := inB_no.2 (by omega)
    have eb : okB c = false := by simp [okB, heapB, roomB, e0]
    rw [eb]; rfl
  clear h
  unfold cv
  go_enter Try.func33, Try.ntmps33
  go_wp2
  go_loop [4] (fun i => ∃ k : Int, i = .int .i64 k ∧ (k = 0 ∨ k = 1 ∨ k = 2 ∨ k = 3 ∨ k = 4)) (fun i => (4 - intOf i).toNat)
  case atStart => exact ⟨0, rfl, .inl rfl⟩
  case round =>
    obtain ⟨k, rfl, hk⟩ := hrel
    rcases hk with rfl | rfl | rfl | rfl | rfl
    · go_wp2
      go_round
      case rel => exact ⟨1, rfl, by omega⟩
      case measure => simp [intOf]
    · go_wp2
      go_round
      case rel => exact ⟨2, rfl, by omega⟩
      case measure => simp [intOf]
    · go_wp2
      go_round
      case rel => exact ⟨3, rfl, by omega⟩
      case measure => simp [intOf]
    · go_wp2
      go_round
      case rel => exact ⟨4, rfl, by omega⟩
      case measure => simp [intOf]
    · clear h1 h2 h3 h4 h5 h6 h7 h8
      go_wp2
      go_ret
      exact ⟨ret_int (unhide EB).symm, (below_new _ _).alloc (by simp) _⟩

set_option maxHeartbeats 2000000 in
set_option maxRecDepth 100000 in
theorem rcheck_lo5 (c : Cf) (w : World) (h : Hp c) (t0 : 1 ≤ c.t) (z0 : c.t ≤ 64) (t1 : 0 ≤ c.l) (z1 : c.l ≤ 48) (t2 : 1 ≤ c.g) (z2 : c.g ≤ 8) (t3 : 1 ≤ c.k) (z3 : c.k ≤ 4096) (t4 : 1 ≤ c.u) (z4 : c.u ≤ 1000) (u : c.e < 0) : Calls Try.prog 33 #[cv c] w fun e w' => e = .returned (.int .i64 (errOf (okB c))) ∧ Below w.heap.size w w' := by
  have h1 := h.r1
  have h2 := h.r8
  have h3 := h.o1
  have h4 := h.o8
  have h5 := h.s1
  have h6 := h.s8
  have h7 := h.d1
  have h8 := h.d8
  have EB : Hid (errOf (okB c) = 1) := by
    have e0 : inB c.e 0 64 = false := inB_no.2 (by omega)
    have eb : okB c = false := by simp [okB, heapB, roomB, e0]
    rw [eb]; rfl
  clear h
  unfold cv
  go_enter Try.func33, Try.ntmps33
  go_wp2
  go_loop [4] (fun i => ∃ k : Int, i = .int .i64 k ∧ (k = 0 ∨ k = 1 ∨ k = 2 ∨ k = 3 ∨ k = 4)) (fun i => (4 - intOf i).toNat)
  case atStart => exact ⟨0, rfl, .inl rfl⟩
  case round =>
    obtain ⟨k, rfl, hk⟩ := hrel
    rcases hk with rfl | rfl | rfl | rfl | rfl
    · go_wp2
      go_round
      case rel => exact ⟨1, rfl, by omega⟩
      case measure => simp [intOf]
    · go_wp2
      go_round
      case rel => exact ⟨2, rfl, by omega⟩
      case measure => simp [intOf]
    · go_wp2
      go_round
      case rel => exact ⟨3, rfl, by omega⟩
      case measure => simp [intOf]
    · go_wp2
      go_round
      case rel => exact ⟨4, rfl, by omega⟩
      case measure => simp [intOf]
    · clear h1 h2 h3 h4 h5 h6 h7 h8
      go_wp2
      go_ret
      exact ⟨ret_int (unhide EB).symm, (below_new _ _).alloc (by simp) _⟩

set_option maxHeartbeats 2000000 in
set_option maxRecDepth 100000 in
theorem rcheck_hi5 (c : Cf) (w : World) (h : Hp c) (t0 : 1 ≤ c.t) (z0 : c.t ≤ 64) (t1 : 0 ≤ c.l) (z1 : c.l ≤ 48) (t2 : 1 ≤ c.g) (z2 : c.g ≤ 8) (t3 : 1 ≤ c.k) (z3 : c.k ≤ 4096) (t4 : 1 ≤ c.u) (z4 : c.u ≤ 1000) (t5 : 0 ≤ c.e) (u : 64 < c.e) : Calls Try.prog 33 #[cv c] w fun e w' => e = .returned (.int .i64 (errOf (okB c))) ∧ Below w.heap.size w w' := by
  have h1 := h.r1
  have h2 := h.r8
  have h3 := h.o1
  have h4 := h.o8
  have h5 := h.s1
  have h6 := h.s8
  have h7 := h.d1
  have h8 := h.d8
  have EB : Hid (errOf (okB c) = 1) := by
    have e0 : inB c.e 0 64 = false := inB_no.2 (by omega)
    have eb : okB c = false := by simp [okB, heapB, roomB, e0]
    rw [eb]; rfl
  clear h
  unfold cv
  go_enter Try.func33, Try.ntmps33
  go_wp2
  go_loop [4] (fun i => ∃ k : Int, i = .int .i64 k ∧ (k = 0 ∨ k = 1 ∨ k = 2 ∨ k = 3 ∨ k = 4)) (fun i => (4 - intOf i).toNat)
  case atStart => exact ⟨0, rfl, .inl rfl⟩
  case round =>
    obtain ⟨k, rfl, hk⟩ := hrel
    rcases hk with rfl | rfl | rfl | rfl | rfl
    · go_wp2
      go_round
      case rel => exact ⟨1, rfl, by omega⟩
      case measure => simp [intOf]
    · go_wp2
      go_round
      case rel => exact ⟨2, rfl, by omega⟩
      case measure => simp [intOf]
    · go_wp2
      go_round
      case rel => exact ⟨3, rfl, by omega⟩
      case measure => simp [intOf]
    · go_wp2
      go_round
      case rel => exact ⟨4, rfl, by omega⟩
      case measure => simp [intOf]
    · clear h1 h2 h3 h4 h5 h6 h7 h8
      go_wp2
      go_ret
      exact ⟨ret_int (unhide EB).symm, (below_new _ _).alloc (by simp) _⟩

end Go.Proofs.Ytdhfpfkcbcgnaaa
