/- What Check of the reference answers. -/
import Derived.Test.YtdhfpfkcbcgnaaaRefCheckA
import Derived.Test.YtdhfpfkcbcgnaaaRefCheckB
import Derived.Test.YtdhfpfkcbcgnaaaRefCheckC
import Derived.Test.YtdhfpfkcbcgnaaaRefCheckD
namespace Go.Proofs.Ytdhfpfkcbcgnaaa
open Go.RowKit

theorem ok_iff {c : Cf} : okB c = true ↔ (1 ≤ c.r ∧ c.r ≤ 8) ∧ (1 ≤ c.o ∧ c.o ≤ 8) ∧ (1 ≤ c.s ∧ c.s ≤ 8) ∧ (1 ≤ c.d ∧ c.d ≤ 8) ∧ (1 ≤ c.t ∧ c.t ≤ 64) ∧ (0 ≤ c.l ∧ c.l ≤ 48) ∧ (1 ≤ c.g ∧ c.g ≤ 8) ∧ (1 ≤ c.k ∧ c.k ≤ 4096) ∧ (1 ≤ c.u ∧ c.u ≤ 1000) ∧ (0 ≤ c.e ∧ c.e ≤ 64) ∧ (1 ≤ c.i ∧ c.i ≤ 10000) ∧ (0 ≤ c.p ∧ c.p ≤ 2) := by
  simp only [okB, heapB, roomB, Bool.and_eq_true, inB_iff]
  omega

set_option maxHeartbeats 2000000 in
set_option maxRecDepth 100000 in
theorem rcheck_ok (c : Cf) (w : World) (h : Hp c) (t0 : 1 ≤ c.t) (z0 : c.t ≤ 64) (t1 : 0 ≤ c.l) (z1 : c.l ≤ 48) (t2 : 1 ≤ c.g) (z2 : c.g ≤ 8) (t3 : 1 ≤ c.k) (z3 : c.k ≤ 4096) (t4 : 1 ≤ c.u) (z4 : c.u ≤ 1000) (t5 : 0 ≤ c.e) (z5 : c.e ≤ 64) (t6 : 1 ≤ c.i) (z6 : c.i ≤ 10000) (t7 : 0 ≤ c.p) (z7 : c.p ≤ 2) : Calls Try.prog 33 #[cv c] w fun e w' => e = .returned (.int .i64 (errOf (okB c))) ∧ Below w.heap.size w w' := by
  have h1 := h.r1
  have h2 := h.r8
  have h3 := h.o1
  have h4 := h.o8
  have h5 := h.s1
  have h6 := h.s8
  have h7 := h.d1
  have h8 := h.d8
  have EB : Hid (errOf (okB c) = 0) := by
    have e0 : okB c = true := by
      simp only [okB, heapB, roomB, Bool.and_eq_true, inB_iff]
      omega
    rw [e0]; rfl
  clear h
  unfold cv
  go_enter Try.func33, Try.ntmps33
  go_wp2
  go_loop [4] (fun i => ∃ k : Int, i = .int .i64 k ∧ (k = 0 ∨ k = 1 ∨ k = 2 ∨ k = 3 ∨ k = 4)) (fun i => (4 - intOf i).toNat)
  case atStart => exact ⟨0, rfl, .inl rfl⟩
  case round =>
    obtain ⟨k, rfl, hk⟩ := hrel
    rcases hk with rfl | rfl | rfl | rfl | rfl
    · go_wp2
      go_round
      case rel => exact ⟨1, rfl, by omega⟩
      case measure => simp [intOf]
    · go_wp2
      go_round
      case rel => exact ⟨2, rfl, by omega⟩
      case measure => simp [intOf]
    · go_wp2
      go_round
      case rel => exact ⟨3, rfl, by omega⟩
      case measure => simp [intOf]
    · go_wp2
      go_round
      case rel => exact ⟨4, rfl, by omega⟩
      case measure => simp [intOf]
    · clear h1 h2 h3 h4 h5 h6 h7 h8
      go_wp2
      go_ret
      exact ⟨ret_int (unhide EB).symm, (below_new _ _).alloc (by simp) _⟩

set_option maxHeartbeats 2000000 in
set_option maxRecDepth 100000 in
theorem rcheck_heap (c : Cf) (w : World) (h : ¬ Hp c) : Calls Try.prog 33 #[cv c] w fun e w' => e = .returned (.int .i64 (errOf (okB c))) ∧ Below w.heap.size w w' := by
  have EB : Hid (errOf (okB c) = 1) := by
    have eb : okB c = false := by
      cases e : okB c
      · rfl
      · exact absurd (okB_hp e) h
    rw [eb]; rfl
  have h' := hide h
  clear h
  unfold cv
  go_enter Try.func33, Try.ntmps33
  go_wp2
  go_loop [4] (fun i => ∃ k : Int, i = .int .i64 k ∧ (k = 0 ∨ (k = 1 ∧ 1 ≤ c.r ∧ c.r ≤ 8) ∨ (k = 2 ∧ 1 ≤ c.r ∧ c.r ≤ 8 ∧ 1 ≤ c.o ∧ c.o ≤ 8) ∨ (k = 3 ∧ 1 ≤ c.r ∧ c.r ≤ 8 ∧ 1 ≤ c.o ∧ c.o ≤ 8 ∧ 1 ≤ c.s ∧ c.s ≤ 8) ∨ (k = 4 ∧ 1 ≤ c.r ∧ c.r ≤ 8 ∧ 1 ≤ c.o ∧ c.o ≤ 8 ∧ 1 ≤ c.s ∧ c.s ≤ 8 ∧ 1 ≤ c.d ∧ c.d ≤ 8))) (fun i => (4 - intOf i).toNat)
  case atStart => exact ⟨0, rfl, .inl rfl⟩
  case round =>
    obtain ⟨k, rfl, hk⟩ := hrel
    rcases hk with rfl | ⟨rfl, p0, q0⟩ | ⟨rfl, p0, q0, p1, q1⟩ | ⟨rfl, p0, q0, p1, q1, p2, q2⟩ | ⟨rfl, p0, q0, p1, q1, p2, q2, p3, q3⟩
    · by_cases u : c.r < 1
      · go_wp2
        go_ret
        exact ⟨ret_int (unhide EB).symm, (below_new _ _).alloc (by simp) _⟩
      · have u1 : 1 ≤ c.r := by omega
        by_cases v : 8 < c.r
        · go_wp2
          go_ret
          exact ⟨ret_int (unhide EB).symm, (below_new _ _).alloc (by simp) _⟩
        · have v1 : c.r ≤ 8 := by omega
          go_wp2
          go_round
          case rel => exact ⟨1, rfl, .inr (.inl ⟨rfl, u1, v1⟩)⟩
          case measure => simp [intOf]
    · by_cases u : c.o < 1
      · go_wp2
        go_ret
        exact ⟨ret_int (unhide EB).symm, (below_new _ _).alloc (by simp) _⟩
      · have u1 : 1 ≤ c.o := by omega
        by_cases v : 8 < c.o
        · go_wp2
          go_ret
          exact ⟨ret_int (unhide EB).symm, (below_new _ _).alloc (by simp) _⟩
        · have v1 : c.o ≤ 8 := by omega
          go_wp2
          go_round
          case rel => exact ⟨2, rfl, .inr (.inr (.inl ⟨rfl, p0, q0, u1, v1⟩))⟩
          case measure => simp [intOf]
    · by_cases u : c.s < 1
      · go_wp2
        go_ret
        exact ⟨ret_int (unhide EB).symm, (below_new _ _).alloc (by simp) _⟩
      · have u1 : 1 ≤ c.s := by omega
        by_cases v : 8 < c.s
        · go_wp2
          go_ret
          exact ⟨ret_int (unhide EB).symm, (below_new _ _).alloc (by simp) _⟩
        · have v1 : c.s ≤ 8 := by omega
          go_wp2
          go_round
          case rel => exact ⟨3, rfl, .inr (.inr (.inr (.inl ⟨rfl, p0, q0, p1, q1, u1, v1⟩)))⟩
          case measure => simp [intOf]
    · by_cases u : c.d < 1
      · go_wp2
        go_ret
        exact ⟨ret_int (unhide EB).symm, (below_new _ _).alloc (by simp) _⟩
      · have u1 : 1 ≤ c.d := by omega
        by_cases v : 8 < c.d
        · go_wp2
          go_ret
          exact ⟨ret_int (unhide EB).symm, (below_new _ _).alloc (by simp) _⟩
        · have v1 : c.d ≤ 8 := by omega
          go_wp2
          go_round
          case rel => exact ⟨4, rfl, .inr (.inr (.inr (.inr (⟨rfl, p0, q0, p1, q1, p2, q2, u1, v1⟩))))⟩
          case measure => simp [intOf]
    · exact absurd ⟨p0, q0, p1, q1, p2, q2, p3, q3⟩ (unhide h')

theorem rcheck_any (c : Cf) (w : World) : Calls Try.prog 33 #[cv c] w fun e w' => e = .returned (.int .i64 (errOf (okB c))) ∧ Below w.heap.size w w' := by
  by_cases h : Hp c
  · by_cases u : c.t < 1
    · exact rcheck_lo0 c w h  u
    · have t0 : 1 ≤ c.t := by omega
      by_cases u' : 64 < c.t
      · exact rcheck_hi0 c w h  t0 u'
      · have z0 : c.t ≤ 64 := by omega
        clear u u'
        by_cases u : c.l < 0
        · exact rcheck_lo1 c w h t0 z0 u
        · have t1 : 0 ≤ c.l := by omega
          by_cases u' : 48 < c.l
          · exact rcheck_hi1 c w h t0 z0 t1 u'
          · have z1 : c.l ≤ 48 := by omega
            clear u u'
            by_cases u : c.g < 1
            · exact rcheck_lo2 c w h t0 z0 t1 z1 u
            · have t2 : 1 ≤ c.g := by omega
              by_cases u' : 8 < c.g
              · exact rcheck_hi2 c w h t0 z0 t1 z1 t2 u'
              · have z2 : c.g ≤ 8 := by omega
                clear u u'
                by_cases u : c.k < 1
                · exact rcheck_lo3 c w h t0 z0 t1 z1 t2 z2 u
                · have t3 : 1 ≤ c.k := by omega
                  by_cases u' : 4096 < c.k
                  · exact rcheck_hi3 c w h t0 z0 t1 z1 t2 z2 t3 u'
                  · have z3 : c.k ≤ 4096 := by omega
                    clear u u'
                    by_cases u : c.u < 1
                    · exact rcheck_lo4 c w h t0 z0 t1 z1 t2 z2 t3 z3 u
                    · have t4 : 1 ≤ c.u := by omega
                      by_cases u' : 1000 < c.u
                      · exact rcheck_hi4 c w h t0 z0 t1 z1 t2 z2 t3 z3 t4 u'
                      · have z4 : c.u ≤ 1000 := by omega
                        clear u u'
                        by_cases u : c.e < 0
                        · exact rcheck_lo5 c w h t0 z0 t1 z1 t2 z2 t3 z3 t4 z4 u
                        · have t5 : 0 ≤ c.e := by omega
                          by_cases u' : 64 < c.e
                          · exact rcheck_hi5 c w h t0 z0 t1 z1 t2 z2 t3 z3 t4 z4 t5 u'
                          · have z5 : c.e ≤ 64 := by omega
                            clear u u'
                            by_cases u : c.i < 1
                            · exact rcheck_lo6 c w h t0 z0 t1 z1 t2 z2 t3 z3 t4 z4 t5 z5 u
                            · have t6 : 1 ≤ c.i := by omega
                              by_cases u' : 10000 < c.i
                              · exact rcheck_hi6 c w h t0 z0 t1 z1 t2 z2 t3 z3 t4 z4 t5 z5 t6 u'
                              · have z6 : c.i ≤ 10000 := by omega
                                clear u u'
                                by_cases u : c.p < 0
                                · exact rcheck_lo7 c w h t0 z0 t1 z1 t2 z2 t3 z3 t4 z4 t5 z5 t6 z6 u
                                · have t7 : 0 ≤ c.p := by omega
                                  by_cases u' : 2 < c.p
                                  · exact rcheck_hi7 c w h t0 z0 t1 z1 t2 z2 t3 z3 t4 z4 t5 z5 t6 z6 t7 u'
                                  · have z7 : c.p ≤ 2 := by omega
                                    clear u u'
                                    exact rcheck_ok c w h t0 z0 t1 z1 t2 z2 t3 z3 t4 z4 t5 z5 t6 z6 t7 z7
  · exact rcheck_heap c w h

end Go.Proofs.Ytdhfpfkcbcgnaaa
