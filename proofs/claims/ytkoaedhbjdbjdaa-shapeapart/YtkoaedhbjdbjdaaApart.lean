/- ShapeApart: each node is of one level, as many of each as there are, the latches stand apart. -/
import Derived.Test.YtkoaedhbjdbjdaaRefCheck
import Derived.Test.YtkoaedhbjdbjdaaPaths
import Derived.Test.YtkoaedhbjdbjdaaPut
namespace Go.Proofs.Ytkoaedhbjdbjdaa
open Go.RowKit

def nn (c : Cf) : Int := c.r + no c + ns c
theorem nn_eq (c : Cf) : c.r * (1 + c.o * (1 + c.s)) = nn c := by
  unfold nn ns no
  rw [Int.mul_add, Int.mul_add, Int.mul_add, Int.mul_one, Int.mul_one, ← Int.mul_assoc]
  omega
theorem nn_in {c : Cf} (h : Hp c) : 3 ≤ nn c ∧ nn c ≤ 584 := by
  have := h.r1; have := h.r8; have := no_in h; have := ns_in h
  unfold nn; omega
theorem wrap_nn {c : Cf} (h : Hp c) : wrap64 (c.r * (1 + c.o * (1 + c.s))) = nn c := by
  rw [nn_eq]; have := nn_in h; exact wrap_in (by omega) (by omega)

/-- How many of each level lie below node k; where the last latch below it lies. -/
def m0 (c : Cf) (k : Int) : Int := if k ≤ c.r then k else c.r
def m1 (c : Cf) (k : Int) : Int := if k ≤ c.r then 0 else if k ≤ c.r + no c then k - c.r else no c
def m2 (c : Cf) (k : Int) : Int := if k ≤ c.r + no c then 0 else k - (c.r + no c)
def laD (c : Cf) (k : Int) : Int := if k ≤ c.r + no c then -8 else nw c + (k - 1 - (c.r + no c)) * 8
theorem m_in {c : Cf} (h : Hp c) {k : Int} (h0 : 0 ≤ k) (h1 : k ≤ nn c) : 0 ≤ m0 c k ∧ m0 c k ≤ 584 ∧ 0 ≤ m1 c k ∧ m1 c k ≤ 584 ∧ 0 ≤ m2 c k ∧ m2 c k ≤ 584 := by
  have := h.r1; have := h.r8; have := no_in h; have := nn_in h
  unfold m0 m1 m2
  refine ⟨?_, ?_, ?_, ?_, ?_, ?_⟩ <;> repeat' split
  all_goals omega
theorem m_0 {c : Cf} (h : Hp c) {k : Int} (h1 : k < c.r) : m0 c (k + 1) = m0 c k + 1 ∧ m1 c (k + 1) = m1 c k ∧ m2 c (k + 1) = m2 c k ∧ laD c (k + 1) = laD c k := by
  have := no_in h
  unfold m0 m1 m2 laD
  rw [if_pos (by omega), if_pos (by omega), if_pos (by omega), if_pos (by omega), if_pos (by omega), if_pos (by omega), if_pos (by omega), if_pos (by omega)]
  exact ⟨rfl, rfl, rfl, rfl⟩
theorem m_1 {c : Cf} (h : Hp c) {k : Int} (h0 : c.r ≤ k) (h1 : k < c.r + no c) : m0 c (k + 1) = m0 c k ∧ m1 c (k + 1) = m1 c k + 1 ∧ m2 c (k + 1) = m2 c k ∧ laD c (k + 1) = laD c k := by
  have := no_in h
  unfold m0 m1 m2 laD
  refine ⟨?_, ?_, ?_, ?_⟩ <;> repeat' split
  all_goals omega
theorem m_2 {c : Cf} (h : Hp c) {k : Int} (h0 : c.r + no c ≤ k) : m0 c (k + 1) = m0 c k ∧ m1 c (k + 1) = m1 c k ∧ m2 c (k + 1) = m2 c k + 1 ∧ laD c (k + 1) = nw c + (k - (c.r + no c)) * 8 := by
  have := no_in h; have := h.r1
  unfold m0 m1 m2 laD
  refine ⟨?_, ?_, ?_, ?_⟩ <;> repeat' split
  all_goals omega
theorem m_start {c : Cf} (h : Hp c) : m0 c 0 = 0 ∧ m1 c 0 = 0 ∧ m2 c 0 = 0 := by
  have := h.r1; have := no_in h
  unfold m0 m1 m2
  rw [if_pos (by omega), if_pos (by omega), if_pos (by omega)]
  exact ⟨rfl, rfl, rfl⟩
theorem la_first {c : Cf} {k : Int} (h : k ≤ c.r + no c) : laD c k = -8 := by unfold laD; rw [if_pos h]
theorem la_in {c : Cf} (h : Hp c) {k : Int} (h0 : c.r + no c < k) (h1 : k ≤ nn c) : 0 ≤ laD c k ∧ laD c k ≤ 10000 ∧ nw c + (k - (c.r + no c)) * 8 = laD c k + 8 := by
  have := nw_in h; have := ns_in h
  unfold nn at h1
  unfold laD; rw [if_neg (by omega)]
  omega
theorem m_end {c : Cf} (h : Hp c) : m0 c (nn c) = c.r ∧ m1 c (nn c) = no c ∧ m2 c (nn c) = ns c ∧ laD c (nn c) + 8 = nw c + ns c * 8 := by
  have := no_in h; have := ns_in h; have := h.r1
  unfold m0 m1 m2 laD nn
  refine ⟨?_, ?_, ?_, ?_⟩ <;> repeat' split
  all_goals omega
/-- Three numbers in block b. -/
def Ar (x y z : Int) (b : Nat) (w : World) : Prop := w.heap[b]? = some (.cells #[.int .i64 x, .int .i64 y, .int .i64 z] 33 (0, 0))
theorem Ar.cells {x y z : Int} {b : Nat} {w : World} (h : Ar x y z b w) : w.cell? ⟨b, 0, none⟩ = some (.int .i64 x) ∧ w.cell? ⟨b, 1, none⟩ = some (.int .i64 y) ∧ w.cell? ⟨b, 2, none⟩ = some (.int .i64 z) := by
  unfold Ar at h
  simp [World.cell?, h]
theorem Ar.free {x y z : Int} {b : Nat} {w : World} (h : Ar x y z b w) (k : Nat) : w.frozen? ⟨b, k, none⟩ = false := by
  unfold Ar at h
  simp [World.frozen?, h]
theorem Ar.lt {x y z : Int} {b : Nat} {w : World} (h : Ar x y z b w) : b < w.heap.size := by
  unfold Ar at h
  by_cases hb : b < w.heap.size
  · exact hb
  · rw [Array.getElem?_eq_none (by omega)] at h; cases h
theorem Ar.next {x y z : Int} {b : Nat} {w w' : World} (h : Ar x y z b w) (hb : Below w.heap.size w w') : Ar x y z b w' := (hb.block b h.lt).trans h
theorem Ar.new (w : World) : Ar 0 0 0 w.heap.size (w.alloc (.cells #[.int .i64 0, .int .i64 0, .int .i64 0] 33)) := by
  show (w.heap.push _)[w.heap.size]? = _
  simp

theorem Ar.set0 {x y z : Int} {b : Nat} {w : World} (h : Ar x y z b w) (v : Int) : Ar v y z b (w.setCell ⟨b, 0, none⟩ (.int .i64 v)) := by
  unfold Ar at h ⊢
  show (w.heap.modify b _)[b]? = _
  rw [Array.getElem?_modify, if_pos rfl, h]
  rfl
theorem Ar.set1 {x y z : Int} {b : Nat} {w : World} (h : Ar x y z b w) (v : Int) : Ar x v z b (w.setCell ⟨b, 1, none⟩ (.int .i64 v)) := by
  unfold Ar at h ⊢
  show (w.heap.modify b _)[b]? = _
  rw [Array.getElem?_modify, if_pos rfl, h]
  rfl
theorem Ar.set2 {x y z : Int} {b : Nat} {w : World} (h : Ar x y z b w) (v : Int) : Ar x y v b (w.setCell ⟨b, 2, none⟩ (.int .i64 v)) := by
  unfold Ar at h ⊢
  show (w.heap.modify b _)[b]? = _
  rw [Array.getElem?_modify, if_pos rfl, h]
  rfl

set_option maxHeartbeats 1000000 in
theorem shapeApart_ok (c : Cf) (w : World) (h : okB c = true) : Calls Try.prog 6 #[cv c] w fun e w' => e = .returned (.bool true) ∧ Below w.heap.size w w' := by
  have hp := okB_hp h
  have h1 := hp.r1
  have h2 := hp.r8
  have g1 := hp.o1
  have g2 := hp.o8
  have g3 := hp.s1
  have g4 := hp.s8
  obtain ⟨h3, h4⟩ := no_in hp
  obtain ⟨h5, h6⟩ := ns_in hp
  obtain ⟨h7, h8⟩ := nw_in hp
  obtain ⟨h9, h10⟩ := nn_in hp
  have hnn : Hid (nodesD c = nn c) := by show nodesD c = nn c; rw [nodes_ok h]; rfl
  have H := hide h
  clear h
  have e1 : wrap64 (c.r * (1 + c.o * (1 + c.s))) = nn c := wrap_nn hp
  have x1 := mul_in g1 g2 (show 1 ≤ 1 + c.s by omega) (show 1 + c.s ≤ 9 by omega)
  unfold cv
  go_enter Try.func6, Try.ntmps6
  go_wp2_with fail
  refine (first_any _).mono ?_
  rintro e w1 ⟨rfl, hb⟩
  have hl := below_call hb
  have hx := (bx_new c w).next hb
  clear hb
  obtain ⟨a0, a1, a2, a3, a4, a5, a6, a7, a8, a9, a10, a11⟩ := hx.cells
  go_wp2_with fail
  refine (rcheck_any c _).mono ?_
  rw [unhide H, errOf_t]
  rintro e w1 ⟨rfl, hb⟩
  replace hl := below_then hl hb
  replace hx := hx.next hb
  clear a0 a1 a2 a3 a4 a5 a6 a7 a8 a9 a10 a11
  clear hb
  obtain ⟨a0, a1, a2, a3, a4, a5, a6, a7, a8, a9, a10, a11⟩ := hx.cells
  go_wp2_with fail
  refine (check_any c _).mono ?_
  rw [unhide H, errOf_t]
  rintro e w1 ⟨rfl, hb⟩
  replace hl := below_then hl hb
  replace hx := hx.next hb
  clear a0 a1 a2 a3 a4 a5 a6 a7 a8 a9 a10 a11
  clear hb
  obtain ⟨a0, a1, a2, a3, a4, a5, a6, a7, a8, a9, a10, a11⟩ := hx.cells
  go_wp2_with fail
  refine (nodes_any c _).mono ?_
  rw [unhide hnn]
  rintro e w1 ⟨rfl, hb⟩
  replace hl := below_then hl hb
  replace hx := hx.next hb
  clear a0 a1 a2 a3 a4 a5 a6 a7 a8 a9 a10 a11
  clear hb
  obtain ⟨a0, a1, a2, a3, a4, a5, a6, a7, a8, a9, a10, a11⟩ := hx.cells
  go_wp2
  clear e1 x1
  clear a0 a1 a2 a3 a4 a5 a6 a7 a8 a9 a10 a11
  have hq := Ar.new w1
  have hxn := hx.next (below_new w1 (.cells #[.int .i64 0, .int .i64 0, .int .i64 0] 33))
  have hln := hl.alloc hl.size (.cells #[.int .i64 0, .int .i64 0, .int .i64 0] 33)
  have hbm := hx.lt
  have hle := hl.size
  have HQ := hide hq
  have HX := hide hxn
  have HL := hide hln
  clear hq hxn hln hl hx
  generalize w1.heap.size = bm at HQ hbm hle ⊢
  generalize w1.alloc (.cells #[.int .i64 0, .int .i64 0, .int .i64 0] 33) = w2 at HQ HX HL ⊢
  go_loopw [5, 6] (fun last node wr => ∃ k : Int, 0 ≤ k ∧ k ≤ nn c ∧ node = .int .i64 k ∧ last = .int .i64 (laD c k) ∧ Bx c w.heap.size wr ∧ Ar (m0 c k) (m1 c k) (m2 c k) bm wr ∧ Below w.heap.size w wr) (fun _ node _ => (nn c - intOf node).toNat)
  case atStart => exact ⟨0, by omega, by omega, rfl, by rw [la_first (by omega)], unhide HX, by rw [(m_start hp).1, (m_start hp).2.1, (m_start hp).2.2]; exact unhide HQ, unhide HL⟩
  case round =>
    obtain ⟨k, k0, k1, rfl, rfl, hx, hq, hl⟩ := hrel
    by_cases hlt : k < nn c
    · by_cases hL : k < c.r
      · have E0 : Hid (levelD c k = 0) := level_0 k0 (by rw [unhide hnn]; exact hlt) hL
        have E1 : Hid (latchD c k = -1) := by show latchD c k = -1; simp [latchD, unhide E0]
        have E2 : Hid (parentD c k = -1) := by show parentD c k = -1; simp [parentD, unhide E0]
        obtain ⟨u0, u1, u2, u3, u4, u5⟩ := m_in hp k0 k1
        obtain ⟨a0, a1, a2, a3, a4, a5, a6, a7, a8, a9, a10, a11⟩ := hx.cells
        go_wp2_with fail
        refine (level_any c k _).mono ?_
        rw [unhide E0]
        rintro e wa ⟨rfl, hb⟩
        replace hx := hx.next hb
        replace hq := hq.next hb
        replace hl := below_then hl hb
        clear hb
        clear a0 a1 a2 a3 a4 a5 a6 a7 a8 a9 a10 a11
        obtain ⟨z0, z1, z2⟩ := hq.cells
        have zf := hq.free 0
        have hx' := hx.other (p := ⟨bm, 0, none⟩) (by simp; omega) (.int .i64 (m0 c k + 1))
        have hq' := hq.set0 (m0 c k + 1)
        have hl' := hl.setCell (p := ⟨bm, 0, none⟩) hle (.int .i64 (m0 c k + 1))
        obtain ⟨a0, a1, a2, a3, a4, a5, a6, a7, a8, a9, a10, a11⟩ := hx'.cells
        have HX := hide hx'
        have HQ := hide hq'
        have HL := hide hl'
        clear hx' hq' hl' hx hq hl
        go_wp2_with fail
        refine (latch_any c k _).mono ?_
        rw [unhide E1]
        rintro e wb ⟨rfl, hb⟩
        have hx := (unhide HX).next hb
        have hq := (unhide HQ).next hb
        have hl := below_then (unhide HL) hb
        clear hb HX HQ HL z0 z1 z2 zf
        clear a0 a1 a2 a3 a4 a5 a6 a7 a8 a9 a10 a11
        obtain ⟨a0, a1, a2, a3, a4, a5, a6, a7, a8, a9, a10, a11⟩ := hx.cells
        go_wp2_with fail
        refine (parent_any c k _).mono ?_
        rw [unhide E2]
        rintro e wd ⟨rfl, hb⟩
        replace hx := hx.next hb
        replace hq := hq.next hb
        replace hl := below_then hl hb
        clear hb
        clear a0 a1 a2 a3 a4 a5 a6 a7 a8 a9 a10 a11
        go_wp2
        go_roundw
        case rel =>
          obtain ⟨v0, v1, v2, v3⟩ := m_0 hp hL
          exact ⟨k + 1, by omega, by omega, rfl, by rw [v3], hx, by rw [v0, v1, v2]; exact hq, hl⟩
        case measure => simp [intOf]; omega
      · by_cases hM : k < c.r + no c
        · have hL' : c.r ≤ k := by omega
          clear hL
          have E0 : Hid (levelD c k = 1) := level_1 k0 (by rw [unhide hnn]; exact hlt) hL' hM
          have E1 : Hid (latchD c k = -1) := by show latchD c k = -1; simp [latchD, unhide E0]
          have p0 : 0 ≤ parentD c k := by
            have e : parentD c k = (k - c.r) / c.o := by simp [parentD, unhide E0]
            rw [e]; exact Int.ediv_nonneg (by omega) (by omega)
          obtain ⟨u0, u1, u2, u3, u4, u5⟩ := m_in hp k0 k1
          obtain ⟨a0, a1, a2, a3, a4, a5, a6, a7, a8, a9, a10, a11⟩ := hx.cells
          go_wp2_with fail
          refine (level_any c k _).mono ?_
          rw [unhide E0]
          rintro e wa ⟨rfl, hb⟩
          replace hx := hx.next hb
          replace hq := hq.next hb
          replace hl := below_then hl hb
          clear hb
          clear a0 a1 a2 a3 a4 a5 a6 a7 a8 a9 a10 a11
          obtain ⟨z0, z1, z2⟩ := hq.cells
          have zf := hq.free 1
          have hx' := hx.other (p := ⟨bm, 1, none⟩) (by simp; omega) (.int .i64 (m1 c k + 1))
          have hq' := hq.set1 (m1 c k + 1)
          have hl' := hl.setCell (p := ⟨bm, 1, none⟩) hle (.int .i64 (m1 c k + 1))
          obtain ⟨a0, a1, a2, a3, a4, a5, a6, a7, a8, a9, a10, a11⟩ := hx'.cells
          have HX := hide hx'
          have HQ := hide hq'
          have HL := hide hl'
          clear hx' hq' hl' hx hq hl
          go_wp2_with fail
          refine (latch_any c k _).mono ?_
          rw [unhide E1]
          rintro e wb ⟨rfl, hb⟩
          have hx := (unhide HX).next hb
          have hq := (unhide HQ).next hb
          have hl := below_then (unhide HL) hb
          clear hb HX HQ HL z0 z1 z2 zf
          clear a0 a1 a2 a3 a4 a5 a6 a7 a8 a9 a10 a11
          obtain ⟨a0, a1, a2, a3, a4, a5, a6, a7, a8, a9, a10, a11⟩ := hx.cells
          go_wp2_with fail
          refine (parent_any c k _).mono ?_
          rintro e wd ⟨rfl, hb⟩
          replace hx := hx.next hb
          replace hq := hq.next hb
          replace hl := below_then hl hb
          clear hb
          clear a0 a1 a2 a3 a4 a5 a6 a7 a8 a9 a10 a11
          go_wp2
          go_roundw
          case rel =>
            obtain ⟨v0, v1, v2, v3⟩ := m_1 hp hL' hM
            exact ⟨k + 1, by omega, by omega, rfl, by rw [v3], hx, by rw [v0, v1, v2]; exact hq, hl⟩
          case measure => simp [intOf]; omega
        · have hM' : c.r + no c ≤ k := by omega
          clear hM
          have E0 : Hid (levelD c k = 2) := level_2 k0 (by rw [unhide hnn]; exact hlt) (by omega) hM'
          have p0 : 0 ≤ parentD c k := by
            have e : parentD c k = c.r + (k - (c.r + no c)) / c.s := by simp [parentD, unhide E0]
            have := Int.ediv_nonneg (show 0 ≤ k - (c.r + no c) by omega) (show 0 ≤ c.s by omega)
            omega
          have f1 : latchD c k = nw c + (k - (c.r + no c)) * 8 := by simp [latchD, unhide E0]
          by_cases hN : c.r + no c < k
          · obtain ⟨la, lb, lc⟩ := la_in hp hN k1
            have E1 : Hid (latchD c k = laD c k + 8) := by show latchD c k = laD c k + 8; rw [f1]; exact lc
            have V1 : Hid (nw c + (k - (c.r + no c)) * 8 = laD c k + 8) := lc
            clear f1 lc hL
            obtain ⟨u0, u1, u2, u3, u4, u5⟩ := m_in hp k0 k1
            obtain ⟨a0, a1, a2, a3, a4, a5, a6, a7, a8, a9, a10, a11⟩ := hx.cells
            go_wp2_with fail
            refine (level_any c k _).mono ?_
            rw [unhide E0]
            rintro e wa ⟨rfl, hb⟩
            replace hx := hx.next hb
            replace hq := hq.next hb
            replace hl := below_then hl hb
            clear hb
            clear a0 a1 a2 a3 a4 a5 a6 a7 a8 a9 a10 a11
            obtain ⟨z0, z1, z2⟩ := hq.cells
            have zf := hq.free 2
            have hx' := hx.other (p := ⟨bm, 2, none⟩) (by simp; omega) (.int .i64 (m2 c k + 1))
            have hq' := hq.set2 (m2 c k + 1)
            have hl' := hl.setCell (p := ⟨bm, 2, none⟩) hle (.int .i64 (m2 c k + 1))
            obtain ⟨a0, a1, a2, a3, a4, a5, a6, a7, a8, a9, a10, a11⟩ := hx'.cells
            have HX := hide hx'
            have HQ := hide hq'
            have HL := hide hl'
            clear hx' hq' hl' hx hq hl
            go_wp2_with fail
            refine (latch_any c k _).mono ?_
            rw [unhide E1]
            rintro e wb ⟨rfl, hb⟩
            have hx := (unhide HX).next hb
            have hq := (unhide HQ).next hb
            have hl := below_then (unhide HL) hb
            clear hb HX HQ HL z0 z1 z2 zf
            clear a0 a1 a2 a3 a4 a5 a6 a7 a8 a9 a10 a11
            obtain ⟨a0, a1, a2, a3, a4, a5, a6, a7, a8, a9, a10, a11⟩ := hx.cells
            go_wp2_with fail
            refine (parent_any c k _).mono ?_
            rintro e wd ⟨rfl, hb⟩
            replace hx := hx.next hb
            replace hq := hq.next hb
            replace hl := below_then hl hb
            clear hb
            clear a0 a1 a2 a3 a4 a5 a6 a7 a8 a9 a10 a11
            go_wp2
            go_roundw
            case rel =>
              obtain ⟨v0, v1, v2, v3⟩ := m_2 hp hM'
              exact ⟨k + 1, by omega, by omega, rfl, by rw [v3, unhide V1], hx, by rw [v0, v1, v2]; exact hq, hl⟩
            case measure => simp [intOf]; omega
          · have E1 : Hid (latchD c k = nw c) := by show latchD c k = nw c; rw [f1]; omega
            have V1 : Hid (nw c + (k - (c.r + no c)) * 8 = nw c) := by show _ = _; omega
            have la : laD c k < 0 := by rw [la_first (by omega)]; decide
            clear f1 hL
            obtain ⟨u0, u1, u2, u3, u4, u5⟩ := m_in hp k0 k1
            obtain ⟨a0, a1, a2, a3, a4, a5, a6, a7, a8, a9, a10, a11⟩ := hx.cells
            go_wp2_with fail
            refine (level_any c k _).mono ?_
            rw [unhide E0]
            rintro e wa ⟨rfl, hb⟩
            replace hx := hx.next hb
            replace hq := hq.next hb
            replace hl := below_then hl hb
            clear hb
            clear a0 a1 a2 a3 a4 a5 a6 a7 a8 a9 a10 a11
            obtain ⟨z0, z1, z2⟩ := hq.cells
            have zf := hq.free 2
            have hx' := hx.other (p := ⟨bm, 2, none⟩) (by simp; omega) (.int .i64 (m2 c k + 1))
            have hq' := hq.set2 (m2 c k + 1)
            have hl' := hl.setCell (p := ⟨bm, 2, none⟩) hle (.int .i64 (m2 c k + 1))
            obtain ⟨a0, a1, a2, a3, a4, a5, a6, a7, a8, a9, a10, a11⟩ := hx'.cells
            have HX := hide hx'
            have HQ := hide hq'
            have HL := hide hl'
            clear hx' hq' hl' hx hq hl
            go_wp2_with fail
            refine (latch_any c k _).mono ?_
            rw [unhide E1]
            rintro e wb ⟨rfl, hb⟩
            have hx := (unhide HX).next hb
            have hq := (unhide HQ).next hb
            have hl := below_then (unhide HL) hb
            clear hb HX HQ HL z0 z1 z2 zf
            clear a0 a1 a2 a3 a4 a5 a6 a7 a8 a9 a10 a11
            obtain ⟨a0, a1, a2, a3, a4, a5, a6, a7, a8, a9, a10, a11⟩ := hx.cells
            go_wp2_with fail
            refine (parent_any c k _).mono ?_
            rintro e wd ⟨rfl, hb⟩
            replace hx := hx.next hb
            replace hq := hq.next hb
            replace hl := below_then hl hb
            clear hb
            clear a0 a1 a2 a3 a4 a5 a6 a7 a8 a9 a10 a11
            go_wp2
            go_roundw
            case rel =>
              obtain ⟨v0, v1, v2, v3⟩ := m_2 hp hM'
              exact ⟨k + 1, by omega, by omega, rfl, by rw [v3, unhide V1], hx, by rw [v0, v1, v2]; exact hq, hl⟩
            case measure => simp [intOf]; omega
    · have hk : k = nn c := by omega
      subst hk
      obtain ⟨v0, v1, v2, v3⟩ := m_end hp
      rw [v0, v1, v2] at hq
      obtain ⟨la, lb, _⟩ := la_in hp (show c.r + no c < nn c by unfold nn; omega) k1
      have E1 : Hid (cellsD c = laD c (nn c) + 8) := by show cellsD c = _; rw [v3]; simp [cellsD, unhide H]
      have e2 : wrap64 (c.r * c.o) = no c := wrap_in (by have := no_in hp; unfold no at this; omega) (by have := no_in hp; unfold no at this; omega)
      have e3 : wrap64 (no c * c.s) = ns c := wrap_in (by have := ns_in hp; unfold ns at this; omega) (by have := ns_in hp; unfold ns at this; omega)
      clear v0 v1 v2 v3 hlt k0 k1 HX HQ HL
      go_wp2_with fail
      refine (first_any _).mono ?_
      rintro e wa ⟨rfl, hb⟩
      replace hx := hx.next hb
      replace hq := hq.next hb
      replace hl := below_then hl hb
      clear hb
      obtain ⟨z0, z1, z2⟩ := hq.cells
      obtain ⟨a0, a1, a2, a3, a4, a5, a6, a7, a8, a9, a10, a11⟩ := hx.cells
      go_wp2_with fail
      refine (cells_any c _).mono ?_
      rw [unhide E1]
      rintro e wb ⟨rfl, hb⟩
      replace hl := below_then hl hb
      go_wp2
      go_ret
      exact ⟨rfl, hl⟩

theorem shapeApart_walk (c : Cf) (w : World) : Calls Try.prog 6 #[cv c] w fun e w' => e = .returned (.bool true) ∧ Below w.heap.size w w' := by
  cases h : okB c
  · have H := hide h
    clear h
    unfold cv
    go_enter Try.func6, Try.ntmps6
    go_wp2_with fail
    refine (first_any _).mono ?_
    rintro e w1 ⟨rfl, hb⟩
    have hl := below_call hb
    have hx := (bx_new c w).next hb
    clear hb
    obtain ⟨a0, a1, a2, a3, a4, a5, a6, a7, a8, a9, a10, a11⟩ := hx.cells
    go_wp2_with fail
    refine (rcheck_any c _).mono ?_
    rw [unhide H, errOf_f]
    rintro e w1 ⟨rfl, hb⟩
    replace hl := below_then hl hb
    replace hx := hx.next hb
    clear a0 a1 a2 a3 a4 a5 a6 a7 a8 a9 a10 a11
    clear hb
    obtain ⟨a0, a1, a2, a3, a4, a5, a6, a7, a8, a9, a10, a11⟩ := hx.cells
    go_wp2_with fail
    refine (first_any _).mono ?_
    rintro e w1 ⟨rfl, hb⟩
    replace hl := below_then hl hb
    replace hx := hx.next hb
    clear a0 a1 a2 a3 a4 a5 a6 a7 a8 a9 a10 a11
    clear hb
    go_wp2
    go_ret
    exact ⟨rfl, hl⟩
  · exact shapeApart_ok c w h

end Go.Proofs.Ytkoaedhbjdbjdaa
