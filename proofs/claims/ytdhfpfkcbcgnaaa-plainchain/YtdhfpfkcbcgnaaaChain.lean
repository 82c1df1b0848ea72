/- The walk of PlainChain: it answers true. -/
import Derived.Test.YtdhfpfkcbcgnaaaJumps
import Derived.Test.YtdhfpfkcbcgnaaaOpen
namespace Go.Proofs.Ytdhfpfkcbcgnaaa
open Go.RowKit

/-- A program just written out, with the values of its lists. -/
def flatV : List (In × Value) → List Value
  | [] => []
  | x :: r => .int .i64 x.1.k :: .int .i64 x.1.a :: .int .i64 x.1.b :: .int .i64 x.1.c :: x.2 :: flatV r
theorem flatV_at : ∀ (ps : List (In × Value)) (i : Nat), i < ps.length → (flatV ps)[i * 5]? = some (.int .i64 (ps.getD i (z0, undef)).1.k) ∧ (flatV ps)[i * 5 + 1]? = some (.int .i64 (ps.getD i (z0, undef)).1.a) ∧ (flatV ps)[i * 5 + 2]? = some (.int .i64 (ps.getD i (z0, undef)).1.b) ∧ (flatV ps)[i * 5 + 3]? = some (.int .i64 (ps.getD i (z0, undef)).1.c) ∧ (flatV ps)[i * 5 + 4]? = some (ps.getD i (z0, undef)).2
  | [], i, h => absurd h (Nat.not_lt_zero _)
  | x :: r, 0, h => ⟨rfl, rfl, rfl, rfl, rfl⟩
  | x :: r, i + 1, h => by
    have := flatV_at r i (by simpa using h)
    rw [show (i + 1) * 5 = i * 5 + 5 by omega, show i * 5 + 5 + 1 = i * 5 + 1 + 5 by omega, show i * 5 + 5 + 2 = i * 5 + 2 + 5 by omega, show i * 5 + 5 + 3 = i * 5 + 3 + 5 by omega, show i * 5 + 5 + 4 = i * 5 + 4 + 5 by omega]
    simpa [flatV] using this
theorem ps_flatV (w : World) (qs : List (In × Value)) (n N : Nat) (hn : n = (qs.map (·.1)).length) (hN : N = w.heap.size) (hm : qs.length ≤ 1000) (hl : ∀ q ∈ qs, Ls (w.alloc (.cells (flatV qs).toArray 44)).heap.size (w.alloc (.cells (flatV qs).toArray 44)) q.2 q.1.l) :
    Ps (w.alloc (.cells (flatV qs).toArray 44)).heap.size (w.alloc (.cells (flatV qs).toArray 44)) (.slice (some ⟨N, 0, none⟩) n n) (qs.map (·.1)) := by
  subst hn; subst hN
  refine ⟨_, _, rfl, Nat.le_refl _, by unfold maxLen; rw [List.length_map]; omega, .inr ⟨w.heap.size, 0, rfl, by rw [World.size_alloc]; omega, fun i hi => ?_⟩⟩
  rw [List.length_map] at hi
  have h : (w.alloc (.cells (flatV qs).toArray 44)).heap[w.heap.size]? = some (.cells (flatV qs).toArray 44) := heap_alloc_new w _
  have q : ∀ j v, (flatV qs)[j]? = some v → (w.alloc (.cells (flatV qs).toArray 44)).cell? ⟨w.heap.size, j, none⟩ = some v := fun j v hj => by
    unfold World.cell?
    rw [h]
    simpa using hj
  obtain ⟨h0, h1, h2, h3, h4⟩ := flatV_at qs i hi
  have e : (qs.map (·.1)).getD i z0 = (qs.getD i (z0, undef)).1 := by simp [hi]
  rw [Nat.zero_add, e]
  refine ⟨q _ _ h0, q _ _ h1, q _ _ h2, q _ _ h3, _, q _ _ h4, hl _ ?_⟩
  have : qs.getD i (z0, undef) = qs[i] := by simp [hi]
  rw [this]
  exact List.getElem_mem hi
def cC : Cf := ⟨1, 1, 1, 2, 1, 0, 2, 9, 9, 0, 9, 0⟩
def pC (v : Int) : List In := [⟨3, 0, v, 0, []⟩, ⟨2, 0, 0, -1, []⟩, ⟨1, 1, 0, -1, []⟩]
theorem pC_l (v : Int) (i : Nat) (_ : i < (pC v).length) : ((pC v).getD i z0).l = [] := by rcases i with _ | _ | _ | i <;> rfl
def qC (u : Int) : List In := [⟨1, 0, 0, -1, []⟩, ⟨3, 1, u, 0, []⟩, ⟨4, 0, 0, 0, [0, 1]⟩, ⟨2, 0, 1, -1, []⟩]
theorem runC1 (v : Int) : runD cC [7, 9] (pC v) = ⟨1, [v, v], [(0, v)], [(0, v)], [v, 9], 0⟩ := by rfl
theorem runC2 (v u : Int) : runD cC [v, 9] (qC u) = ⟨1, [wrap64 (wrap64 (0 + v) + u), u], [(0, v)], [(1, wrap64 (wrap64 (0 + v) + u))], [v, wrap64 (wrap64 (0 + v) + u)], 0⟩ := by rfl
theorem wrap_one {v : Int} (h : I64 v) : wrap64 (0 + v) = v := by
  unfold I64 at h
  unfold wrap64
  omega
set_option maxRecDepth 100000 in
set_option maxHeartbeats 2000000 in
theorem plainChain_core (v u : Int) (w : World) (hv : I64 v) : Calls Try.prog 8 #[.int .i64 v, .int .i64 u] w fun e w' => e = .returned (.bool true) ∧ Below w.heap.size w w' := by
  go_enter Try.func8, Try.ntmps8
  go_wp2_with fail
  refine (first_any _).mono ?_
  rintro e w1 ⟨rfl, c1⟩
  have b1 := below_new w1 (.cells #[.int .i64 1, .int .i64 1, .int .i64 1, .int .i64 2, .int .i64 1, .int .i64 0, .int .i64 2, .int .i64 9, .int .i64 9, .int .i64 0, .int .i64 9, .int .i64 0] 23)
  have b2 := below_then b1 (below_new _ (.cells #[.int .i64 3, .int .i64 0, .int .i64 v, .int .i64 0, .slice none 0 0, .int .i64 2, .int .i64 0, .int .i64 0, .int .i64 (-1), .slice none 0 0, .int .i64 1, .int .i64 1, .int .i64 0, .int .i64 (-1), .slice none 0 0] 44))
  have b3 := below_then b2 (below_new _ (.cells #[.int .i64 0, .int .i64 1] 3))
  have b4 := below_then b3 (below_new _ (.cells #[.int .i64 1, .int .i64 0, .int .i64 0, .int .i64 (-1), .slice none 0 0, .int .i64 3, .int .i64 1, .int .i64 u, .int .i64 0, .slice none 0 0, .int .i64 4, .int .i64 0, .int .i64 0, .int .i64 0, .slice (some ⟨w1.heap.size + 1 + 1, 0, none⟩) 2 2, .int .i64 2, .int .i64 0, .int .i64 1, .int .i64 (-1), .slice none 0 0] 44))
  have b5 := below_then b4 (below_new _ (.cells #[.int .i64 7, .int .i64 9] 3))
  have hP := (((ps_flat (w1.alloc (.cells #[.int .i64 1, .int .i64 1, .int .i64 1, .int .i64 2, .int .i64 1, .int .i64 0, .int .i64 2, .int .i64 9, .int .i64 9, .int .i64 0, .int .i64 9, .int .i64 0] 23)) (pC v) 3 (w1.heap.size + 1) rfl (by rw [World.size_alloc]) (by simp [pC]) (pC_l v)).next (below_new _ (.cells #[.int .i64 0, .int .i64 1] 3))).next (below_new _ (.cells #[.int .i64 1, .int .i64 0, .int .i64 0, .int .i64 (-1), .slice none 0 0, .int .i64 3, .int .i64 1, .int .i64 u, .int .i64 0, .slice none 0 0, .int .i64 4, .int .i64 0, .int .i64 0, .int .i64 0, .slice (some ⟨w1.heap.size + 1 + 1, 0, none⟩) 2 2, .int .i64 2, .int .i64 0, .int .i64 1, .int .i64 (-1), .slice none 0 0] 44))).next (below_new _ (.cells #[.int .i64 7, .int .i64 9] 3))
  have lL := (ls_new ((w1.alloc (.cells #[.int .i64 1, .int .i64 1, .int .i64 1, .int .i64 2, .int .i64 1, .int .i64 0, .int .i64 2, .int .i64 9, .int .i64 9, .int .i64 0, .int .i64 9, .int .i64 0] 23)).alloc (.cells #[.int .i64 3, .int .i64 0, .int .i64 v, .int .i64 0, .slice none 0 0, .int .i64 2, .int .i64 0, .int .i64 0, .int .i64 (-1), .slice none 0 0, .int .i64 1, .int .i64 1, .int .i64 0, .int .i64 (-1), .slice none 0 0] 44)) [0, 1] 2 (w1.heap.size + 1 + 1) rfl (by rw [World.size_alloc, World.size_alloc]) (by decide)).next (below_new _ (.cells #[.int .i64 1, .int .i64 0, .int .i64 0, .int .i64 (-1), .slice none 0 0, .int .i64 3, .int .i64 1, .int .i64 u, .int .i64 0, .slice none 0 0, .int .i64 4, .int .i64 0, .int .i64 0, .int .i64 0, .slice (some ⟨w1.heap.size + 1 + 1, 0, none⟩) 2 2, .int .i64 2, .int .i64 0, .int .i64 1, .int .i64 (-1), .slice none 0 0] 44))
  have hQ := (ps_flatV (((w1.alloc (.cells #[.int .i64 1, .int .i64 1, .int .i64 1, .int .i64 2, .int .i64 1, .int .i64 0, .int .i64 2, .int .i64 9, .int .i64 9, .int .i64 0, .int .i64 9, .int .i64 0] 23)).alloc (.cells #[.int .i64 3, .int .i64 0, .int .i64 v, .int .i64 0, .slice none 0 0, .int .i64 2, .int .i64 0, .int .i64 0, .int .i64 (-1), .slice none 0 0, .int .i64 1, .int .i64 1, .int .i64 0, .int .i64 (-1), .slice none 0 0] 44)).alloc (.cells #[.int .i64 0, .int .i64 1] 3)) [(⟨1, 0, 0, -1, []⟩, .slice none 0 0), (⟨3, 1, u, 0, []⟩, .slice none 0 0), (⟨4, 0, 0, 0, [0, 1]⟩, .slice (some ⟨w1.heap.size + 1 + 1, 0, none⟩) 2 2), (⟨2, 0, 1, -1, []⟩, .slice none 0 0)] 4 (w1.heap.size + 1 + 1 + 1) rfl (by rw [World.size_alloc, World.size_alloc, World.size_alloc]) (by simp) (by
    intro q hq
    simp only [List.mem_cons, List.not_mem_nil, or_false] at hq
    rcases hq with rfl | rfl | rfl | rfl
    · exact ls_none _ _
    · exact ls_none _ _
    · exact lL
    · exact ls_none _ _)).next (below_new _ (.cells #[.int .i64 7, .int .i64 9] 3))
  have hL := ls_new ((((w1.alloc (.cells #[.int .i64 1, .int .i64 1, .int .i64 1, .int .i64 2, .int .i64 1, .int .i64 0, .int .i64 2, .int .i64 9, .int .i64 9, .int .i64 0, .int .i64 9, .int .i64 0] 23)).alloc (.cells #[.int .i64 3, .int .i64 0, .int .i64 v, .int .i64 0, .slice none 0 0, .int .i64 2, .int .i64 0, .int .i64 0, .int .i64 (-1), .slice none 0 0, .int .i64 1, .int .i64 1, .int .i64 0, .int .i64 (-1), .slice none 0 0] 44)).alloc (.cells #[.int .i64 0, .int .i64 1] 3)).alloc (.cells #[.int .i64 1, .int .i64 0, .int .i64 0, .int .i64 (-1), .slice none 0 0, .int .i64 3, .int .i64 1, .int .i64 u, .int .i64 0, .slice none 0 0, .int .i64 4, .int .i64 0, .int .i64 0, .int .i64 0, .slice (some ⟨w1.heap.size + 1 + 1, 0, none⟩) 2 2, .int .i64 2, .int .i64 0, .int .i64 1, .int .i64 (-1), .slice none 0 0] 44)) [7, 9] 2 (w1.heap.size + 1 + 1 + 1 + 1) rfl (by rw [World.size_alloc, World.size_alloc, World.size_alloc, World.size_alloc]) (by decide)
  have hx := (((((bx_new cC w1).next (below_new _ (.cells #[.int .i64 3, .int .i64 0, .int .i64 v, .int .i64 0, .slice none 0 0, .int .i64 2, .int .i64 0, .int .i64 0, .int .i64 (-1), .slice none 0 0, .int .i64 1, .int .i64 1, .int .i64 0, .int .i64 (-1), .slice none 0 0] 44))).next (below_new _ (.cells #[.int .i64 0, .int .i64 1] 3))).next (below_new _ (.cells #[.int .i64 1, .int .i64 0, .int .i64 0, .int .i64 (-1), .slice none 0 0, .int .i64 3, .int .i64 1, .int .i64 u, .int .i64 0, .slice none 0 0, .int .i64 4, .int .i64 0, .int .i64 0, .int .i64 0, .slice (some ⟨w1.heap.size + 1 + 1, 0, none⟩) 2 2, .int .i64 2, .int .i64 0, .int .i64 1, .int .i64 (-1), .slice none 0 0] 44))).next (below_new _ (.cells #[.int .i64 7, .int .i64 9] 3)))
  have kR := run_out cC [7, 9] _ (pC v) _ _ hL hP (runC1 v)
  have g5 := hide (below_then c1 b5)
  replace hQ := hide hQ
  replace hx := hide hx
  clear b1 b2 b3 b4 b5 hP lL hL c1
  go_wp2_with fail
  refine kR.mono ?_
  rintro e w2 ⟨ra, rc, da, dc, wa, wc, ha, hc, rfl, hh, c2⟩
  have g6 := below_then (unhide g5) c2
  have bo := below_new w2 (.cells #[.int .i64 1, .slice ra 2 rc, .slice da 1 dc, .slice wa 1 wc] 30)
  have ho := hide (show Ob 1 (.slice ra 2 rc) (.slice da 1 dc) (.slice wa 1 wc) w2.heap.size (w2.alloc (.cells #[.int .i64 1, .slice ra 2 rc, .slice da 1 dc, .slice wa 1 wc] 30)) from heap_alloc_new w2 _)
  have g7 := hide (below_then g6 bo)
  have hh1 := hide (hh.next bo)
  have hx2 := (unhide hx).next (below_then c2 bo)
  obtain ⟨z0, z1, z2, z3, z4, z5, z6, z7, z8, z9, z10, z11⟩ := hx2.cells
  have kR2 := run_out cC [v, 9] (.slice ha 2 hc) (qC u) _ _ (hh.next bo).h ((unhide hQ).next (below_then c2 bo)) (runC2 v u)
  rw [wrap_one hv] at kR2
  obtain ⟨t, ht⟩ : ∃ t, wrap64 (v + u) = t := ⟨_, rfl⟩
  rw [ht] at kR2
  clear kR c2 g5 g6 bo hh hQ hx hx2
  go_wp2_with fail
  refine kR2.mono ?_
  rintro e w3 ⟨ra', rc', da', dc', wa', wc', ha', hc', rfl, hh, c3⟩
  have g8 := below_then (unhide g7) c3
  have bo := below_new w3 (.cells #[.int .i64 1, .slice ra' 2 rc', .slice da' 1 dc', .slice wa' 1 wc'] 30)
  have ho2 := hide (show Ob 1 (.slice ra' 2 rc') (.slice da' 1 dc') (.slice wa' 1 wc') w3.heap.size (w3.alloc (.cells #[.int .i64 1, .slice ra' 2 rc', .slice da' 1 dc', .slice wa' 1 wc'] 30)) from heap_alloc_new w3 _)
  have g9 := hide (below_then g8 bo)
  have hh2 := hide (hh.next bo)
  have hh1 := hide ((unhide hh1).next (below_then c3 bo))
  have ho := hide ((unhide ho).next (below_then c3 bo))
  clear kR2 c3 g7 g8 bo hh z0 z1 z2 z3 z4 z5 z6 z7 z8 z9 z10 z11
  go_wp2_with fail
  refine (first_any _).mono ?_
  rintro e w4 ⟨rfl, c4⟩
  have g10 := hide (below_then (unhide g9) c4)
  have bi := below_new w4 (.cells #[.int .i64 v, .int .i64 9] 3)
  have kI := ints_any _ _ _ _ _ ((unhide hh1).next (below_then c4 bi)).h (ls_new w4 [v, 9] 2 w4.heap.size rfl rfl (by simp))
  have hh1 := hide ((unhide hh1).next (below_then c4 bi))
  have hh2 := hide ((unhide hh2).next (below_then c4 bi))
  have ho := hide ((unhide ho).next (below_then c4 bi))
  have ho2 := hide ((unhide ho2).next (below_then c4 bi))
  have g11 := hide (below_then (unhide g10) bi)
  clear c4 bi g9 g10
  go_wp2_with fail
  refine kI.mono ?_
  rintro e w5 ⟨rfl, c5⟩
  rw [beq_self_eq_true]
  have bi := below_new w5 (.cells #[.int .i64 v, .int .i64 t] 3)
  have kI2 := ints_any _ _ _ _ _ ((unhide hh2).next (below_then c5 bi)).h (ls_new w5 [v, t] 2 w5.heap.size rfl rfl (by simp))
  have hh1 := hide ((unhide hh1).next (below_then c5 bi))
  have hh2 := hide ((unhide hh2).next (below_then c5 bi))
  have ho := hide ((unhide ho).next (below_then c5 bi))
  have ho2 := hide ((unhide ho2).next (below_then c5 bi))
  have g12 := hide (below_then (unhide g11) (below_then c5 bi))
  clear c5 bi g11 kI
  go_wp2_with fail
  refine kI2.mono ?_
  rintro e w6 ⟨rfl, c6⟩
  rw [beq_self_eq_true]
  have g13 := hide (below_then (unhide g12) c6)
  obtain ⟨x0, x1, x2, x3⟩ := ((unhide ho).next c6).cells
  obtain ⟨y0, y1, y2, y3⟩ := ((unhide ho2).next c6).cells
  have h1 := (unhide hh1).next c6
  have h2 := (unhide hh2).next c6
  obtain ⟨_, _, q1, _, q2⟩ := h1.d
  cases q1
  rcases q2 with q2 | ⟨db, dof, rfl, _, q2⟩
  · exact absurd q2 (by simp)
  obtain ⟨m0, m1⟩ := q2 0 (by simp)
  obtain ⟨_, _, q1, _, q3⟩ := h2.d
  cases q1
  rcases q3 with q3 | ⟨eb, eo, rfl, _, q3⟩
  · exact absurd q3 (by simp)
  obtain ⟨n0, n1⟩ := q3 0 (by simp)
  obtain ⟨_, _, q1, _, _, _, q4⟩ := ls_len h1.r
  cases q1
  obtain ⟨rb, ro, rfl, _, k1⟩ := q4.at (i := 1) (by simp)
  simp only [List.getD_cons_zero, List.getD_cons_succ, Nat.add_zero, Nat.zero_mul] at m0 m1 n0 n1 k1
  clear q2 q3 q4 h1 h2 c6 kI2
  go_wp2
  go_ret
  exact ⟨by first | rfl | simp, unhide g13⟩
end Go.Proofs.Ytdhfpfkcbcgnaaa
