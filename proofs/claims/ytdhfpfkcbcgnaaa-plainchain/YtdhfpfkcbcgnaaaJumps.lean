/- The walk of PlainJumps: it answers true. -/
import Derived.Test.YtdhfpfkcbcgnaaaFirst
namespace Go.Proofs.Ytdhfpfkcbcgnaaa
open Go.RowKit

/-- A program just written out whose instructions name no numbers beside. -/
def flatI : List In → List Value
  | [] => []
  | x :: r => .int .i64 x.k :: .int .i64 x.a :: .int .i64 x.b :: .int .i64 x.c :: .slice none 0 0 :: flatI r
theorem flat_at : ∀ (ps : List In) (i : Nat), i < ps.length → (flatI ps)[i * 5]? = some (.int .i64 (ps.getD i z0).k) ∧ (flatI ps)[i * 5 + 1]? = some (.int .i64 (ps.getD i z0).a) ∧ (flatI ps)[i * 5 + 2]? = some (.int .i64 (ps.getD i z0).b) ∧ (flatI ps)[i * 5 + 3]? = some (.int .i64 (ps.getD i z0).c) ∧ (flatI ps)[i * 5 + 4]? = some (.slice none 0 0)
  | [], i, h => absurd h (Nat.not_lt_zero _)
  | x :: r, 0, h => ⟨rfl, rfl, rfl, rfl, rfl⟩
  | x :: r, i + 1, h => by
    have := flat_at r i (by simpa using h)
    rw [show (i + 1) * 5 = i * 5 + 5 by omega, show i * 5 + 5 + 1 = i * 5 + 1 + 5 by omega, show i * 5 + 5 + 2 = i * 5 + 2 + 5 by omega, show i * 5 + 5 + 3 = i * 5 + 3 + 5 by omega, show i * 5 + 5 + 4 = i * 5 + 4 + 5 by omega]
    simpa [flatI] using this
theorem ps_flat (w : World) (ps : List In) (n N : Nat) (hn : n = ps.length) (hN : N = w.heap.size) (hm : ps.length ≤ 1000) (hl : ∀ i, i < ps.length → (ps.getD i z0).l = []) :
    Ps (w.alloc (.cells (flatI ps).toArray 44)).heap.size (w.alloc (.cells (flatI ps).toArray 44)) (.slice (some ⟨N, 0, none⟩) n n) ps := by
  subst hn; subst hN
  refine ⟨_, _, rfl, Nat.le_refl _, by unfold maxLen; omega, .inr ⟨w.heap.size, 0, rfl, by rw [World.size_alloc]; omega, fun i hi => ?_⟩⟩
  have h : (w.alloc (.cells (flatI ps).toArray 44)).heap[w.heap.size]? = some (.cells (flatI ps).toArray 44) := heap_alloc_new w _
  have q : ∀ j v, (flatI ps)[j]? = some v → (w.alloc (.cells (flatI ps).toArray 44)).cell? ⟨w.heap.size, j, none⟩ = some v := fun j v hj => by
    unfold World.cell?
    rw [h]
    simpa using hj
  obtain ⟨h0, h1, h2, h3, h4⟩ := flat_at ps i hi
  rw [Nat.zero_add]
  exact ⟨q _ _ h0, q _ _ h1, q _ _ h2, q _ _ h3, _, q _ _ h4, by rw [hl i hi]; exact ls_none _ _⟩
def cJ : Cf := ⟨1, 1, 1, 1, 1, 0, 2, 9, 9, 0, 9, 0⟩
def pJ : List In := [⟨1, 0, 0, -1, []⟩, ⟨5, 0, 4, 0, []⟩, ⟨3, 1, 5, 0, []⟩, ⟨2, 1, 0, -1, []⟩]
theorem play_go {c : Cf} {ps : List In} {f k : Nat} {s : St} (x : In) (s' : St) (k' : Nat) (h : k < ps.length) (hx : ps.getD k z0 = x) (h6 : (x.k == 6) = false) (h7 : (x.k == 7) = false) (hs : stepD c x k s = (s', k')) : playD c ps (f + 1) k s = playD c ps f k' s' := by
  rw [playD, if_pos h, hx, if_neg (by simpa using h6), if_neg (by simpa using h7), hs]
theorem runJ (v : Int) : runD cJ [v] pJ = if v = 0 then ⟨1, [0, 5], [(0, 0)], [(0, 5)], [5], 0⟩ else ⟨1, [v, 0], [(0, v)], [], [v], 0⟩ := by
  have e1 : chB cJ pJ = true := by decide
  have e2 : ((([v] : List Int).length : Nat) : Int) = wordsD cJ := by kernel_rfl
  unfold runD
  rw [if_pos e1, if_pos e2]
  by_cases h : v = 0
  · subst h
    rw [if_pos rfl]
    rfl
  · rw [if_neg h]
    have : playD cJ pJ pJ.length 0 (st0 cJ [v]) = (⟨[v], [v, 0], [(0, v)], []⟩, 1) := by
      have s1 : stepD cJ ⟨5, 0, 4, 0, []⟩ 1 ⟨[v], [v, 0], [(0, v)], []⟩ = (if v = 0 then (⟨[v], [v, 0], [(0, v)], []⟩, 2) else (⟨[v], [v, 0], [(0, v)], []⟩, 4)) := by kernel_rfl
      rw [if_neg h] at s1
      show playD cJ pJ 4 0 (st0 cJ [v]) = _
      rw [play_go ⟨1, 0, 0, -1, []⟩ ⟨[v], [v, 0], [(0, v)], []⟩ 1 (by decide) rfl (by decide) (by decide) (by kernel_rfl), play_go ⟨5, 0, 4, 0, []⟩ ⟨[v], [v, 0], [(0, v)], []⟩ 4 (by decide) rfl (by decide) (by decide) s1]
      exact play_end (by decide)
    rw [this]
    rfl
set_option maxRecDepth 100000 in
set_option maxHeartbeats 1000000 in
theorem plainJumps_core (v : Int) (w : World) : Calls Try.prog 6 #[.int .i64 v] w fun e w' => e = .returned (.bool true) ∧ Below w.heap.size w w' := by
  go_enter Try.func6, Try.ntmps6
  go_wp2_with fail
  refine (first_any _).mono ?_
  rintro e w1 ⟨rfl, c1⟩
  have b1 := below_new w1 (.cells #[.int .i64 1, .int .i64 1, .int .i64 1, .int .i64 1, .int .i64 1, .int .i64 0, .int .i64 2, .int .i64 9, .int .i64 9, .int .i64 0, .int .i64 9, .int .i64 0] 23)
  have b2 := below_then b1 (below_new _ (.cells #[.int .i64 1, .int .i64 0, .int .i64 0, .int .i64 (-1), .slice none 0 0, .int .i64 5, .int .i64 0, .int .i64 4, .int .i64 0, .slice none 0 0, .int .i64 3, .int .i64 1, .int .i64 5, .int .i64 0, .slice none 0 0, .int .i64 2, .int .i64 1, .int .i64 0, .int .i64 (-1), .slice none 0 0] 44))
  have b3 := below_then b2 (below_new _ (.cells #[.int .i64 v] 3))
  have hP := (ps_flat (w1.alloc (.cells #[.int .i64 1, .int .i64 1, .int .i64 1, .int .i64 1, .int .i64 1, .int .i64 0, .int .i64 2, .int .i64 9, .int .i64 9, .int .i64 0, .int .i64 9, .int .i64 0] 23)) pJ 4 (w1.heap.size + 1) rfl (by rw [World.size_alloc]) (by decide) (by decide)).next (below_new _ (.cells #[.int .i64 v] 3))
  have hL := ls_new ((w1.alloc (.cells #[.int .i64 1, .int .i64 1, .int .i64 1, .int .i64 1, .int .i64 1, .int .i64 0, .int .i64 2, .int .i64 9, .int .i64 9, .int .i64 0, .int .i64 9, .int .i64 0] 23)).alloc (.cells #[.int .i64 1, .int .i64 0, .int .i64 0, .int .i64 (-1), .slice none 0 0, .int .i64 5, .int .i64 0, .int .i64 4, .int .i64 0, .slice none 0 0, .int .i64 3, .int .i64 1, .int .i64 5, .int .i64 0, .slice none 0 0, .int .i64 2, .int .i64 1, .int .i64 0, .int .i64 (-1), .slice none 0 0] 44)) [v] 1 (w1.heap.size + 1 + 1) rfl (by rw [World.size_alloc, World.size_alloc]) (by simp)
  have g3 := hide (below_then c1 b3)
  by_cases h : v = 0
  · have e : runD cJ [v] pJ = ⟨1, [0, 5], [(0, 0)], [(0, 5)], [5], 0⟩ := by rw [runJ, if_pos h]
    have kR := run_out cJ [v] _ pJ _ _ hL hP e
    subst h
    clear b1 b2 b3 hP hL e c1
    go_wp2_with fail
    refine kR.mono ?_
    rintro e w2 ⟨ra, rc, da, dc, wa, wc, ha, hc, rfl, hh, c2⟩
    have g4 := below_then (unhide g3) c2
    clear kR c2 g3
    have bo := below_new w2 (.cells #[.int .i64 1, .slice ra 2 rc, .slice da 1 dc, .slice wa 1 wc] 30)
    have ho : Ob 1 (.slice ra 2 rc) (.slice da 1 dc) (.slice wa 1 wc) w2.heap.size (w2.alloc (.cells #[.int .i64 1, .slice ra 2 rc, .slice da 1 dc, .slice wa 1 wc] 30)) := heap_alloc_new w2 _
    have g5 := hide (below_then g4 bo)
    have hh2 := hide (hh.next bo)
    replace ho := hide ho
    clear hh bo g4
    go_wp2_with fail
    refine (first_any _).mono ?_
    rintro e w3 ⟨rfl, c3⟩
    have g6 := hide (below_then (unhide g5) c3)
    obtain ⟨x0, x1, x2, x3⟩ := ((unhide ho).next c3).cells
    obtain ⟨_, _, q1, _, _, _, q2⟩ := ls_len ((unhide hh2).next c3).h
    cases q1
    obtain ⟨hb0, ho0, rfl, _, y0⟩ := q2.at (i := 0) (by simp)
    obtain ⟨_, _, q3, _, _, _, q4⟩ := ls_len ((unhide hh2).next c3).r
    cases q3
    obtain ⟨rb0, ro0, rfl, _, y1⟩ := q4.at (i := 1) (by simp)
    simp only [List.getD_cons_zero, List.getD_cons_succ, Nat.add_zero] at y0 y1
    clear q2 q4 c3
    go_wp2
    go_ret
    exact ⟨by first | rfl | simp, unhide g6⟩
  · have e : runD cJ [v] pJ = ⟨1, [v, 0], [(0, v)], [], [v], 0⟩ := by rw [runJ, if_neg h]
    have kR := run_out cJ [v] _ pJ _ _ hL hP e
    have hb : (v == 0) = false := by simpa using h
    replace h := hide h
    clear b1 b2 b3 hP hL e c1
    go_wp2_with fail
    refine kR.mono ?_
    rintro e w2 ⟨ra, rc, da, dc, wa, wc, ha, hc, rfl, hh, c2⟩
    have g4 := below_then (unhide g3) c2
    clear kR c2 g3
    have bo := below_new w2 (.cells #[.int .i64 1, .slice ra 2 rc, .slice da 1 dc, .slice wa 0 wc] 30)
    have ho : Ob 1 (.slice ra 2 rc) (.slice da 1 dc) (.slice wa 0 wc) w2.heap.size (w2.alloc (.cells #[.int .i64 1, .slice ra 2 rc, .slice da 1 dc, .slice wa 0 wc] 30)) := heap_alloc_new w2 _
    have g5 := hide (below_then g4 bo)
    have hh2 := hide (hh.next bo)
    replace ho := hide ho
    clear hh bo g4
    go_wp2_with fail
    refine (first_any _).mono ?_
    rintro e w3 ⟨rfl, c3⟩
    have g6 := hide (below_then (unhide g5) c3)
    obtain ⟨x0, x1, x2, x3⟩ := ((unhide ho).next c3).cells
    obtain ⟨_, _, q1, _, _, _, q2⟩ := ls_len ((unhide hh2).next c3).h
    cases q1
    obtain ⟨hb0, ho0, rfl, _, y0⟩ := q2.at (i := 0) (by simp)
    obtain ⟨_, _, q3, _, _, _, q4⟩ := ls_len ((unhide hh2).next c3).r
    cases q3
    obtain ⟨rb0, ro0, rfl, _, y1⟩ := q4.at (i := 1) (by simp)
    simp only [List.getD_cons_zero, List.getD_cons_succ, Nat.add_zero] at y0 y1
    clear q2 q4 c3
    go_wp2
    go_ret
    exact ⟨by first | rfl | simp, unhide g6⟩
end Go.Proofs.Ytdhfpfkcbcgnaaa
