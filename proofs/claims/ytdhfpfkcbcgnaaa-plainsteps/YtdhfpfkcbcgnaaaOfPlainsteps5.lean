/- Texts of this claim, put together in their order. -/
import Derived.Deep.Slices
import Derived.ProofKit
import Derived.ChangeSlices
import Derived.Test.YtdhfpfkcbcgnaaaOfPlainsteps1
import Derived.Test.YtdhfpfkcbcgnaaaOfPlainsteps2
import Derived.Test.YtdhfpfkcbcgnaaaOfPlainsteps3
import Derived.Test.YtdhfpfkcbcgnaaaOfPlainsteps4
/- The walk of PlainJumps: it answers true. -/
namespace Go.Proofs.Ytdhfpfkcbcgnaaa
open Go.RowKit

/-- A program just written out whose instructions name no numbers beside. -/
def flatI : List In → List Value
  | [] => []
  | x :: r => .int .i64 x.k :: .int .i64 x.a :: .int .i64 x.b :: .int .i64 x.c :: .slice none 0 0 :: flatI r
theorem flat_at : ∀ (ps : List In) (i : Nat), i < ps.length → (flatI ps)[i * 5]? = some (.int .i64 (ps.getD i z0).k) ∧ (flatI ps)[i * 5 + 1]? = some (.int .i64 (ps.getD i z0).a) ∧ (flatI ps)[i * 5 + 2]? = some (.int .i64 (ps.getD i z0).b) ∧ (flatI ps)[i * 5 + 3]? = some (.int .i64 (ps.getD i z0).c) ∧ (flatI ps)[i * 5 + 4]? = some (.slice none 0 0)
  | [], i, h => absurd h (Nat.not_lt_zero _)
  | x :: r, 0, h => ⟨rfl, rfl, rfl, rfl, rfl⟩
  | x :: r, i + 1, h => by
    have := flat_at r i (by simpa using h)
    rw [show (i + 1) * 5 = i * 5 + 5 by omega, show i * 5 + 5 + 1 = i * 5 + 1 + 5 by omega, show i * 5 + 5 + 2 = i * 5 + 2 + 5 by omega, show i * 5 + 5 + 3 = i * 5 + 3 + 5 by omega, show i * 5 + 5 + 4 = i * 5 + 4 + 5 by omega]
    simpa [flatI] using this
theorem ps_flat (w : World) (ps : List In) (n N : Nat) (hn : n = ps.length) (hN : N = w.heap.size) (hm : ps.length ≤ 1000) (hl : ∀ i, i < ps.length → (ps.getD i z0).l = []) :
    Ps (w.alloc (.cells (flatI ps).toArray 44)).heap.size (w.alloc (.cells (flatI ps).toArray 44)) (.slice (some ⟨N, 0, none⟩) n n) ps := by
  subst hn; subst hN
  refine ⟨_, _, rfl, Nat.le_refl _, by unfold maxLen; omega, .inr ⟨w.heap.size, 0, rfl, by rw [World.size_alloc]; omega, fun i hi => ?_⟩⟩
  have h : (w.alloc (.cells (flatI ps).toArray 44)).heap[w.heap.size]? = some (.cells (flatI ps).toArray 44) := heap_alloc_new w _
  have q : ∀ j v, (flatI ps)[j]? = some v → (w.alloc (.cells (flatI ps).toArray 44)).cell? ⟨w.heap.size, j, none⟩ = some v := fun j v hj => by
    unfold World.cell?
    rw [h]
    simpa using hj
  obtain ⟨h0, h1, h2, h3, h4⟩ := flat_at ps i hi
  rw [Nat.zero_add]
  exact ⟨q _ _ h0, q _ _ h1, q _ _ h2, q _ _ h3, _, q _ _ h4, by rw [hl i hi]; exact ls_none _ _⟩
def cJ : Cf := ⟨1, 1, 1, 1, 1, 0, 2, 9, 9, 0, 9, 0⟩
def pJ : List In := [⟨1, 0, 0, -1, []⟩, ⟨5, 0, 4, 0, []⟩, ⟨3, 1, 5, 0, []⟩, ⟨2, 1, 0, -1, []⟩]
theorem play_go {c : Cf} {ps : List In} {f k : Nat} {s : St} (x : In) (s' : St) (k' : Nat) (h : k < ps.length) (hx : ps.getD k z0 = x) (h6 : (x.k == 6) = false) (h7 : (x.k == 7) = false) (hs : stepD c x k s = (s', k')) : playD c ps (f + 1) k s = playD c ps f k' s' := by
  rw [playD, if_pos h, hx, if_neg (by simpa using h6), if_neg (by simpa using h7), hs]
theorem runJ (v : Int) : runD cJ [v] pJ = if v = 0 then ⟨1, [0, 5], [(0, 0)], [(0, 5)], [5], 0⟩ else ⟨1, [v, 0], [(0, v)], [], [v], 0⟩ := by
  have e1 : chB cJ pJ = true := by decide
  have e2 : ((([v] : List Int).length : Nat) : Int) = wordsD cJ := by kernel_rfl
  unfold runD
  rw [if_pos e1, if_pos e2]
  by_cases h : v = 0
  · subst h
    rw [if_pos rfl]
    rfl
  · rw [if_neg h]
    have : playD cJ pJ pJ.length 0 (st0 cJ [v]) = (⟨[v], [v, 0], [(0, v)], []⟩, 1) := by
      have s1 : stepD cJ ⟨5, 0, 4, 0, []⟩ 1 ⟨[v], [v, 0], [(0, v)], []⟩ = (if v = 0 then (⟨[v], [v, 0], [(0, v)], []⟩, 2) else (⟨[v], [v, 0], [(0, v)], []⟩, 4)) := by kernel_rfl
      rw [if_neg h] at s1
      show playD cJ pJ 4 0 (st0 cJ [v]) = _
      rw [play_go ⟨1, 0, 0, -1, []⟩ ⟨[v], [v, 0], [(0, v)], []⟩ 1 (by decide) rfl (by decide) (by decide) (by kernel_rfl), play_go ⟨5, 0, 4, 0, []⟩ ⟨[v], [v, 0], [(0, v)], []⟩ 4 (by decide) rfl (by decide) (by decide) s1]
      exact play_end (by decide)
    rw [this]
    rfl
set_option maxRecDepth 100000 in
set_option maxHeartbeats 1000000 in
theorem plainJumps_core (v : Int) (w : World) : Calls Try.prog 6 #[.int .i64 v] w fun e w' => e = .returned (.bool true) ∧ Below w.heap.size w w' := by
  go_enter Try.func6, Try.ntmps6
  go_wp2_with fail
  refine (first_any _).mono ?_
  rintro e w1 ⟨rfl, c1⟩
  have b1 := below_new w1 (.cells #[.int .i64 1, .int .i64 1, .int .i64 1, .int .i64 1, .int .i64 1, .int .i64 0, .int .i64 2, .int .i64 9, .int .i64 9, .int .i64 0, .int .i64 9, .int .i64 0] 23)
  have b2 := below_then b1 (below_new _ (.cells #[.int .i64 1, .int .i64 0, .int .i64 0, .int .i64 (-1), .slice none 0 0, .int .i64 5, .int .i64 0, .int .i64 4, .int .i64 0, .slice none 0 0, .int .i64 3, .int .i64 1, .int .i64 5, .int .i64 0, .slice none 0 0, .int .i64 2, .int .i64 1, .int .i64 0, .int .i64 (-1), .slice none 0 0] 44))
  have b3 := below_then b2 (below_new _ (.cells #[.int .i64 v] 3))
  have hP := (ps_flat (w1.alloc (.cells #[.int .i64 1, .int .i64 1, .int .i64 1, .int .i64 1, .int .i64 1, .int .i64 0, .int .i64 2, .int .i64 9, .int .i64 9, .int .i64 0, .int .i64 9, .int .i64 0] 23)) pJ 4 (w1.heap.size + 1) rfl (by rw [World.size_alloc]) (by decide) (by decide)).next (below_new _ (.cells #[.int .i64 v] 3))
  have hL := ls_new ((w1.alloc (.cells #[.int .i64 1, .int .i64 1, .int .i64 1, .int .i64 1, .int .i64 1, .int .i64 0, .int .i64 2, .int .i64 9, .int .i64 9, .int .i64 0, .int .i64 9, .int .i64 0] 23)).alloc (.cells #[.int .i64 1, .int .i64 0, .int .i64 0, .int .i64 (-1), .slice none 0 0, .int .i64 5, .int .i64 0, .int .i64 4, .int .i64 0, .slice none 0 0, .int .i64 3, .int .i64 1, .int .i64 5, .int .i64 0, .slice none 0 0, .int .i64 2, .int .i64 1, .int .i64 0, .int .i64 (-1), .slice none 0 0] 44)) [v] 1 (w1.heap.size + 1 + 1) rfl (by rw [World.size_alloc, World.size_alloc]) (by simp)
  have g3 := hide (below_then c1 b3)
  by_cases h : v = 0
  · have e : runD cJ [v] pJ = ⟨1, [0, 5], [(0, 0)], [(0, 5)], [5], 0⟩ := by rw [runJ, if_pos h]
    have kR := run_out cJ [v] _ pJ _ _ hL hP e
    subst h
    clear b1 b2 b3 hP hL e c1
    go_wp2_with fail
    refine kR.mono ?_
    rintro e w2 ⟨ra, rc, da, dc, wa, wc, ha, hc, rfl, hh, c2⟩
    have g4 := below_then (unhide g3) c2
    clear kR c2 g3
    have bo := below_new w2 (.cells #[.int .i64 1, .slice ra 2 rc, .slice da 1 dc, .slice wa 1 wc] 30)
    have ho : Ob 1 (.slice ra 2 rc) (.slice da 1 dc) (.slice wa 1 wc) w2.heap.size (w2.alloc (.cells #[.int .i64 1, .slice ra 2 rc, .slice da 1 dc, .slice wa 1 wc] 30)) := heap_alloc_new w2 _
    have g5 := hide (below_then g4 bo)
    have hh2 := hide (hh.next bo)
    replace ho := hide ho
    clear hh bo g4
    go_wp2_with fail
    refine (first_any _).mono ?_
    rintro e w3 ⟨rfl, c3⟩
    have g6 := hide (below_then (unhide g5) c3)
    obtain ⟨x0, x1, x2, x3⟩ := ((unhide ho).next c3).cells
    obtain ⟨_, _, q1, _, _, _, q2⟩ := ls_len ((unhide hh2).next c3).h
    cases q1
    obtain ⟨hb0, ho0, rfl, _, y0⟩ := q2.at (i := 0) (by simp)
    obtain ⟨_, _, q3, _, _, _, q4⟩ := ls_len ((unhide hh2).next c3).r
    cases q3
    obtain ⟨rb0, ro0, rfl, _, y1⟩ := q4.at (i := 1) (by simp)
    simp only [List.getD_cons_zero, List.getD_cons_succ, Nat.add_zero] at y0 y1
    clear q2 q4 c3
    go_wp2
    go_ret
    exact ⟨by first | rfl | simp, unhide g6⟩
  · have e : runD cJ [v] pJ = ⟨1, [v, 0], [(0, v)], [], [v], 0⟩ := by rw [runJ, if_neg h]
    have kR := run_out cJ [v] _ pJ _ _ hL hP e
    have hb : (v == 0) = false := by simpa using h
    replace h := hide h
    clear b1 b2 b3 hP hL e c1
    go_wp2_with fail
    refine kR.mono ?_
    rintro e w2 ⟨ra, rc, da, dc, wa, wc, ha, hc, rfl, hh, c2⟩
    have g4 := below_then (unhide g3) c2
    clear kR c2 g3
    have bo := below_new w2 (.cells #[.int .i64 1, .slice ra 2 rc, .slice da 1 dc, .slice wa 0 wc] 30)
    have ho : Ob 1 (.slice ra 2 rc) (.slice da 1 dc) (.slice wa 0 wc) w2.heap.size (w2.alloc (.cells #[.int .i64 1, .slice ra 2 rc, .slice da 1 dc, .slice wa 0 wc] 30)) := heap_alloc_new w2 _
    have g5 := hide (below_then g4 bo)
    have hh2 := hide (hh.next bo)
    replace ho := hide ho
    clear hh bo g4
    go_wp2_with fail
    refine (first_any _).mono ?_
    rintro e w3 ⟨rfl, c3⟩
    have g6 := hide (below_then (unhide g5) c3)
    obtain ⟨x0, x1, x2, x3⟩ := ((unhide ho).next c3).cells
    obtain ⟨_, _, q1, _, _, _, q2⟩ := ls_len ((unhide hh2).next c3).h
    cases q1
    obtain ⟨hb0, ho0, rfl, _, y0⟩ := q2.at (i := 0) (by simp)
    obtain ⟨_, _, q3, _, _, _, q4⟩ := ls_len ((unhide hh2).next c3).r
    cases q3
    obtain ⟨rb0, ro0, rfl, _, y1⟩ := q4.at (i := 1) (by simp)
    simp only [List.getD_cons_zero, List.getD_cons_succ, Nat.add_zero] at y0 y1
    clear q2 q4 c3
    go_wp2
    go_ret
    exact ⟨by first | rfl | simp, unhide g6⟩
end Go.Proofs.Ytdhfpfkcbcgnaaa

/- A struct of whole numbers that came in by value: it is a configuration. -/
namespace Go.Proofs.Ytdhfpfkcbcgnaaa
open Go.RowKit Go.Deep Go.WideShapes

/-- The type e is a struct of N fields, each one cell, each a whole number of 64 bits. -/
def plainInts (P : Program) (e : TypeId) (N : Nat) : Bool :=
  match P.underlying e with
  | some (.struct fs) => (fs.size == N) && ((P.cellsOf e == N) && (List.range N).all fun i =>
      match fs[i]? with
      | some f => (f.offset == i) && ((P.cellsOf f.type == 1) && match P.underlying f.type with
          | some (.int .i64) => true
          | _ => false)
      | none => false)
  | _ => false
theorem plainInts_out {P : Program} {e : TypeId} {N : Nat} (h : plainInts P e N = true) : ∃ fs : Array Field, P.underlying e = some (.struct fs) ∧ fs.size = N ∧ P.cellsOf e = N ∧
    ∀ (i : Nat) (f : Field), fs[i]? = some f → f.offset = i ∧ P.cellsOf f.type = 1 ∧ P.underlying f.type = some (.int .i64) := by
  unfold plainInts at h
  split at h
  · rename_i fs hfs
    simp only [Bool.and_eq_true, beq_iff_eq, List.all_eq_true, List.mem_range] at h
    obtain ⟨h1, h2, h3⟩ := h
    refine ⟨fs, hfs, h1, h2, fun i f hf => ?_⟩
    have hi : i < N := by
      rw [← h1]
      obtain ⟨hlt, _⟩ := Array.getElem?_eq_some_iff.1 hf
      exact hlt
    have h4 := h3 i hi
    rw [hf] at h4
    simp only [Bool.and_eq_true, beq_iff_eq] at h4
    obtain ⟨h5, h6, h7⟩ := h4
    refine ⟨h5, h6, ?_⟩
    split at h7
    · assumption
    · cases h7
  · cases h

/-- Such a struct's cells. -/
theorem open_rec {H : Type} {enc : TypeId × Value → H} {P : Program} {w : World} {base : Nat} {spare : Nat → Bool} {held : Bool} {e : TypeId} {N fuel : Nat} {cs : List Value} {x : DataW H × List MemPlace} (hp : plainInts P e N = true)
    (h : DataW.trod enc P w base spare held fuel e cs = some x) : cs.length = N ∧ ∃ Z : Nat → Int, ∀ j, j < N → cs[j]? = some (.int .i64 (Z j)) ∧ (Lit.int .i64 (Z j)).wf = true := by
  obtain ⟨fs, he, hN, ce, hall⟩ := plainInts_out hp
  obtain ⟨xs, k, hk, hxy, hlen, hxl, hf⟩ := DataW.trod_struct he h
  refine ⟨by omega, choose_lt (p := fun j z => cs[j]? = some (.int .i64 z) ∧ (Lit.int .i64 z).wf = true) ?_⟩
  intro j hj
  have hj' : j < fs.size := by omega
  obtain ⟨o1, o2, o3⟩ := hall j fs[j] (Array.getElem?_eq_getElem hj')
  have g := hf j fs[j] (Array.getElem?_eq_getElem hj')
  rw [o1, o2] at g
  have hjc : j < cs.length := by omega
  rw [List.drop_eq_getElem_cons hjc, List.take_succ_cons, List.take_zero, List.getElem?_eq_getElem (by omega)] at g
  obtain ⟨z, hz, _, hw⟩ := DataW.trod_int o3 g
  refine ⟨z, ?_, hw⟩
  rw [List.getElem?_eq_getElem hjc]
  simpa using hz

theorem conf_plain : plainInts Try.prog 23 12 = true := by kernel_rfl
theorem list12 {l : List Value} (h : l.length = 12) {Z : Nat → Int} (hz : ∀ j, j < 12 → l[j]? = some (.int .i64 (Z j))) :
    l = [.int .i64 (Z 0), .int .i64 (Z 1), .int .i64 (Z 2), .int .i64 (Z 3), .int .i64 (Z 4), .int .i64 (Z 5), .int .i64 (Z 6), .int .i64 (Z 7), .int .i64 (Z 8), .int .i64 (Z 9), .int .i64 (Z 10), .int .i64 (Z 11)] := by
  apply List.ext_getElem?
  intro j
  by_cases hj : j < 12
  · rw [hz j hj]
    have : j = 0 ∨ j = 1 ∨ j = 2 ∨ j = 3 ∨ j = 4 ∨ j = 5 ∨ j = 6 ∨ j = 7 ∨ j = 8 ∨ j = 9 ∨ j = 10 ∨ j = 11 := by omega
    rcases this with rfl | rfl | rfl | rfl | rfl | rfl | rfl | rfl | rfl | rfl | rfl | rfl <;> rfl
  · rw [List.getElem?_eq_none (by omega), List.getElem?_eq_none (by simp; omega)]

set_option maxRecDepth 100000 in
theorem open_conf {H : Type} {enc : TypeId × Value → H} {w : World} {r : Reach} {b0 base : Nat} {spare : Nat → Bool} {held : Bool} {fuel : Nat} {v : Value} {x : DataW H × List MemPlace}
    (hv : Value.okWide Try.prog w r b0 23 v) (h : DataW.trod enc Try.prog w base spare held fuel 23 v.cells.toList = some x) : ∃ c : Cf, v = cv c := by
  obtain ⟨fs, he, _⟩ := plainInts_out conf_plain
  obtain ⟨cs, rfl, _⟩ := okWide_struct he hv
  obtain ⟨h1, Z, h2⟩ := open_rec conf_plain h
  have h3 := list12 h1 fun j hj => (h2 j hj).1
  refine ⟨⟨Z 0, Z 1, Z 2, Z 3, Z 4, Z 5, Z 6, Z 7, Z 8, Z 9, Z 10, Z 11⟩, ?_⟩
  unfold cv
  congr 1
  apply Array.toList_inj.1
  simpa [Value.cells] using h3
end Go.Proofs.Ytdhfpfkcbcgnaaa

/- An argument that is a program: its instructions, read. -/
namespace Go.Proofs.Ytdhfpfkcbcgnaaa
open Go.ChangeShapes Go.WideShapes Go.RowKit

def I64 (n : Int) : Prop := -9223372036854775808 ≤ n ∧ n ≤ 9223372036854775807
theorem wf_i64 {n : Int} (h : (Lit.int .i64 n).wf = true) : I64 n := by
  have h2 := h
  simp [Lit.wf, IntKind.min, IntKind.max, IntKind.bits, IntKind.signed] at h2
  exact ⟨by omega, by omega⟩
structure Fi (x : In) : Prop where
  k : I64 x.k
  a : I64 x.a
  b : I64 x.b
  c : I64 x.c
  l : ∀ n ∈ x.l, I64 n
theorem row_ls {w : World} {a : Option Addr} {len cap : Nat} {zs : List Int} (h : IsRow .i64 w a len cap zs) : Ls w.heap.size w (.slice a len cap) (zs.take len) := by
  obtain ⟨s, lc, cm, _⟩ := isRow_seg h
  refine ⟨a, len, cap, rfl, lc, cm, fun e => ?_, s.low⟩
  rcases h with ⟨_, _, e2, _⟩ | ⟨x, e2, _⟩
  · exact e2
  · rw [e] at e2; cases e2
/-- A row of numbers, as a value of its cell. -/
theorem open_l {H : Type} {enc : TypeId × Value → H} {w : World} {held : Bool} {fuel : Nat} {v : Value} {x : DataW H × List MemPlace}
    (h : DataW.trod enc Try.prog w 0 (fun _ => true) held fuel 24 [v] = some x) : ∃ l, Ls w.heap.size w v l ∧ ∀ n ∈ l, I64 n := by
  rcases open_ints Try.underlying24 Try.underlying3 (by kernel_rfl) h with ⟨hcs, _⟩ | ⟨x, l, c, zs, hcs, _, hl, hm, hz, _, hcell, hwz⟩
  · obtain rfl : v = .slice none 0 0 := by simpa using hcs
    exact ⟨[], row_ls (zs := []) (.inl ⟨rfl, rfl, rfl, rfl⟩), fun n hn => by cases hn⟩
  · obtain rfl : v = .slice (some x) l c := by simpa using hcs
    exact ⟨zs.take l, row_ls (.inr ⟨_, rfl, hl, hm, by simpa using hz, hcell, hwz⟩), fun n hn => wf_i64 (hwz n (List.mem_of_mem_take hn))⟩
theorem list5 {cs : List Value} (h : cs.length = 5) : ∃ a b c d e, cs = [a, b, c, d, e] := by
  rcases cs with _ | ⟨a, _ | ⟨b, _ | ⟨c, _ | ⟨d, _ | ⟨e, _ | ⟨f, r⟩⟩⟩⟩⟩⟩
  · simp at h
  · simp at h
  · simp at h
  · simp at h
  · simp at h
  · exact ⟨a, b, c, d, e, rfl⟩
  · simp at h
theorem c3 : Try.prog.cellsOf 3 = 1 := by kernel_rfl
theorem c24 : Try.prog.cellsOf 24 = 1 := by kernel_rfl
theorem c44 : Try.prog.cellsOf 44 = 5 := by kernel_rfl
theorem open_i {H : Type} {enc : TypeId × Value → H} {w : World} {held : Bool} {fuel : Nat} {v : Value} {x : DataW H × List MemPlace}
    (h : DataW.trod enc Try.prog w 0 (fun _ => true) held fuel 3 [v] = some x) : ∃ n, v = .int .i64 n ∧ I64 n := by
  obtain ⟨n, hz, _, hw⟩ := DataW.trod_int Try.underlying3 h
  exact ⟨n, by simpa using hz, wf_i64 hw⟩
theorem getS {α : Type} {l : List α} {j : Nat} (h : j < l.length) : ∃ y, l[j]? = some y := ⟨_, List.getElem?_eq_getElem h⟩
set_option maxRecDepth 100000 in
theorem open_in {H : Type} {enc : TypeId × Value → H} {w : World} {held : Bool} {fuel : Nat} {cs : List Value} {b off : Nat} {x : DataW H × List MemPlace}
    (hc : w.cells? 0 ⟨b, off, none⟩ 5 = some cs) (h : DataW.trod enc Try.prog w 0 (fun _ => true) held fuel 44 cs = some x) : ∃ x, IsIn w.heap.size w b off x ∧ Fi x := by
  obtain ⟨_, hlen, hcell⟩ := World.cells?_some hc
  obtain ⟨xs, k, hk, hxy, _, hxl, hf⟩ := DataW.trod_struct Try.underlying44 h
  obtain ⟨v0, v1, v2, v3, v4, rfl⟩ := list5 hlen
  have hxl : xs.length = 5 := hxl
  have g0 := hf 0 _ rfl
  have g1 := hf 1 _ rfl
  have g2 := hf 2 _ rfl
  have g3 := hf 3 _ rfl
  have g4 := hf 4 _ rfl
  clear hf hxy hk h hc
  obtain ⟨y0, q0⟩ := getS (l := xs) (j := 0) (by omega)
  obtain ⟨y1, q1⟩ := getS (l := xs) (j := 1) (by omega)
  obtain ⟨y2, q2⟩ := getS (l := xs) (j := 2) (by omega)
  obtain ⟨y3, q3⟩ := getS (l := xs) (j := 3) (by omega)
  obtain ⟨y4, q4⟩ := getS (l := xs) (j := 4) (by omega)
  rw [q0] at g0
  rw [q1] at g1
  rw [q2] at g2
  rw [q3] at g3
  rw [q4] at g4
  replace g0 : DataW.trod enc Try.prog w 0 (fun _ => true) held k 3 ((([v0, v1, v2, v3, v4] : List Value).drop 0).take (Try.prog.cellsOf 3)) = some y0 := g0
  replace g1 : DataW.trod enc Try.prog w 0 (fun _ => true) held k 3 ((([v0, v1, v2, v3, v4] : List Value).drop 1).take (Try.prog.cellsOf 3)) = some y1 := g1
  replace g2 : DataW.trod enc Try.prog w 0 (fun _ => true) held k 3 ((([v0, v1, v2, v3, v4] : List Value).drop 2).take (Try.prog.cellsOf 3)) = some y2 := g2
  replace g3 : DataW.trod enc Try.prog w 0 (fun _ => true) held k 3 ((([v0, v1, v2, v3, v4] : List Value).drop 3).take (Try.prog.cellsOf 3)) = some y3 := g3
  replace g4 : DataW.trod enc Try.prog w 0 (fun _ => true) held k 24 ((([v0, v1, v2, v3, v4] : List Value).drop 4).take (Try.prog.cellsOf 24)) = some y4 := g4
  rw [c3] at g0 g1 g2 g3
  rw [c24] at g4
  obtain ⟨n0, rfl, i0⟩ := open_i g0
  obtain ⟨n1, rfl, i1⟩ := open_i g1
  obtain ⟨n2, rfl, i2⟩ := open_i g2
  obtain ⟨n3, rfl, i3⟩ := open_i g3
  obtain ⟨l, hl, il⟩ := open_l g4
  have e0 := hcell 0 (by omega)
  have e1 := hcell 1 (by omega)
  have e2 := hcell 2 (by omega)
  have e3 := hcell 3 (by omega)
  have e4 := hcell 4 (by omega)
  rw [addr_add] at e0 e1 e2 e3 e4
  exact ⟨⟨n0, n1, n2, n3, l⟩, ⟨e0, e1, e2, e3, v4, e4, hl⟩, ⟨i0, i1, i2, i3, il⟩⟩
set_option maxRecDepth 100000 in
theorem open_prog {H : Type} {enc : TypeId × Value → H} {w : World} {held : Bool} {fuel : Nat} {a : Option Addr} {len cap : Nat} {x : DataW H × List MemPlace}
    (h : DataW.trod enc Try.prog w 0 (fun _ => true) held fuel 25 [.slice a len cap] = some x) : ∃ ps, Ps w.heap.size w (.slice a len cap) ps ∧ ∀ x ∈ ps, Fi x := by
  rcases Deep.open_slice Try.underlying25 h with ⟨h0, _⟩ | ⟨a', len', cap', m, n, D, Pl, e, _, hl, hm, hmm, _, hx⟩
  · obtain ⟨rfl, rfl, rfl⟩ : a = none ∧ len = 0 ∧ cap = 0 := by simpa using h0
    exact ⟨[], ⟨none, 0, rfl, Nat.le_refl _, Nat.zero_le _, .inl rfl⟩, fun x hx => by cases hx⟩
  · obtain ⟨rfl, rfl, rfl⟩ : a = some a' ∧ len = len' ∧ cap = cap' := by simpa using e
    have hm' : m = cap := by simpa using hmm
    subst hm'
    by_cases h0 : len = 0
    · subst h0
      exact ⟨[], ⟨_, _, rfl, hl, hm, .inl rfl⟩, fun x hx => by cases hx⟩
    obtain ⟨b, off, spot⟩ := a'
    have hspot : spot = none := by
      obtain ⟨cs, h1, _⟩ := hx 0 (by omega)
      rw [c44] at h1
      obtain ⟨_, hlen, hcell⟩ := World.cells?_some h1
      obtain ⟨v0, _, _, _, _, rfl⟩ := list5 hlen
      have : w.cell? _ = some v0 := hcell 0 (by omega)
      simpa [Addr.add] using World.cell?_spot this
    subst hspot
    have each : ∀ i, i < m → ∃ x, IsIn w.heap.size w b (off + i * 5) x ∧ Fi x := fun i hi => by
      obtain ⟨cs, h1, h2⟩ := hx i hi
      rw [c44, addr_add] at h1
      exact open_in h1 h2
    haveI : Inhabited In := ⟨z0⟩
    obtain ⟨q, hq⟩ := Deep.choose_lt each
    have hb : b < w.heap.size := by
      have := (hq 0 (by omega)).1.1
      exact World.block_lt_of_cell? w _ this
    have hln : ((List.range len).map q).length = len := by simp
    refine ⟨(List.range len).map q, ?_, fun x hx => ?_⟩
    · refine ⟨_, m, by rw [hln], by rw [hln]; exact hl, hm, .inr ⟨b, off, rfl, hb, fun i hi => ?_⟩⟩
      rw [hln] at hi
      have : ((List.range len).map q).getD i z0 = q i := by simp [hi]
      rw [this]
      exact (hq i (by omega)).1
    · obtain ⟨i, hi, rfl⟩ := List.mem_map.1 hx
      exact (hq i (by have := List.mem_range.1 hi; omega)).2
end Go.Proofs.Ytdhfpfkcbcgnaaa

/- The walk of PlainChain: it answers true. -/
namespace Go.Proofs.Ytdhfpfkcbcgnaaa
open Go.RowKit

/-- A program just written out, with the values of its lists. -/
def flatV : List (In × Value) → List Value
  | [] => []
  | x :: r => .int .i64 x.1.k :: .int .i64 x.1.a :: .int .i64 x.1.b :: .int .i64 x.1.c :: x.2 :: flatV r
theorem flatV_at : ∀ (ps : List (In × Value)) (i : Nat), i < ps.length → (flatV ps)[i * 5]? = some (.int .i64 (ps.getD i (z0, undef)).1.k) ∧ (flatV ps)[i * 5 + 1]? = some (.int .i64 (ps.getD i (z0, undef)).1.a) ∧ (flatV ps)[i * 5 + 2]? = some (.int .i64 (ps.getD i (z0, undef)).1.b) ∧ (flatV ps)[i * 5 + 3]? = some (.int .i64 (ps.getD i (z0, undef)).1.c) ∧ (flatV ps)[i * 5 + 4]? = some (ps.getD i (z0, undef)).2
  | [], i, h => absurd h (Nat.not_lt_zero _)
  | x :: r, 0, h => ⟨rfl, rfl, rfl, rfl, rfl⟩
  | x :: r, i + 1, h => by
    have := flatV_at r i (by simpa using h)
    rw [show (i + 1) * 5 = i * 5 + 5 by omega, show i * 5 + 5 + 1 = i * 5 + 1 + 5 by omega, show i * 5 + 5 + 2 = i * 5 + 2 + 5 by omega, show i * 5 + 5 + 3 = i * 5 + 3 + 5 by omega, show i * 5 + 5 + 4 = i * 5 + 4 + 5 by omega]
    simpa [flatV] using this
theorem ps_flatV (w : World) (qs : List (In × Value)) (n N : Nat) (hn : n = (qs.map (·.1)).length) (hN : N = w.heap.size) (hm : qs.length ≤ 1000) (hl : ∀ q ∈ qs, Ls (w.alloc (.cells (flatV qs).toArray 44)).heap.size (w.alloc (.cells (flatV qs).toArray 44)) q.2 q.1.l) :
    Ps (w.alloc (.cells (flatV qs).toArray 44)).heap.size (w.alloc (.cells (flatV qs).toArray 44)) (.slice (some ⟨N, 0, none⟩) n n) (qs.map (·.1)) := by
  subst hn; subst hN
  refine ⟨_, _, rfl, Nat.le_refl _, by unfold maxLen; rw [List.length_map]; omega, .inr ⟨w.heap.size, 0, rfl, by rw [World.size_alloc]; omega, fun i hi => ?_⟩⟩
  rw [List.length_map] at hi
  have h : (w.alloc (.cells (flatV qs).toArray 44)).heap[w.heap.size]? = some (.cells (flatV qs).toArray 44) := heap_alloc_new w _
  have q : ∀ j v, (flatV qs)[j]? = some v → (w.alloc (.cells (flatV qs).toArray 44)).cell? ⟨w.heap.size, j, none⟩ = some v := fun j v hj => by
    unfold World.cell?
    rw [h]
    simpa using hj
  obtain ⟨h0, h1, h2, h3, h4⟩ := flatV_at qs i hi
  have e : (qs.map (·.1)).getD i z0 = (qs.getD i (z0, undef)).1 := by simp [hi]
  rw [Nat.zero_add, e]
  refine ⟨q _ _ h0, q _ _ h1, q _ _ h2, q _ _ h3, _, q _ _ h4, hl _ ?_⟩
  have : qs.getD i (z0, undef) = qs[i] := by simp [hi]
  rw [this]
  exact List.getElem_mem hi
def cC : Cf := ⟨1, 1, 1, 2, 1, 0, 2, 9, 9, 0, 9, 0⟩
def pC (v : Int) : List In := [⟨3, 0, v, 0, []⟩, ⟨2, 0, 0, -1, []⟩, ⟨1, 1, 0, -1, []⟩]
theorem pC_l (v : Int) (i : Nat) (_ : i < (pC v).length) : ((pC v).getD i z0).l = [] := by rcases i with _ | _ | _ | i <;> rfl
def qC (u : Int) : List In := [⟨1, 0, 0, -1, []⟩, ⟨3, 1, u, 0, []⟩, ⟨4, 0, 0, 0, [0, 1]⟩, ⟨2, 0, 1, -1, []⟩]
theorem runC1 (v : Int) : runD cC [7, 9] (pC v) = ⟨1, [v, v], [(0, v)], [(0, v)], [v, 9], 0⟩ := by rfl
theorem runC2 (v u : Int) : runD cC [v, 9] (qC u) = ⟨1, [wrap64 (wrap64 (0 + v) + u), u], [(0, v)], [(1, wrap64 (wrap64 (0 + v) + u))], [v, wrap64 (wrap64 (0 + v) + u)], 0⟩ := by rfl
theorem wrap_one {v : Int} (h : I64 v) : wrap64 (0 + v) = v := by
  unfold I64 at h
  unfold wrap64
  omega
set_option maxRecDepth 100000 in
set_option maxHeartbeats 2000000 in
theorem plainChain_core (v u : Int) (w : World) (hv : I64 v) : Calls Try.prog 8 #[.int .i64 v, .int .i64 u] w fun e w' => e = .returned (.bool true) ∧ Below w.heap.size w w' := by
  go_enter Try.func8, Try.ntmps8
  go_wp2_with fail
  refine (first_any _).mono ?_
  rintro e w1 ⟨rfl, c1⟩
  have b1 := below_new w1 (.cells #[.int .i64 1, .int .i64 1, .int .i64 1, .int .i64 2, .int .i64 1, .int .i64 0, .int .i64 2, .int .i64 9, .int .i64 9, .int .i64 0, .int .i64 9, .int .i64 0] 23)
  have b2 := below_then b1 (below_new _ (.cells #[.int .i64 3, .int .i64 0, .int .i64 v, .int .i64 0, .slice none 0 0, .int .i64 2, .int .i64 0, .int .i64 0, .int .i64 (-1), .slice none 0 0, .int .i64 1, .int .i64 1, .int .i64 0, .int .i64 (-1), .slice none 0 0] 44))
  have b3 := below_then b2 (below_new _ (.cells #[.int .i64 0, .int .i64 1] 3))
  have b4 := below_then b3 (below_new _ (.cells #[.int .i64 1, .int .i64 0, .int .i64 0, .int .i64 (-1), .slice none 0 0, .int .i64 3, .int .i64 1, .int .i64 u, .int .i64 0, .slice none 0 0, .int .i64 4, .int .i64 0, .int .i64 0, .int .i64 0, .slice (some ⟨w1.heap.size + 1 + 1, 0, none⟩) 2 2, .int .i64 2, .int .i64 0, .int .i64 1, .int .i64 (-1), .slice none 0 0] 44))
  have b5 := below_then b4 (below_new _ (.cells #[.int .i64 7, .int .i64 9] 3))
  have hP := (((ps_flat (w1.alloc (.cells #[.int .i64 1, .int .i64 1, .int .i64 1, .int .i64 2, .int .i64 1, .int .i64 0, .int .i64 2, .int .i64 9, .int .i64 9, .int .i64 0, .int .i64 9, .int .i64 0] 23)) (pC v) 3 (w1.heap.size + 1) rfl (by rw [World.size_alloc]) (by simp [pC]) (pC_l v)).next (below_new _ (.cells #[.int .i64 0, .int .i64 1] 3))).next (below_new _ (.cells #[.int .i64 1, .int .i64 0, .int .i64 0, .int .i64 (-1), .slice none 0 0, .int .i64 3, .int .i64 1, .int .i64 u, .int .i64 0, .slice none 0 0, .int .i64 4, .int .i64 0, .int .i64 0, .int .i64 0, .slice (some ⟨w1.heap.size + 1 + 1, 0, none⟩) 2 2, .int .i64 2, .int .i64 0, .int .i64 1, .int .i64 (-1), .slice none 0 0] 44))).next (below_new _ (.cells #[.int .i64 7, .int .i64 9] 3))
  have lL := (ls_new ((w1.alloc (.cells #[.int .i64 1, .int .i64 1, .int .i64 1, .int .i64 2, .int .i64 1, .int .i64 0, .int .i64 2, .int .i64 9, .int .i64 9, .int .i64 0, .int .i64 9, .int .i64 0] 23)).alloc (.cells #[.int .i64 3, .int .i64 0, .int .i64 v, .int .i64 0, .slice none 0 0, .int .i64 2, .int .i64 0, .int .i64 0, .int .i64 (-1), .slice none 0 0, .int .i64 1, .int .i64 1, .int .i64 0, .int .i64 (-1), .slice none 0 0] 44)) [0, 1] 2 (w1.heap.size + 1 + 1) rfl (by rw [World.size_alloc, World.size_alloc]) (by decide)).next (below_new _ (.cells #[.int .i64 1, .int .i64 0, .int .i64 0, .int .i64 (-1), .slice none 0 0, .int .i64 3, .int .i64 1, .int .i64 u, .int .i64 0, .slice none 0 0, .int .i64 4, .int .i64 0, .int .i64 0, .int .i64 0, .slice (some ⟨w1.heap.size + 1 + 1, 0, none⟩) 2 2, .int .i64 2, .int .i64 0, .int .i64 1, .int .i64 (-1), .slice none 0 0] 44))
  have hQ := (ps_flatV (((w1.alloc (.cells #[.int .i64 1, .int .i64 1, .int .i64 1, .int .i64 2, .int .i64 1, .int .i64 0, .int .i64 2, .int .i64 9, .int .i64 9, .int .i64 0, .int .i64 9, .int .i64 0] 23)).alloc (.cells #[.int .i64 3, .int .i64 0, .int .i64 v, .int .i64 0, .slice none 0 0, .int .i64 2, .int .i64 0, .int .i64 0, .int .i64 (-1), .slice none 0 0, .int .i64 1, .int .i64 1, .int .i64 0, .int .i64 (-1), .slice none 0 0] 44)).alloc (.cells #[.int .i64 0, .int .i64 1] 3)) [(⟨1, 0, 0, -1, []⟩, .slice none 0 0), (⟨3, 1, u, 0, []⟩, .slice none 0 0), (⟨4, 0, 0, 0, [0, 1]⟩, .slice (some ⟨w1.heap.size + 1 + 1, 0, none⟩) 2 2), (⟨2, 0, 1, -1, []⟩, .slice none 0 0)] 4 (w1.heap.size + 1 + 1 + 1) rfl (by rw [World.size_alloc, World.size_alloc, World.size_alloc]) (by simp) (by
    intro q hq
    simp only [List.mem_cons, List.not_mem_nil, or_false] at hq
    rcases hq with rfl | rfl | rfl | rfl
    · exact ls_none _ _
    · exact ls_none _ _
    · exact lL
    · exact ls_none _ _)).next (below_new _ (.cells #[.int .i64 7, .int .i64 9] 3))
  have hL := ls_new ((((w1.alloc (.cells #[.int .i64 1, .int .i64 1, .int .i64 1, .int .i64 2, .int .i64 1, .int .i64 0, .int .i64 2, .int .i64 9, .int .i64 9, .int .i64 0, .int .i64 9, .int .i64 0] 23)).alloc (.cells #[.int .i64 3, .int .i64 0, .int .i64 v, .int .i64 0, .slice none 0 0, .int .i64 2, .int .i64 0, .int .i64 0, .int .i64 (-1), .slice none 0 0, .int .i64 1, .int .i64 1, .int .i64 0, .int .i64 (-1), .slice none 0 0] 44)).alloc (.cells #[.int .i64 0, .int .i64 1] 3)).alloc (.cells #[.int .i64 1, .int .i64 0, .int .i64 0, .int .i64 (-1), .slice none 0 0, .int .i64 3, .int .i64 1, .int .i64 u, .int .i64 0, .slice none 0 0, .int .i64 4, .int .i64 0, .int .i64 0, .int .i64 0, .slice (some ⟨w1.heap.size + 1 + 1, 0, none⟩) 2 2, .int .i64 2, .int .i64 0, .int .i64 1, .int .i64 (-1), .slice none 0 0] 44)) [7, 9] 2 (w1.heap.size + 1 + 1 + 1 + 1) rfl (by rw [World.size_alloc, World.size_alloc, World.size_alloc, World.size_alloc]) (by decide)
  have hx := (((((bx_new cC w1).next (below_new _ (.cells #[.int .i64 3, .int .i64 0, .int .i64 v, .int .i64 0, .slice none 0 0, .int .i64 2, .int .i64 0, .int .i64 0, .int .i64 (-1), .slice none 0 0, .int .i64 1, .int .i64 1, .int .i64 0, .int .i64 (-1), .slice none 0 0] 44))).next (below_new _ (.cells #[.int .i64 0, .int .i64 1] 3))).next (below_new _ (.cells #[.int .i64 1, .int .i64 0, .int .i64 0, .int .i64 (-1), .slice none 0 0, .int .i64 3, .int .i64 1, .int .i64 u, .int .i64 0, .slice none 0 0, .int .i64 4, .int .i64 0, .int .i64 0, .int .i64 0, .slice (some ⟨w1.heap.size + 1 + 1, 0, none⟩) 2 2, .int .i64 2, .int .i64 0, .int .i64 1, .int .i64 (-1), .slice none 0 0] 44))).next (below_new _ (.cells #[.int .i64 7, .int .i64 9] 3)))
  have kR := run_out cC [7, 9] _ (pC v) _ _ hL hP (runC1 v)
  have g5 := hide (below_then c1 b5)
  replace hQ := hide hQ
  replace hx := hide hx
  clear b1 b2 b3 b4 b5 hP lL hL c1
  go_wp2_with fail
  refine kR.mono ?_
  rintro e w2 ⟨ra, rc, da, dc, wa, wc, ha, hc, rfl, hh, c2⟩
  have g6 := below_then (unhide g5) c2
  have bo := below_new w2 (.cells #[.int .i64 1, .slice ra 2 rc, .slice da 1 dc, .slice wa 1 wc] 30)
  have ho := hide (show Ob 1 (.slice ra 2 rc) (.slice da 1 dc) (.slice wa 1 wc) w2.heap.size (w2.alloc (.cells #[.int .i64 1, .slice ra 2 rc, .slice da 1 dc, .slice wa 1 wc] 30)) from heap_alloc_new w2 _)
  have g7 := hide (below_then g6 bo)
  have hh1 := hide (hh.next bo)
  have hx2 := (unhide hx).next (below_then c2 bo)
  obtain ⟨z0, z1, z2, z3, z4, z5, z6, z7, z8, z9, z10, z11⟩ := hx2.cells
  have kR2 := run_out cC [v, 9] (.slice ha 2 hc) (qC u) _ _ (hh.next bo).h ((unhide hQ).next (below_then c2 bo)) (runC2 v u)
  rw [wrap_one hv] at kR2
  obtain ⟨t, ht⟩ : ∃ t, wrap64 (v + u) = t := ⟨_, rfl⟩
  rw [ht] at kR2
  clear kR c2 g5 g6 bo hh hQ hx hx2
  go_wp2_with fail
  refine kR2.mono ?_
  rintro e w3 ⟨ra', rc', da', dc', wa', wc', ha', hc', rfl, hh, c3⟩
  have g8 := below_then (unhide g7) c3
  have bo := below_new w3 (.cells #[.int .i64 1, .slice ra' 2 rc', .slice da' 1 dc', .slice wa' 1 wc'] 30)
  have ho2 := hide (show Ob 1 (.slice ra' 2 rc') (.slice da' 1 dc') (.slice wa' 1 wc') w3.heap.size (w3.alloc (.cells #[.int .i64 1, .slice ra' 2 rc', .slice da' 1 dc', .slice wa' 1 wc'] 30)) from heap_alloc_new w3 _)
  have g9 := hide (below_then g8 bo)
  have hh2 := hide (hh.next bo)
  have hh1 := hide ((unhide hh1).next (below_then c3 bo))
  have ho := hide ((unhide ho).next (below_then c3 bo))
  clear kR2 c3 g7 g8 bo hh z0 z1 z2 z3 z4 z5 z6 z7 z8 z9 z10 z11
  go_wp2_with fail
  refine (first_any _).mono ?_
  rintro e w4 ⟨rfl, c4⟩
  have g10 := hide (below_then (unhide g9) c4)
  have bi := below_new w4 (.cells #[.int .i64 v, .int .i64 9] 3)
  have kI := ints_any _ _ _ _ _ ((unhide hh1).next (below_then c4 bi)).h (ls_new w4 [v, 9] 2 w4.heap.size rfl rfl (by simp))
  have hh1 := hide ((unhide hh1).next (below_then c4 bi))
  have hh2 := hide ((unhide hh2).next (below_then c4 bi))
  have ho := hide ((unhide ho).next (below_then c4 bi))
  have ho2 := hide ((unhide ho2).next (below_then c4 bi))
  have g11 := hide (below_then (unhide g10) bi)
  clear c4 bi g9 g10
  go_wp2_with fail
  refine kI.mono ?_
  rintro e w5 ⟨rfl, c5⟩
  rw [beq_self_eq_true]
  have bi := below_new w5 (.cells #[.int .i64 v, .int .i64 t] 3)
  have kI2 := ints_any _ _ _ _ _ ((unhide hh2).next (below_then c5 bi)).h (ls_new w5 [v, t] 2 w5.heap.size rfl rfl (by simp))
  have hh1 := hide ((unhide hh1).next (below_then c5 bi))
  have hh2 := hide ((unhide hh2).next (below_then c5 bi))
  have ho := hide ((unhide ho).next (below_then c5 bi))
  have ho2 := hide ((unhide ho2).next (below_then c5 bi))
  have g12 := hide (below_then (unhide g11) (below_then c5 bi))
  clear c5 bi g11 kI
  go_wp2_with fail
  refine kI2.mono ?_
  rintro e w6 ⟨rfl, c6⟩
  rw [beq_self_eq_true]
  have g13 := hide (below_then (unhide g12) c6)
  obtain ⟨x0, x1, x2, x3⟩ := ((unhide ho).next c6).cells
  obtain ⟨y0, y1, y2, y3⟩ := ((unhide ho2).next c6).cells
  have h1 := (unhide hh1).next c6
  have h2 := (unhide hh2).next c6
  obtain ⟨_, _, q1, _, q2⟩ := h1.d
  cases q1
  rcases q2 with q2 | ⟨db, dof, rfl, _, q2⟩
  · exact absurd q2 (by simp)
  obtain ⟨m0, m1⟩ := q2 0 (by simp)
  obtain ⟨_, _, q1, _, q3⟩ := h2.d
  cases q1
  rcases q3 with q3 | ⟨eb, eo, rfl, _, q3⟩
  · exact absurd q3 (by simp)
  obtain ⟨n0, n1⟩ := q3 0 (by simp)
  obtain ⟨_, _, q1, _, _, _, q4⟩ := ls_len h1.r
  cases q1
  obtain ⟨rb, ro, rfl, _, k1⟩ := q4.at (i := 1) (by simp)
  simp only [List.getD_cons_zero, List.getD_cons_succ, Nat.add_zero, Nat.zero_mul] at m0 m1 n0 n1 k1
  clear q2 q3 q4 h1 h2 c6 kI2
  go_wp2
  go_ret
  exact ⟨by first | rfl | simp, unhide g13⟩
end Go.Proofs.Ytdhfpfkcbcgnaaa

/- Plain facts on the program that adds one to a word, so many times. No Go in sight. -/
namespace Go.Proofs.Ytdhfpfkcbcgnaaa
open Go.RowKit

theorem getD_left {α : Type} {l m : List α} {i : Nat} {z : α} (h : i < l.length) : (l ++ m).getD i z = l.getD i z := by
  rw [List.getD_eq_getElem?_getD, List.getD_eq_getElem?_getD, List.getElem?_append_left h]
theorem getD_right {α : Type} {l m : List α} {i : Nat} {z : α} (h : l.length ≤ i) : (l ++ m).getD i z = m.getD (i - l.length) z := by
  rw [List.getD_eq_getElem?_getD, List.getD_eq_getElem?_getD, List.getElem?_append_right h]
def blk (a : Int) : List In := [⟨1, 0, a, -1, []⟩, ⟨3, 1, 1, 0, []⟩, ⟨4, 0, 0, 0, [0, 1]⟩, ⟨2, 0, a, -1, []⟩]
def rep (a : Int) : Nat → List In
  | 0 => []
  | k + 1 => rep a k ++ blk a
def endI (E : Nat) : List In := if E = 0 then [] else [⟨5 + E, 0, 0, 0, []⟩]
theorem rep_len (a : Int) : ∀ k, (rep a k).length = 4 * k
  | 0 => rfl
  | k + 1 => by
    show (rep a k ++ blk a).length = _
    rw [List.length_append, rep_len a k]
    show 4 * k + 4 = _
    omega
theorem rep_at (a : Int) (j : Nat) (hj : j < 4) : ∀ (T k : Nat), k < T → (rep a T).getD (4 * k + j) z0 = (blk a).getD j z0
  | T + 1, k, h => by
    show (rep a T ++ blk a).getD (4 * k + j) z0 = _
    by_cases hk : k < T
    · rw [getD_left (by rw [rep_len]; omega)]
      exact rep_at a j hj T k hk
    · obtain rfl : k = T := by omega
      rw [getD_right (by rw [rep_len]; omega), rep_len]
      congr 1
      omega
def pS (a : Int) (T E : Nat) : List In := rep a T ++ endI E
theorem pS_at (a : Int) (T E k j : Nat) (hk : k < T) (hj : j < 4) : (pS a T E).getD (4 * k + j) z0 = (blk a).getD j z0 := by
  unfold pS
  rw [getD_left (by rw [rep_len]; omega)]
  exact rep_at a j hj T k hk
theorem pS_len (a : Int) (T E : Nat) : (pS a T E).length = 4 * T + if E = 0 then 0 else 1 := by
  unfold pS endI
  rw [List.length_append, rep_len]
  split <;> rfl
theorem pS_end (a : Int) (T E : Nat) (hE : E ≠ 0) : (pS a T E).getD (4 * T) z0 = ⟨5 + E, 0, 0, 0, []⟩ := by
  unfold pS endI
  rw [if_neg hE, getD_right (by rw [rep_len]; omega), rep_len, Nat.sub_self]
  rfl
theorem pS_ch {c : Cf} (hok : okB c = true) (hg : 2 ≤ c.g) (a : Int) (T E : Nat) (hT : T ≤ 14) (hE : E ≤ 2) : chB c (pS a T E) = true := by
  have wi0 : wiB c.g [0] = true := by rw [wi_one]; simp; omega
  have wi1 : wiB c.g [1] = true := by rw [wi_one]; simp; omega
  have wi01 : wiB c.g [0, 1] = true := by unfold wiB; simp; omega
  unfold chB
  rw [hok, Bool.true_and, Bool.and_eq_true]
  refine ⟨decide_eq_true (by rw [pS_len]; split <;> omega), List.all_eq_true.2 fun i hi => ?_⟩
  have hi2 := List.mem_range.1 hi
  rw [pS_len] at hi2
  by_cases h : i < 4 * T
  · obtain ⟨k, j, hj, hk, rfl⟩ : ∃ k j, j < 4 ∧ k < T ∧ i = 4 * k + j := ⟨i / 4, i % 4, by omega, by omega, by omega⟩
    rw [pS_at a T E k j hk hj]
    have : j = 0 ∨ j = 1 ∨ j = 2 ∨ j = 3 := by omega
    rcases this with rfl | rfl | rfl | rfl
    · simp [blk, stB, wi0]
    · simp [blk, stB, wi1]
    · simp [blk, stB, reB, wi0, wi01, knownB]
    · simp [blk, stB, wi0]
  · have hE0 : E ≠ 0 := by
      intro e
      rw [if_pos e] at hi2
      omega
    rw [if_neg hE0] at hi2
    obtain rfl : i = 4 * T := by omega
    rw [pS_end a T E hE0]
    have : E = 1 ∨ E = 2 := by omega
    rcases this with rfl | rfl <;> simp [stB]
def yD (v : Int) : Int := wrap64 (wrap64 (0 + v) + 1)
/-- One block. -/
def blockD (A : Nat) (s : St) : St := ⟨s.h.set A (yD (s.h.getD A 0)), ((s.r.set 0 (s.h.getD A 0)).set 1 1).set 0 (yD (s.h.getD A 0)), s.rd ++ [((A : Int), s.h.getD A 0)], s.wr ++ [((A : Int), yD (s.h.getD A 0))]⟩
theorem addr_plain {c : Cf} {A : Nat} (h : (A : Int) < wordsD c) (k a : Int) (l r : List Int) : addrD c ⟨k, a, (A : Int), -1, l⟩ r = A := by
  unfold addrD
  rw [if_pos rfl]
  show wrapD (A : Int) (wordsD c) = A
  unfold wrapD
  rw [if_neg (by omega)]
  exact Int.emod_eq_of_lt (by omega) h
theorem block_play {c : Cf} {A T E k f : Nat} {s : St} (hA : (A : Int) < wordsD c) (hk : k < T) (hr : 2 ≤ s.r.length) :
    playD c (pS A T E) (f + 4) (4 * k) s = playD c (pS A T E) f (4 * (k + 1)) (blockD A s) := by
  have hl : 4 * k + 3 < (pS A T E).length := by rw [pS_len]; omega
  have ea : ∀ (x a : Int) (l r : List Int), addrD c ⟨x, a, (A : Int), -1, l⟩ r = A := fun x a l r => addr_plain hA x a l r
  obtain ⟨v, hv⟩ : ∃ v, s.h.getD A 0 = v := ⟨_, rfl⟩
  have s0 : stepD c ⟨1, 0, (A : Int), -1, []⟩ (4 * k) s = (⟨s.h, s.r.set 0 v, s.rd ++ [((A : Int), v)], s.wr⟩, 4 * k + 1) := by
    unfold stepD
    rw [if_pos rfl, ea]
    unfold readD
    simp only [Int.toNat_natCast, hv]
    rfl
  have s1 : stepD c ⟨3, 1, 1, 0, []⟩ (4 * k + 1) ⟨s.h, s.r.set 0 v, s.rd ++ [((A : Int), v)], s.wr⟩ = (⟨s.h, (s.r.set 0 v).set 1 1, s.rd ++ [((A : Int), v)], s.wr⟩, 4 * k + 2) := rfl
  have e0 : ((s.r.set 0 v).set 1 1).getD 0 0 = v := by
    have h0 : 0 < s.r.length := by omega
    simp [h0]
  have e1 : ((s.r.set 0 v).set 1 1).getD 1 0 = 1 := by
    have h1 : 1 < s.r.length := by omega
    simp [h1]
  have s2 : stepD c ⟨4, 0, 0, 0, [0, 1]⟩ (4 * k + 2) ⟨s.h, (s.r.set 0 v).set 1 1, s.rd ++ [((A : Int), v)], s.wr⟩ = (⟨s.h, ((s.r.set 0 v).set 1 1).set 0 (yD v), s.rd ++ [((A : Int), v)], s.wr⟩, 4 * k + 3) := by
    have : (Calc.evalL 0 (regsD ((s.r.set 0 v).set 1 1) [0, 1])).1 = yD v := by
      show wrap64 (wrap64 (0 + ((s.r.set 0 v).set 1 1).getD 0 0) + ((s.r.set 0 v).set 1 1).getD 1 0) = _
      rw [e0, e1]; rfl
    unfold stepD
    rw [if_neg (show ¬ ((4 : Int) = 1) by decide), if_neg (show ¬ ((4 : Int) = 2) by decide), if_neg (show ¬ ((4 : Int) = 3) by decide), if_pos rfl]
    simp only [this]
    rfl
  have e2 : (((s.r.set 0 v).set 1 1).set 0 (yD v)).getD 0 0 = yD v := by
    have h0 : 0 < s.r.length := by omega
    simp [h0]
  have s3 : stepD c ⟨2, 0, (A : Int), -1, []⟩ (4 * k + 3) ⟨s.h, ((s.r.set 0 v).set 1 1).set 0 (yD v), s.rd ++ [((A : Int), v)], s.wr⟩ = (blockD A s, 4 * (k + 1)) := by
    unfold stepD
    rw [if_neg (show ¬ ((2 : Int) = 1) by decide), if_pos rfl, ea]
    unfold writeD blockD
    simp only [Int.toNat_natCast, hv]
    show (St.mk (s.h.set A ((((s.r.set 0 v).set 1 1).set 0 (yD v)).getD 0 0)) _ _ (s.wr ++ [((A : Int), (((s.r.set 0 v).set 1 1).set 0 (yD v)).getD 0 0)]), _) = _
    rw [e2]
    rfl
  have p0 := pS_at (A : Int) T E k 0 hk (by decide)
  have p1 := pS_at (A : Int) T E k 1 hk (by decide)
  have p2 := pS_at (A : Int) T E k 2 hk (by decide)
  have p3 := pS_at (A : Int) T E k 3 hk (by decide)
  rw [Nat.add_zero] at p0
  rw [play_go _ _ _ (by omega) p0 rfl rfl s0, play_go _ _ _ (by omega) p1 rfl rfl s1, play_go _ _ _ (by omega) p2 rfl rfl s2, play_go _ _ _ (by omega) p3 rfl rfl s3]
def blocks (A : Nat) : Nat → St → St
  | 0, s => s
  | m + 1, s => blockD A (blocks A m s)
theorem blocks_regs (A : Nat) (s : St) : ∀ m, (blocks A m s).r.length = s.r.length
  | 0 => rfl
  | m + 1 => by
    show (((((blocks A m s).r.set 0 _).set 1 1).set 0 _).length) = _
    simp [blocks_regs A s m]
theorem blocks_play {c : Cf} {A T E : Nat} {s : St} (hA : (A : Int) < wordsD c) (hr : 2 ≤ s.r.length) : ∀ (m f : Nat), m ≤ T → playD c (pS A T E) (f + 4 * m) 0 s = playD c (pS A T E) f (4 * m) (blocks A m s)
  | 0, f, _ => rfl
  | m + 1, f, h => by
    rw [show f + 4 * (m + 1) = (f + 4) + 4 * m by omega, blocks_play hA hr m (f + 4) (by omega), block_play hA (by omega) (by rw [blocks_regs]; exact hr)]
    rfl
def xs (v : Int) : Nat → Int
  | 0 => v
  | m + 1 => yD (xs v m)
theorem xs_wrap {v : Int} (h : I64 v) : ∀ m : Nat, m ≤ 100 → xs v m = wrap64 (v + m)
  | 0, _ => by
    unfold I64 at h
    show v = wrap64 (v + 0)
    unfold wrap64
    omega
  | m + 1, hm => by
    show yD (xs v m) = _
    rw [xs_wrap h m (by omega)]
    unfold yD wrap64
    omega
theorem blocks_tell (A : Nat) (s : St) (hA : A < s.h.length) : ∀ m, (blocks A m s).h = s.h.set A (xs (s.h.getD A 0) m) ∧ (blocks A m s).rd = s.rd ++ (List.range m).map (fun i => ((A : Int), xs (s.h.getD A 0) i)) ∧ (blocks A m s).wr = s.wr ++ (List.range m).map (fun i => ((A : Int), xs (s.h.getD A 0) (i + 1)))
  | 0 => by
    refine ⟨?_, by simp [blocks], by simp [blocks]⟩
    show s.h = s.h.set A (s.h.getD A 0)
    have : s.h.getD A 0 = s.h[A] := by simp [hA]
    rw [this, List.set_getElem_self]
  | m + 1 => by
    obtain ⟨h1, h2, h3⟩ := blocks_tell A s hA m
    have e : (blocks A m s).h.getD A 0 = xs (s.h.getD A 0) m := by rw [h1]; simp [hA]
    refine ⟨?_, ?_, ?_⟩
    · show (blocks A m s).h.set A (yD ((blocks A m s).h.getD A 0)) = _
      rw [e, h1, List.set_set]; rfl
    · show (blocks A m s).rd ++ [((A : Int), (blocks A m s).h.getD A 0)] = _
      rw [e, h2, List.range_succ, List.map_append, List.append_assoc]; rfl
    · show (blocks A m s).wr ++ [((A : Int), yD ((blocks A m s).h.getD A 0))] = _
      rw [e, h3, List.range_succ, List.map_append, List.append_assoc]; rfl
/-- What the run of it answers. -/
theorem runS {c : Cf} {H : List Int} {A T E : Nat} (hok : okB c = true) (hl : (H.length : Int) = wordsD c) (hg : 2 ≤ c.g) (hA : A < H.length) (hT : T ≤ 14) (hE : E ≤ 2) (hv : I64 (H.getD A 0)) :
    ∃ R, runD c H (pS A T E) = R ∧ R.x = 0 ∧ R.e = (E : Int) + 1 ∧ R.rd.length = T ∧ R.wr.length = T ∧ R.h = (if E = 0 then H.set A (wrap64 (H.getD A 0 + T)) else H) ∧ (0 < T → (R.rd.getD 0 (0, 0)).2 = H.getD A 0 ∧ (R.wr.getD (T - 1) (0, 0)).2 = wrap64 (H.getD A 0 + T)) := by
  have hAw : (A : Int) < wordsD c := by omega
  have hr : 2 ≤ (st0 c H).r.length := by
    show 2 ≤ (List.replicate c.g.toNat (0 : Int)).length
    rw [List.length_replicate]; omega
  have hplay : playD c (pS A T E) (pS A T E).length 0 (st0 c H) = (blocks A T (st0 c H), (E : Int) + 1) := by
    rw [pS_len]
    by_cases h0 : E = 0
    · subst h0
      rw [if_pos rfl, show 4 * T + 0 = 0 + 4 * T by omega, blocks_play hAw hr T 0 (Nat.le_refl _)]
      rfl
    · rw [if_neg h0, show 4 * T + 1 = 1 + 4 * T by omega, blocks_play hAw hr T 1 (Nat.le_refl _), playD, if_pos (by rw [pS_len, if_neg h0]; omega), pS_end _ _ _ h0]
      have : E = 1 ∨ E = 2 := by omega
      rcases this with rfl | rfl
      · rfl
      · rfl
  obtain ⟨t1, t2, t3⟩ := blocks_tell A (st0 c H) hA T
  refine ⟨endD H (blocks A T (st0 c H), (E : Int) + 1), ?_, rfl, rfl, ?_, ?_, ?_, fun hT0 => ⟨?_, ?_⟩⟩
  · unfold runD
    rw [if_pos (pS_ch hok hg A T E hT hE), if_pos hl, hplay]
  · show (blocks A T (st0 c H)).rd.length = T
    rw [t2]; simp [st0]
  · show (blocks A T (st0 c H)).wr.length = T
    rw [t3]; simp [st0]
  · show (if (E : Int) + 1 = 1 then (blocks A T (st0 c H)).h else H) = _
    by_cases h0 : E = 0
    · rw [if_pos (by omega), if_pos h0, t1]
      show H.set A (xs (H.getD A 0) T) = _
      rw [xs_wrap hv T (by omega)]
    · rw [if_neg (by omega), if_neg h0]
  · show ((blocks A T (st0 c H)).rd.getD 0 (0, 0)).2 = _
    rw [t2]
    show (((List.range T).map (fun i => ((A : Int), xs (H.getD A 0) i))).getD 0 (0, 0)).2 = _
    have : ((List.range T).map (fun i => ((A : Int), xs (H.getD A 0) i))).getD 0 (0, 0) = ((A : Int), xs (H.getD A 0) 0) := by simp [hT0]
    rw [this]; rfl
  · show ((blocks A T (st0 c H)).wr.getD (T - 1) (0, 0)).2 = _
    rw [t3]
    show (((List.range T).map (fun i => ((A : Int), xs (H.getD A 0) (i + 1)))).getD (T - 1) (0, 0)).2 = _
    have : ((List.range T).map (fun i => ((A : Int), xs (H.getD A 0) (i + 1)))).getD (T - 1) (0, 0) = ((A : Int), xs (H.getD A 0) (T - 1 + 1)) := by
      have : T - 1 < T := by omega
      simp [this]
    rw [this, show T - 1 + 1 = T by omega, xs_wrap hv T (by omega)]
end Go.Proofs.Ytdhfpfkcbcgnaaa

/- The walk of PlainSteps: it answers true. -/
namespace Go.Proofs.Ytdhfpfkcbcgnaaa
open Go.RowKit

theorem flatV_app : ∀ (p q : List (In × Value)), flatV (p ++ q) = flatV p ++ flatV q
  | [], q => rfl
  | x :: r, q => by
    show _ :: _ :: _ :: _ :: _ :: flatV (r ++ q) = _
    rw [flatV_app r q]; rfl
/-- What an instruction of the row names lies apart. -/
def Lq (w : World) (q : In × Value) : Prop := (q.1.l = [] ∧ q.2 = .slice none 0 0) ∨ (q.1.l = [0, 1] ∧ ∃ b, q.2 = .slice (some ⟨b, 0, none⟩) 2 2 ∧ Rb b [0, 1] w)
theorem Lq.next {w w' : World} {q : In × Value} (h : Lq w q) (hb : Below w.heap.size w w') : Lq w' q := by
  rcases h with h | ⟨h, b, e, hr⟩
  · exact .inl h
  · exact .inr ⟨h, b, e, hr.keep (hb.block _ hr.lt)⟩
theorem Lq.grown {w w' : World} {q : In × Value} (h : Lq w q) {B n : Nat} {v : Value} {xs : List Value} (ho : w.ownsRow B 44 5 v n xs) (hg : w.grownBy w' v.ownBlock) : Lq w' q := by
  rcases h with h | ⟨h, b, e, hr⟩
  · exact .inl h
  · refine .inr ⟨h, b, e, hr.keep (hg.block _ hr.lt fun e2 => ?_)⟩
    obtain ⟨cur, hr, _⟩ := hr
    rcases ho.2 with ⟨rfl, _⟩ | ⟨g', cap, cur', rfl, _, h', _⟩
    · cases e2
    · have : b = g' := by simpa [Value.ownBlock] using e2
      subst this
      rw [hr] at h'
      cases h'
/-- A program in a row of its own. -/
structure Pg (B : Nat) (w : World) (u : Value) (qs : List (In × Value)) : Prop where
  own : w.ownsRow B 44 5 u qs.length (flatV qs)
  l : ∀ q ∈ qs, Lq w q
theorem flatV_one {w : World} : ∀ (qs : List (In × Value)), (∀ q ∈ qs, Lq w q) → ∀ u ∈ flatV qs, u.oneCell' = true
  | [], _, u, hu => by cases hu
  | q :: r, h, u, hu => by
    have hq := h q (by simp)
    simp only [flatV, List.mem_cons] at hu
    rcases hu with rfl | rfl | rfl | rfl | rfl | hu
    · rfl
    · rfl
    · rfl
    · rfl
    · rcases hq with ⟨_, e⟩ | ⟨_, b, e, _⟩ <;> rw [e] <;> rfl
    · exact flatV_one r (fun q hq => h q (by simp [hq])) u hu
theorem Lq.ls {w : World} {q : In × Value} (h : Lq w q) : Ls w.heap.size w q.2 q.1.l := by
  rcases h with ⟨e1, e2⟩ | ⟨e1, b, e2, hr⟩
  · rw [e1, e2]; exact ls_none _ _
  · rw [e1, e2]; exact hr.ls (Nat.le_refl 2) (by decide)
theorem Pg.ps {B : Nat} {w : World} {u : Value} {qs : List (In × Value)} (h : Pg B w u qs) : Ps w.heap.size w u (qs.map (·.1)) := by
  rcases h.own.2 with ⟨rfl, e⟩ | ⟨g, cap, cur, rfl, _, hg, h1, h2, _⟩
  · have : qs = [] := List.length_eq_zero_iff.1 e
    subst this
    exact ps_nil _ _
  · refine ⟨_, cap, by rw [List.length_map], by rw [List.length_map]; exact h1, h2, .inr ⟨g, 0, rfl, heap_lt hg, fun i hi => ?_⟩⟩
    rw [List.length_map] at hi
    obtain ⟨h0, h1, h2, h3, h4⟩ := flatV_at qs i hi
    have e : (qs.map (·.1)).getD i z0 = (qs.getD i (z0, undef)).1 := by simp [hi]
    rw [Nat.zero_add, e]
    have q : ∀ j v, (flatV qs)[j]? = some v → w.cell? ⟨g, j, none⟩ = some v := fun j v hj => by
      have := h.own.cells rfl j v hj
      rw [addr_add, Nat.zero_add] at this
      exact this
    refine ⟨q _ _ h0, q _ _ h1, q _ _ h2, q _ _ h3, _, q _ _ h4, (h.l _ ?_).ls⟩
    have : qs.getD i (z0, undef) = qs[i] := by simp [hi]
    rw [this]
    exact List.getElem_mem hi
end Go.Proofs.Ytdhfpfkcbcgnaaa
