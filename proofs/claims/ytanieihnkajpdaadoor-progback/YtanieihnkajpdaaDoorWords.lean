/- The walk of ProgWords: it answers true. -/
import Derived.Test.YtanieihnkajpdaaDoorSame
import Derived.Test.YtanieihnkajpdaaDoorPut
namespace Go.Proofs.YtanieihnkajpdaaDoor
open Go.RowKit

theorem wf_i64 {n : Int} (h : (Lit.int .i64 n).wf = true) : I64 n := by
  have h2 := h
  simp [Lit.wf, IntKind.min, IntKind.max, IntKind.bits, IntKind.signed] at h2
  exact ⟨by omega, by omega⟩
theorem i64_small {n : Int} (h1 : -1000 ≤ n) (h2 : n ≤ 1000) : I64 n := ⟨by omega, by omega⟩
theorem line_short {x : In} (h : Fine x) : (lineOf x).length ≤ 100000 := by
  have h1 := line_len (f := wordD x.k) (ns := namedD x) (fine_named h).1
  have h2 := (fine_named h).2
  have h3 := word_len x.k
  unfold lineOf
  omega
theorem prog_lines : ∀ (ps : List In), (∀ x ∈ ps, Fine x ∧ 1 ≤ x.k ∧ x.k ≤ 7) → progD (ps.map lineOf) = some (ps.map norm)
  | [], _ => rfl
  | x :: r, h => by
    have hx := h x (by simp)
    have e : plD (lineOf x) = some (norm x) := by rw [pl_line x hx.1, if_pos hx.2]
    simp only [List.map_cons, progD, e, prog_lines r (fun y hy => h y (by simp [hy]))]
theorem lo_two (w : World) (y z : Int) : Lo (w.alloc (.cells #[.int .i64 y, .int .i64 z] 3)) (.slice (some ⟨w.heap.size, 0, none⟩) 2 2) [y, z] := by
  refine ⟨_, 2, rfl, rfl, .inr ⟨w.heap.size, 2, #[.int .i64 y, .int .i64 z], rfl, Nat.zero_le _, ?_, Nat.le_refl _, by decide, rfl, rfl⟩⟩
  exact heap_alloc_new w _
def seven (a b c : Int) : List In := [⟨1, a, b, c, []⟩, ⟨2, a, b, c, []⟩, ⟨3, a, b, 0, []⟩, ⟨4, a, b, 0, [c, a]⟩, ⟨5, a, b, 0, []⟩, ⟨6, 0, 0, 0, []⟩, ⟨7, 0, 0, 0, []⟩]
def sevenQ (a b c : Int) (N : Nat) : List (In × Value) := [(⟨1, a, b, c, []⟩, .slice none 0 0), (⟨2, a, b, c, []⟩, .slice none 0 0), (⟨3, a, b, 0, []⟩, .slice none 0 0), (⟨4, a, b, 0, [c, a]⟩, .slice (some ⟨N, 0, none⟩) 2 2), (⟨5, a, b, 0, []⟩, .slice none 0 0), (⟨6, 0, 0, 0, []⟩, .slice none 0 0), (⟨7, 0, 0, 0, []⟩, .slice none 0 0)]
/-- Print, then Parse. -/
theorem lines_all (ps : List In) (h : ∀ x ∈ ps, Fine x) : ∀ s ∈ ps.map lineOf, s.length ≤ 100000 := fun s hs => by
  obtain ⟨x, hx, rfl⟩ := List.mem_map.1 hs
  exact line_short (h x hx)
theorem seven_fine {a b c : Int} (ha : I64 a) (hb : I64 b) (hc : I64 c) : ∀ x ∈ seven a b c, Fine x ∧ 1 ≤ x.k ∧ x.k ≤ 7 := by
  have z : I64 0 := i64_small (by omega) (by omega)
  have e : ∀ n ∈ ([] : List Int), I64 n := fun n hn => by cases hn
  have k : ∀ n : Int, 1 ≤ n → n ≤ 7 → I64 n := fun n h1 h2 => i64_small (by omega) (by omega)
  intro x hx
  simp only [seven, List.mem_cons, List.not_mem_nil, or_false] at hx
  rcases hx with rfl | rfl | rfl | rfl | rfl | rfl | rfl
  · exact ⟨⟨k 1 (by omega) (by omega), ha, hb, hc, e, by show (0:Nat) ≤ 100; omega⟩, by show (1:Int) ≤ 1; omega, by show (1:Int) ≤ 7; omega⟩
  · exact ⟨⟨k 2 (by omega) (by omega), ha, hb, hc, e, by show (0:Nat) ≤ 100; omega⟩, by show (1:Int) ≤ 2; omega, by show (2:Int) ≤ 7; omega⟩
  · exact ⟨⟨k 3 (by omega) (by omega), ha, hb, z, e, by show (0:Nat) ≤ 100; omega⟩, by show (1:Int) ≤ 3; omega, by show (3:Int) ≤ 7; omega⟩
  · exact ⟨⟨k 4 (by omega) (by omega), ha, hb, z, (fun n hn => by simp at hn; rcases hn with rfl | rfl; exact hc; exact ha), by show (2:Nat) ≤ 100; omega⟩, by show (1:Int) ≤ 4; omega, by show (4:Int) ≤ 7; omega⟩
  · exact ⟨⟨k 5 (by omega) (by omega), ha, hb, z, e, by show (0:Nat) ≤ 100; omega⟩, by show (1:Int) ≤ 5; omega, by show (5:Int) ≤ 7; omega⟩
  · exact ⟨⟨k 6 (by omega) (by omega), z, z, z, e, by show (0:Nat) ≤ 100; omega⟩, by show (1:Int) ≤ 6; omega, by show (6:Int) ≤ 7; omega⟩
  · exact ⟨⟨k 7 (by omega) (by omega), z, z, z, e, by show (0:Nat) ≤ 100; omega⟩, by show (1:Int) ≤ 7; omega, by show (7:Int) ≤ 7; omega⟩
theorem seven_norm (a b c : Int) : (seven a b c).map norm = seven a b c := by simp [seven, norm]
theorem Pq.cell5 {B : Nat} {w : World} {g : Nat} {a b c : Int} {N : Nat} (h : Pq B w g 7 7 (sevenQ a b c N)) {j : Nat} {v : Value} (hj : j < 5) (hv : (insC (⟨6, 0, 0, 0, []⟩, .slice none 0 0))[j]? = some v) : w.cell? ⟨g, 25 + j, none⟩ = some v := by
  have := h.own.cells (g := g) rfl (5 * 5 + j) v ((flat_at _ 5 j _ rfl hj).trans hv)
  rw [addr_add, Nat.zero_add] at this
  exact this
def odd6 : In := ⟨6, 9, 0, 0, []⟩
theorem odd_norm : [odd6].map norm = [⟨6, 0, 0, 0, []⟩] := by simp [odd6, norm]
theorem odd_fine : ∀ x ∈ [odd6], Fine x ∧ 1 ≤ x.k ∧ x.k ≤ 7 := by
  intro x hx
  simp only [List.mem_cons, List.not_mem_nil, or_false] at hx
  subst hx
  exact ⟨⟨i64_small (by decide) (by decide), i64_small (by decide) (by decide), i64_small (by decide) (by decide), i64_small (by decide) (by decide), (fun n hn => by cases hn), by decide⟩, by decide, by decide⟩
theorem seven_pq (w : World) (a b c : Int) (N : Nat) (hN : N = w.heap.size) : Pq 0 ((w.alloc (.cells #[.int .i64 c, .int .i64 a] 3)).alloc (.cells #[.int .i64 1, .int .i64 a, .int .i64 b, .int .i64 c, .slice none 0 0, .int .i64 2, .int .i64 a, .int .i64 b, .int .i64 c, .slice none 0 0, .int .i64 3, .int .i64 a, .int .i64 b, .int .i64 0, .slice none 0 0, .int .i64 4, .int .i64 a, .int .i64 b, .int .i64 0, .slice (some ⟨N, 0, none⟩) 2 2, .int .i64 5, .int .i64 a, .int .i64 b, .int .i64 0, .slice none 0 0, .int .i64 6, .int .i64 0, .int .i64 0, .int .i64 0, .slice none 0 0, .int .i64 7, .int .i64 0, .int .i64 0, .int .i64 0, .slice none 0 0] 32)) (w.heap.size + 1) 7 7 (sevenQ a b c N) := by
  subst hN
  have e : (w.alloc (.cells #[.int .i64 c, .int .i64 a] 3)).heap.size = w.heap.size + 1 := by simp
  have hh := heap_alloc_new (w.alloc (.cells #[.int .i64 c, .int .i64 a] 3)) (.cells #[.int .i64 1, .int .i64 a, .int .i64 b, .int .i64 c, .slice none 0 0, .int .i64 2, .int .i64 a, .int .i64 b, .int .i64 c, .slice none 0 0, .int .i64 3, .int .i64 a, .int .i64 b, .int .i64 0, .slice none 0 0, .int .i64 4, .int .i64 a, .int .i64 b, .int .i64 0, .slice (some ⟨w.heap.size, 0, none⟩) 2 2, .int .i64 5, .int .i64 a, .int .i64 b, .int .i64 0, .slice none 0 0, .int .i64 6, .int .i64 0, .int .i64 0, .int .i64 0, .slice none 0 0, .int .i64 7, .int .i64 0, .int .i64 0, .int .i64 0, .slice none 0 0] 32)
  rw [e] at hh
  refine ⟨⟨rfl, .inr ⟨w.heap.size + 1, 7, _, rfl, Nat.zero_le _, hh, Nat.le_refl _, by decide, rfl, rfl⟩⟩, rfl, ?_⟩
  intro q hq
  simp only [sevenQ, List.mem_cons, List.not_mem_nil, or_false] at hq
  rcases hq with rfl | rfl | rfl | rfl | rfl | rfl | rfl
  · exact lo_nil _
  · exact lo_nil _
  · exact lo_nil _
  · exact (lo_two w c a).next (below_new _ _)
  · exact lo_nil _
  · exact lo_nil _
  · exact lo_nil _
/-- The sixth of the seven, as a slice. -/
theorem seven_cut {B : Nat} {w : World} {g : Nat} {a b c : Int} (h : Ps B w (.slice (some ⟨g, 0, none⟩) 7 7) (seven a b c)) : Ps B w (.slice (some ⟨g, 25, none⟩) 1 2) [⟨6, 0, 0, 0, []⟩] := by
  obtain ⟨a', cap', e, _, _, h3⟩ := h
  injection e with e1 e2 e3
  subst e1
  rcases h3 with h0 | ⟨b', off', e4, hlt, hc⟩
  · cases h0
  · obtain ⟨rfl, rfl⟩ : g = b' ∧ 0 = off' := by simpa using e4
    refine ⟨_, 2, rfl, by decide, by decide, .inr ⟨g, 25, rfl, hlt, fun i hi => ?_⟩⟩
    have : i = 0 := by simpa using hi
    subst this
    exact hc 5 (by show 5 < 7; omega)
theorem one_pq (w : World) (x : In) (N : Nat) (hN : N = w.heap.size) (hl : x.l = []) : Pq 0 (w.alloc (.cells #[.int .i64 x.k, .int .i64 x.a, .int .i64 x.b, .int .i64 x.c, .slice none 0 0] 32)) N 1 1 [(x, .slice none 0 0)] := by
  subst hN
  have hh := heap_alloc_new w (.cells #[.int .i64 x.k, .int .i64 x.a, .int .i64 x.b, .int .i64 x.c, .slice none 0 0] 32)
  refine ⟨⟨rfl, .inr ⟨w.heap.size, 1, _, rfl, Nat.zero_le _, hh, Nat.le_refl _, by decide, rfl, rfl⟩⟩, rfl, ?_⟩
  intro q hq
  simp only [List.mem_cons, List.not_mem_nil, or_false] at hq
  subst hq
  show Lo _ _ x.l
  rw [hl]
  exact lo_nil _
set_option maxRecDepth 100000 in
set_option maxHeartbeats 4000000 in
theorem progWords_walk (a b c : Int) (w : World) (wa : (Lit.int .i64 a).wf = true) (wb : (Lit.int .i64 b).wf = true) (wc : (Lit.int .i64 c).wf = true) (hr : Vr w) :
    Calls Tryd.prog 7 #[.int .i64 a, .int .i64 b, .int .i64 c] w fun e w' => e = .returned (.bool true) ∧ Below w.heap.size w w' := by
  have hF := seven_fine (wf_i64 wa) (wf_i64 wb) (wf_i64 wc)
  have hPL := hide (prog_lines _ hF)
  replace hF := hide hF
  go_enter Tryd.func7, Tryd.ntmps7
  go_wp2_with fail
  refine (first_any _ hr).mono ?_
  rintro e w1 ⟨rfl, hb1⟩
  obtain ⟨N, hN⟩ : ∃ N, N = w1.heap.size := ⟨_, rfl⟩
  have hP := seven_pq w1 a b c w1.heap.size rfl
  have b2 := below_then (below_then hb1 (below_new w1 (.cells #[.int .i64 c, .int .i64 a] 3))) (below_new _ (.cells #[.int .i64 1, .int .i64 a, .int .i64 b, .int .i64 c, .slice none 0 0, .int .i64 2, .int .i64 a, .int .i64 b, .int .i64 c, .slice none 0 0, .int .i64 3, .int .i64 a, .int .i64 b, .int .i64 0, .slice none 0 0, .int .i64 4, .int .i64 a, .int .i64 b, .int .i64 0, .slice (some ⟨w1.heap.size, 0, none⟩) 2 2, .int .i64 5, .int .i64 a, .int .i64 b, .int .i64 0, .slice none 0 0, .int .i64 6, .int .i64 0, .int .i64 0, .int .i64 0, .slice none 0 0, .int .i64 7, .int .i64 0, .int .i64 0, .int .i64 0, .slice none 0 0] 32))
  have hPs : Ps _ _ _ (seven a b c) := hP.ps
  have kP := print_any (seven a b c) _ _ hPs (by show 7 ≤ 500; omega) (fun x hx => (unhide hF x hx).1) (hr.next b2)
  replace hPs := hide hPs
  replace b2 := hide b2
  clear hN N hb1
  go_wp2_with fail
  refine kP.mono ?_
  rintro e w3 ⟨u, rfl, hS, hb3⟩
  have b3 := below_then (unhide b2) hb3
  have hPs3 := hide ((unhide hPs).next hb3)
  have kQ := parse_any _ u w3 hS (by show 7 ≤ 100000; omega) (lines_all _ (fun x hx => (unhide hF x hx).1)) (hr.next b3)
  rw [unhide hPL, seven_norm] at kQ
  replace b3 := hide b3
  have hP3 := hide (hP.next hb3)
  clear kP hS hb3 hPs b2 hP
  go_wp2_with fail
  refine kQ.mono ?_
  rintro e w4 ⟨xa, xn, xc, rfl, hb4, hx4⟩
  obtain ⟨rfl, hPo⟩ := hx4 _ rfl
  have hX := hide hPo.ps
  have b4 := below_then (unhide b3) hb4
  have hP4 := (unhide hP3).next hb4
  have c0 := hP4.cell5 (j := 0) (by decide) rfl
  have c1 := hP4.cell5 (j := 1) (by decide) rfl
  have c2 := hP4.cell5 (j := 2) (by decide) rfl
  have c3 := hP4.cell5 (j := 3) (by decide) rfl
  have c4 := hP4.cell5 (j := 4) (by decide) rfl
  have hL := hide hP4.ps
  replace hP4 := hide hP4
  replace b4 := hide b4
  clear kQ hb4 hPs3 hP3 b3 hx4
  go_wp2_with fail
  have bB := below_new w4 (.cells #[.int .i64 6, .int .i64 9, .int .i64 0, .int .i64 0, .slice none 0 0] 32)
  have bC := below_then bB (below_new _ (.cells #[.int .i64 6, .int .i64 9, .int .i64 0, .int .i64 0, .slice none 0 0] 32))
  have hO := one_pq (w4.alloc (.cells #[.int .i64 6, .int .i64 9, .int .i64 0, .int .i64 0, .slice none 0 0] 32)) odd6 (w4.heap.size + 1) (by simp) rfl
  have b5 := below_then (unhide b4) bC
  have kP := print_any [odd6] _ _ hO.ps (by show 1 ≤ 500; omega) (fun x hx => (odd_fine x hx).1) (hr.next b5)
  refine kP.mono ?_
  rintro e w6 ⟨u6, rfl, hS, hb6⟩
  have b6 := below_then b5 hb6
  have s6 := below_then bC hb6
  have kQ := parse_any _ u6 w6 hS (by show 1 ≤ 100000; omega) (lines_all _ (fun x hx => (odd_fine x hx).1)) (hr.next b6)
  rw [prog_lines [odd6] odd_fine, odd_norm] at kQ
  have hX6 := hide ((unhide hX).next s6)
  have hP6 := hide ((unhide hP4).next s6)
  replace b6 := hide b6
  clear kP hS hb6 hO bC bB b5 b4 s6 hX hP4 hL c0 c1 c2 c3 c4 hPo
  go_wp2_with fail
  refine kQ.mono ?_
  rintro e w7 ⟨ya, yn, yc, rfl, hb7, hx7⟩
  obtain ⟨rfl, hPy⟩ := hx7 _ rfl
  have hY7 := hide hPy.ps
  have b7 := below_then (unhide b6) hb7
  have hX7 := hide ((unhide hX6).next hb7)
  have hP7 := hide ((unhide hP6).next hb7)
  have kF := first_any w7 (hr.next b7)
  replace b7 := hide b7
  clear kQ hb7 hx7 hPy b6 hX6 hP6
  go_wp2_with fail
  refine kF.mono ?_
  rintro e w8 ⟨rfl, hb8⟩
  have b8 := hide (below_then (unhide b7) hb8)
  have hX8 := (unhide hX7).next hb8
  have hY8 := hide ((unhide hY7).next hb8)
  have hP8 := (unhide hP7).next hb8
  have kS := same_any _ _ _ _ w8 hX8 hP8.ps
  rw [show sameL (seven a b c) ((sevenQ a b c w1.heap.size).map (fun x => x.1)) = true from (sameL_iff _ _).2 rfl] at kS
  replace hP8 := hide hP8
  clear kF hb8 b7 hX7 hY7 hP7 hX8
  go_wp2_with fail
  refine kS.mono ?_
  rintro e w9 ⟨rfl, hb9⟩
  have b9 := hide (below_then (unhide b8) hb9)
  have hY9 := (unhide hY8).next hb9
  have hP9 := (unhide hP8).next hb9
  have kS2 := same_any _ _ _ _ w9 hY9 (seven_cut hP9.ps)
  rw [show sameL [(⟨6, 0, 0, 0, []⟩ : In)] [⟨6, 0, 0, 0, []⟩] = true from (sameL_iff _ _).2 rfl] at kS2
  clear kS hb9 b8 hY8 hP8 hP9 hY9
  go_wp2_with fail
  refine kS2.mono ?_
  rintro e w10 ⟨rfl, hb10⟩
  have b10 := hide (below_then (unhide b9) hb10)
  clear kS2 hb10 b9
  go_wp2
  go_ret
  exact ⟨rfl, unhide b10⟩
end Go.Proofs.YtanieihnkajpdaaDoor
