/- An argument that is a program: its instructions, read. -/
import Derived.Test.YtdhfpfkcbcgnaaaApp
import Derived.Test.YtdhfpfkcbcgnaaaRec
import Derived.Deep.Slices
import Derived.ChangeSlices
namespace Go.Proofs.Ytdhfpfkcbcgnaaa
open Go.ChangeShapes Go.WideShapes Go.RowKit

def I64 (n : Int) : Prop := -9223372036854775808 ≤ n ∧ n ≤ 9223372036854775807
theorem wf_i64 {n : Int} (h : (Lit.int .i64 n).wf = true) : I64 n := by
  have h2 := h
  simp [Lit.wf, IntKind.min, IntKind.max, IntKind.bits, IntKind.signed] at h2
  exact ⟨by omega, by omega⟩
structure Fi (x : In) : Prop where
  k : I64 x.k
  a : I64 x.a
  b : I64 x.b
  c : I64 x.c
  l : ∀ n ∈ x.l, I64 n
theorem row_ls {w : World} {a : Option Addr} {len cap : Nat} {zs : List Int} (h : IsRow .i64 w a len cap zs) : Ls w.heap.size w (.slice a len cap) (zs.take len) := by
  obtain ⟨s, lc, cm, _⟩ := isRow_seg h
  refine ⟨a, len, cap, rfl, lc, cm, fun e => ?_, s.low⟩
  rcases h with ⟨_, _, e2, _⟩ | ⟨x, e2, _⟩
  · exact e2
  · rw [e] at e2; cases e2
/-- A row of numbers, as a value of its cell. -/
theorem open_l {H : Type} {enc : TypeId × Value → H} {w : World} {held : Bool} {fuel : Nat} {v : Value} {x : DataW H × List MemPlace}
    (h : DataW.trod enc Try.prog w 0 (fun _ => true) held fuel 24 [v] = some x) : ∃ l, Ls w.heap.size w v l ∧ ∀ n ∈ l, I64 n := by
  rcases open_ints Try.underlying24 Try.underlying3 (by kernel_rfl) h with ⟨hcs, _⟩ | ⟨x, l, c, zs, hcs, _, hl, hm, hz, _, hcell, hwz⟩
  · obtain rfl : v = .slice none 0 0 := by simpa using hcs
    exact ⟨[], row_ls (zs := []) (.inl ⟨rfl, rfl, rfl, rfl⟩), fun n hn => by cases hn⟩
  · obtain rfl : v = .slice (some x) l c := by simpa using hcs
    exact ⟨zs.take l, row_ls (.inr ⟨_, rfl, hl, hm, by simpa using hz, hcell, hwz⟩), fun n hn => wf_i64 (hwz n (List.mem_of_mem_take hn))⟩
theorem list5 {cs : List Value} (h : cs.length = 5) : ∃ a b c d e, cs = [a, b, c, d, e] := by
  rcases cs with _ | ⟨a, _ | ⟨b, _ | ⟨c, _ | ⟨d, _ | ⟨e, _ | ⟨f, r⟩⟩⟩⟩⟩⟩
  · simp at h
  · simp at h
  · simp at h
  · simp at h
  · simp at h
  · exact ⟨a, b, c, d, e, rfl⟩
  · simp at h
theorem c3 : Try.prog.cellsOf 3 = 1 := by kernel_rfl
theorem c24 : Try.prog.cellsOf 24 = 1 := by kernel_rfl
theorem c44 : Try.prog.cellsOf 44 = 5 := by kernel_rfl
theorem open_i {H : Type} {enc : TypeId × Value → H} {w : World} {held : Bool} {fuel : Nat} {v : Value} {x : DataW H × List MemPlace}
    (h : DataW.trod enc Try.prog w 0 (fun _ => true) held fuel 3 [v] = some x) : ∃ n, v = .int .i64 n ∧ I64 n := by
  obtain ⟨n, hz, _, hw⟩ := DataW.trod_int Try.underlying3 h
  exact ⟨n, by simpa using hz, wf_i64 hw⟩
theorem getS {α : Type} {l : List α} {j : Nat} (h : j < l.length) : ∃ y, l[j]? = some y := ⟨_, List.getElem?_eq_getElem h⟩
set_option maxRecDepth 100000 in
theorem open_in {H : Type} {enc : TypeId × Value → H} {w : World} {held : Bool} {fuel : Nat} {cs : List Value} {b off : Nat} {x : DataW H × List MemPlace}
    (hc : w.cells? 0 ⟨b, off, none⟩ 5 = some cs) (h : DataW.trod enc Try.prog w 0 (fun _ => true) held fuel 44 cs = some x) : ∃ x, IsIn w.heap.size w b off x ∧ Fi x := by
  obtain ⟨_, hlen, hcell⟩ := World.cells?_some hc
  obtain ⟨xs, k, hk, hxy, _, hxl, hf⟩ := DataW.trod_struct Try.underlying44 h
  obtain ⟨v0, v1, v2, v3, v4, rfl⟩ := list5 hlen
  have hxl : xs.length = 5 := hxl
  have g0 := hf 0 _ rfl
  have g1 := hf 1 _ rfl
  have g2 := hf 2 _ rfl
  have g3 := hf 3 _ rfl
  have g4 := hf 4 _ rfl
  clear hf hxy hk h hc
  obtain ⟨y0, q0⟩ := getS (l := xs) (j := 0) (by omega)
  obtain ⟨y1, q1⟩ := getS (l := xs) (j := 1) (by omega)
  obtain ⟨y2, q2⟩ := getS (l := xs) (j := 2) (by omega)
  obtain ⟨y3, q3⟩ := getS (l := xs) (j := 3) (by omega)
  obtain ⟨y4, q4⟩ := getS (l := xs) (j := 4) (by omega)
  rw [q0] at g0
  rw [q1] at g1
  rw [q2] at g2
  rw [q3] at g3
  rw [q4] at g4
  replace g0 : DataW.trod enc Try.prog w 0 (fun _ => true) held k 3 ((([v0, v1, v2, v3, v4] : List Value).drop 0).take (Try.prog.cellsOf 3)) = some y0 := g0
  replace g1 : DataW.trod enc Try.prog w 0 (fun _ => true) held k 3 ((([v0, v1, v2, v3, v4] : List Value).drop 1).take (Try.prog.cellsOf 3)) = some y1 := g1
  replace g2 : DataW.trod enc Try.prog w 0 (fun _ => true) held k 3 ((([v0, v1, v2, v3, v4] : List Value).drop 2).take (Try.prog.cellsOf 3)) = some y2 := g2
  replace g3 : DataW.trod enc Try.prog w 0 (fun _ => true) held k 3 ((([v0, v1, v2, v3, v4] : List Value).drop 3).take (Try.prog.cellsOf 3)) = some y3 := g3
  replace g4 : DataW.trod enc Try.prog w 0 (fun _ => true) held k 24 ((([v0, v1, v2, v3, v4] : List Value).drop 4).take (Try.prog.cellsOf 24)) = some y4 := g4
  rw [c3] at g0 g1 g2 g3
  rw [c24] at g4
  obtain ⟨n0, rfl, i0⟩ := open_i g0
  obtain ⟨n1, rfl, i1⟩ := open_i g1
  obtain ⟨n2, rfl, i2⟩ := open_i g2
  obtain ⟨n3, rfl, i3⟩ := open_i g3
  obtain ⟨l, hl, il⟩ := open_l g4
  have e0 := hcell 0 (by omega)
  have e1 := hcell 1 (by omega)
  have e2 := hcell 2 (by omega)
  have e3 := hcell 3 (by omega)
  have e4 := hcell 4 (by omega)
  rw [addr_add] at e0 e1 e2 e3 e4
  exact ⟨⟨n0, n1, n2, n3, l⟩, ⟨e0, e1, e2, e3, v4, e4, hl⟩, ⟨i0, i1, i2, i3, il⟩⟩
set_option maxRecDepth 100000 in
theorem open_prog {H : Type} {enc : TypeId × Value → H} {w : World} {held : Bool} {fuel : Nat} {a : Option Addr} {len cap : Nat} {x : DataW H × List MemPlace}
    (h : DataW.trod enc Try.prog w 0 (fun _ => true) held fuel 25 [.slice a len cap] = some x) : ∃ ps, Ps w.heap.size w (.slice a len cap) ps ∧ ∀ x ∈ ps, Fi x := by
  rcases Deep.open_slice Try.underlying25 h with ⟨h0, _⟩ | ⟨a', len', cap', m, n, D, Pl, e, _, hl, hm, hmm, _, hx⟩
  · obtain ⟨rfl, rfl, rfl⟩ : a = none ∧ len = 0 ∧ cap = 0 := by simpa using h0
    exact ⟨[], ⟨none, 0, rfl, Nat.le_refl _, Nat.zero_le _, .inl rfl⟩, fun x hx => by cases hx⟩
  · obtain ⟨rfl, rfl, rfl⟩ : a = some a' ∧ len = len' ∧ cap = cap' := by simpa using e
    have hm' : m = cap := by simpa using hmm
    subst hm'
    by_cases h0 : len = 0
    · subst h0
      exact ⟨[], ⟨_, _, rfl, hl, hm, .inl rfl⟩, fun x hx => by cases hx⟩
    obtain ⟨b, off, spot⟩ := a'
    have hspot : spot = none := by
      obtain ⟨cs, h1, _⟩ := hx 0 (by omega)
      rw [c44] at h1
      obtain ⟨_, hlen, hcell⟩ := World.cells?_some h1
      obtain ⟨v0, _, _, _, _, rfl⟩ := list5 hlen
      have : w.cell? _ = some v0 := hcell 0 (by omega)
      simpa [Addr.add] using World.cell?_spot this
    subst hspot
    have each : ∀ i, i < m → ∃ x, IsIn w.heap.size w b (off + i * 5) x ∧ Fi x := fun i hi => by
      obtain ⟨cs, h1, h2⟩ := hx i hi
      rw [c44, addr_add] at h1
      exact open_in h1 h2
    haveI : Inhabited In := ⟨z0⟩
    obtain ⟨q, hq⟩ := Deep.choose_lt each
    have hb : b < w.heap.size := by
      have := (hq 0 (by omega)).1.1
      exact World.block_lt_of_cell? w _ this
    have hln : ((List.range len).map q).length = len := by simp
    refine ⟨(List.range len).map q, ?_, fun x hx => ?_⟩
    · refine ⟨_, m, by rw [hln], by rw [hln]; exact hl, hm, .inr ⟨b, off, rfl, hb, fun i hi => ?_⟩⟩
      rw [hln] at hi
      have : ((List.range len).map q).getD i z0 = q i := by simp [hi]
      rw [this]
      exact (hq i (by omega)).1
    · obtain ⟨i, hi, rfl⟩ := List.mem_map.1 hx
      exact (hq i (by have := List.mem_range.1 hi; omega)).2
end Go.Proofs.Ytdhfpfkcbcgnaaa
