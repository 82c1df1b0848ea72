/- Texts of this claim, put together in their order. -/
import Derived.Deep.Slices
import Derived.ProofKit
import Derived.Test.YtdhpahopfmcdkaaBase1
import Derived.Test.YtdhpahopfmcdkaaBase2
import Derived.Test.YtdhpahopfmcdkaaBase3
import Derived.Test.YtdhpahopfmcdkaaBase4
import Derived.Test.YtdhpahopfmcdkaaBase5
import Derived.Test.YtdhpahopfmcdkaaBase6
import Derived.Test.YtdhpahopfmcdkaaBase7
import Derived.Test.YtdhpahopfmcdkaaBase8
/- What Path of package shape answers, and what the law's own 'first'. -/
namespace Go.Proofs.Ytdhpahopfmcdkaa
open Go.RowKit

/-- The word a's stripe, object and region, each counted from 0 on. -/
def sD (c : Cf) (a : Int) : Int := a / c.d
def oD (c : Cf) (a : Int) : Int := a / c.d / c.s
def rD (c : Cf) (a : Int) : Int := a / c.d / c.s / c.o
theorem div_in {a n m : Int} (h0 : 0 ≤ a) (h1 : a < n * m) (hm : 1 ≤ m) : 0 ≤ a / m ∧ a / m < n := ⟨Int.ediv_nonneg h0 (by omega), Int.ediv_lt_of_lt_mul (by omega) h1⟩
theorem s_in {c : Cf} (hp : Hp c) {a : Int} (h0 : 0 ≤ a) (h1 : a < nw c) : 0 ≤ sD c a ∧ sD c a < ns c := div_in h0 h1 hp.d1
theorem o_in {c : Cf} (hp : Hp c) {a : Int} (h0 : 0 ≤ a) (h1 : a < nw c) : 0 ≤ oD c a ∧ oD c a < no c := div_in (s_in hp h0 h1).1 (s_in hp h0 h1).2 hp.s1
theorem r_in {c : Cf} (hp : Hp c) {a : Int} (h0 : 0 ≤ a) (h1 : a < nw c) : 0 ≤ rD c a ∧ rD c a < c.r := div_in (o_in hp h0 h1).1 (o_in hp h0 h1).2 hp.o1
theorem level_s {c : Cf} (h : okB c = true) {n : Int} (h0 : 0 ≤ n) (h1 : n < ns c) : levelD c (c.r + no c + n) = 2 := by
  have hp := okB_hp h
  have := hp.r1; have := no_in hp
  exact level_2 (by omega) (by rw [nodes_ok h]; omega) (by omega) (by omega)
theorem level_o {c : Cf} (h : okB c = true) {n : Int} (h0 : 0 ≤ n) (h1 : n < no c) : levelD c (c.r + n) = 1 := by
  have hp := okB_hp h
  have := hp.r1; have := ns_in hp
  exact level_1 (by omega) (by rw [nodes_ok h]; omega) (by omega) (by omega)
theorem level_r {c : Cf} (h : okB c = true) {n : Int} (h0 : 0 ≤ n) (h1 : n < c.r) : levelD c n = 0 := by
  have hp := okB_hp h
  have := ns_in hp; have := no_in hp
  exact level_0 (by omega) (by rw [nodes_ok h]; omega) (by omega)
theorem parent_s {c : Cf} (h : okB c = true) {n : Int} (h0 : 0 ≤ n) (h1 : n < ns c) : parentD c (c.r + no c + n) = c.r + n / c.s := by
  have e : c.r + no c + n - (c.r + no c) = n := by omega
  simp [parentD, level_s h h0 h1, e]
theorem parent_o {c : Cf} (h : okB c = true) {n : Int} (h0 : 0 ≤ n) (h1 : n < no c) : parentD c (c.r + n) = n / c.o := by
  have e : c.r + n - c.r = n := by omega
  simp [parentD, level_o h h0 h1, e]
theorem parent_r {c : Cf} (h : okB c = true) {n : Int} (h0 : 0 ≤ n) (h1 : n < c.r) : parentD c n = -1 := by
  simp [parentD, level_r h h0 h1]
theorem latch_s {c : Cf} (h : okB c = true) {n : Int} (h0 : 0 ≤ n) (h1 : n < ns c) : latchD c (c.r + no c + n) = nw c + n * 8 := by
  have e : c.r + no c + n - (c.r + no c) = n := by omega
  simp [latchD, level_s h h0 h1, e]

set_option maxRecDepth 100000 in
theorem path_no (c : Cf) (a : Int) (w : World) (h : ¬ (0 ≤ a ∧ a < wordsD c)) : Calls Try.prog 49 #[cv c, .int .i64 a] w fun e w' => e = .returned (.tuple #[.int .i64 (0), .int .i64 (0), .int .i64 (0), .int .i64 (1)]) ∧ Below w.heap.size w w' := by
  by_cases h0 : a < 0
  · unfold cv
    go_enter Try.func49, Try.ntmps49
    go_wp2
    exact bodyPost_ret (v := .tuple #[.int .i64 (0), .int .i64 (0), .int .i64 (0), .int .i64 (1)]) (by simp [results, Try.results49, go_sem]) rfl ⟨rfl, below_new _ _⟩
  · have h1 : wordsD c ≤ a := by omega
    clear h
    unfold cv
    go_enter Try.func49, Try.ntmps49
    go_wp2_with fail
    refine (words_any c _).mono ?_
    rintro e w1 ⟨rfl, hb⟩
    have hl := below_call hb
    have hx := (bx_new c w).next hb
    go_wp2
    exact bodyPost_ret (v := .tuple #[.int .i64 (0), .int .i64 (0), .int .i64 (0), .int .i64 (1)]) (by simp [results, Try.results49, go_sem]) rfl ⟨rfl, hl⟩

set_option maxRecDepth 100000 in
theorem path_ok (c : Cf) (a : Int) (w : World) (h : okB c = true) (h0 : 0 ≤ a) (h1 : a < nw c) : Calls Try.prog 49 #[cv c, .int .i64 a] w fun e w' => e = .returned (.tuple #[.int .i64 (rD c a), .int .i64 (c.r + oD c a), .int .i64 (c.r + no c + sD c a), .int .i64 (0)]) ∧ Below w.heap.size w w' := by
  have hp := okB_hp h
  obtain ⟨s0, s1⟩ := s_in hp h0 h1
  obtain ⟨o0, o1⟩ := o_in hp h0 h1
  have h1 := hp.r1
  have h2 := hp.r8
  have g1 := hp.o1
  have g2 := hp.o8
  have g3 := hp.s1
  have g4 := hp.s8
  obtain ⟨h3, h4⟩ := no_in hp
  obtain ⟨h5, h6⟩ := ns_in hp
  obtain ⟨h7, h8⟩ := nw_in hp
  have d1 := hp.d1
  have f1 := parent_s h s0 s1
  have f2 := parent_o h o0 o1
  have E1 : Hid (parentD c (c.r + no c + sD c a) = c.r + oD c a) := f1
  have E2 : Hid (parentD c (c.r + oD c a) = rD c a) := f2
  have H := hide h
  clear f1 f2 h
  have q2 : IntKind.i64.wrap (a.tdiv c.d) = sD c a := IntWalk.i64_quo _ _ ⟨by omega, by omega, by omega⟩
  have q3 : c.d ≠ 0 := by omega
  have q6 : IntKind.i64.wrap (c.r + no c + sD c a) = c.r + no c + sD c a := kin (by omega) (by omega)
  unfold cv
  go_enter Try.func49, Try.ntmps49
  go_wp2_with fail
  refine (words_ok c _ (unhide H)).mono ?_
  rintro e w1 ⟨rfl, hb⟩
  have hl := below_call hb
  have hx := (bx_new c w).next hb
  obtain ⟨a0, a1, a2, a3, a4, a5, a6, a7, a8, a9, a10, a11⟩ := hx.cells
  go_wp2_with fail
  go_region_held3 (fun wz => wz.cell? ⟨w.heap.size, 0, none⟩ = some (.int .i64 c.r) ∧ wz.cell? ⟨w.heap.size, 1, none⟩ = some (.int .i64 c.o) ∧ wz.cell? ⟨w.heap.size, 2, none⟩ = some (.int .i64 c.s) ∧ wz.cell? ⟨w.heap.size, 3, none⟩ = some (.int .i64 c.d) ∧ wz.cell? ⟨w.heap.size, 4, none⟩ = some (.int .i64 c.t) ∧ wz.cell? ⟨w.heap.size, 5, none⟩ = some (.int .i64 c.l) ∧ wz.cell? ⟨w.heap.size, 6, none⟩ = some (.int .i64 c.g) ∧ wz.cell? ⟨w.heap.size, 7, none⟩ = some (.int .i64 c.k) ∧ wz.cell? ⟨w.heap.size, 8, none⟩ = some (.int .i64 c.u) ∧ wz.cell? ⟨w.heap.size, 9, none⟩ = some (.int .i64 c.e) ∧ wz.cell? ⟨w.heap.size, 10, none⟩ = some (.int .i64 c.i) ∧ wz.cell? ⟨w.heap.size, 11, none⟩ = some (.int .i64 c.p)) (first | exact hx3.cells | exact hx2.cells | exact hx1.cells | exact hx.drew.cells)
    (first
      | (go_at_call 85; refine (firstStripe_any c _ hp).mono ?_; rintro e wz ⟨rfl, hbz⟩; first | (have hx3 := hx2.next hbz; have hl3 := below_then hl2 hbz) | (have hx2 := hx1.next hbz; have hl2 := below_then hl1 hbz) | (have hx1 := hx.drew.next hbz; have hl1 := below_then hl.drew hbz)))
  obtain ⟨b0, b1, b2, b3, b4, b5, b6, b7, b8, b9, b10, b11⟩ := hx1.cells
  go_wp2_with fail
  refine (parent_any c (c.r + no c + sD c a) _).mono ?_
  rw [unhide E1]
  rintro e w3 ⟨rfl, hb3⟩
  have hl3 := below_then hl1 hb3
  have hx3 := hx1.next hb3
  obtain ⟨d0, d1, d2, d3, d4, d5, d6, d7, d8, d9, d10, d11⟩ := hx3.cells
  go_wp2_with fail
  refine (parent_any c (c.r + oD c a) _).mono ?_
  rw [unhide E2]
  rintro e w4 ⟨rfl, hb4⟩
  go_wp2
  exact bodyPost_ret (v := .tuple #[.int .i64 (rD c a), .int .i64 (c.r + oD c a), .int .i64 (c.r + no c + sD c a), .int .i64 (0)]) (by simp [results, Try.results49, go_sem]) rfl ⟨rfl, below_then hl3 hb4⟩

/-- One of each. -/
def one : Cf := ⟨1, 1, 1, 1, 1, 0, 1, 1, 1, 0, 1, 0⟩
end Go.Proofs.Ytdhpahopfmcdkaa

/- A slice of integers that comes in, as the walks read it. -/
namespace Go.Proofs.Ytdhpahopfmcdkaa
open Go.RowKit

/-- A slice of integers that came in: nil, or 'cap' cells that hold the numbers 'zs', of which the first 'len' are its elements. -/
def IsRow (k : IntKind) (w : World) (a : Option Addr) (len cap : Nat) (zs : List Int) : Prop :=
  (a = none ∧ len = 0 ∧ cap = 0 ∧ zs = []) ∨
  ∃ x, a = some x ∧ len ≤ cap ∧ cap ≤ maxLen ∧ zs.length = cap ∧ (∀ i, i < zs.length → w.cell? (x.add i) = some (.int k (zs.getD i 0))) ∧ ∀ n ∈ zs, (Lit.int k n).wf = true

theorem isRow_seg {k : IntKind} {w : World} {a : Option Addr} {len cap : Nat} {zs : List Int} (h : IsRow k w a len cap zs) :
    SegK k w a len (zs.take len) ∧ len ≤ cap ∧ cap ≤ maxLen ∧ ∀ n ∈ zs.take len, (Lit.int k n).wf = true := by
  rcases h with ⟨rfl, rfl, rfl, rfl⟩ | ⟨x, rfl, hl, hm, hz, hcell, hwz⟩
  · exact ⟨⟨rfl, .inl rfl⟩, Nat.le_refl _, Nat.zero_le _, by simp⟩
  · refine ⟨⟨by simp; omega, ?_⟩, hl, hm, fun n hn => hwz n (List.mem_of_mem_take hn)⟩
    by_cases h0 : len = 0
    · exact .inl h0
    · obtain ⟨b, off, spot⟩ := x
      have hc := hcell 0 (by omega)
      have hspot : spot = none := by simpa [Addr.add] using World.cell?_spot hc
      subst hspot
      refine .inr ⟨b, off, rfl, fun i hi => ?_⟩
      have := hcell i (by omega)
      simp [Addr.add] at this
      have e : (if i = 0 then (⟨b, off, none⟩ : Addr) else ⟨b, off + i, none⟩) = ⟨b, off + i, none⟩ := by
        by_cases h : i = 0 <;> simp [h]
      rw [e] at this
      rw [this]
      simp [hi]
end Go.Proofs.Ytdhpahopfmcdkaa

/- Slices of structs whose fields are all whole numbers: how one that came in lies in memory. -/
namespace Go.Proofs.Ytdhpahopfmcdkaa
open Go.RowKit Go.Deep

/-- The type e is a struct of N fields, each one cell, each a whole number of 64 bits. -/
def plainInts (P : Program) (e : TypeId) (N : Nat) : Bool :=
  match P.underlying e with
  | some (.struct fs) => (fs.size == N) && ((P.cellsOf e == N) && (List.range N).all fun i =>
      match fs[i]? with
      | some f => (f.offset == i) && ((P.cellsOf f.type == 1) && match P.underlying f.type with
          | some (.int .i64) => true
          | _ => false)
      | none => false)
  | _ => false
theorem plainInts_out {P : Program} {e : TypeId} {N : Nat} (h : plainInts P e N = true) : ∃ fs : Array Field, P.underlying e = some (.struct fs) ∧ fs.size = N ∧ P.cellsOf e = N ∧
    ∀ (i : Nat) (f : Field), fs[i]? = some f → f.offset = i ∧ P.cellsOf f.type = 1 ∧ P.underlying f.type = some (.int .i64) := by
  unfold plainInts at h
  split at h
  · rename_i fs hfs
    simp only [Bool.and_eq_true, beq_iff_eq, List.all_eq_true, List.mem_range] at h
    obtain ⟨h1, h2, h3⟩ := h
    refine ⟨fs, hfs, h1, h2, fun i f hf => ?_⟩
    have hi : i < N := by
      rw [← h1]
      obtain ⟨hlt, _⟩ := Array.getElem?_eq_some_iff.1 hf
      exact hlt
    have h4 := h3 i hi
    rw [hf] at h4
    simp only [Bool.and_eq_true, beq_iff_eq] at h4
    obtain ⟨h5, h6, h7⟩ := h4
    refine ⟨h5, h6, ?_⟩
    split at h7
    · assumption
    · cases h7
  · cases h

section
variable {H : Type} {enc : TypeId × Value → H} {P : Program} {w : World} {base : Nat} {spare : Nat → Bool} {held : Bool}
theorem open_structs {t e : TypeId} {N fuel : Nat} {cs : List Value} {x : DataW H × List MemPlace} (ht : P.underlying t = some (.slice e)) (hp : plainInts P e N = true)
    (h : DataW.trod enc P w base spare held fuel t cs = some x) :
    cs = [.slice none 0 0] ∨
    ∃ (a : Addr) (len cap : Nat) (Z : Nat → Nat → Int), cs = [.slice (some a) len cap] ∧ len ≤ cap ∧ cap ≤ maxLen ∧
      ∀ i, i < len → ∀ j, j < N → w.cell? (a.add (i * N + j)) = some (.int .i64 (Z i j)) ∧ (Lit.int .i64 (Z i j)).wf = true := by
  obtain ⟨fs, he, hN, ce, hall⟩ := plainInts_out hp
  rcases open_slice ht h with h0 | ⟨a, len, cap, m, n, D, Pl, rfl, hb, hl, hm, hmm, rfl, hx⟩
  · exact Or.inl h0.1
  right
  have hlm : len ≤ m := by rw [hmm]; split <;> omega
  have each : ∀ i, i < len → ∃ q : Nat → Int, ∀ j, j < N → w.cell? (a.add (i * N + j)) = some (.int .i64 (q j)) ∧ (Lit.int .i64 (q j)).wf = true := by
    intro i hi
    obtain ⟨cs', h1, h2⟩ := hx i (by omega)
    rw [ce] at h1
    obtain ⟨_, hlen, hcell⟩ := World.cells?_some h1
    obtain ⟨xs, k, hk, hxy, _, hxl, hf⟩ := DataW.trod_struct he h2
    refine choose_lt (p := fun j z => w.cell? (a.add (i * N + j)) = some (.int .i64 z) ∧ (Lit.int .i64 z).wf = true) ?_
    intro j hj
    have hj' : j < fs.size := by omega
    obtain ⟨o1, o2, o3⟩ := hall j fs[j] (Array.getElem?_eq_getElem hj')
    have g := hf j fs[j] (Array.getElem?_eq_getElem hj')
    rw [o1, o2] at g
    have e1 := hcell j (by omega)
    rw [add_add] at e1
    have hjc : j < cs'.length := by omega
    rw [List.drop_eq_getElem_cons hjc, List.take_succ_cons, List.take_zero, List.getElem?_eq_getElem (by omega)] at g
    obtain ⟨z, hz, _, hw⟩ := DataW.trod_int o3 g
    refine ⟨z, ?_, hw⟩
    rw [e1, List.getElem?_eq_getElem hjc]
    simpa using hz
  obtain ⟨q, hq⟩ := choose_lt each
  exact ⟨a, len, cap, q, rfl, hl, hm, hq⟩
end

/-- A slice of structs of N numbers that came in: element i's field j is Z i j. -/
def IsRecs (N : Nat) (w : World) (a : Option Addr) (len cap : Nat) (Z : Nat → Nat → Int) : Prop :=
  (a = none ∧ len = 0 ∧ cap = 0) ∨
  ∃ x, a = some x ∧ len ≤ cap ∧ cap ≤ maxLen ∧ ∀ i, i < len → ∀ j, j < N → w.cell? (x.add (i * N + j)) = some (.int .i64 (Z i j)) ∧ (Lit.int .i64 (Z i j)).wf = true
/-- .. as it lies below B. -/
def RecsB (N B : Nat) (w : World) (a : Option Addr) (len : Nat) (Z : Nat → Nat → Int) : Prop :=
  len = 0 ∨ ∃ b off, a = some ⟨b, off, none⟩ ∧ b < B ∧ ∀ i, i < len → ∀ j, j < N → w.cell? ⟨b, off + i * N + j, none⟩ = some (.int .i64 (Z i j))
theorem isRecs_low {N : Nat} {w : World} {a : Option Addr} {len cap : Nat} {Z : Nat → Nat → Int} (hN : 0 < N) (h : IsRecs N w a len cap Z) :
    RecsB N w.heap.size w a len Z ∧ len ≤ cap ∧ cap ≤ maxLen ∧ ∀ i, i < len → ∀ j, j < N → (Lit.int .i64 (Z i j)).wf = true := by
  rcases h with ⟨rfl, rfl, rfl⟩ | ⟨x, rfl, hl, hm, hc⟩
  · exact ⟨.inl rfl, Nat.le_refl _, Nat.zero_le _, fun i hi => absurd hi (Nat.not_lt_zero _)⟩
  · refine ⟨?_, hl, hm, fun i hi j hj => (hc i hi j hj).2⟩
    by_cases h0 : len = 0
    · exact .inl h0
    · obtain ⟨b, off, spot⟩ := x
      have h1 := (hc 0 (by omega) 0 hN).1
      have hspot : spot = none := by simpa [Addr.add] using World.cell?_spot h1
      subst hspot
      have hbl : b < w.heap.size := by
        simp [Addr.add, World.cell?] at h1
        by_cases hb : b < w.heap.size
        · exact hb
        · simp [Array.getElem?_eq_none (show w.heap.size ≤ b by omega)] at h1
      refine .inr ⟨b, off, rfl, hbl, fun i hi j hj => ?_⟩
      have h2 := (hc i hi j hj).1
      have e : Addr.add ⟨b, off, none⟩ (i * N + j) = ⟨b, off + i * N + j, none⟩ := by
        rw [Nat.add_assoc]
        generalize i * N + j = q
        by_cases h : q = 0 <;> simp [Addr.add, h]
      rwa [e] at h2
theorem RecsB.later {N B : Nat} {w w' : World} {a : Option Addr} {len : Nat} {Z : Nat → Nat → Int} (h : RecsB N B w a len Z) (hb : Below B w w') : RecsB N B w' a len Z := by
  rcases h with h0 | ⟨b, off, rfl, hlt, hc⟩
  · exact .inl h0
  · exact .inr ⟨b, off, rfl, hlt, fun i hi j hj => (hb.cell hlt).trans (hc i hi j hj)⟩
theorem RecsB.at {N B : Nat} {w : World} {a : Option Addr} {len : Nat} {Z : Nat → Nat → Int} (h : RecsB N B w a len Z) {i : Nat} (hi : i < len) :
    ∃ b off, a = some ⟨b, off, none⟩ ∧ b < B ∧ ∀ j, j < N → w.cell? ⟨b, off + i * N + j, none⟩ = some (.int .i64 (Z i j)) := by
  rcases h with h0 | ⟨b, off, rfl, hlt, hc⟩
  · omega
  · exact ⟨b, off, rfl, hlt, hc i hi⟩
end Go.Proofs.Ytdhpahopfmcdkaa

/- A struct of whole numbers that came in by value: it is a configuration. -/
namespace Go.Proofs.Ytdhpahopfmcdkaa
open Go.RowKit Go.Deep Go.WideShapes

/-- Such a struct's cells. -/
theorem open_rec {H : Type} {enc : TypeId × Value → H} {P : Program} {w : World} {base : Nat} {spare : Nat → Bool} {held : Bool} {e : TypeId} {N fuel : Nat} {cs : List Value} {x : DataW H × List MemPlace} (hp : plainInts P e N = true)
    (h : DataW.trod enc P w base spare held fuel e cs = some x) : cs.length = N ∧ ∃ Z : Nat → Int, ∀ j, j < N → cs[j]? = some (.int .i64 (Z j)) ∧ (Lit.int .i64 (Z j)).wf = true := by
  obtain ⟨fs, he, hN, ce, hall⟩ := plainInts_out hp
  obtain ⟨xs, k, hk, hxy, hlen, hxl, hf⟩ := DataW.trod_struct he h
  refine ⟨by omega, choose_lt (p := fun j z => cs[j]? = some (.int .i64 z) ∧ (Lit.int .i64 z).wf = true) ?_⟩
  intro j hj
  have hj' : j < fs.size := by omega
  obtain ⟨o1, o2, o3⟩ := hall j fs[j] (Array.getElem?_eq_getElem hj')
  have g := hf j fs[j] (Array.getElem?_eq_getElem hj')
  rw [o1, o2] at g
  have hjc : j < cs.length := by omega
  rw [List.drop_eq_getElem_cons hjc, List.take_succ_cons, List.take_zero, List.getElem?_eq_getElem (by omega)] at g
  obtain ⟨z, hz, _, hw⟩ := DataW.trod_int o3 g
  refine ⟨z, ?_, hw⟩
  rw [List.getElem?_eq_getElem hjc]
  simpa using hz

theorem conf_plain : plainInts Try.prog 73 12 = true := by kernel_rfl
theorem list12 {l : List Value} (h : l.length = 12) {Z : Nat → Int} (hz : ∀ j, j < 12 → l[j]? = some (.int .i64 (Z j))) :
    l = [.int .i64 (Z 0), .int .i64 (Z 1), .int .i64 (Z 2), .int .i64 (Z 3), .int .i64 (Z 4), .int .i64 (Z 5), .int .i64 (Z 6), .int .i64 (Z 7), .int .i64 (Z 8), .int .i64 (Z 9), .int .i64 (Z 10), .int .i64 (Z 11)] := by
  apply List.ext_getElem?
  intro j
  by_cases hj : j < 12
  · rw [hz j hj]
    have : j = 0 ∨ j = 1 ∨ j = 2 ∨ j = 3 ∨ j = 4 ∨ j = 5 ∨ j = 6 ∨ j = 7 ∨ j = 8 ∨ j = 9 ∨ j = 10 ∨ j = 11 := by omega
    rcases this with rfl | rfl | rfl | rfl | rfl | rfl | rfl | rfl | rfl | rfl | rfl | rfl <;> rfl
  · rw [List.getElem?_eq_none (by omega), List.getElem?_eq_none (by simp; omega)]

set_option maxRecDepth 100000 in
theorem open_conf {H : Type} {enc : TypeId × Value → H} {w : World} {r : Reach} {b0 base : Nat} {spare : Nat → Bool} {held : Bool} {fuel : Nat} {v : Value} {x : DataW H × List MemPlace}
    (hv : Value.okWide Try.prog w r b0 73 v) (h : DataW.trod enc Try.prog w base spare held fuel 73 v.cells.toList = some x) : ∃ c : Cf, v = cv c := by
  obtain ⟨fs, he, _⟩ := plainInts_out conf_plain
  obtain ⟨cs, rfl, _⟩ := okWide_struct he hv
  obtain ⟨h1, Z, h2⟩ := open_rec conf_plain h
  have h3 := list12 h1 fun j hj => (h2 j hj).1
  refine ⟨⟨Z 0, Z 1, Z 2, Z 3, Z 4, Z 5, Z 6, Z 7, Z 8, Z 9, Z 10, Z 11⟩, ?_⟩
  unfold cv
  congr 1
  apply Array.toList_inj.1
  simpa [Value.cells] using h3
end Go.Proofs.Ytdhpahopfmcdkaa

/- What Path of package shape answers, in one. -/
namespace Go.Proofs.Ytdhpahopfmcdkaa
open Go.RowKit

/-- What Path answers, whatever the word. -/
def isB (c : Cf) (a : Int) : Bool := decide (0 ≤ a) && decide (a < wordsD c)
def pr (c : Cf) (a : Int) : Int := if isB c a then rD c a else 0
def po (c : Cf) (a : Int) : Int := if isB c a then c.r + oD c a else 0
def ps (c : Cf) (a : Int) : Int := if isB c a then c.r + no c + sD c a else 0
theorem isB_iff {c : Cf} {a : Int} : isB c a = true ↔ 0 ≤ a ∧ a < wordsD c := by simp [isB]
theorem isB_no {c : Cf} {a : Int} : isB c a = false ↔ ¬ (0 ≤ a ∧ a < wordsD c) := by rw [← isB_iff]; simp

theorem path_any (c : Cf) (a : Int) (w : World) : Calls Try.prog 49 #[cv c, .int .i64 a] w fun e w' => e = .returned (.tuple #[.int .i64 (pr c a), .int .i64 (po c a), .int .i64 (ps c a), .int .i64 (errOf (isB c a))]) ∧ Below w.heap.size w w' := by
  unfold pr po ps
  cases h : isB c a
  · exact path_no c a w (isB_no.1 h)
  · obtain ⟨h0, h1⟩ := isB_iff.1 h
    have hk := words_pos h0 h1
    rw [words_eq hk] at h1
    exact path_ok c a w hk h0 h1

end Go.Proofs.Ytdhpahopfmcdkaa

/- Package path, plainly: what Stripes and Next answer. -/
namespace Go.Proofs.Ytdhpahopfmcdkaa
open Go.RowKit

/-- What who holds at a node, be it one or none. -/
def holdT (n : Nat) (T : Nat → Lv) (who node : Int) : Int := if decide (0 ≤ node) && decide (node < n) then lookD who (T node.toNat).1 else 0
theorem holdT_in {n : Nat} {T : Nat → Lv} {who : Int} {k : Nat} (h : k < n) : holdT n T who (k : Int) = lookD who (T k).1 := by
  unfold holdT
  rw [if_pos (by simp; omega)]; rfl
/-- Of the first k stripes from f on, how many who holds. -/
def strK (n : Nat) (T : Nat → Lv) (who f : Int) : Nat → Nat
  | 0 => 0
  | k + 1 => strK n T who f k + (if holdT n T who (f + k) = 0 then 0 else 1)
theorem strK_le (n : Nat) (T : Nat → Lv) (who f : Int) : ∀ k, strK n T who f k ≤ k
  | 0 => Nat.le_refl _
  | k + 1 => by
    have := strK_le n T who f k
    unfold strK
    split <;> omega
theorem strK_congr {n : Nat} {T S : Nat → Lv} {who f : Int} : ∀ k : Nat, (∀ j : Nat, j < k → holdT n T who (f + j) = holdT n S who (f + j)) → strK n T who f k = strK n S who f k
  | 0, _ => rfl
  | k + 1, h => by
    unfold strK
    rw [strK_congr k (fun j hj => h j (by omega)), h k (by omega)]
/-- The first stripe of an object. -/
def fstS (c : Cf) (o : Int) : Int := c.r + no c + (o - c.r) * c.s
/-- How many stripes of the object o who holds. -/
def strD (c : Cf) (n : Nat) (T : Nat → Lv) (who o : Int) : Nat := if levelD c o = 1 then strK n T who (fstS c o) c.s.toNat else 0
/-- Does who hold so many that it takes the object? -/
def escB (c : Cf) (n : Nat) (T : Nat → Lv) (who o : Int) : Bool := decide (0 < c.e) && decide (c.e ≤ (strD c n T who o : Int))
def wantD (w : Bool) : Int := if w then 5 else 3
def inD (w : Bool) : Int := if w then 2 else 1
def wholeB (w : Bool) (m : Int) : Bool := if w then writesB m else readsB m
/-- The next lock, out of what is held at the region, the object and the stripe. -/
def nextK (hr ho hs : Int) (esc write : Bool) (r o s : Int) : (Int × Int) × Bool :=
  if coversB hr (inD write) = false then ((r, inD write), true)
  else if wholeB write ho = true then ((0, 0), false)
  else if coversB hs (wantD write) = false ∧ esc = true then ((o, wantD write), true)
  else if coversB ho (inD write) = false then ((o, inD write), true)
  else if coversB hs (wantD write) = false then ((s, wantD write), true)
  else ((0, 0), false)
/-- .. of the word a. -/
def nextD (c : Cf) (n : Nat) (T : Nat → Lv) (who a : Int) (write : Bool) : (Int × Int) × Bool :=
  nextK (holdT n T who (rD c a)) (holdT n T who (c.r + oD c a)) (holdT n T who (c.r + no c + sD c a)) (escB c n T who (c.r + oD c a)) write (rD c a) (c.r + oD c a) (c.r + no c + sD c a)
end Go.Proofs.Ytdhpahopfmcdkaa

/- A region that draws its order, whose callees make memory but turn nothing that lies: ONE walk in the order of the text, over the class of the worlds in which the struct lies where it lay and all that was is as it was. -/
namespace Go.Proofs.Ytdhpahopfmcdkaa
open Go.RowKit

/-- The worlds behind w0 in which c lies in block b. -/
structure Wd (c : Cf) (b : Nat) (w0 : World) where
  w : World
  bx : Bx c b w
  bel : Below w0.heap.size w0 w

theorem Wd.cells {c : Cf} {b : Nat} {w0 : World} :
    (∀ x : Wd c b w0, x.w.cell? ⟨b, 0, none⟩ = some (.int .i64 c.r)) ∧ (∀ x : Wd c b w0, x.w.cell? ⟨b, 1, none⟩ = some (.int .i64 c.o)) ∧ (∀ x : Wd c b w0, x.w.cell? ⟨b, 2, none⟩ = some (.int .i64 c.s)) ∧
    (∀ x : Wd c b w0, x.w.cell? ⟨b, 3, none⟩ = some (.int .i64 c.d)) ∧ (∀ x : Wd c b w0, x.w.cell? ⟨b, 4, none⟩ = some (.int .i64 c.t)) ∧ (∀ x : Wd c b w0, x.w.cell? ⟨b, 5, none⟩ = some (.int .i64 c.l)) ∧
    (∀ x : Wd c b w0, x.w.cell? ⟨b, 6, none⟩ = some (.int .i64 c.g)) ∧ (∀ x : Wd c b w0, x.w.cell? ⟨b, 7, none⟩ = some (.int .i64 c.k)) ∧ (∀ x : Wd c b w0, x.w.cell? ⟨b, 8, none⟩ = some (.int .i64 c.u)) ∧
    (∀ x : Wd c b w0, x.w.cell? ⟨b, 9, none⟩ = some (.int .i64 c.e)) ∧ (∀ x : Wd c b w0, x.w.cell? ⟨b, 10, none⟩ = some (.int .i64 c.i)) ∧ (∀ x : Wd c b w0, x.w.cell? ⟨b, 11, none⟩ = some (.int .i64 c.p)) := by
  refine ⟨?_, ?_, ?_, ?_, ?_, ?_, ?_, ?_, ?_, ?_, ?_, ?_⟩
  all_goals
    intro x
    obtain ⟨a0, a1, a2, a3, a4, a5, a6, a7, a8, a9, a10, a11⟩ := x.bx.cells
    assumption

theorem Wd.call {c : Cf} {b : Nat} {w0 : World} {x : Wd c b w0} {f : FuncId} {args : Array Value} {v : Value}
    (h : Calls Try.prog f args x.w fun e w' => e = .returned v ∧ Below x.w.heap.size x.w w') : Calls Try.prog f args x.w fun e w'' => e = .returned v ∧ ∃ y : Wd c b w0, w'' = y.w :=
  h.mono fun _ w' ⟨he, hb⟩ => ⟨he, ⟨w', x.bx.next hb, below_then x.bel hb⟩, rfl⟩

theorem wp_region_wd {c : Cf} {b : Nat} {w0 : World} {id : Nat} {Q : Exit → Act → World → Prop} {a : Act} {w : World} {l : List Oper} (hx : Bx c b w) (hl : Below w0.heap.size w0 w) (hm : Try.prog.follows .mixedOrders = true) (hB : Region.lexB .any l.toArray = true)
    (h : wpQuiet Try.prog l.toArray (fun w' => ∃ x : Wd c b w0, w' = x.w) (fun a' => ∀ w', (∃ x : Wd c b w0, w' = x.w) → Q .normal a' w') l a) : (Code.region id l.toArray true).wp Try.prog Q a w :=
  wp_region_quiet (C := fun w' => ∃ x : Wd c b w0, w' = x.w) hm hB ⟨⟨w.drew, hx.drew, hl.drew⟩, rfl⟩ (by simpa using h)
end Go.Proofs.Ytdhpahopfmcdkaa

/- Package path: what its leaves answer. -/
namespace Go.Proofs.Ytdhpahopfmcdkaa
open Go.RowKit
variable {B n : Nat} {most : Int} {T : Nat → Lv} {b : Nat}

theorem holds_n2 (w : World) (h : Tn B n most T b w) (hf : Few n 1000 T) (who node : Int) {r : Int} (hr : holdT n T who node = r) :
    Calls Try.prog 45 #[.pointer (some ⟨b, 0, none⟩), .int .i64 who, .int .i64 node] w fun e w' => e = .returned (.int .i64 r) ∧ Below w.heap.size w w' := by
  unfold holdT at hr
  cases hk : (decide (0 ≤ node) && decide (node < n))
  · rw [hk, if_neg (by decide)] at hr
    subst hr
    obtain ⟨rb, lb, hv, qv, t⟩ := h
    have K := known_t w t node
    rw [hk] at K
    replace K := hide K
    clear hk t
    go_enter Try.func45, Try.ntmps45
    go_wp2_with fail
    refine (unhide K).mono ?_
    rintro e w1 ⟨rfl, rfl⟩
    go_wp2
    go_ret
    exact ⟨rfl, Below.refl _ _⟩
  · rw [hk, if_pos rfl] at hr
    have : 0 ≤ node ∧ node < n := by simpa using hk
    exact holds_n w h hf who node this.1 this.2 hr
theorem wanted_any (write : Bool) (w : World) : Calls Try.prog 87 #[.bool write] w fun e w' => e = .returned (.int .i64 (wantD write)) ∧ w' = w := by
  cases write
  all_goals
    go_enter Try.func87, Try.ntmps87
    go_wp2
    go_ret
    exact ⟨rfl, rfl⟩
theorem intent_want (write : Bool) (w : World) : Calls Try.prog 46 #[.int .i64 (wantD write)] w fun e w' => e = .returned (.int .i64 (inD write)) ∧ w' = w := by
  have e : intentD (wantD write) = inD write := by cases write <;> decide
  rw [← e]
  exact intent_any _ w
theorem tn_c0 {w : World} (h : Tn B n most T b w) : ∃ rb, w.cell? ⟨b, 0, none⟩ = some (.slice (some ⟨rb, 0, none⟩) n n) := by
  obtain ⟨rb, lb, hv, qv, t⟩ := h
  exact ⟨rb, t.c0⟩
theorem covers_p (w : World) (h : Tn B n most T b w) (hf : Few n 1000 T) (who node want : Int) {r : Bool} (hr : coversB (holdT n T who node) want = r) :
    Calls Try.prog 88 #[.pointer (some ⟨b, 0, none⟩), .int .i64 who, .int .i64 node, .int .i64 want] w fun e w' => e = .returned (.bool r) ∧ Below w.heap.size w w' := by
  subst hr
  have H := hide h
  clear h
  go_enter Try.func88, Try.ntmps88
  go_wp2_with fail
  refine (holds_n2 w (unhide H) hf who node rfl).mono ?_
  rintro e w1 ⟨rfl, b1⟩
  replace b1 := hide b1
  go_wp2_with fail
  refine (covers_any _ want w1).mono ?_
  rintro e w2 ⟨rfl, b2⟩
  replace b2 := hide (below_then (unhide b1) b2)
  go_wp2
  go_ret
  exact ⟨rfl, unhide b2⟩
theorem whole_p (w : World) (h : Tn B n most T b w) (hf : Few n 1000 T) (who node : Int) (write : Bool) {r : Bool} (hr : wholeB write (holdT n T who node) = r) :
    Calls Try.prog 89 #[.pointer (some ⟨b, 0, none⟩), .int .i64 who, .int .i64 node, .bool write] w fun e w' => e = .returned (.bool r) ∧ Below w.heap.size w w' := by
  subst hr
  have H := hide h
  clear h
  cases write
  · show Calls _ _ _ _ fun e w' => e = .returned (.bool (readsB (holdT n T who node))) ∧ _
    go_enter Try.func89, Try.ntmps89
    go_wp2_with fail
    refine (holds_n2 w (unhide H) hf who node rfl).mono ?_
    rintro e w1 ⟨rfl, b1⟩
    replace b1 := hide b1
    go_wp2_with fail
    refine (reads_any _ w1).mono ?_
    rintro e w2 ⟨rfl, b2⟩
    replace b2 := hide (below_then (unhide b1) b2)
    go_wp2
    go_ret
    exact ⟨rfl, unhide b2⟩
  · show Calls _ _ _ _ fun e w' => e = .returned (.bool (writesB (holdT n T who node))) ∧ _
    go_enter Try.func89, Try.ntmps89
    go_wp2_with fail
    refine (holds_n2 w (unhide H) hf who node rfl).mono ?_
    rintro e w1 ⟨rfl, b1⟩
    replace b1 := hide b1
    go_wp2_with fail
    refine (writes_any _ w1).mono ?_
    rintro e w2 ⟨rfl, b2⟩
    replace b2 := hide (below_then (unhide b1) b2)
    go_wp2
    go_ret
    exact ⟨rfl, unhide b2⟩
theorem fst_in {c : Cf} (hp : Hp c) {o : Int} (h0 : c.r ≤ o) (h1 : o < c.r + no c) : 0 ≤ (o - c.r) * c.s ∧ (o - c.r) * c.s + c.s ≤ ns c := by
  have g := hp.s1
  constructor
  · exact Int.mul_nonneg (by omega) (by omega)
  · have : (o - c.r + 1) * c.s ≤ no c * c.s := Int.mul_le_mul_of_nonneg_right (by omega) (by omega)
    have e : (o - c.r + 1) * c.s = (o - c.r) * c.s + c.s := by rw [Int.add_mul, Int.one_mul]
    unfold ns
    omega
theorem pfst_any (c : Cf) (o : Int) (w : World) (hp : Hp c) (h0 : c.r ≤ o) (h1 : o < c.r + no c) : Calls Try.prog 93 #[cv c, .int .i64 o] w fun e w' => e = .returned (.int .i64 (fstS c o)) ∧ Below w.heap.size w w' := by
  obtain ⟨q0, q1⟩ := fst_in hp h0 h1
  obtain ⟨n1, n2⟩ := no_in hp
  obtain ⟨s1, s2⟩ := ns_in hp
  have r1 := hp.r1
  have r8 := hp.r8
  have z1 := hp.s1
  have e1 : wrap64 (c.r * c.o) = no c := wrap_in (by unfold no at n1; omega) (by unfold no at n2; omega)
  have e2 : wrap64 (c.r + no c) = c.r + no c := wrap_in (by omega) (by omega)
  have e3 : wrap64 (o - c.r) = o - c.r := wrap_in (by omega) (by omega)
  have e4 : wrap64 ((o - c.r) * c.s) = (o - c.r) * c.s := wrap_in (by omega) (by omega)
  have e5 : wrap64 (c.r + no c + (o - c.r) * c.s) = c.r + no c + (o - c.r) * c.s := wrap_in (by omega) (by omega)
  have E : Hid (wrap64 (wrap64 (c.r + wrap64 (c.r * c.o)) + wrap64 (wrap64 (o - c.r) * c.s)) = fstS c o) := by
    show _ = _
    rw [e1, e2, e3, e4, e5]; rfl
  clear q0 q1 n1 n2 s1 s2 r1 r8 z1 e1 e2 e3 e4 e5 h0 h1
  unfold cv
  go_enter Try.func93, Try.ntmps93
  go_wp2
  go_ret
  exact ⟨ret_int (unhide E), below_new _ _⟩
set_option maxRecDepth 100000 in
set_option maxHeartbeats 2000000 in
theorem stripes_p (c : Cf) (w : World) (h : Tn B n most T b w) (hf : Few n 1000 T) (who o : Int) {r : Nat} (hr : strD c n T who o = r) :
    Calls Try.prog 50 #[cv c, .pointer (some ⟨b, 0, none⟩), .int .i64 who, .int .i64 o] w fun e w' => e = .returned (.int .i64 (r : Nat)) ∧ Below w.heap.size w w' := by
  subst hr
  have H := hide h
  clear h
  by_cases hl : levelD c o = 1
  · have eD : strD c n T who o = strK n T who (fstS c o) c.s.toNat := by unfold strD; rw [if_pos hl]
    rw [eD]
    have hw : c.r ≤ o ∧ o < c.r + no c ∧ okB c = true := by
      rcases level_ways c o with ⟨e, _⟩ | ⟨_, _, hk, ⟨e, _⟩ | ⟨_, h1, h2⟩ | ⟨e, _⟩⟩
      · omega
      · omega
      · exact ⟨h1, h2, hk⟩
      · omega
    obtain ⟨o1, o2, hok⟩ := hw
    have hp := okB_hp hok
    have HP := hide hp
    obtain ⟨q0, q1⟩ := fst_in hp o1 o2
    obtain ⟨n1, n2⟩ := no_in hp
    obtain ⟨s1, s2⟩ := ns_in hp
    have r1 := hp.r1
    have r8 := hp.r8
    have z1 := hp.s1
    have f1 : 0 ≤ fstS c o := by unfold fstS; omega
    have f2 : fstS c o ≤ 10000 := by unfold fstS; omega
    have hk8 : c.s ≤ 8 := hp.s8
    obtain ⟨k, hk⟩ : ∃ k : Nat, c.s = (k : Int) := ⟨c.s.toNat, by omega⟩
    have hkn : c.s.toNat = k := by omega
    rw [hkn]
    have F := hide (fun (w0 : World) => pfst_any c o w0 hp o1 o2)
    obtain ⟨f, hfe⟩ : ∃ f, f = fstS c o := ⟨_, rfl⟩
    rw [← hfe] at F f1 f2 ⊢
    have hk9 : k ≤ 8 := by omega
    have hx0 := bx_new c w
    obtain ⟨w0, hw0⟩ : ∃ w0, w0 = w.alloc (.cells #[.int .i64 c.r, .int .i64 c.o, .int .i64 c.s, .int .i64 c.d, .int .i64 c.t, .int .i64 c.l, .int .i64 c.g, .int .i64 c.k, .int .i64 c.u, .int .i64 c.e, .int .i64 c.i, .int .i64 c.p] 73) := ⟨_, rfl⟩
    have b0 : Below w.heap.size w w0 := by rw [hw0]; exact below_new w _
    rw [← hw0] at hx0
    replace b0 := hide b0
    have L := level_any c o w0
    rw [hl] at L
    replace L := hide L
    clear q0 q1 n1 n2 s1 s2 r1 r8 z1 hp o1 o2 hok hl hfe eD hkn
    obtain ⟨a0, a1, a2, a3, a4, a5, a6, a7, a8, a9, a10, a11⟩ := hx0.cells
    replace hk := hide hk
    unfold cv
    go_enter Try.func50, Try.ntmps50
    go_wp2_with fail
    rw [← hw0]
    replace hw0 := hide hw0
    refine (unhide L).mono ?_
    rintro e w1 ⟨rfl, b1⟩
    have hx1 := hx0.next b1
    have B1 := hide (below_then (unhide b0) b1)
    clear a0 a1 a2 a3 a4 a5 a6 a7 a8 a9 a10 a11 b1
    obtain ⟨a0, a1, a2, a3, a4, a5, a6, a7, a8, a9, a10, a11⟩ := hx1.cells
    go_wp2_with fail
    refine (unhide F w1).mono ?_
    rintro e w2 ⟨rfl, b2⟩
    have hx2 := hx1.next b2
    have B2 := hide (below_then (unhide B1) b2)
    clear a0 a1 a2 a3 a4 a5 a6 a7 a8 a9 a10 a11 b2
    obtain ⟨a0, a1, a2, a3, a4, a5, a6, a7, a8, a9, a10, a11⟩ := hx2.cells
    rw [unhide hk] at a2
    clear hx0 hx1 hx2
    go_wp2_with fail
    clear a0 a1 a2 a3 a4 a5 a6 a7 a8 a9 a10 a11
    go_loopw [9, 21] (fun s9 s21 wr => ∃ t : Nat, t ≤ k ∧ s9 = .int .i64 (strK n T who f t : Nat) ∧ s21 = .int .i64 t ∧ Hid (Below w.heap.size w wr)) (fun _ s21 _ => k - (intOf s21).toNat)
    case atStart => exact ⟨0, Nat.zero_le _, rfl, rfl, unhide B2⟩
    case round =>
      obtain ⟨t, ht, rfl, rfl, b3⟩ := hrel
      by_cases hlt : t < k
      · have hle := strK_le n T who f t
        have hst : Hid (strK n T who f (t + 1) = strK n T who f t + (if holdT n T who (f + t) = 0 then 0 else 1)) := rfl
        generalize strK n T who f t = m at hle hst ⊢
        obtain ⟨v, hv⟩ : ∃ v, v = holdT n T who (f + t) := ⟨_, rfl⟩
        rw [← hv] at hst
        replace hv := hide hv
        have q1 : wrap64 (f + t) = f + t := by unfold wrap64; omega
        have q2 : IntKind.i64.wrap (f + t) = f + t := by rw [IntKind.wrap_i64]; omega
        go_wp2_with fail
        try rw [q1]
        try rw [q2]
        refine (holds_n2 _ ((unhide H).next (unhide b3)) hf who (f + t) (unhide hv).symm).mono ?_
        rintro e w4 ⟨rfl, b4⟩
        replace b4 := hide (below_then (unhide b3) b4)
        clear q1 q2
        by_cases hv0 : v = 0
        · have e0 : (v != 0) = false := by simp [hv0]
          have hst2 : Hid (strK n T who f (t + 1) = m) := by show _ = _; rw [unhide hst, if_pos hv0]; rfl
          clear hv0
          go_wp2
          go_roundw
          case rel => exact ⟨t + 1, by omega, by rw [unhide hst2], by go_num, unhide b4⟩
          case measure => simp [intOf]; omega
        · have e0 : (v != 0) = true := by simp [hv0]
          have hst2 : Hid (strK n T who f (t + 1) = m + 1) := by show _ = _; rw [unhide hst, if_neg hv0]
          clear hv0
          go_wp2
          go_roundw
          case rel => exact ⟨t + 1, by omega, by rw [unhide hst2]; go_num, by go_num, unhide b4⟩
          case measure => simp [intOf]; omega
      · obtain rfl : t = k := by omega
        go_wp2
        go_ret
        exact ⟨rfl, unhide b3⟩
  · have e0 : strD c n T who o = 0 := by unfold strD; rw [if_neg hl]
    rw [e0]
    have L := hide (fun w0 : World => level_any c o w0)
    generalize levelD c o = l at L hl
    have hl2 : (l != 1) = true := by simpa using hl
    clear hl e0
    unfold cv
    go_enter Try.func50, Try.ntmps50
    go_wp2_with fail
    refine (unhide L _).mono ?_
    rintro e w1 ⟨rfl, b1⟩
    replace b1 := hide (below_call b1)
    go_wp2
    go_ret
    exact ⟨rfl, unhide b1⟩
set_option maxRecDepth 100000 in
theorem esc_p (c : Cf) (w : World) (h : Tn B n most T b w) (hf : Few n 1000 T) (who o : Int) {r : Bool} (hr : escB c n T who o = r) :
    Calls Try.prog 90 #[cv c, .pointer (some ⟨b, 0, none⟩), .int .i64 who, .int .i64 o] w fun e w' => e = .returned (.bool r) ∧ Below w.heap.size w w' := by
  subst hr
  unfold escB
  have H := hide h
  clear h
  obtain ⟨m, hm⟩ : ∃ m, m = strD c n T who o := ⟨_, rfl⟩
  rw [← hm]
  have hx := bx_new c w
  obtain ⟨w0, hw0⟩ : ∃ w0, w0 = w.alloc (.cells #[.int .i64 c.r, .int .i64 c.o, .int .i64 c.s, .int .i64 c.d, .int .i64 c.t, .int .i64 c.l, .int .i64 c.g, .int .i64 c.k, .int .i64 c.u, .int .i64 c.e, .int .i64 c.i, .int .i64 c.p] 73) := ⟨_, rfl⟩
  have b0 : Below w.heap.size w w0 := by rw [hw0]; exact below_new w _
  replace b0 := hide b0
  by_cases he : 0 < c.e
  · have hd : decide (0 < c.e) = true := decide_eq_true he
    rw [hd]
    have S := stripes_p c w0.drew ((unhide H).next (unhide b0)).drew hf who o hm.symm
    unfold cv at S
    rw [hw0] at S
    replace S := hide S
    replace hm := hide hm
    cases hq : decide (c.e ≤ (m : Int))
    all_goals
      have hge : decide ((m : Int) ≥ c.e) = _ := hq
      unfold cv
      go_enter Try.func90, Try.ntmps90
      go_wp2_with fail
      go_region_held3 (fun wz => wz.cell? ⟨w.heap.size, 0, none⟩ = some (.int .i64 c.r) ∧ wz.cell? ⟨w.heap.size, 1, none⟩ = some (.int .i64 c.o) ∧ wz.cell? ⟨w.heap.size, 2, none⟩ = some (.int .i64 c.s) ∧ wz.cell? ⟨w.heap.size, 3, none⟩ = some (.int .i64 c.d) ∧ wz.cell? ⟨w.heap.size, 4, none⟩ = some (.int .i64 c.t) ∧ wz.cell? ⟨w.heap.size, 5, none⟩ = some (.int .i64 c.l) ∧ wz.cell? ⟨w.heap.size, 6, none⟩ = some (.int .i64 c.g) ∧ wz.cell? ⟨w.heap.size, 7, none⟩ = some (.int .i64 c.k) ∧ wz.cell? ⟨w.heap.size, 8, none⟩ = some (.int .i64 c.u) ∧ wz.cell? ⟨w.heap.size, 9, none⟩ = some (.int .i64 c.e) ∧ wz.cell? ⟨w.heap.size, 10, none⟩ = some (.int .i64 c.i) ∧ wz.cell? ⟨w.heap.size, 11, none⟩ = some (.int .i64 c.p)) (first | exact hx.drew.cells | exact hx1.cells)
        (first
          | (go_at_call 50; (with_reducible refine Calls.mono (unhide S) ?_); rintro e w1 ⟨rfl, hb⟩; have hx1 := hx.drew.next hb; have hbb := hide (below_drew hb)))
      go_wp2
      go_ret
      exact ⟨rfl, unhide hbb⟩
  · have hd : decide (0 < c.e) = false := decide_eq_false he
    rw [hd]
    have hg : decide (c.e > 0) = false := hd
    have hne : Nonempty (Wd c w.heap.size w) := ⟨⟨_, hx, below_new w _⟩⟩
    have q9 : ∀ x : Wd c w.heap.size w, x.w.cell? ⟨w.heap.size, 9, none⟩ = some (.int .i64 c.e) := Wd.cells.2.2.2.2.2.2.2.2.2.1
    clear hw0 hm b0
    unfold cv
    go_enter Try.func90, Try.ntmps90
    go_wp2_with fail
    refine wp_region_wd hx (below_new w _) (by kernel_rfl) (by kernel_rfl) ?_
    try simp only [List.append]
    repeat (go_big_quiet_step (fail))
    refine wpQuiet_nil ?_
    intro w6 hw'
    have b6 : Hid (Below w.heap.size w w6) := by
      obtain ⟨x, hx⟩ := hw'
      rw [hx]
      exact x.bel
    clear hw' q9 hne hx
    go_wp2
    go_ret
    exact ⟨rfl, unhide b6⟩
end Go.Proofs.Ytdhpahopfmcdkaa

/- PathSafe, plainly: who is able, what a request brings, how many there are. -/
namespace Go.Proofs.Ytdhpahopfmcdkaa
open Go.RowKit

/-- Nothing more is needed. -/
theorem next_none {hr ho hs : Int} {esc write : Bool} {r o s : Int} (h : (nextK hr ho hs esc write r o s).2 = false) : coversB hr (inD write) = true ∧ (wholeB write ho = true ∨ (coversB ho (inD write) = true ∧ coversB hs (wantD write) = true)) := by
  unfold nextK at h
  cases h1 : coversB hr (inD write)
  · simp [h1] at h
  · cases h2 : wholeB write ho
    · cases h3 : coversB hs (wantD write) <;> cases h4 : esc <;> cases h5 : coversB ho (inD write) <;> simp [h1, h2, h3, h4, h5] at h ⊢
    · exact ⟨rfl, .inl rfl⟩
/-- How many requests are left at most. -/
def rankK (hr ho hs : Int) (esc write : Bool) : Nat :=
  if coversB hr (inD write) = false then 3 else if wholeB write ho = true then 0
  else if coversB hs (wantD write) = true then (if coversB ho (inD write) = true then 0 else 1)
  else if esc = true then 1 else if coversB ho (inD write) = true then 1 else 2
theorem rank_le (hr ho hs : Int) (esc write : Bool) : rankK hr ho hs esc write ≤ 3 := by
  unfold rankK
  repeat' split
  all_goals omega
theorem rank_pos {hr ho hs : Int} {esc write : Bool} {r o s : Int} (h : (nextK hr ho hs esc write r o s).2 = true) : 1 ≤ rankK hr ho hs esc write := by
  unfold nextK at h
  unfold rankK
  cases h1 : coversB hr (inD write) <;> cases h2 : wholeB write ho <;> cases h3 : coversB hs (wantD write) <;> cases h4 : esc <;> cases h5 : coversB ho (inD write) <;> simp [h1, h2, h3, h4, h5] at h ⊢
theorem cov_kn {a b : Int} (h : coversB a b = true) : ∃ i j : Fin 6, a = (i.val : Int) ∧ b = (j.val : Int) := by
  have h1 := covers_known h
  have h2 : knownB b = true := by unfold coversB at h; simp at h; exact h.1
  obtain ⟨i, hi⟩ := six h1
  obtain ⟨j, hj⟩ := six h2
  exact ⟨i, j, hi, hj⟩
theorem whole_of {write : Bool} {h : Int} (hc : coversB h (wantD write) = true) : wholeB write h = true := by
  obtain ⟨i, j, rfl, hj⟩ := cov_kn hc
  have key : ∀ i : Fin 6, ∀ w : Bool, coversB (i.val : Int) (wantD w) = true → wholeB w (i.val : Int) = true := by decide +kernel
  exact key i write hc
/-- A request that is granted: what is held there covers what was asked for; elsewhere all is as it was. -/
theorem rank_down {hr ho hs hr' ho' hs' : Int} {esc esc' write : Bool} {r o s node m : Int} (hro : r ≠ o) (hrs : r ≠ s) (hos : o ≠ s) (h : nextK hr ho hs esc write r o s = ((node, m), true))
    (hr1 : node = r → coversB hr' m = true) (hr2 : node ≠ r → hr' = hr) (ho1 : node = o → coversB ho' m = true) (ho2 : node ≠ o → ho' = ho) (hs1 : node = s → coversB hs' m = true) (hs2 : node ≠ s → hs' = hs) (he : node ≠ s → esc' = esc) :
    rankK hr' ho' hs' esc' write + 1 ≤ rankK hr ho hs esc write := by
  unfold nextK at h
  cases h1 : coversB hr (inD write)
  · rw [if_pos h1] at h
    have e1 : node = r := by injection h with h _; injection h with h _; exact h.symm
    have e2 : m = inD write := by injection h with h _; injection h with _ h; exact h.symm
    have c1 := hr1 e1
    rw [e2] at c1
    have hx : rankK hr ho hs esc write = 3 := by unfold rankK; rw [if_pos h1]
    rw [hx]
    unfold rankK
    rw [if_neg (by rw [c1]; decide)]
    repeat' split
    all_goals omega
  · rw [if_neg (by rw [h1]; decide)] at h
    cases h2 : wholeB write ho
    · rw [if_neg (by rw [h2]; decide)] at h
      cases h3 : coversB hs (wantD write)
      · cases h4 : esc
        · rw [h3, h4, if_neg (by decide)] at h
          cases h5 : coversB ho (inD write)
          · rw [if_pos h5] at h
            have e1 : node = o := by injection h with h _; injection h with h _; exact h.symm
            have e2 : m = inD write := by injection h with h _; injection h with _ h; exact h.symm
            have c1 := ho1 e1
            rw [e2] at c1
            have q1 := hr2 (by rw [e1]; exact fun e => hro e.symm)
            have q2 := hs2 (by rw [e1]; exact hos)
            have q3 := he (by rw [e1]; exact hos)
            unfold rankK
            rw [q1, q2, q3]
            cases hz : wholeB write ho' <;> simp [h1, h2, h3, h4, h5, c1]
          · rw [h5, if_neg (by decide), if_pos rfl] at h
            have e1 : node = s := by injection h with h _; injection h with h _; exact h.symm
            have e2 : m = wantD write := by injection h with h _; injection h with _ h; exact h.symm
            have c1 := hs1 e1
            rw [e2] at c1
            have q1 := hr2 (by rw [e1]; exact fun e => hrs e.symm)
            have q2 := ho2 (by rw [e1]; exact fun e => hos e.symm)
            unfold rankK
            rw [q1, q2]
            simp [h1, h2, h3, h5, c1]
        · rw [h3, h4, if_pos ⟨rfl, rfl⟩] at h
          have e1 : node = o := by injection h with h _; injection h with h _; exact h.symm
          have e2 : m = wantD write := by injection h with h _; injection h with _ h; exact h.symm
          have c1 := ho1 e1
          rw [e2] at c1
          have q1 := hr2 (by rw [e1]; exact fun e => hro e.symm)
          unfold rankK
          rw [q1]
          simp [h1, h2, h3, whole_of c1]
      · rw [if_neg (by rw [h3]; exact fun e => absurd e.1 (by decide))] at h
        cases h5 : coversB ho (inD write)
        · rw [if_pos h5] at h
          have e1 : node = o := by injection h with h _; injection h with h _; exact h.symm
          have e2 : m = inD write := by injection h with h _; injection h with _ h; exact h.symm
          have c1 := ho1 e1
          rw [e2] at c1
          have q1 := hr2 (by rw [e1]; exact fun e => hro e.symm)
          have q2 := hs2 (by rw [e1]; exact hos)
          unfold rankK
          rw [q1, q2]
          cases hz : wholeB write ho' <;> simp [h1, h2, h3, h5, c1]
        · rw [h5, if_neg (by decide), if_neg (by rw [h3]; decide)] at h
          injection h with _ h
          cases h
    · rw [h2, if_pos rfl] at h
      injection h with _ h
      cases h
/-- What is asked for: where, and what holds above it. -/
theorem next_what {hr ho hs : Int} {esc write : Bool} {r o s node m : Int} (h : nextK hr ho hs esc write r o s = ((node, m), true)) :
    md m ∧ ((node = r) ∨ (node = o ∧ coversB hr (intentD m) = true) ∨ (node = s ∧ coversB ho (intentD m) = true)) := by
  have i1 : intentD (inD write) = inD write := by cases write <;> decide
  have i2 : intentD (wantD write) = inD write := by cases write <;> decide
  have m1 : md (inD write) := by cases write <;> exact ⟨by decide, by decide⟩
  have m2 : md (wantD write) := by cases write <;> exact ⟨by decide, by decide⟩
  unfold nextK at h
  cases h1 : coversB hr (inD write)
  · rw [if_pos h1] at h
    injection h with h _
    injection h with h h2
    rw [← h, ← h2]
    exact ⟨m1, .inl rfl⟩
  · rw [h1, if_neg (by decide)] at h
    split at h
    · injection h with _ h; cases h
    · split at h
      · injection h with h _
        injection h with h h2
        rw [← h, ← h2, i2]
        exact ⟨m2, .inr (.inl ⟨rfl, h1⟩)⟩
      · split at h
        · injection h with h _
          injection h with h h2
          rw [← h, ← h2, i1]
          exact ⟨m1, .inr (.inl ⟨rfl, h1⟩)⟩
        · rename_i h5
          split at h
          · injection h with h _
            injection h with h h2
            rw [← h, ← h2, i2]
            refine ⟨m2, .inr (.inr ⟨rfl, ?_⟩)⟩
            cases e : coversB ho (inD write)
            · exact absurd e h5
            · rfl
          · injection h with _ h; cases h
/-- Nobody beside a writer. -/
theorem facts5 : ∀ i j k l : Fin 6, ∀ u v : Bool, (u || v) = true →
    (wholeB u (i.val : Int) || (coversB (i.val : Int) (inD u) && coversB (j.val : Int) (wantD u))) = true →
    (wholeB v (k.val : Int) || (coversB (k.val : Int) (inD v) && coversB (l.val : Int) (wantD v))) = true →
    (((i.val : Int) == 0) || ((k.val : Int) == 0) || fitsB (i.val : Int) (k.val : Int)) = true →
    (((j.val : Int) == 0) || ((l.val : Int) == 0) || fitsB (j.val : Int) (l.val : Int)) = true → False := by
  decide +kernel
theorem apart5 {ho hs ko ks : Int} {u v : Bool} (huv : u = true ∨ v = true) (m1 : mz ho) (m2 : mz hs) (m3 : mz ko) (m4 : mz ks)
    (h : wholeB u ho = true ∨ (coversB ho (inD u) = true ∧ coversB hs (wantD u) = true)) (k : wholeB v ko = true ∨ (coversB ko (inD v) = true ∧ coversB ks (wantD v) = true))
    (fo : ho = 0 ∨ ko = 0 ∨ fitsB ho ko = true) (fs : hs = 0 ∨ ks = 0 ∨ fitsB hs ks = true) : False := by
  obtain ⟨a, rfl⟩ := mz_fin m1
  obtain ⟨b, rfl⟩ := mz_fin m2
  obtain ⟨c, rfl⟩ := mz_fin m3
  obtain ⟨d, rfl⟩ := mz_fin m4
  refine facts5 a b c d u v ?_ ?_ ?_ ?_ ?_
  · rcases huv with h | h <;> simp [h]
  · rcases h with h | h <;> simp [h]
  · rcases k with h | h <;> simp [h]
  · rcases fo with h | h | h <;> simp [h]
  · rcases fs with h | h | h <;> simp [h]
variable {n k : Nat} {most : Int} {T : Nat → Lv}
theorem look_mz {H : List En} (hm : ∀ x ∈ H, md x.2) (who : Int) : mz (lookD who H) := by
  cases e : hasD who H
  · rw [look_no e]; exact ⟨by decide, by decide⟩
  · have := hm _ (look_mem e)
    exact ⟨by have := this.1; simp only at this; omega, this.2⟩
theorem holdT_mz (h : Gd n k T) (who node : Int) : mz (holdT n T who node) := by
  unfold holdT
  split
  · rename_i e
    have : 0 ≤ node ∧ node < n := by simpa using e
    exact look_mz (h.fine node.toNat (by omega)).ok.hm who
  · exact ⟨by decide, by decide⟩
theorem hold_fit (h : Gd n k T) {a b : Int} (hab : a ≠ b) (node : Int) : holdT n T a node = 0 ∨ holdT n T b node = 0 ∨ fitsB (holdT n T a node) (holdT n T b node) = true := by
  unfold holdT
  split
  · rename_i e
    have : 0 ≤ node ∧ node < n := by simpa using e
    have f := h.fine node.toNat (by omega)
    cases ea : hasD a (T node.toNat).1
    · exact .inl (look_no ea)
    · cases eb : hasD b (T node.toNat).1
      · exact .inr (.inl (look_no eb))
      · exact .inr (.inr (f.fit _ (look_mem ea) _ (look_mem eb) hab))
  · exact .inl rfl
/-- Does who need nothing more to read (write) the word a? -/
def ableB (c : Cf) (n : Nat) (T : Nat → Lv) (who a : Int) (write : Bool) : Bool := isB c a && !(nextD c n T who a write).2
theorem able_apart {c : Cf} (h : Gd n k T) {who z a : Int} {u v : Bool} (huv : u = true ∨ v = true) (hne : z ≠ who) (h1 : (nextD c n T who a u).2 = false) : ableB c n T z a v = false := by
  cases e : ableB c n T z a v
  · rfl
  · exfalso
    unfold ableB at e
    have e2 : (nextD c n T z a v).2 = false := by simp at e; exact e.2
    obtain ⟨_, p1⟩ := next_none h1
    obtain ⟨_, p2⟩ := next_none e2
    exact apart5 huv (holdT_mz h _ _) (holdT_mz h _ _) (holdT_mz h _ _) (holdT_mz h _ _) p1 p2 (hold_fit h (fun e => hne e.symm) _) (hold_fit h (fun e => hne e.symm) _)
theorem ask_one {who m : Int} {H Q : List En} (h : (askD who m H Q).1 = 1) : (askD who m H Q).2.2 = Q := by
  unfold askD at h ⊢
  split at h
  · rename_i e
    rw [if_pos e]
    dsimp only at h ⊢
    split
    · rfl
    · rename_i e1
      rw [if_neg e1] at h
      split
      · rfl
      · rename_i e2
        rw [if_neg e2] at h
        exact absurd (show (2 : Int) = 1 from h) (by decide)
  · simp at h
theorem len_ask (who node m : Int) (hs : ∀ i, i < n → Srt (T i).1) (h : Gd n k T) : lenD (askT n most T who node m).2 n ≤ lenD T n + 1 := by
  by_cases h0 : errD n most T who node m = 0
  · obtain ⟨p1, p2, _⟩ := err_node h0
    rw [ask_yes h0]
    obtain ⟨i, hi⟩ : ∃ i, i = node.toNat := ⟨_, rfl⟩
    rw [← hi]
    have hin : i < n := by omega
    have h1 := len_upd T (i := i) (askD who m (T i).1 (T i).2).2 n hin
    have h2 := locks_ask who m (hs i hin) (h.fine i hin).ok
    have e2 : locksD ((T i).1, (T i).2) = locksD (T i) := rfl
    show lenD (upd T i (askD who m (T i).1 (T i).2).2) n ≤ _
    have : locksD (askD who m (T i).1 (T i).2).2 ≤ locksD (T i) + 1 := by
      split at h2 <;> omega
    omega
  · rw [ask_not h0]
    exact Nat.le_succ _
/-- The table, so far: j requests at most. -/
structure Sf (n j : Nat) (T : Nat → Lv) : Prop where
  gd : Gd n j T
  one : ∀ i i', i < n → i' < n → ∀ x ∈ (T i).2, ∀ y ∈ (T i').2, x.1 = y.1 → i = i'
  len : lenD T n ≤ j
theorem sf_none (n j : Nat) : Sf n j none0 := ⟨gd_none n j, fun i j _ _ x hx => (by cases hx), by rw [lenD_none]; exact Nat.zero_le _⟩
theorem Sf.up {j j' : Nat} (h : Sf n j T) (hj : j ≤ j') : Sf n j' T := ⟨h.gd.up hj, h.one, Nat.le_trans h.len hj⟩
theorem Sf.ask {j : Nat} (h : Sf n j T) (hs : ∀ i, i < n → Srt (T i).1) (hj : (j : Int) ≤ most) (who node m : Int) : Sf n (j + 1) (askT n most T who node m).2 := by
  have h1 := on_ask who node m hs (show On n most j T from ⟨h.gd, h.one, by have := h.len; omega⟩)
  have h2 := len_ask (most := most) who node m hs h.gd
  exact ⟨h1.1.gd, h1.1.one, by have := h.len; omega⟩
theorem Sf.drop {j : Nat} (h : Sf n j T) (hs : ∀ i, i < n → Srt (T i).1) (who : Int) : Sf n j (dropD who T (dn n 0)).2 := by
  have h1 := on_drop who hs (show On n (j : Int) j T from ⟨h.gd, h.one, by have := h.len; omega⟩)
  exact ⟨h1.1.gd, h1.1.one, by have := h1.1.room; omega⟩
/-- No error stands ahead. -/
theorem sf_err {j : Nat} (h : Sf n j T) (hj : (j : Int) < most) {who node m : Int} (hw : 0 ≤ who) (hno : noneW who n T) (h0 : 0 ≤ node) (h1 : node < n) (hm : md m) : errD n most T who node m = 0 := by
  unfold errD
  have e1 : (decide (0 ≤ node) && decide (node < n)) = true := by simp; omega
  have e2 : ¬ atW who T n < n := fun e => atW_at who T n e (hno _ e)
  rw [e1, if_neg (by decide), if_neg e2, if_neg, if_neg (by have := h.len; omega)]
  rintro (h | h | h)
  · omega
  · have := hm.1; omega
  · rw [known_no] at h
    exact h ⟨by have := hm.1; omega, hm.2⟩
/-- What is held behind a request that is granted. -/
theorem ask_holds {j : Nat} (h : Sf n j T) (hs : ∀ i, i < n → Srt (T i).1) {who node m : Int} (he : errD n most T who node m = 0) (hno : noneW who n T) {r : (Int × Int) × (Nat → Lv)} (hr : askT n most T who node m = r) (h1 : r.1.1 = 1) :
    noneW who n r.2 ∧ coversB (holdT n r.2 who node) m = true ∧ ∀ x, x ≠ node → holdT n r.2 who x = holdT n T who x := by
  obtain ⟨p1, p2, _⟩ := err_node he
  rw [ask_yes he] at hr
  subst hr
  obtain ⟨i, rfl⟩ : ∃ i : Nat, node = (i : Int) := ⟨node.toNat, by omega⟩
  have hin : i < n := by omega
  have e2 : (i : Int).toNat = i := rfl
  rw [e2] at h1 ⊢
  have h2 : (askD who m (T i).1 (T i).2).1 = 1 := h1
  have f := (ask_fine who m (hs i hin) (h.gd.fine i hin)).2.1 h2
  have q := ask_one h2
  refine ⟨fun a ha => ?_, ?_, fun x hx => ?_⟩
  · show lookD who (upd T i _ a).2 = 0
    by_cases e : a = i
    · subst e
      rw [upd_same, q]
      exact hno a ha
    · rw [upd_other _ _ e]
      exact hno a ha
  · rw [holdT_in hin]
    show coversB (lookD who (upd T i _ i).1) m = true
    rw [upd_same]
    exact f.1
  · show holdT n (upd T i _) who x = _
    unfold holdT
    split
    · rename_i e
      have : 0 ≤ x ∧ x < n := by simpa using e
      have hne : x.toNat ≠ i := by omega
      rw [upd_other _ _ hne]
    · rfl
/-- The rank of an access. -/
def rankD (c : Cf) (n : Nat) (T : Nat → Lv) (who a : Int) (write : Bool) : Nat :=
  rankK (holdT n T who (rD c a)) (holdT n T who (c.r + oD c a)) (holdT n T who (c.r + no c + sD c a)) (escB c n T who (c.r + oD c a)) write
theorem safe_step {j : Nat} {c : Cf} (hok : okB c = true) (h : Sf n j T) (hs : ∀ i, i < n → Srt (T i).1) (hn : (n : Int) = nodesD c) (hj : (j : Int) < most) {who a : Int} {write : Bool} (ha0 : 0 ≤ a) (ha1 : a < nw c) (hw : 0 ≤ who) (hno : noneW who n T)
    {node m : Int} (hx : nextD c n T who a write = ((node, m), true)) {r : (Int × Int) × (Nat → Lv)} (hr : askT n most T who node m = r) :
    r.1.2 = 0 ∧ Sf n (j + 1) r.2 ∧ 0 ≤ node ∧ node < n ∧ (levelD c node = 0 ∨ (0 < levelD c node ∧ coversB (holdT n T who (parentD c node)) (intentD m) = true)) ∧ (r.1.1 = 1 → noneW who n r.2 ∧ rankD c n r.2 who a write + 1 ≤ rankD c n T who a write) := by
  have hp := okB_hp hok
  obtain ⟨s0, s1⟩ := s_in hp ha0 ha1
  obtain ⟨o0, o1⟩ := o_in hp ha0 ha1
  obtain ⟨r0, r1⟩ := r_in hp ha0 ha1
  have b1 := hp.r1
  have b2 := (no_in hp).1
  have hnn := nodes_ok hok
  obtain ⟨m1, w1⟩ := next_what hx
  have lvl : 0 ≤ node ∧ node < n ∧ (levelD c node = 0 ∨ (0 < levelD c node ∧ coversB (holdT n T who (parentD c node)) (intentD m) = true)) := by
    rcases w1 with e | ⟨e, e2⟩ | ⟨e, e2⟩
    · rw [e]
      exact ⟨r0, by omega, .inl (level_r hok r0 r1)⟩
    · rw [e]
      refine ⟨by omega, by omega, .inr ⟨by rw [level_o hok o0 o1]; decide, ?_⟩⟩
      rw [parent_o hok o0 o1]
      exact e2
    · rw [e]
      refine ⟨by omega, by omega, .inr ⟨by rw [level_s hok s0 s1]; decide, ?_⟩⟩
      rw [parent_s hok s0 s1]
      exact e2
  have he := sf_err (most := most) h hj hw hno lvl.1 lvl.2.1 m1
  have hsf := h.ask (most := most) hs (by omega) who node m
  have hre : r.1.2 = 0 := by rw [← hr, ask_yes he]
  rw [hr] at hsf
  refine ⟨hre, hsf, lvl.1, lvl.2.1, lvl.2.2, fun hg => ?_⟩
  obtain ⟨k1, k2, k3⟩ := ask_holds h hs he hno hr hg
  refine ⟨k1, ?_⟩
  unfold rankD
  unfold nextD at hx
  refine rank_down (by omega) (by omega) (by omega) hx (fun e => by rw [← e]; exact k2) (fun e => k3 _ (fun e2 => e e2.symm)) (fun e => by rw [← e]; exact k2) (fun e => k3 _ (fun e2 => e e2.symm)) (fun e => by rw [← e]; exact k2) (fun e => k3 _ (fun e2 => e e2.symm)) (fun e => ?_)
  have hst : strD c n r.2 who (c.r + oD c a) = strD c n T who (c.r + oD c a) := by
    unfold strD
    rw [level_o hok o0 o1, if_pos rfl, if_pos rfl]
    refine strK_congr _ (fun q hq => k3 _ (fun e2 => ?_))
    rcases w1 with e3 | ⟨e3, _⟩ | ⟨e3, _⟩
    · have f1 : fstS c (c.r + oD c a) = c.r + no c + oD c a * c.s := by unfold fstS; rw [show c.r + oD c a - c.r = oD c a by omega]
      have f2 : 0 ≤ oD c a * c.s := Int.mul_nonneg o0 (by have := hp.s1; omega)
      omega
    · have f1 : fstS c (c.r + oD c a) = c.r + no c + oD c a * c.s := by unfold fstS; rw [show c.r + oD c a - c.r = oD c a by omega]
      have f2 : 0 ≤ oD c a * c.s := Int.mul_nonneg o0 (by have := hp.s1; omega)
      omega
    · exact e e3
  unfold escB
  rw [hst]
end Go.Proofs.Ytdhpahopfmcdkaa
