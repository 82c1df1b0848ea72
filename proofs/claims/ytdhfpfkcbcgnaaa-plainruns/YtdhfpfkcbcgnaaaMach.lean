/- A machine of package plain as it lies in memory. -/
import Derived.Test.YtdhfpfkcbcgnaaaApp
import Derived.Deep.AppendLies
import Derived.Deep.RegionLaw
import Derived.Deep.Heap
namespace Go.Proofs.Ytdhfpfkcbcgnaaa
open Go.RowKit

/-- A machine's state: its heap, its registers, its reads and its writes. -/
structure St where
  h : List Int
  r : List Int
  rd : List (Int × Int)
  wr : List (Int × Int)
/-- The cells of accesses. -/
def pairs : List (Int × Int) → List Value
  | [] => []
  | p :: r => .int .i64 p.1 :: .int .i64 p.2 :: pairs r
theorem pairs_app : ∀ (l m : List (Int × Int)), pairs (l ++ m) = pairs l ++ pairs m
  | [], m => rfl
  | p :: r, m => by
    show Value.int .i64 p.1 :: Value.int .i64 p.2 :: pairs (r ++ m) = _
    rw [pairs_app r m]; rfl
theorem pairs_len : ∀ (l : List (Int × Int)), (pairs l).length = l.length * 2
  | [] => rfl
  | p :: r => by
    show (pairs r).length + 1 + 1 = (r.length + 1) * 2
    rw [pairs_len r]; omega
/-- The machine's own cells in block b. -/
def Mb (c : Cf) (hv : Value) (e : Int) (rv dv wv : Value) (b : Nat) (w : World) : Prop :=
  w.heap[b]? = some (.cells #[.int .i64 c.r, .int .i64 c.o, .int .i64 c.s, .int .i64 c.d, .int .i64 c.t, .int .i64 c.l, .int .i64 c.g, .int .i64 c.k, .int .i64 c.u, .int .i64 c.e, .int .i64 c.i, .int .i64 c.p, hv, .int .i64 e, rv, dv, wv] 50 (0, 0))
namespace Mb
variable {c : Cf} {hv : Value} {e : Int} {rv dv wv : Value} {b : Nat} {w w' : World}
theorem lt (h : Mb c hv e rv dv wv b w) : b < w.heap.size := heap_lt h
theorem keep (h : Mb c hv e rv dv wv b w) (k : w'.heap[b]? = w.heap[b]?) : Mb c hv e rv dv wv b w' := k.trans h
theorem conf (h : Mb c hv e rv dv wv b w) : w.cell? ⟨b, 0, none⟩ = some (.int .i64 c.r) ∧ w.cell? ⟨b, 1, none⟩ = some (.int .i64 c.o) ∧ w.cell? ⟨b, 2, none⟩ = some (.int .i64 c.s) ∧ w.cell? ⟨b, 3, none⟩ = some (.int .i64 c.d) ∧ w.cell? ⟨b, 4, none⟩ = some (.int .i64 c.t) ∧ w.cell? ⟨b, 5, none⟩ = some (.int .i64 c.l) ∧ w.cell? ⟨b, 6, none⟩ = some (.int .i64 c.g) ∧ w.cell? ⟨b, 7, none⟩ = some (.int .i64 c.k) ∧ w.cell? ⟨b, 8, none⟩ = some (.int .i64 c.u) ∧ w.cell? ⟨b, 9, none⟩ = some (.int .i64 c.e) ∧ w.cell? ⟨b, 10, none⟩ = some (.int .i64 c.i) ∧ w.cell? ⟨b, 11, none⟩ = some (.int .i64 c.p) := by
  unfold Mb at h
  simp [World.cell?, h]
theorem c12 (h : Mb c hv e rv dv wv b w) : w.cell? ⟨b, 12, none⟩ = some hv := by unfold Mb at h; simp [World.cell?, h]
theorem c13 (h : Mb c hv e rv dv wv b w) : w.cell? ⟨b, 13, none⟩ = some (.int .i64 e) := by unfold Mb at h; simp [World.cell?, h]
theorem c14 (h : Mb c hv e rv dv wv b w) : w.cell? ⟨b, 14, none⟩ = some rv := by unfold Mb at h; simp [World.cell?, h]
theorem c15 (h : Mb c hv e rv dv wv b w) : w.cell? ⟨b, 15, none⟩ = some dv := by unfold Mb at h; simp [World.cell?, h]
theorem c16 (h : Mb c hv e rv dv wv b w) : w.cell? ⟨b, 16, none⟩ = some wv := by unfold Mb at h; simp [World.cell?, h]
theorem free (h : Mb c hv e rv dv wv b w) (k : Nat) : w.frozen? ⟨b, k, none⟩ = false := by unfold Mb at h; simp [World.frozen?, h]
theorem set13 (h : Mb c hv e rv dv wv b w) (v : Int) : Mb c hv v rv dv wv b (w.setCell ⟨b, 13, none⟩ (.int .i64 v)) := by
  unfold Mb at h ⊢
  show (w.heap.modify b _)[b]? = _
  rw [Array.getElem?_modify, if_pos rfl, h]; rfl
theorem set15 (h : Mb c hv e rv dv wv b w) (v : Value) : Mb c hv e rv v wv b (w.setCell ⟨b, 15, none⟩ v) := by
  unfold Mb at h ⊢
  show (w.heap.modify b _)[b]? = _
  rw [Array.getElem?_modify, if_pos rfl, h]; rfl
theorem set16 (h : Mb c hv e rv dv wv b w) (v : Value) : Mb c hv e rv dv v b (w.setCell ⟨b, 16, none⟩ v) := by
  unfold Mb at h ⊢
  show (w.heap.modify b _)[b]? = _
  rw [Array.getElem?_modify, if_pos rfl, h]; rfl
end Mb
theorem set_other (w : World) (b j k : Nat) (v : Value) (h : k ≠ b) : (w.setCell ⟨b, j, none⟩ v).heap[k]? = w.heap[k]? := Deep.blk_setCell_other _ _ _ _ h

/-- Block g holds the numbers l in its first cells. -/
def Rb (g : Nat) (l : List Int) (w : World) : Prop := ∃ cur, w.heap[g]? = some (.cells cur 3 (0, 0)) ∧ cur.toList.take l.length = vals l
namespace Rb
variable {g : Nat} {l : List Int} {w w' : World}
theorem lt (h : Rb g l w) : g < w.heap.size := heap_lt h.choose_spec.1
theorem keep (h : Rb g l w) (k : w'.heap[g]? = w.heap[g]?) : Rb g l w' := ⟨_, k.trans h.choose_spec.1, h.choose_spec.2⟩
theorem free (h : Rb g l w) (k : Nat) : w.frozen? ⟨g, k, none⟩ = false := by
  obtain ⟨cur, h, _⟩ := h
  simp [World.frozen?, h]
theorem cell (h : Rb g l w) {i : Nat} (hi : i < l.length) : w.cell? ⟨g, i, none⟩ = some (.int .i64 (l.getD i 0)) := by
  obtain ⟨cur, h, e⟩ := h
  have e2 : (cur.toList.take l.length)[i]? = some (.int .i64 (l.getD i 0)) := by
    rw [e]
    unfold vals
    rw [List.getElem?_map, List.getElem?_eq_getElem hi]
    simp [List.getD, hi]
  rw [List.getElem?_take_of_lt hi] at e2
  simp only [World.cell?, h]
  simpa using e2
theorem set (h : Rb g l w) {i : Nat} (_hi : i < l.length) (x : Int) : Rb g (l.set i x) (w.setCell ⟨g, i, none⟩ (.int .i64 x)) := by
  obtain ⟨cur, h, e⟩ := h
  refine ⟨cur.setIfInBounds i (.int .i64 x), ?_, ?_⟩
  · show (w.heap.modify g _)[g]? = _
    rw [Array.getElem?_modify, if_pos rfl, h]
    rfl
  · rw [List.length_set, Array.toList_setIfInBounds, List.take_set, e]
    unfold vals
    rw [List.map_set]
theorem ls (h : Rb g l w) {cap : Nat} (h1 : l.length ≤ cap) (h2 : cap ≤ maxLen) : Ls w.heap.size w (.slice (some ⟨g, 0, none⟩) l.length cap) l :=
  ⟨_, _, _, rfl, h1, h2, (fun e => by cases e), rfl, .inr ⟨g, 0, rfl, h.lt, fun i hi => by rw [Nat.zero_add]; exact h.cell hi⟩⟩
theorem ne50 (h : Rb g l w) {c : Cf} {hv : Value} {e : Int} {rv dv wv : Value} {b : Nat} (k : Mb c hv e rv dv wv b w) : b ≠ g := by
  rintro rfl
  obtain ⟨cur, h, _⟩ := h
  unfold Mb at k
  rw [h] at k
  cases k
theorem neRow (h : Rb g l w) {B n : Nat} {v : Value} {xs : List Value} (k : w.ownsRow B 41 2 v n xs) : some g ≠ v.ownBlock := by
  intro e
  obtain ⟨cur, h, _⟩ := h
  rcases k.2 with ⟨rfl, _⟩ | ⟨g', cap, cur', rfl, _, h', _⟩
  · cases e
  · have : g = g' := by simpa [Value.ownBlock] using e
    subst this
    rw [h] at h'
    cases h'
end Rb
theorem mbNeRow {c : Cf} {hv : Value} {e : Int} {rv dv wv : Value} {b : Nat} {w : World} (h : Mb c hv e rv dv wv b w) {B n : Nat} {v : Value} {xs : List Value} (k : w.ownsRow B 41 2 v n xs) : some b ≠ v.ownBlock := by
  intro e
  unfold Mb at h
  rcases k.2 with ⟨rfl, _⟩ | ⟨g', cap, cur', rfl, _, h', _⟩
  · cases e
  · have : b = g' := by simpa [Value.ownBlock] using e
    subst this
    rw [h] at h'
    cases h'
theorem rowKeep {w w' : World} {B e q n : Nat} {v : Value} {xs : List Value} (h : w.ownsRow B e q v n xs) (k : ∀ g, v.ownBlock = some g → w'.heap[g]? = w.heap[g]?) : w'.ownsRow B e q v n xs := by
  refine ⟨h.1, ?_⟩
  rcases h.2 with h0 | ⟨g, cap, cur, rfl, hB, hg, r⟩
  · exact .inl h0
  · exact .inr ⟨g, cap, cur, rfl, hB, (k g rfl).trans hg, r⟩

/-- The machine in block b: its heap lies in block gh, its registers in gr, its reads are dv, its writes wv; all of it at or above B. -/
structure Ma (B : Nat) (c : Cf) (s : St) (b gh gr ch : Nat) (e : Int) (dv wv : Value) (w : World) : Prop where
  blk : Mb c (.slice (some ⟨gh, 0, none⟩) s.h.length ch) e (.slice (some ⟨gr, 0, none⟩) s.r.length s.r.length) dv wv b w
  hp : Rb gh s.h w
  rg : Rb gr s.r w
  rd : w.ownsRow B 41 2 dv s.rd.length (pairs s.rd)
  wr : w.ownsRow B 41 2 wv s.wr.length (pairs s.wr)
  ne : gh ≠ gr
  dw : ∀ k, dv.ownBlock = some k → wv.ownBlock ≠ some k
  bB : B ≤ b
  hB : B ≤ gh
  rB : B ≤ gr
  hc : s.h.length ≤ ch
  cm : ch ≤ maxLen
  rm : s.r.length ≤ 8
namespace Ma
variable {B : Nat} {c : Cf} {s : St} {b gh gr ch : Nat} {e : Int} {dv wv : Value} {w w' : World}
theorem low (h : Ma B c s b gh gr ch e dv wv w) : B ≤ w.heap.size := Nat.le_of_lt (Nat.lt_of_le_of_lt h.bB h.blk.lt)
/-- Every block of the machine is as it was. -/
theorem keep (h : Ma B c s b gh gr ch e dv wv w) (k : ∀ g, g < w.heap.size → w'.heap[g]? = w.heap[g]?) : Ma B c s b gh gr ch e dv wv w' :=
  { h with
    blk := h.blk.keep (k _ h.blk.lt)
    hp := h.hp.keep (k _ h.hp.lt)
    rg := h.rg.keep (k _ h.rg.lt)
    rd := rowKeep h.rd fun g hg => k g (h.rd.lt g hg).2
    wr := rowKeep h.wr fun g hg => k g (h.wr.lt g hg).2 }
theorem next (h : Ma B c s b gh gr ch e dv wv w) (k : Below w.heap.size w w') : Ma B c s b gh gr ch e dv wv w' := h.keep fun g hg => k.block g hg
theorem drew (h : Ma B c s b gh gr ch e dv wv w) : Ma B c s b gh gr ch e dv wv w.drew := h.keep fun _ _ => rfl
/-- A register is written. -/
theorem setReg (h : Ma B c s b gh gr ch e dv wv w) {i : Nat} (hi : i < s.r.length) (x : Int) : Ma B c { s with r := s.r.set i x } b gh gr ch e dv wv (w.setCell ⟨gr, i, none⟩ (.int .i64 x)) :=
  { h with
    blk := by
      show Mb c _ e (.slice (some ⟨gr, 0, none⟩) (s.r.set i x).length (s.r.set i x).length) dv wv b _
      rw [List.length_set]
      exact h.blk.keep (set_other _ _ _ _ _ (h.rg.ne50 h.blk))
    hp := h.hp.keep (set_other _ _ _ _ _ h.ne)
    rg := h.rg.set hi x
    rd := rowKeep h.rd fun g hg => set_other _ _ _ _ _ (fun e => h.rg.neRow h.rd (by rw [← e]; exact hg.symm))
    wr := rowKeep h.wr fun g hg => set_other _ _ _ _ _ (fun e => h.rg.neRow h.wr (by rw [← e]; exact hg.symm))
    rm := by show (s.r.set i x).length ≤ 8; rw [List.length_set]; exact h.rm }
/-- A word of the heap is written. -/
theorem setHeap (h : Ma B c s b gh gr ch e dv wv w) {i : Nat} (hi : i < s.h.length) (x : Int) : Ma B c { s with h := s.h.set i x } b gh gr ch e dv wv (w.setCell ⟨gh, i, none⟩ (.int .i64 x)) :=
  { h with
    blk := by
      show Mb c (.slice (some ⟨gh, 0, none⟩) (s.h.set i x).length ch) e _ dv wv b _
      rw [List.length_set]
      exact h.blk.keep (set_other _ _ _ _ _ (h.hp.ne50 h.blk))
    hp := h.hp.set hi x
    rg := h.rg.keep (set_other _ _ _ _ _ (Ne.symm h.ne))
    rd := rowKeep h.rd fun g hg => set_other _ _ _ _ _ (fun e => h.hp.neRow h.rd (by rw [← e]; exact hg.symm))
    wr := rowKeep h.wr fun g hg => set_other _ _ _ _ _ (fun e => h.hp.neRow h.wr (by rw [← e]; exact hg.symm))
    hc := by show (s.h.set i x).length ≤ ch; rw [List.length_set]; exact h.hc }
/-- Its end is written. -/
theorem setEnd (h : Ma B c s b gh gr ch e dv wv w) (v : Int) : Ma B c s b gh gr ch v dv wv (w.setCell ⟨b, 13, none⟩ (.int .i64 v)) :=
  { h with
    blk := h.blk.set13 v
    hp := h.hp.keep (set_other _ _ _ _ _ (Ne.symm (h.hp.ne50 h.blk)))
    rg := h.rg.keep (set_other _ _ _ _ _ (Ne.symm (h.rg.ne50 h.blk)))
    rd := rowKeep h.rd fun g hg => set_other _ _ _ _ _ (fun e => mbNeRow h.blk h.rd (by rw [← e]; exact hg.symm))
    wr := rowKeep h.wr fun g hg => set_other _ _ _ _ _ (fun e => mbNeRow h.blk h.wr (by rw [← e]; exact hg.symm)) }
/-- One access is appended to the reads. -/
theorem addRead (h : Ma B c s b gh gr ch e dv wv w) {g cap : Nat} {p : Int × Int} (h1 : w'.ownsRow B 41 2 (.slice (some ⟨g, 0, none⟩) (s.rd.length + 1) cap) (s.rd.length + 1) (pairs s.rd ++ [.int .i64 p.1, .int .i64 p.2]))
    (hg : w.grownBy w' dv.ownBlock) (hat : dv.ownBlock = some g ∨ g = w.heap.size) : Ma B c { s with rd := s.rd ++ [p] } b gh gr ch e (.slice (some ⟨g, 0, none⟩) (s.rd.length + 1) cap) wv (w'.setCell ⟨b, 15, none⟩ (.slice (some ⟨g, 0, none⟩) (s.rd.length + 1) cap)) := by
  have n1 := h.hp.ne50 h.blk
  have n2 := h.rg.ne50 h.blk
  have hwne : ∀ k, wv.ownBlock = some k → k ≠ g := by
    rintro k hk rfl
    rcases hat with e1 | e1
    · exact h.dw _ e1 hk
    · have := (h.wr.lt k hk).2; omega
  have blk' := h.blk.keep (hg.block _ h.blk.lt (mbNeRow h.blk h.rd))
  have gb : g ≠ b := by
    rintro rfl
    obtain ⟨_, h2⟩ := h1
    unfold Mb at blk'
    rcases h2 with ⟨e1, _⟩ | ⟨g', cap', cur', e1, _, h', _⟩
    · cases e1
    · have : g = g' := by injection e1 with e2; simpa using e2
      subst this
      rw [blk'] at h'
      cases h'
  exact { h with
    blk := blk'.set15 _
    hp := (h.hp.keep (hg.block _ h.hp.lt (h.hp.neRow h.rd))).keep (set_other _ _ _ _ _ (Ne.symm n1))
    rg := (h.rg.keep (hg.block _ h.rg.lt (h.rg.neRow h.rd))).keep (set_other _ _ _ _ _ (Ne.symm n2))
    rd := by
      show World.ownsRow _ B 41 2 _ (s.rd ++ [p]).length (pairs (s.rd ++ [p]))
      rw [List.length_append, pairs_app]
      exact rowKeep h1 fun k hk => set_other _ _ _ _ _ (fun e => gb (by simpa [Value.ownBlock, e] using hk))
    wr := rowKeep (rowKeep h.wr fun k hk => hg.block k (h.wr.lt k hk).2 (fun e => h.dw k e.symm hk)) fun k hk => set_other _ _ _ _ _ (fun e => mbNeRow h.blk h.wr (by rw [← e]; exact hk.symm))
    dw := fun k hk hk2 => hwne k hk2 (by simpa [Value.ownBlock] using hk.symm) }
/-- .. to the writes. -/
theorem addWrite (h : Ma B c s b gh gr ch e dv wv w) {g cap : Nat} {p : Int × Int} (h1 : w'.ownsRow B 41 2 (.slice (some ⟨g, 0, none⟩) (s.wr.length + 1) cap) (s.wr.length + 1) (pairs s.wr ++ [.int .i64 p.1, .int .i64 p.2]))
    (hg : w.grownBy w' wv.ownBlock) (hat : wv.ownBlock = some g ∨ g = w.heap.size) : Ma B c { s with wr := s.wr ++ [p] } b gh gr ch e dv (.slice (some ⟨g, 0, none⟩) (s.wr.length + 1) cap) (w'.setCell ⟨b, 16, none⟩ (.slice (some ⟨g, 0, none⟩) (s.wr.length + 1) cap)) := by
  have n1 := h.hp.ne50 h.blk
  have n2 := h.rg.ne50 h.blk
  have hwne : ∀ k, dv.ownBlock = some k → k ≠ g := by
    rintro k hk rfl
    rcases hat with e1 | e1
    · exact h.dw _ hk e1
    · have := (h.rd.lt k hk).2; omega
  have blk' := h.blk.keep (hg.block _ h.blk.lt (mbNeRow h.blk h.wr))
  have gb : g ≠ b := by
    rintro rfl
    obtain ⟨_, h2⟩ := h1
    unfold Mb at blk'
    rcases h2 with ⟨e1, _⟩ | ⟨g', cap', cur', e1, _, h', _⟩
    · cases e1
    · have : g = g' := by injection e1 with e2; simpa using e2
      subst this
      rw [blk'] at h'
      cases h'
  exact { h with
    blk := blk'.set16 _
    hp := (h.hp.keep (hg.block _ h.hp.lt (h.hp.neRow h.wr))).keep (set_other _ _ _ _ _ (Ne.symm n1))
    rg := (h.rg.keep (hg.block _ h.rg.lt (h.rg.neRow h.wr))).keep (set_other _ _ _ _ _ (Ne.symm n2))
    wr := by
      show World.ownsRow _ B 41 2 _ (s.wr ++ [p]).length (pairs (s.wr ++ [p]))
      rw [List.length_append, pairs_app]
      exact rowKeep h1 fun k hk => set_other _ _ _ _ _ (fun e => gb (by simpa [Value.ownBlock, e] using hk))
    rd := rowKeep (rowKeep h.rd fun k hk => hg.block k (h.rd.lt k hk).2 (fun e => h.dw k hk e.symm)) fun k hk => set_other _ _ _ _ _ (fun e => mbNeRow h.blk h.rd (by rw [← e]; exact hk.symm))
    dw := fun k hk hk2 => hwne k hk (by simpa [Value.ownBlock] using hk2.symm) }
end Ma
end Go.Proofs.Ytdhfpfkcbcgnaaa
