/- The reference's machine as it lies in memory: an Out in a block, the heap's copy, the registers, the two rows of accesses. -/
import Derived.Test.YtdhfpfkcbcgnaaaRun
namespace Go.Proofs.Ytdhfpfkcbcgnaaa
open Go.RowKit

namespace Ob
variable {e : Int} {rv dv wv : Value} {b : Nat} {w w' : World}
theorem keep (h : Ob e rv dv wv b w) (k : w'.heap[b]? = w.heap[b]?) : Ob e rv dv wv b w' := k.trans h
theorem set0 (h : Ob e rv dv wv b w) (v : Int) : Ob v rv dv wv b (w.setCell ⟨b, 0, none⟩ (.int .i64 v)) := by
  unfold Ob at h ⊢
  show (w.heap.modify b _)[b]? = _
  rw [Array.getElem?_modify, if_pos rfl, h]; rfl
theorem set2 (h : Ob e rv dv wv b w) (v : Value) : Ob e rv v wv b (w.setCell ⟨b, 2, none⟩ v) := by
  unfold Ob at h ⊢
  show (w.heap.modify b _)[b]? = _
  rw [Array.getElem?_modify, if_pos rfl, h]; rfl
theorem set3 (h : Ob e rv dv wv b w) (v : Value) : Ob e rv dv v b (w.setCell ⟨b, 3, none⟩ v) := by
  unfold Ob at h ⊢
  show (w.heap.modify b _)[b]? = _
  rw [Array.getElem?_modify, if_pos rfl, h]; rfl
theorem neRb (k : Ob e rv dv wv b w) {g : Nat} {l : List Int} (h : Rb g l w) : b ≠ g := by
  rintro rfl
  obtain ⟨cur, h, _⟩ := h
  unfold Ob at k
  rw [h] at k
  cases k
theorem neRow (h : Ob e rv dv wv b w) {B n : Nat} {v : Value} {xs : List Value} (k : w.ownsRow B 41 2 v n xs) : some b ≠ v.ownBlock := by
  intro e
  unfold Ob at h
  rcases k.2 with ⟨rfl, _⟩ | ⟨g', cap, cur', rfl, _, h', _⟩
  · cases e
  · have : b = g' := by simpa [Value.ownBlock] using e
    subst this
    rw [h] at h'
    cases h'
end Ob

/-- The Out in block b, the heap in gh, the registers in gr; the reads are dv, the writes wv; all of it at or above B. -/
structure Rm (B : Nat) (s : St) (b gh gr ch : Nat) (e : Int) (dv wv : Value) (w : World) : Prop where
  blk : Ob e (.slice (some ⟨gr, 0, none⟩) s.r.length s.r.length) dv wv b w
  hp : Rb gh s.h w
  rg : Rb gr s.r w
  rd : w.ownsRow B 41 2 dv s.rd.length (pairs s.rd)
  wr : w.ownsRow B 41 2 wv s.wr.length (pairs s.wr)
  ne : gh ≠ gr
  dw : ∀ k, dv.ownBlock = some k → wv.ownBlock ≠ some k
  bB : B ≤ b
  hB : B ≤ gh
  rB : B ≤ gr
  hc : s.h.length ≤ ch
  cm : ch ≤ maxLen
  rm : s.r.length ≤ 8
namespace Rm
variable {B : Nat} {s : St} {b gh gr ch : Nat} {e : Int} {dv wv : Value} {w w' : World}
theorem low (h : Rm B s b gh gr ch e dv wv w) : B ≤ w.heap.size := Nat.le_of_lt (Nat.lt_of_le_of_lt h.bB h.blk.lt)
theorem keep (h : Rm B s b gh gr ch e dv wv w) (k : ∀ g, B ≤ g → g < w.heap.size → w'.heap[g]? = w.heap[g]?) : Rm B s b gh gr ch e dv wv w' :=
  { h with
    blk := h.blk.keep (k _ h.bB h.blk.lt)
    hp := h.hp.keep (k _ h.hB h.hp.lt)
    rg := h.rg.keep (k _ h.rB h.rg.lt)
    rd := rowKeep h.rd fun g hg => k g (h.rd.lt g hg).1 (h.rd.lt g hg).2
    wr := rowKeep h.wr fun g hg => k g (h.wr.lt g hg).1 (h.wr.lt g hg).2 }
theorem next (h : Rm B s b gh gr ch e dv wv w) (k : Below w.heap.size w w') : Rm B s b gh gr ch e dv wv w' := h.keep fun g _ hg => k.block g hg
theorem drew (h : Rm B s b gh gr ch e dv wv w) : Rm B s b gh gr ch e dv wv w.drew := h.keep fun _ _ _ => rfl
/-- A block beneath is written. -/
theorem four (h : Rm B s b gh gr ch e dv wv w) {N : Nat} (hN : N < B) (v0 v1 v2 v3 : Value) : Rm B s b gh gr ch e dv wv (four w N v0 v1 v2 v3) :=
  h.keep fun g hg _ => four_other _ _ _ _ _ _ _ (by omega)
theorem setReg (h : Rm B s b gh gr ch e dv wv w) {i : Nat} (hi : i < s.r.length) (x : Int) : Rm B { s with r := s.r.set i x } b gh gr ch e dv wv (w.setCell ⟨gr, i, none⟩ (.int .i64 x)) :=
  { h with
    blk := by
      show Ob e (.slice (some ⟨gr, 0, none⟩) (s.r.set i x).length (s.r.set i x).length) dv wv b _
      rw [List.length_set]
      exact h.blk.keep (set_other _ _ _ _ _ (h.blk.neRb h.rg))
    hp := h.hp.keep (set_other _ _ _ _ _ h.ne)
    rg := h.rg.set hi x
    rd := rowKeep h.rd fun g hg => set_other _ _ _ _ _ (fun e => h.rg.neRow h.rd (by rw [← e]; exact hg.symm))
    wr := rowKeep h.wr fun g hg => set_other _ _ _ _ _ (fun e => h.rg.neRow h.wr (by rw [← e]; exact hg.symm))
    rm := by show (s.r.set i x).length ≤ 8; rw [List.length_set]; exact h.rm }
theorem setHeap (h : Rm B s b gh gr ch e dv wv w) {i : Nat} (hi : i < s.h.length) (x : Int) : Rm B { s with h := s.h.set i x } b gh gr ch e dv wv (w.setCell ⟨gh, i, none⟩ (.int .i64 x)) :=
  { h with
    blk := h.blk.keep (set_other _ _ _ _ _ (h.blk.neRb h.hp))
    hp := h.hp.set hi x
    rg := h.rg.keep (set_other _ _ _ _ _ (Ne.symm h.ne))
    rd := rowKeep h.rd fun g hg => set_other _ _ _ _ _ (fun e => h.hp.neRow h.rd (by rw [← e]; exact hg.symm))
    wr := rowKeep h.wr fun g hg => set_other _ _ _ _ _ (fun e => h.hp.neRow h.wr (by rw [← e]; exact hg.symm))
    hc := by show (s.h.set i x).length ≤ ch; rw [List.length_set]; exact h.hc }
theorem setEnd (h : Rm B s b gh gr ch e dv wv w) (v : Int) : Rm B s b gh gr ch v dv wv (w.setCell ⟨b, 0, none⟩ (.int .i64 v)) :=
  { h with
    blk := h.blk.set0 v
    hp := h.hp.keep (set_other _ _ _ _ _ (Ne.symm (h.blk.neRb h.hp)))
    rg := h.rg.keep (set_other _ _ _ _ _ (Ne.symm (h.blk.neRb h.rg)))
    rd := rowKeep h.rd fun g hg => set_other _ _ _ _ _ (fun e => h.blk.neRow h.rd (by rw [← e]; exact hg.symm))
    wr := rowKeep h.wr fun g hg => set_other _ _ _ _ _ (fun e => h.blk.neRow h.wr (by rw [← e]; exact hg.symm)) }
theorem addRead (h : Rm B s b gh gr ch e dv wv w) {g cap : Nat} {p : Int × Int} (h1 : w'.ownsRow B 41 2 (.slice (some ⟨g, 0, none⟩) (s.rd.length + 1) cap) (s.rd.length + 1) (pairs s.rd ++ [.int .i64 p.1, .int .i64 p.2]))
    (hg : w.grownBy w' dv.ownBlock) (hat : dv.ownBlock = some g ∨ g = w.heap.size) : Rm B { s with rd := s.rd ++ [p] } b gh gr ch e (.slice (some ⟨g, 0, none⟩) (s.rd.length + 1) cap) wv (w'.setCell ⟨b, 2, none⟩ (.slice (some ⟨g, 0, none⟩) (s.rd.length + 1) cap)) := by
  have n1 := h.blk.neRb h.hp
  have n2 := h.blk.neRb h.rg
  have hwne : ∀ k, wv.ownBlock = some k → k ≠ g := by
    rintro k hk rfl
    rcases hat with e1 | e1
    · exact h.dw _ e1 hk
    · have := (h.wr.lt k hk).2; omega
  have blk' := h.blk.keep (hg.block _ h.blk.lt (h.blk.neRow h.rd))
  have gb : g ≠ b := by
    rintro rfl
    obtain ⟨_, h2⟩ := h1
    unfold Ob at blk'
    rcases h2 with ⟨e1, _⟩ | ⟨g', cap', cur', e1, _, h', _⟩
    · cases e1
    · have : g = g' := by injection e1 with e2; simpa using e2
      subst this
      rw [blk'] at h'
      cases h'
  exact { h with
    blk := blk'.set2 _
    hp := (h.hp.keep (hg.block _ h.hp.lt (h.hp.neRow h.rd))).keep (set_other _ _ _ _ _ (Ne.symm n1))
    rg := (h.rg.keep (hg.block _ h.rg.lt (h.rg.neRow h.rd))).keep (set_other _ _ _ _ _ (Ne.symm n2))
    rd := by
      show World.ownsRow _ B 41 2 _ (s.rd ++ [p]).length (pairs (s.rd ++ [p]))
      rw [List.length_append, pairs_app]
      exact rowKeep h1 fun k hk => set_other _ _ _ _ _ (fun e => gb (by simpa [Value.ownBlock, e] using hk))
    wr := rowKeep (rowKeep h.wr fun k hk => hg.block k (h.wr.lt k hk).2 (fun e => h.dw k e.symm hk)) fun k hk => set_other _ _ _ _ _ (fun e => h.blk.neRow h.wr (by rw [← e]; exact hk.symm))
    dw := fun k hk hk2 => hwne k hk2 (by simpa [Value.ownBlock] using hk.symm) }
theorem addWrite (h : Rm B s b gh gr ch e dv wv w) {g cap : Nat} {p : Int × Int} (h1 : w'.ownsRow B 41 2 (.slice (some ⟨g, 0, none⟩) (s.wr.length + 1) cap) (s.wr.length + 1) (pairs s.wr ++ [.int .i64 p.1, .int .i64 p.2]))
    (hg : w.grownBy w' wv.ownBlock) (hat : wv.ownBlock = some g ∨ g = w.heap.size) : Rm B { s with wr := s.wr ++ [p] } b gh gr ch e dv (.slice (some ⟨g, 0, none⟩) (s.wr.length + 1) cap) (w'.setCell ⟨b, 3, none⟩ (.slice (some ⟨g, 0, none⟩) (s.wr.length + 1) cap)) := by
  have n1 := h.blk.neRb h.hp
  have n2 := h.blk.neRb h.rg
  have hwne : ∀ k, dv.ownBlock = some k → k ≠ g := by
    rintro k hk rfl
    rcases hat with e1 | e1
    · exact h.dw _ hk e1
    · have := (h.rd.lt k hk).2; omega
  have blk' := h.blk.keep (hg.block _ h.blk.lt (h.blk.neRow h.wr))
  have gb : g ≠ b := by
    rintro rfl
    obtain ⟨_, h2⟩ := h1
    unfold Ob at blk'
    rcases h2 with ⟨e1, _⟩ | ⟨g', cap', cur', e1, _, h', _⟩
    · cases e1
    · have : g = g' := by injection e1 with e2; simpa using e2
      subst this
      rw [blk'] at h'
      cases h'
  exact { h with
    blk := blk'.set3 _
    hp := (h.hp.keep (hg.block _ h.hp.lt (h.hp.neRow h.wr))).keep (set_other _ _ _ _ _ (Ne.symm n1))
    rg := (h.rg.keep (hg.block _ h.rg.lt (h.rg.neRow h.wr))).keep (set_other _ _ _ _ _ (Ne.symm n2))
    wr := by
      show World.ownsRow _ B 41 2 _ (s.wr ++ [p]).length (pairs (s.wr ++ [p]))
      rw [List.length_append, pairs_app]
      exact rowKeep h1 fun k hk => set_other _ _ _ _ _ (fun e => gb (by simpa [Value.ownBlock, e] using hk))
    rd := rowKeep (rowKeep h.rd fun k hk => hg.block k (h.rd.lt k hk).2 (fun e => h.dw k hk e.symm)) fun k hk => set_other _ _ _ _ _ (fun e => h.blk.neRow h.rd (by rw [← e]; exact hk.symm))
    dw := fun k hk hk2 => hwne k hk (by simpa [Value.ownBlock] using hk2.symm) }
theorem held (h : Rm B s b gh gr ch e dv wv w) : Held ⟨e, s.r, s.rd, s.wr, s.h, 0⟩ (.slice (some ⟨gr, 0, none⟩) s.r.length s.r.length) dv wv (.slice (some ⟨gh, 0, none⟩) s.h.length ch) w :=
  ⟨h.rg.ls (Nat.le_refl _) (by have := h.rm; unfold maxLen; omega), own_as' h.rd, own_as' h.wr, h.hp.ls h.hc h.cm⟩
end Rm
end Go.Proofs.Ytdhfpfkcbcgnaaa
