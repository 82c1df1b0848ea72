/- A table in memory: its lanes side by side, each in blocks of its own. -/
import Derived.Test.YtmdbmkekdpbliaaFst
namespace Go.Proofs.Ytmdbmkekdpbliaa
open Go.RowKit

/-- What one lane holds: who holds, who waits. -/
abbrev Lv := List En × List En
/-- Lane i is x from now on. -/
def upd (T : Nat → Lv) (i : Nat) (x : Lv) : Nat → Lv := fun j => if j = i then x else T j
theorem upd_same (T : Nat → Lv) (i : Nat) (x : Lv) : upd T i x i = x := by simp [upd]
theorem upd_other (T : Nat → Lv) {i j : Nat} (x : Lv) (h : j ≠ i) : upd T i x j = T j := by simp [upd, h]
/-- One of a family is put in another's stead. -/
def set1 {α : Type} (f : Nat → α) (i : Nat) (x : α) : Nat → α := fun j => if j = i then x else f j
theorem set1_same {α : Type} (f : Nat → α) (i : Nat) (x : α) : set1 f i x i = x := by simp [set1]
theorem set1_other {α : Type} (f : Nat → α) {i j : Nat} (x : α) (h : j ≠ i) : set1 f i x j = f j := by simp [set1, h]
/-- The lanes of a table: lane i lies in block lb i. -/
structure Ls (B n : Nat) (T : Nat → Lv) (lb : Nat → Nat) (hv qv : Nat → Value) (w : World) : Prop where
  la : ∀ i, i < n → La B (T i).1 (T i).2 (lb i) (hv i) (qv i) w
  inj : ∀ i j, i < n → j < n → lb i = lb j → i = j
  apart : ∀ i j, i < n → j < n → i ≠ j → ∀ k, (hv i).ownBlock = some k ∨ (qv i).ownBlock = some k → (hv j).ownBlock ≠ some k ∧ (qv j).ownBlock ≠ some k
/-- Entries lie in other blocks than what is of another type. -/
theorem es_ne {B : Nat} {v : Value} {l : List En} {w : World} (h : Es B v l w) {k : Nat} {cur : Array Value} {t : TypeId} (hk : w.heap[k]? = some (.cells cur t (0, 0))) (ht : t ≠ 41) : v.ownBlock ≠ some k := fun e => by
  obtain ⟨c, hc⟩ := h.ty k e
  rw [hc] at hk
  injection hk with hk
  injection hk with _ h2 _
  exact ht h2.symm
/-- What is neither a lane nor entries stays where a lane is turned. -/
theorem Mv.stays {B b : Nat} {H Q : List En} {hv qv hv' qv' : Value} {w w' : World} (m : Mv b hv qv hv' qv' w w') (l : La B H Q b hv qv w) {k : Nat} {cur : Array Value} {t : TypeId} (h : w.heap[k]? = some (.cells cur t (0, 0))) (h1 : t ≠ 41) (h2 : t ≠ 76) : w'.heap[k]? = some (.cells cur t (0, 0)) := by
  refine (m.block k (heap_lt h) (fun e => ?_) (es_ne l.hr h h1) (es_ne l.qr h h1)).trans h
  rw [e, l.blk] at h
  injection h with h
  injection h with _ h3 _
  exact h2 h3.symm
namespace Ls
variable {B n : Nat} {T : Nat → Lv} {lb : Nat → Nat} {hv qv : Nat → Value} {w w' : World}
theorem next (h : Ls B n T lb hv qv w) (k : Below w.heap.size w w') : Ls B n T lb hv qv w' := ⟨fun i hi => (h.la i hi).next k, h.inj, h.apart⟩
/-- Another lane is turned: this one stays. -/
theorem other (h : Ls B n T lb hv qv w) {i j : Nat} (hi : i < n) (hj : j < n) (hne : j ≠ i) {hv' qv' : Value} (m : Mv (lb i) (hv i) (qv i) hv' qv' w w') : La B (T j).1 (T j).2 (lb j) (hv j) (qv j) w' := by
  have l := h.la j hj
  have li := h.la i hi
  refine ⟨(m.block _ l.lt (fun e => hne (h.inj j i hj hi e)) (es_ne li.hr l.blk (by decide)) (es_ne li.qr l.blk (by decide))).trans l.blk, l.hr.keep fun g hg => ?_, l.qr.keep fun g hg => ?_, l.dq, l.bB, l.srt⟩
  · have a := h.apart j i hj hi hne g (.inl hg)
    exact m.block g (l.hr.lt g hg).2 (fun e => es_ne l.hr li.blk (by decide) (by rw [← e]; exact hg)) a.1 a.2
  · have a := h.apart j i hj hi hne g (.inr hg)
    exact m.block g (l.qr.lt g hg).2 (fun e => es_ne l.qr li.blk (by decide) (by rw [← e]; exact hg)) a.1 a.2
/-- Lane i is turned. -/
theorem step (h : Ls B n T lb hv qv w) {i : Nat} (hi : i < n) {hv' qv' : Value} {x : Lv} (m : Mv (lb i) (hv i) (qv i) hv' qv' w w') (l : La B x.1 x.2 (lb i) hv' qv' w') : Ls B n (upd T i x) lb (set1 hv i hv') (set1 qv i qv') w' := by
  have li := h.la i hi
  have new : ∀ j, j < n → j ≠ i → ∀ k, hv'.ownBlock = some k ∨ qv'.ownBlock = some k → (hv j).ownBlock ≠ some k ∧ (qv j).ownBlock ≠ some k := fun j hj hne k hk => by
    have lj := h.la j hj
    have far : (hv i).ownBlock = some k ∨ (qv i).ownBlock = some k ∨ w.heap.size ≤ k := by
      rcases hk with hk | hk
      · rcases m.ha k hk with e | e
        · exact .inl e
        · exact .inr (.inr e)
      · rcases m.qa k hk with e | e
        · exact .inr (.inl e)
        · exact .inr (.inr e)
    rcases far with e | e | e
    · exact h.apart i j hi hj (fun e => hne e.symm) k (.inl e)
    · exact h.apart i j hi hj (fun e => hne e.symm) k (.inr e)
    · exact ⟨fun e2 => by have := (lj.hr.lt k e2).2; omega, fun e2 => by have := (lj.qr.lt k e2).2; omega⟩
  refine ⟨fun j hj => ?_, h.inj, fun j k hj hk hne g hg => ?_⟩
  · by_cases e : j = i
    · subst e
      rw [upd_same, set1_same, set1_same]
      exact l
    · rw [upd_other T x e, set1_other hv hv' e, set1_other qv qv' e]
      exact h.other hi hj e m
  · by_cases e : j = i
    · subst e
      have e2 : k ≠ j := fun e => hne e.symm
      rw [set1_same, set1_same] at hg
      rw [set1_other hv hv' e2, set1_other qv qv' e2]
      exact new k hk e2 g hg
    · rw [set1_other hv hv' e, set1_other qv qv' e] at hg
      by_cases e2 : k = i
      · subst e2
        rw [set1_same, set1_same]
        refine ⟨fun e3 => ?_, fun e3 => ?_⟩
        · have := new j hj e g (.inl e3)
          rcases hg with hg | hg
          · exact this.1 hg
          · exact this.2 hg
        · have := new j hj e g (.inr e3)
          rcases hg with hg | hg
          · exact this.1 hg
          · exact this.2 hg
      · rw [set1_other hv hv' e2, set1_other qv qv' e2]
        exact h.apart j k hj hk hne g hg
end Ls
/-- The table in block b: n nodes, room for most locks, the lanes T; all of it at or above B. -/
structure Tb (B n : Nat) (most : Int) (T : Nat → Lv) (b rb : Nat) (lb : Nat → Nat) (hv qv : Nat → Value) (w : World) : Prop where
  blk : w.heap[b]? = some (.cells #[.slice (some ⟨rb, 0, none⟩) n n, .int .i64 most] 60 (0, 0))
  row : ∃ cur, w.heap[rb]? = some (.cells cur 95 (0, 0)) ∧ ∀ i, i < n → cur[i]? = some (.pointer (some ⟨lb i, 0, none⟩))
  ls : Ls B n T lb hv qv w
  bB : B ≤ b
  rB : B ≤ rb
namespace Tb
variable {B n : Nat} {most : Int} {T : Nat → Lv} {b rb : Nat} {lb : Nat → Nat} {hv qv : Nat → Value} {w w' : World}
theorem lt (h : Tb B n most T b rb lb hv qv w) : b < w.heap.size := heap_lt h.blk
theorem rlt (h : Tb B n most T b rb lb hv qv w) : rb < w.heap.size := heap_lt h.row.choose_spec.1
theorem low (h : Tb B n most T b rb lb hv qv w) : B ≤ w.heap.size := Nat.le_of_lt (Nat.lt_of_le_of_lt h.bB h.lt)
theorem next (h : Tb B n most T b rb lb hv qv w) (k : Below w.heap.size w w') : Tb B n most T b rb lb hv qv w' :=
  ⟨(k.block b h.lt).trans h.blk, ⟨_, (k.block rb h.rlt).trans h.row.choose_spec.1, h.row.choose_spec.2⟩, h.ls.next k, h.bB, h.rB⟩
theorem step (h : Tb B n most T b rb lb hv qv w) {i : Nat} (hi : i < n) {hv' qv' : Value} {x : Lv} (m : Mv (lb i) (hv i) (qv i) hv' qv' w w') (l : La B x.1 x.2 (lb i) hv' qv' w') : Tb B n most (upd T i x) b rb lb (set1 hv i hv') (set1 qv i qv') w' :=
  ⟨m.stays (h.ls.la i hi) h.blk (by decide) (by decide), ⟨_, m.stays (h.ls.la i hi) h.row.choose_spec.1 (by decide) (by decide), h.row.choose_spec.2⟩, h.ls.step hi m l, h.bB, h.rB⟩
theorem c0 (h : Tb B n most T b rb lb hv qv w) : w.cell? ⟨b, 0, none⟩ = some (.slice (some ⟨rb, 0, none⟩) n n) := by have := h.blk; simp [World.cell?, this]
theorem c1 (h : Tb B n most T b rb lb hv qv w) : w.cell? ⟨b, 1, none⟩ = some (.int .i64 most) := by have := h.blk; simp [World.cell?, this]
theorem at_ (h : Tb B n most T b rb lb hv qv w) {i : Nat} (hi : i < n) : w.cell? ⟨rb, i, none⟩ = some (.pointer (some ⟨lb i, 0, none⟩)) := by
  obtain ⟨cur, h1, h2⟩ := h.row
  simp [World.cell?, h1, h2 i hi]
end Tb
end Go.Proofs.Ytmdbmkekdpbliaa
