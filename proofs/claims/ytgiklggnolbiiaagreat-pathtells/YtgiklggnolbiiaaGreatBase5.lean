/- Texts of this claim, put together in their order. -/
import Derived.Deep.RegionHeld
import Derived.Lib.SliceRun
import Derived.BigQuiet
import Derived.Test.YtgiklggnolbiiaaGreatBase1
import Derived.Test.YtgiklggnolbiiaaGreatBase2
import Derived.Test.YtgiklggnolbiiaaGreatBase3
import Derived.Test.YtgiklggnolbiiaaGreatBase4
/- A table in memory: its lanes side by side, each in blocks of its own. -/
namespace Go.Proofs.YtgiklggnolbiiaaGreat
open Go.RowKit

/-- What one lane holds: who holds, who waits. -/
abbrev Lv := List En × List En
/-- Lane i is x from now on. -/
def upd (T : Nat → Lv) (i : Nat) (x : Lv) : Nat → Lv := fun j => if j = i then x else T j
theorem upd_same (T : Nat → Lv) (i : Nat) (x : Lv) : upd T i x i = x := by simp [upd]
theorem upd_other (T : Nat → Lv) {i j : Nat} (x : Lv) (h : j ≠ i) : upd T i x j = T j := by simp [upd, h]
/-- One of a family is put in another's stead. -/
def set1 {α : Type} (f : Nat → α) (i : Nat) (x : α) : Nat → α := fun j => if j = i then x else f j
theorem set1_same {α : Type} (f : Nat → α) (i : Nat) (x : α) : set1 f i x i = x := by simp [set1]
theorem set1_other {α : Type} (f : Nat → α) {i j : Nat} (x : α) (h : j ≠ i) : set1 f i x j = f j := by simp [set1, h]
/-- The lanes of a table: lane i lies in block lb i. -/
structure Ls (B n : Nat) (T : Nat → Lv) (lb : Nat → Nat) (hv qv : Nat → Value) (w : World) : Prop where
  la : ∀ i, i < n → La B (T i).1 (T i).2 (lb i) (hv i) (qv i) w
  inj : ∀ i j, i < n → j < n → lb i = lb j → i = j
  apart : ∀ i j, i < n → j < n → i ≠ j → ∀ k, (hv i).ownBlock = some k ∨ (qv i).ownBlock = some k → (hv j).ownBlock ≠ some k ∧ (qv j).ownBlock ≠ some k
/-- Entries lie in other blocks than what is of another type. -/
theorem es_ne {B : Nat} {v : Value} {l : List En} {w : World} (h : Es B v l w) {k : Nat} {cur : Array Value} {t : TypeId} (hk : w.heap[k]? = some (.cells cur t (0, 0))) (ht : t ≠ 92) : v.ownBlock ≠ some k := fun e => by
  obtain ⟨c, hc⟩ := h.ty k e
  rw [hc] at hk
  injection hk with hk
  injection hk with _ h2 _
  exact ht h2.symm
/-- What is neither a lane nor entries stays where a lane is turned. -/
theorem Mv.stays {B b : Nat} {H Q : List En} {hv qv hv' qv' : Value} {w w' : World} (m : Mv b hv qv hv' qv' w w') (l : La B H Q b hv qv w) {k : Nat} {cur : Array Value} {t : TypeId} (h : w.heap[k]? = some (.cells cur t (0, 0))) (h1 : t ≠ 92) (h2 : t ≠ 96) : w'.heap[k]? = some (.cells cur t (0, 0)) := by
  refine (m.block k (heap_lt h) (fun e => ?_) (es_ne l.hr h h1) (es_ne l.qr h h1)).trans h
  rw [e, l.blk] at h
  injection h with h
  injection h with _ h3 _
  exact h2 h3.symm
namespace Ls
variable {B n : Nat} {T : Nat → Lv} {lb : Nat → Nat} {hv qv : Nat → Value} {w w' : World}
theorem next (h : Ls B n T lb hv qv w) (k : Below w.heap.size w w') : Ls B n T lb hv qv w' := ⟨fun i hi => (h.la i hi).next k, h.inj, h.apart⟩
/-- Another lane is turned: this one stays. -/
theorem other (h : Ls B n T lb hv qv w) {i j : Nat} (hi : i < n) (hj : j < n) (hne : j ≠ i) {hv' qv' : Value} (m : Mv (lb i) (hv i) (qv i) hv' qv' w w') : La B (T j).1 (T j).2 (lb j) (hv j) (qv j) w' := by
  have l := h.la j hj
  have li := h.la i hi
  refine ⟨(m.block _ l.lt (fun e => hne (h.inj j i hj hi e)) (es_ne li.hr l.blk (by decide)) (es_ne li.qr l.blk (by decide))).trans l.blk, l.hr.keep fun g hg => ?_, l.qr.keep fun g hg => ?_, l.dq, l.bB, l.srt⟩
  · have a := h.apart j i hj hi hne g (.inl hg)
    exact m.block g (l.hr.lt g hg).2 (fun e => es_ne l.hr li.blk (by decide) (by rw [← e]; exact hg)) a.1 a.2
  · have a := h.apart j i hj hi hne g (.inr hg)
    exact m.block g (l.qr.lt g hg).2 (fun e => es_ne l.qr li.blk (by decide) (by rw [← e]; exact hg)) a.1 a.2
/-- Lane i is turned. -/
theorem step (h : Ls B n T lb hv qv w) {i : Nat} (hi : i < n) {hv' qv' : Value} {x : Lv} (m : Mv (lb i) (hv i) (qv i) hv' qv' w w') (l : La B x.1 x.2 (lb i) hv' qv' w') : Ls B n (upd T i x) lb (set1 hv i hv') (set1 qv i qv') w' := by
  have li := h.la i hi
  have new : ∀ j, j < n → j ≠ i → ∀ k, hv'.ownBlock = some k ∨ qv'.ownBlock = some k → (hv j).ownBlock ≠ some k ∧ (qv j).ownBlock ≠ some k := fun j hj hne k hk => by
    have lj := h.la j hj
    have far : (hv i).ownBlock = some k ∨ (qv i).ownBlock = some k ∨ w.heap.size ≤ k := by
      rcases hk with hk | hk
      · rcases m.ha k hk with e | e
        · exact .inl e
        · exact .inr (.inr e)
      · rcases m.qa k hk with e | e
        · exact .inr (.inl e)
        · exact .inr (.inr e)
    rcases far with e | e | e
    · exact h.apart i j hi hj (fun e => hne e.symm) k (.inl e)
    · exact h.apart i j hi hj (fun e => hne e.symm) k (.inr e)
    · exact ⟨fun e2 => by have := (lj.hr.lt k e2).2; omega, fun e2 => by have := (lj.qr.lt k e2).2; omega⟩
  refine ⟨fun j hj => ?_, h.inj, fun j k hj hk hne g hg => ?_⟩
  · by_cases e : j = i
    · subst e
      rw [upd_same, set1_same, set1_same]
      exact l
    · rw [upd_other T x e, set1_other hv hv' e, set1_other qv qv' e]
      exact h.other hi hj e m
  · by_cases e : j = i
    · subst e
      have e2 : k ≠ j := fun e => hne e.symm
      rw [set1_same, set1_same] at hg
      rw [set1_other hv hv' e2, set1_other qv qv' e2]
      exact new k hk e2 g hg
    · rw [set1_other hv hv' e, set1_other qv qv' e] at hg
      by_cases e2 : k = i
      · subst e2
        rw [set1_same, set1_same]
        refine ⟨fun e3 => ?_, fun e3 => ?_⟩
        · have := new j hj e g (.inl e3)
          rcases hg with hg | hg
          · exact this.1 hg
          · exact this.2 hg
        · have := new j hj e g (.inr e3)
          rcases hg with hg | hg
          · exact this.1 hg
          · exact this.2 hg
      · rw [set1_other hv hv' e2, set1_other qv qv' e2]
        exact h.apart j k hj hk hne g hg
end Ls
/-- The table in block b: n nodes, room for most locks, the lanes T; all of it at or above B. -/
structure Tb (B n : Nat) (most : Int) (T : Nat → Lv) (b rb : Nat) (lb : Nat → Nat) (hv qv : Nat → Value) (w : World) : Prop where
  blk : w.heap[b]? = some (.cells #[.slice (some ⟨rb, 0, none⟩) n n, .int .i64 most] 46 (0, 0))
  row : ∃ cur, w.heap[rb]? = some (.cells cur 78 (0, 0)) ∧ ∀ i, i < n → cur[i]? = some (.pointer (some ⟨lb i, 0, none⟩))
  ls : Ls B n T lb hv qv w
  bB : B ≤ b
  rB : B ≤ rb
namespace Tb
variable {B n : Nat} {most : Int} {T : Nat → Lv} {b rb : Nat} {lb : Nat → Nat} {hv qv : Nat → Value} {w w' : World}
theorem lt (h : Tb B n most T b rb lb hv qv w) : b < w.heap.size := heap_lt h.blk
theorem rlt (h : Tb B n most T b rb lb hv qv w) : rb < w.heap.size := heap_lt h.row.choose_spec.1
theorem low (h : Tb B n most T b rb lb hv qv w) : B ≤ w.heap.size := Nat.le_of_lt (Nat.lt_of_le_of_lt h.bB h.lt)
theorem next (h : Tb B n most T b rb lb hv qv w) (k : Below w.heap.size w w') : Tb B n most T b rb lb hv qv w' :=
  ⟨(k.block b h.lt).trans h.blk, ⟨_, (k.block rb h.rlt).trans h.row.choose_spec.1, h.row.choose_spec.2⟩, h.ls.next k, h.bB, h.rB⟩
theorem step (h : Tb B n most T b rb lb hv qv w) {i : Nat} (hi : i < n) {hv' qv' : Value} {x : Lv} (m : Mv (lb i) (hv i) (qv i) hv' qv' w w') (l : La B x.1 x.2 (lb i) hv' qv' w') : Tb B n most (upd T i x) b rb lb (set1 hv i hv') (set1 qv i qv') w' :=
  ⟨m.stays (h.ls.la i hi) h.blk (by decide) (by decide), ⟨_, m.stays (h.ls.la i hi) h.row.choose_spec.1 (by decide) (by decide), h.row.choose_spec.2⟩, h.ls.step hi m l, h.bB, h.rB⟩
theorem c0 (h : Tb B n most T b rb lb hv qv w) : w.cell? ⟨b, 0, none⟩ = some (.slice (some ⟨rb, 0, none⟩) n n) := by have := h.blk; simp [World.cell?, this]
theorem c1 (h : Tb B n most T b rb lb hv qv w) : w.cell? ⟨b, 1, none⟩ = some (.int .i64 most) := by have := h.blk; simp [World.cell?, this]
theorem at_ (h : Tb B n most T b rb lb hv qv w) {i : Nat} (hi : i < n) : w.cell? ⟨rb, i, none⟩ = some (.pointer (some ⟨lb i, 0, none⟩)) := by
  obtain ⟨cur, h1, h2⟩ := h.row
  simp [World.cell?, h1, h2 i hi]
end Tb
end Go.Proofs.YtgiklggnolbiiaaGreat

/- What only reads a table: known, has, locks, Len, Waits, Holds, Lane. -/
namespace Go.Proofs.YtgiklggnolbiiaaGreat
open Go.RowKit
variable {B n : Nat} {most : Int} {T : Nat → Lv} {b rb : Nat} {lb : Nat → Nat} {hv qv : Nat → Value}

set_option maxRecDepth 100000 in
theorem known_t (w : World) (h : Tb B n most T b rb lb hv qv w) (k : Int) : Calls Tryz.prog 46 #[.pointer (some ⟨b, 0, none⟩), .int .i64 k] w fun e w' => e = .returned (.bool (decide (0 ≤ k) && decide (k < n))) ∧ w' = w := by
  have c0 := h.c0
  by_cases h1 : 0 ≤ k <;> by_cases h2 : k < n
  all_goals
    go_enter Tryz.func46, Tryz.ntmps46
    go_wp2
    go_ret
    exact ⟨by simp [h1, h2], rfl⟩
/-- Has who a lock here? -/
def hasL (who : Int) (x : Lv) : Bool := (lookD who x.1 != 0) || (lookD who x.2 != 0)
set_option maxRecDepth 100000 in
theorem has_t (w : World) {x : Lv} {l : Nat} (h : Ln B x.1 x.2 l w) (hn : x.1.length < 1000000) (hq : x.2.length < 1000000) (who : Int) : Calls Tryz.prog 41 #[.agg #[.pointer (some ⟨l, 0, none⟩)], .int .i64 who] w fun e w' => e = .returned (.bool (hasL who x)) ∧ Below w.heap.size w w' := by
  unfold hasL
  have H1 := hide (h.next (below_new w (.cells #[.pointer (some ⟨l, 0, none⟩)] 78)))
  obtain ⟨m, hm⟩ : ∃ m, m = lookD who x.1 := ⟨_, rfl⟩
  rw [← hm]
  replace hm := hide hm
  cases h1 : (m != 0)
  · go_enter Tryz.func41, Tryz.ntmps41
    go_wp2_with fail
    refine (holds_ln _ (unhide H1) hn who (unhide hm).symm).mono ?_
    rintro e w1 ⟨rfl, b1⟩
    have H2 := hide ((unhide H1).next b1)
    have cb : w1.cell? ⟨w.heap.size, 0, none⟩ = some (.pointer (some ⟨l, 0, none⟩)) := (b1.cell (p := ⟨w.heap.size, 0, none⟩) (by simp)).trans (by rw [World.cell?_alloc_new]; rfl)
    replace b1 := hide (below_then (below_new w _) b1)
    go_wp2_with fail
    refine (waits_ln _ (unhide H2) hq who rfl).mono ?_
    rintro e w2 ⟨rfl, b2⟩
    replace b2 := hide (below_then (unhide b1) b2)
    go_wp2
    go_ret
    exact ⟨rfl, unhide b2⟩
  · go_enter Tryz.func41, Tryz.ntmps41
    go_wp2_with fail
    refine (holds_ln _ (unhide H1) hn who (unhide hm).symm).mono ?_
    rintro e w1 ⟨rfl, b1⟩
    replace b1 := hide (below_then (below_new w _) b1)
    go_wp2
    go_ret
    exact ⟨rfl, unhide b1⟩
/-- How many of those that wait hold nothing. -/
def newD (H : List En) (Q : List En) : List En := Q.filter (fun y => lookD y.1 H == 0)
theorem new_succ (H Q : List En) (t : Nat) (ht : t < Q.length) : (newD H (Q.take (t + 1))).length = (newD H (Q.take t)).length + (if lookD (Q.getD t (0, 0)).1 H == 0 then 1 else 0) := by
  unfold newD
  rw [List.take_succ_eq_append_getElem ht, List.filter_append, List.length_append]
  have e : Q.getD t (0, 0) = Q[t] := by simp [List.getD, ht]
  rw [e]
  cases h : (lookD Q[t].1 H == 0) <;> simp [h]
theorem new_le (H Q : List En) : (newD H Q).length ≤ Q.length := List.length_filter_le _ _
/-- How many have a lock here. -/
def locksD (x : Lv) : Nat := x.1.length + (newD x.1 x.2).length
set_option maxRecDepth 100000 in
set_option maxHeartbeats 2000000 in
theorem locks_t (w : World) {x : Lv} {l : Nat} (h : Ln B x.1 x.2 l w) (hn : x.1.length < 1000000) (hq : x.2.length < 1000000) : Calls Tryz.prog 55 #[.agg #[.pointer (some ⟨l, 0, none⟩)]] w fun e w' => e = .returned (.int .i64 (locksD x : Nat)) ∧ Below w.heap.size w w' := by
  obtain ⟨H, Q⟩ := x
  have H1 := hide (h.next (below_new w (.cells #[.pointer (some ⟨l, 0, none⟩)] 78)))
  unfold locksD
  dsimp only at hn hq H1 ⊢
  clear h
  go_enter Tryz.func55, Tryz.ntmps55
  go_wp2_with fail
  refine (holders_ln _ (unhide H1) hn).mono ?_
  rintro e w1 ⟨v1, rfl, E1, b1⟩
  have H2 := hide ((unhide H1).next b1)
  have cb : w1.cell? ⟨w.heap.size, 0, none⟩ = some (.pointer (some ⟨l, 0, none⟩)) := (b1.cell (p := ⟨w.heap.size, 0, none⟩) (by simp)).trans (by rw [World.cell?_alloc_new]; rfl)
  have hbl : Hid (w.heap.size < w1.heap.size) := by have := b1.size; show _ < _; simp at this; omega
  obtain ⟨a1, n1, c1, rfl, hn1⟩ := slice_form' E1
  subst hn1
  clear E1
  replace b1 := hide (below_then (below_new w _) b1)
  go_wp2_with fail
  refine (queue_ln _ (unhide H2) hq).mono ?_
  rintro e w2 ⟨v2, rfl, E2, b2⟩
  have H3 := hide ((unhide H2).next b2)
  have CB := hide ((b2.cell (p := ⟨w.heap.size, 0, none⟩) (unhide hbl)).trans cb)
  have hbl2 : Hid (w.heap.size < w2.heap.size) := Nat.lt_of_lt_of_le (unhide hbl) b2.size
  replace b2 := hide (below_then (unhide b1) b2)
  obtain ⟨a2, n2, c2, rfl, hn2⟩ := slice_form' E2
  subst hn2
  replace E2 := hide E2
  clear cb
  go_wp2_with fail
  go_loopw [3, 14] (fun s3 s14 wr => ∃ t : Nat, t ≤ Q.length ∧ s3 = .int .i64 (H.length + (newD H (Q.take t)).length : Nat) ∧ s14 = .int .i64 t ∧ Hid (Below w2.heap.size w2 wr)) (fun _ s14 _ => Q.length - (intOf s14).toNat)
  case atStart => exact ⟨0, Nat.zero_le _, by simp [newD], rfl, Below.refl _ _⟩
  case round =>
    obtain ⟨t, ht, rfl, rfl, b3⟩ := hrel
    by_cases hlt : t < Q.length
    · obtain ⟨g, rfl, r⟩ : ∃ g, a2 = some ⟨g, 0, none⟩ ∧ Rb g c2 Q wr := by
        rcases (unhide E2).next (unhide b3) with ⟨_, e⟩ | ⟨g, cap', e, _, r⟩
        · rw [e] at hlt; simp at hlt
        · injection e with e1 _ e2
          subst e1 e2
          exact ⟨g, rfl, r⟩
      obtain ⟨y, hy⟩ : ∃ y, y = Q.getD t (0, 0) := ⟨_, rfl⟩
      have d1 : wr.cell? ⟨g, t * 2, none⟩ = some (.int .i64 y.1) := by rw [hy]; exact r.fst hlt
      have d2 : wr.cell? ⟨g, t * 2 + 1, none⟩ = some (.int .i64 y.2) := by rw [hy]; exact r.snd hlt
      have hns := hide (new_succ H Q t hlt)
      have hnle := Nat.le_trans (new_le H (Q.take t)) (List.length_take_le t Q)
      rw [← hy] at hns
      have H4 := hide (((unhide H3).next (unhide b3)).next (below_new wr (.cells #[.int .i64 y.1, .int .i64 y.2] 92)))
      have cb : (wr.alloc (.cells #[.int .i64 y.1, .int .i64 y.2] 92)).cell? ⟨w.heap.size, 0, none⟩ = some (.pointer (some ⟨l, 0, none⟩)) := (below_then (unhide b3) (below_new wr _)).cell (p := ⟨w.heap.size, 0, none⟩) (unhide hbl2) |>.trans (unhide CB)
      clear hy r
      obtain ⟨m, hm⟩ : ∃ m, m = lookD y.1 H := ⟨_, rfl⟩
      rw [← hm] at hns
      replace hm := hide hm
      generalize (newD H (List.take t Q)).length = c at hns hnle ⊢
      go_wp2_with fail
      refine (holds_ln _ (unhide H4) hn y.1 (unhide hm).symm).mono ?_
      rintro e w5 ⟨rfl, b5⟩
      replace b5 := hide (below_then (unhide b3) (below_then (below_new wr _) b5))
      clear d1 d2 cb
      cases hz : (m == 0)
      · rw [hz] at hns
        go_wp2
        go_roundw
        case rel => exact ⟨t + 1, by omega, by rw [unhide hns]; rfl, by go_num, unhide b5⟩
        case measure => simp [intOf]; omega
      · rw [hz] at hns
        go_wp2
        go_roundw
        case rel => exact ⟨t + 1, by omega, by rw [unhide hns]; go_num, by go_num, unhide b5⟩
        case measure => simp [intOf]; omega
    · obtain rfl : t = Q.length := by omega
      go_wp2
      go_ret
      exact ⟨by rw [List.take_length]; rfl, below_then (unhide b2) (unhide b3)⟩
end Go.Proofs.YtgiklggnolbiiaaGreat

/- What only reads a table: Len, Waits, Holds, Lane. -/
namespace Go.Proofs.YtgiklggnolbiiaaGreat
open Go.RowKit
variable {B n : Nat} {most : Int} {T : Nat → Lv} {b rb : Nat} {lb : Nat → Nat} {hv qv : Nat → Value}

/-- No lane holds more than k, nor do more than k wait there. -/
def Few (n k : Nat) (T : Nat → Lv) : Prop := ∀ i, i < n → (T i).1.length ≤ k ∧ (T i).2.length ≤ k
/-- How many locks there are, in the first m lanes. -/
def lenD (T : Nat → Lv) : Nat → Nat
  | 0 => 0
  | m + 1 => lenD T m + locksD (T m)
theorem len_le {T : Nat → Lv} {n k : Nat} (h : Few n k T) : ∀ m, m ≤ n → lenD T m ≤ m * (2 * k)
  | 0, _ => Nat.zero_le _
  | m + 1, hm => by
    have h1 := len_le h m (by omega)
    obtain ⟨h2, h3⟩ := h m (by omega)
    have h4 := new_le (T m).1 (T m).2
    have e : (m + 1) * (2 * k) = m * (2 * k) + 2 * k := Nat.succ_mul _ _
    rw [e]
    show lenD T m + locksD (T m) ≤ _
    unfold locksD
    omega
set_option maxRecDepth 100000 in
set_option maxHeartbeats 2000000 in
theorem len_t (w : World) (h : Tb B n most T b rb lb hv qv w) (hf : Few n 1000 T) (hn : n ≤ 10000) : Calls Tryz.prog 23 #[.pointer (some ⟨b, 0, none⟩)] w fun e w' => e = .returned (.int .i64 (lenD T n : Nat)) ∧ Below w.heap.size w w' := by
  have c0 := h.c0
  have HT := hide h
  clear h
  go_enter Tryz.func23, Tryz.ntmps23
  go_wp2_with fail
  clear c0
  go_loopw [3, 11] (fun s3 s11 wr => ∃ t : Nat, t ≤ n ∧ s3 = .int .i64 (lenD T t : Nat) ∧ s11 = .int .i64 t ∧ Hid (Below w.heap.size w wr)) (fun _ s11 _ => n - (intOf s11).toNat)
  case atStart => exact ⟨0, Nat.zero_le _, rfl, rfl, Below.refl _ _⟩
  case round =>
    obtain ⟨t, ht, rfl, rfl, b3⟩ := hrel
    by_cases hlt : t < n
    · have T3 := (unhide HT).next (unhide b3)
      have d1 := T3.at_ hlt
      obtain ⟨f1, f2⟩ := hf t hlt
      have hle := len_le hf t ht
      have hll : locksD (T t) ≤ 2000 := by have := new_le (T t).1 (T t).2; unfold locksD; omega
      have L4 := hide ((T3.ls.la t hlt).next (below_new wr (.cells #[.pointer (some ⟨lb t, 0, none⟩)] 78)))
      have hlen : Hid (lenD T (t + 1) = lenD T t + locksD (T t)) := rfl
      generalize lenD T t = c at hle hlen ⊢
      have hc : c ≤ 20000000 := by
        have : t * (2 * 1000) ≤ 10000 * (2 * 1000) := Nat.mul_le_mul_right _ (by omega)
        omega
      replace f1 := hide f1
      replace f2 := hide f2
      clear T3 hle
      go_wp2_with fail
      refine (locks_t _ ⟨_, _, unhide L4⟩ (by have := unhide f1; omega) (by have := unhide f2; omega)).mono ?_
      rintro e w5 ⟨rfl, b5⟩
      replace b5 := hide (below_then (unhide b3) (below_then (below_new wr _) b5))
      generalize locksD (T t) = l at hll hlen ⊢
      clear d1
      go_wp2
      go_roundw
      case rel => exact ⟨t + 1, by omega, by rw [unhide hlen]; go_num, by go_num, unhide b5⟩
      case measure => simp [intOf]; omega
    · obtain rfl : t = n := by omega
      go_wp2
      go_ret
      exact ⟨rfl, unhide b3⟩
/-- Nobody of that name waits. -/
def noneW (who : Int) (n : Nat) (T : Nat → Lv) : Prop := ∀ i, i < n → lookD who (T i).2 = 0
/-- It waits at i, and nowhere below. -/
def someW (who : Int) (n : Nat) (T : Nat → Lv) (i : Nat) : Prop := i < n ∧ lookD who (T i).2 ≠ 0 ∧ ∀ j, j < i → lookD who (T j).2 = 0
theorem waits_or (who : Int) (T : Nat → Lv) : ∀ n, noneW who n T ∨ ∃ i, someW who n T i
  | 0 => .inl fun i h => by omega
  | n + 1 => by
    rcases waits_or who T n with h | ⟨i, h1, h2, h3⟩
    · by_cases e : lookD who (T n).2 = 0
      · refine .inl fun i hi => ?_
        rcases (show i < n ∨ i = n by omega) with h4 | rfl
        · exact h i h4
        · exact e
      · exact .inr ⟨n, Nat.lt_succ_self n, e, h⟩
    · exact .inr ⟨i, by omega, h2, h3⟩
/-- The answer of Waits, s the first node where who waits (n: none). -/
def waitV (who : Int) (n : Nat) (T : Nat → Lv) (s : Nat) : Value := .tuple #[.agg #[.int .i64 (if s < n then (s : Int) else 0), .int .i64 (if s < n then lookD who (T s).2 else 0)], .bool (decide (s < n))]
theorem lock_cells {w : World} {p : Nat} {x y : Int} (h : w.heap[p]? = some (.cells #[.int .i64 x, .int .i64 y] 39 (0, 0))) : w.cell? ⟨p, 0, none⟩ = some (.int .i64 x) ∧ w.cell? ⟨p, 1, none⟩ = some (.int .i64 y) ∧ w.frozen? ⟨p, 0, none⟩ = false ∧ w.frozen? ⟨p, 1, none⟩ = false := by
  simp [World.cell?, World.frozen?, h]
set_option maxRecDepth 100000 in
set_option maxHeartbeats 2000000 in
theorem waits_t (w : World) (h : Tb B n most T b rb lb hv qv w) (hf : Few n 1000 T) (hn : n ≤ 10000) (who : Int) (s : Nat) (hs : s ≤ n) (h0 : ∀ j, j < s → lookD who (T j).2 = 0) (h1 : s < n → lookD who (T s).2 ≠ 0) :
    Calls Tryz.prog 13 #[.pointer (some ⟨b, 0, none⟩), .int .i64 who] w fun e w' => e = .returned (waitV who n T s) ∧ Below w.heap.size w w' := by
  have HT := hide h
  replace h0 := hide h0
  replace h1 := hide h1
  have c0 := (h.next (below_new w (.cells #[.int .i64 0, .int .i64 0] 39))).c0
  obtain ⟨W1, hW1⟩ : ∃ W1, W1 = w.alloc (.cells #[.int .i64 0, .int .i64 0] 39) := ⟨_, rfl⟩
  obtain ⟨p, hp⟩ : ∃ p, p = w.heap.size := ⟨_, rfl⟩
  have P1 : Hid (W1.heap[p]? = some (.cells #[.int .i64 0, .int .i64 0] 39 (0, 0))) := by rw [hW1, hp]; exact heap_alloc_new w _
  have B1 : Hid (Below w.heap.size w W1) := by rw [hW1]; exact below_new w _
  have hpl : Hid (p < W1.heap.size) := heap_lt (unhide P1)
  have hwp : Hid (w.heap.size = p) := hp.symm
  clear h
  go_enter Tryz.func13, Tryz.ntmps13
  go_wp2_with fail
  rw [← hW1, ← hp]
  replace hW1 := hide hW1
  replace hp := hide hp
  clear c0
  go_loopw [14] (fun s14 wr => ∃ t : Nat, t ≤ s ∧ s14 = .int .i64 t ∧ Hid (Below W1.heap.size W1 wr)) (fun s14 _ => n - (intOf s14).toNat)
  case atStart => exact ⟨0, Nat.zero_le _, rfl, Below.refl _ _⟩
  case round =>
    obtain ⟨t, ht, rfl, b3⟩ := hrel
    by_cases hlt : t < n
    · have T3 := (unhide HT).next (below_then (unhide B1) (unhide b3))
      have d1 := T3.at_ hlt
      obtain ⟨f1, f2⟩ := hf t hlt
      have L4 := hide ((T3.ls.la t hlt).next (below_new wr (.cells #[.pointer (some ⟨lb t, 0, none⟩)] 78)))
      replace f2 := hide f2
      obtain ⟨m, hm⟩ : ∃ m, m = lookD who (T t).2 := ⟨_, rfl⟩
      replace hm := hide hm
      clear T3 f1
      go_wp2_with fail
      refine (waits_ln _ ⟨_, _, unhide L4⟩ (by have := unhide f2; omega) who (unhide hm).symm).mono ?_
      rintro e w5 ⟨rfl, b5⟩
      replace b5 := hide (below_then (unhide b3) (below_then (below_new wr _) b5))
      clear d1
      by_cases hts : t = s
      · have hm0 : (m != 0) = true := by rw [unhide hm, hts]; simpa using unhide h1 (by omega)
        have hm1 : m ≠ 0 := by simpa using hm0
        have P5 := ((unhide b5).block p (unhide hpl)).trans (unhide P1)
        obtain ⟨k0, k1, k2, k3⟩ := lock_cells P5
        have PT : Hid (Below w.heap.size w ((w5.setCell ⟨p, 0, none⟩ (.int .i64 t)).setCell ⟨p, 1, none⟩ (.int .i64 m))) := ((below_then (unhide B1) (unhide b5)).setCell (p := ⟨p, 0, none⟩) (Nat.le_of_eq (unhide hwp)) _).setCell (p := ⟨p, 1, none⟩) (Nat.le_of_eq (unhide hwp)) _
        go_wp2
        (try simp only [Exit.inBlock, Exit.then])
        refine bodyPost_ret (v := waitV who n T s) ?_ rfl ⟨rfl, by have := unhide PT; rw [hts] at this; exact this⟩
        rw [results_cell_tmp rfl]
        unfold waitV
        rw [if_pos (by omega), if_pos (by omega), decide_eq_true (by omega : s < n), ← hts, ← unhide hm]
        go_simp
      · have hm0 : (m != 0) = false := by rw [unhide hm, unhide h0 t (by omega)]; rfl
        have hm1 : m = 0 := by simpa using hm0
        go_wp2
        go_roundw
        case rel => exact ⟨t + 1, by omega, by go_num, unhide b5⟩
        case measure => simp [intOf]; omega
    · obtain rfl : t = n := by omega
      obtain rfl : t = s := by omega
      have P5 := ((unhide b3).block p (unhide hpl)).trans (unhide P1)
      obtain ⟨k0, k1, k2, k3⟩ := lock_cells P5
      have PT : Hid (Below w.heap.size w ((wr.setCell ⟨p, 0, none⟩ (.int .i64 0)).setCell ⟨p, 1, none⟩ (.int .i64 0))) := ((below_then (unhide B1) (unhide b3)).setCell (p := ⟨p, 0, none⟩) (Nat.le_of_eq (unhide hwp)) _).setCell (p := ⟨p, 1, none⟩) (Nat.le_of_eq (unhide hwp)) _
      go_wp2
      (try simp only [Exit.inBlock, Exit.then])
      refine bodyPost_ret (v := waitV who t T t) ?_ rfl ⟨rfl, unhide PT⟩
      rw [results_cell_tmp rfl]
      unfold waitV
      rw [if_neg (by omega), if_neg (by omega), decide_eq_false (by omega : ¬ t < t)]
      go_simp
/-- The first node where who waits; n, if there is none. -/
def atW (who : Int) (T : Nat → Lv) : Nat → Nat
  | 0 => 0
  | n + 1 => if atW who T n = n then (if lookD who (T n).2 = 0 then n + 1 else n) else atW who T n
theorem atW_le (who : Int) (T : Nat → Lv) : ∀ n, atW who T n ≤ n
  | 0 => Nat.le_refl _
  | n + 1 => by
    have := atW_le who T n
    unfold atW
    split
    · split <;> omega
    · omega
theorem atW_low (who : Int) (T : Nat → Lv) : ∀ n, ∀ j, j < atW who T n → lookD who (T j).2 = 0
  | 0, j, h => by simp [atW] at h
  | n + 1, j, h => by
    have h1 := atW_low who T n
    unfold atW at h
    split at h
    · rename_i e
      split at h
      · rename_i e2
        rcases (show j < n ∨ j = n by omega) with h2 | rfl
        · exact h1 j (by omega)
        · exact e2
      · exact h1 j (by omega)
    · exact h1 j h
theorem atW_at (who : Int) (T : Nat → Lv) : ∀ n, atW who T n < n → lookD who (T (atW who T n)).2 ≠ 0
  | 0, h => by omega
  | n + 1, h => by
    have h1 := atW_at who T n
    have h2 := atW_le who T n
    unfold atW at h ⊢
    split
    · rename_i e
      rw [if_pos e] at h
      split
      · rename_i e2; rw [if_pos e2] at h; omega
      · rename_i e2; exact e2
    · rename_i e
      exact h1 (by omega)
theorem waits_tb (w : World) (h : Tb B n most T b rb lb hv qv w) (hf : Few n 1000 T) (hn : n ≤ 10000) (who : Int) :
    Calls Tryz.prog 13 #[.pointer (some ⟨b, 0, none⟩), .int .i64 who] w fun e w' => e = .returned (waitV who n T (atW who T n)) ∧ Below w.heap.size w w' :=
  waits_t w h hf hn who _ (atW_le who T n) (atW_low who T n) (atW_at who T n)
set_option maxRecDepth 100000 in
theorem holds_t (w : World) (h : Tb B n most T b rb lb hv qv w) (hf : Few n 1000 T) (who node : Int) (h0 : 0 ≤ node) (h1 : node < n) :
    Calls Tryz.prog 15 #[.pointer (some ⟨b, 0, none⟩), .int .i64 who, .int .i64 node] w fun e w' => e = .returned (.int .i64 (lookD who (T node.toNat).1)) ∧ Below w.heap.size w w' := by
  obtain ⟨k, rfl⟩ : ∃ k : Nat, node = (k : Int) := ⟨node.toNat, by omega⟩
  have hk : k < n := by omega
  have c0 := h.c0
  have d0 := h.at_ hk
  have K := hide (known_t w h (k : Int))
  have L := hide (h.ls.la k hk)
  have f1 := hide (hf k hk).1
  have e : (decide (0 ≤ (k : Int)) && decide ((k : Int) < n)) = true := by simp; omega
  rw [e] at K
  have e2 : (k : Int).toNat = k := rfl
  rw [e2]
  clear h e
  go_enter Tryz.func15, Tryz.ntmps15
  go_wp2_with fail
  refine (unhide K).mono ?_
  rintro e w1 ⟨rfl, rfl⟩
  go_wp2_with fail
  refine (holds_ln _ ⟨_, _, unhide L⟩ (by have := unhide f1; omega) who rfl).mono ?_
  rintro e w2 ⟨rfl, b2⟩
  replace b2 := hide b2
  clear c0 d0
  go_wp2
  go_ret
  exact ⟨rfl, unhide b2⟩
set_option maxRecDepth 100000 in
theorem lane_t (w : World) (h : Tb B n most T b rb lb hv qv w) (node : Int) (h0 : 0 ≤ node) (h1 : node < n) :
    Calls Tryz.prog 25 #[.pointer (some ⟨b, 0, none⟩), .int .i64 node] w fun e w' => e = .returned (.pointer (some ⟨lb node.toNat, 0, none⟩)) ∧ w' = w := by
  obtain ⟨k, rfl⟩ : ∃ k : Nat, node = (k : Int) := ⟨node.toNat, by omega⟩
  have hk : k < n := by omega
  have c0 := h.c0
  have d0 := h.at_ hk
  have K := hide (known_t w h (k : Int))
  have e : (decide (0 ≤ (k : Int)) && decide ((k : Int) < n)) = true := by simp; omega
  rw [e] at K
  have e2 : (k : Int).toNat = k := rfl
  rw [e2]
  clear h e
  go_enter Tryz.func25, Tryz.ntmps25
  go_wp2_with fail
  refine (unhide K).mono ?_
  rintro e w1 ⟨rfl, rfl⟩
  go_wp2
  go_ret
  exact ⟨rfl, rfl⟩
end Go.Proofs.YtgiklggnolbiiaaGreat

/- Rows of pairs of numbers, of any type; one pair more; two such rows held against each other. -/
namespace Go.Proofs.YtgiklggnolbiiaaGreat
open Go.RowKit

/-- The slice v: the pairs l, of type t, in a row of its own at or above B. -/
def Pr (t : TypeId) (B : Nat) (v : Value) (l : List En) (w : World) : Prop := w.ownsRow B t 2 v l.length (pairs l)
namespace Pr
variable {t : TypeId} {B : Nat} {v : Value} {l : List En} {w w' : World}
theorem nil (t : TypeId) (B : Nat) (w : World) : Pr t B (.slice none 0 0) [] w := World.ownsRow_nil w B t 2
theorem lt (h : Pr t B v l w) : ∀ g, v.ownBlock = some g → B ≤ g ∧ g < w.heap.size := World.ownsRow.lt h
theorem ty (h : Pr t B v l w) : ∀ g, v.ownBlock = some g → ∃ cur, w.heap[g]? = some (.cells cur t (0, 0)) := by
  rcases h.2 with ⟨rfl, _⟩ | ⟨g, cap, cur, rfl, _, hg, _⟩
  · intro k hk; cases hk
  · intro k hk
    obtain rfl : g = k := by simpa [Value.ownBlock] using hk
    exact ⟨_, hg⟩
theorem keep (h : Pr t B v l w) (k : ∀ g, v.ownBlock = some g → w'.heap[g]? = w.heap[g]?) : Pr t B v l w' := by
  refine ⟨h.1, ?_⟩
  rcases h.2 with h0 | ⟨g, cap, cur, rfl, hB, hg, r⟩
  · exact .inl h0
  · exact .inr ⟨g, cap, cur, rfl, hB, (k g rfl).trans hg, r⟩
theorem next (h : Pr t B v l w) (k : Below w.heap.size w w') : Pr t B v l w' := h.keep fun g hg => k.block g (h.lt g hg).2
theorem drewN (h : Pr t B v l w) (n : Nat) : Pr t B v l (w.drewN n) := h.keep fun _ _ => rfl
theorem down {B' : Nat} (h : Pr t B' v l w) (hB : B ≤ B') : Pr t B v l w := by
  refine ⟨h.1, ?_⟩
  rcases h.2 with h0 | ⟨g, cap, cur, rfl, hB', r⟩
  · exact .inl h0
  · exact .inr ⟨g, cap, cur, rfl, Nat.le_trans hB hB', r⟩
theorem form (h : Pr t B v l w) : ∃ a cap, v = .slice a l.length cap := by
  rcases h.2 with ⟨rfl, e⟩ | ⟨g, cap, cur, rfl, _⟩
  · exact ⟨none, 0, by rw [e]⟩
  · exact ⟨_, cap, rfl⟩
theorem elem {a : Option Addr} {n c : Nat} (h : Pr t B (.slice a n c) l w) {i : Nat} (hi : i < l.length) : ∃ g, a = some ⟨g, 0, none⟩ ∧ w.cell? ⟨g, i * 2, none⟩ = some (.int .i64 (l.getD i (0, 0)).1) ∧ w.cell? ⟨g, i * 2 + 1, none⟩ = some (.int .i64 (l.getD i (0, 0)).2) ∧ g < w.heap.size := by
  rcases h.2 with ⟨_, e⟩ | ⟨g, cap, cur, e, _, hg, _, _, _, hc⟩
  · omega
  · injection e with e1 _ _
    subst e1
    have key : ∀ j, j < l.length * 2 → w.cell? ⟨g, j, none⟩ = (pairs l)[j]? := fun j hj => by
      rw [← hc, List.getElem?_take_of_lt hj]
      simp [World.cell?, hg]
    exact ⟨g, rfl, by rw [key _ (by omega), pairs_fst l i hi], by rw [key _ (by omega), pairs_snd l i hi], heap_lt hg⟩
/-- Pairs lie in other blocks than a lane. -/
theorem moved {hv qv hv' qv' : Value} {B' b : Nat} {H Q : List En} (h : Pr t B' v l w) (k : La B H Q b hv qv w) (m : Mv b hv qv hv' qv' w w') (h1 : t ≠ 92) (h2 : t ≠ 96) : Pr t B' v l w' :=
  h.keep fun g hg => by
    obtain ⟨cur, hc⟩ := h.ty g hg
    rw [m.stays k hc h1 h2, hc]
end Pr
theorem inf53 : (Tryz.prog.info? 39).map (fun i => (i.zero, i.size, i.bytes)) = some (some (.agg #[.int .i64 0, .int .i64 0]), 2, 16) := by kernel_rfl
theorem inf69 : (Tryz.prog.info? 87).map (fun i => (i.zero, i.size, i.bytes)) = some (some (.agg #[.int .i64 0, .int .i64 0]), 2, 16) := by kernel_rfl
theorem pairs_all (x : En) : ∀ u ∈ pairs [x], u.oneCell' = true := pairs_one [x]
/-- One pair more, behind the others. -/
theorem wpList_pair (t st : TypeId) (ht : Tryz.prog.underlying st = some (.slice t)) (hinf : (Tryz.prog.info? t).map (fun i => (i.zero, i.size, i.bytes)) = some (some (.agg #[.int .i64 0, .int .i64 0]), 2, 16))
    (w : World) {ops : Array Oper} {rest : List Oper} {o : Oper} {a : Act} {Q : Exit → Act → World → Prop} (hgd : o.guard = none) (s x : Operand)
    (ho : o.op = .call { callee := .builtin .append, args := #[s, x], argTypes := #[st, st] }) (base : Nat) (ag : Option Addr) (n cg : Nat) (l : List En) (z : En)
    (N : Nat) (hs : a.eval s = .slice ag n cg) (hx : a.eval x = .slice (some ⟨N, 0, none⟩) 1 1) (hN : w.heap.size = N) (hn : l.length = n) (hown : Pr t base (.slice ag n cg) l w) (hb : base ≤ w.heap.size) (hm : n < 10000000)
    (h : ∀ g cap w', Pr t base (.slice (some ⟨g, 0, none⟩) (n + 1) cap) (l ++ [z]) w' → w.grownBy w' (Value.slice ag n cg).ownBlock → wpList Tryz.prog ops Q rest (a.put o.dst (.slice (some ⟨g, 0, none⟩) (n + 1) cap)) w') :
    wpList Tryz.prog ops Q (o :: rest) a (w.alloc (.cells #[.int .i64 z.1, .int .i64 z.2] t)) := by
  subst hN
  obtain ⟨i3, hi3, hz0, hz1, hz2⟩ := info_parts hinf
  have B5 := below_new w (.cells #[.int .i64 z.1, .int .i64 z.2] t)
  have G5 := hown.next B5
  have own5 : (w.alloc (.cells #[.int .i64 z.1, .int .i64 z.2] t)).ownsRow base t 2 (.slice ag n cg) n (pairs l) := by
    have := G5
    unfold Pr at this
    rw [hn] at this
    exact this
  refine wpList_append_lies _ hgd s x st ho base t i3 _ 2 16 ht hi3 hz0 hz1 hz2 rfl (by decide) _ n _ hs own5 ⟨w.heap.size, 0, none⟩ 1 1 (pairs [z]) hx rfl (World.news_of_block (heap_alloc_new w _)) (pairs_all z) (by decide) (by unfold maxLen; omega) (by omega) (Nat.le_trans hb B5.size) _ rfl ?_
  intro g cap w' a1 a2 _ _
  refine h g cap w' ?_ (grown_trans (grown_of_below B5 _) a2)
  unfold Pr
  rw [List.length_append, hn, pairs_app]
  exact a1
/-- What who holds in the first m lanes. -/
def heldD (who : Int) (T : Nat → Lv) : Nat → List En
  | 0 => []
  | m + 1 => if lookD who (T m).1 = 0 then heldD who T m else heldD who T m ++ [((m : Int), lookD who (T m).1)]
theorem held_len (who : Int) (T : Nat → Lv) : ∀ m, (heldD who T m).length ≤ m
  | 0 => Nat.le_refl _
  | m + 1 => by
    have := held_len who T m
    unfold heldD
    split
    · omega
    · rw [List.length_append]; simp; omega
theorem held_mem (who : Int) (T : Nat → Lv) : ∀ m, ∀ p ∈ heldD who T m, ∃ i, i < m ∧ p = ((i : Int), lookD who (T i).1)
  | 0, p, h => by cases h
  | m + 1, p, h => by
    have ih := held_mem who T m
    unfold heldD at h
    split at h
    · obtain ⟨i, h1, h2⟩ := ih p h
      exact ⟨i, by omega, h2⟩
    · rcases List.mem_append.1 h with h | h
      · obtain ⟨i, h1, h2⟩ := ih p h
        exact ⟨i, by omega, h2⟩
      · exact ⟨m, by omega, List.mem_singleton.1 h⟩
theorem held_srt (who : Int) (T : Nat → Lv) : ∀ m, (heldD who T m).Pairwise (fun a b => a.1 < b.1)
  | 0 => List.Pairwise.nil
  | m + 1 => by
    have ih := held_srt who T m
    unfold heldD
    split
    · exact ih
    · rw [List.pairwise_append]
      refine ⟨ih, List.pairwise_singleton _ _, fun x hx y hy => ?_⟩
      obtain ⟨i, h1, rfl⟩ := held_mem who T m x hx
      rw [List.mem_singleton.1 hy]
      show (i : Int) < (m : Int)
      omega
theorem held_same (who : Int) {T T' : Nat → Lv} : ∀ m, (∀ i, i < m → lookD who (T i).1 = lookD who (T' i).1) → heldD who T m = heldD who T' m
  | 0, _ => rfl
  | m + 1, h => by
    unfold heldD
    rw [held_same who m (fun i hi => h i (by omega)), h m (by omega)]
variable {B n : Nat} {most : Int} {T : Nat → Lv} {b rb : Nat} {lb : Nat → Nat} {hv qv : Nat → Value}
set_option maxRecDepth 100000 in
set_option maxHeartbeats 2000000 in
theorem held_t (w : World) (h : Tb B n most T b rb lb hv qv w) (hf : Few n 1000 T) (hn : n ≤ 10000) (who : Int) :
    Calls Tryz.prog 18 #[.pointer (some ⟨b, 0, none⟩), .int .i64 who] w fun e w' => ∃ v, e = .returned v ∧ Pr 39 w.heap.size v (heldD who T n) w' ∧ Below w.heap.size w w' := by
  have HT := hide h
  have c0 := h.c0
  clear h
  go_enter Tryz.func18, Tryz.ntmps18
  go_wp2_with fail
  clear c0
  go_loopw [5, 14] (fun s5 s14 wr => ∃ (t k : Nat) (ag : Option Addr) (cg : Nat), t ≤ n ∧ k ≤ t ∧ s5 = .slice ag k cg ∧ s14 = .int .i64 t ∧ Hid ((heldD who T t).length = k) ∧ Hid (Pr 39 w.heap.size (.slice ag k cg) (heldD who T t) wr) ∧ Hid (Below w.heap.size w wr)) (fun _ s14 _ => n - (intOf s14).toNat)
  case atStart => exact ⟨0, 0, none, 0, Nat.zero_le _, Nat.le_refl _, rfl, rfl, rfl, Pr.nil _ _ _, Below.refl _ _⟩
  case round =>
    obtain ⟨t, k, ag, cg, ht, hkt, rfl, rfl, hl, P3, b3⟩ := hrel
    by_cases hlt : t < n
    · have T3 := (unhide HT).next (unhide b3)
      have d1 := T3.at_ hlt
      obtain ⟨f1, f2⟩ := hf t hlt
      have L4 := hide ((T3.ls.la t hlt).next (below_new wr (.cells #[.pointer (some ⟨lb t, 0, none⟩)] 78)))
      replace f1 := hide f1
      obtain ⟨m, hm⟩ : ∃ m, m = lookD who (T t).1 := ⟨_, rfl⟩
      have hstep : Hid (heldD who T (t + 1) = if m = 0 then heldD who T t else heldD who T t ++ [((t : Int), m)]) := by show _ = _; rw [hm]; rfl
      replace hm := hide hm
      clear T3 f2
      go_wp2_with fail
      refine (holds_ln _ ⟨_, _, unhide L4⟩ (by have := unhide f1; omega) who (unhide hm).symm).mono ?_
      rintro e w5 ⟨rfl, b5⟩
      have B5 : Below wr.heap.size wr w5 := below_then (below_new wr _) b5
      have P5 := hide ((unhide P3).next B5)
      replace b5 := hide (below_then (unhide b3) B5)
      clear d1 B5
      by_cases h0 : m = 0
      · subst h0
        have e1 := unhide hstep
        rw [if_pos rfl] at e1
        replace e1 := hide e1
        go_wp2
        go_roundw
        case rel => exact ⟨t + 1, k, ag, cg, by omega, by omega, rfl, by go_num, by rw [unhide e1]; exact unhide hl, by rw [unhide e1]; exact unhide P5, unhide b5⟩
        case measure => simp [intOf]; omega
      · have e1 := unhide hstep
        rw [if_neg h0] at e1
        replace e1 := hide e1
        have hm0 : (m != 0) = true := by simpa using h0
        have hk9 : k < 10000000 := by omega
        go_wp2_with (at_builtin; refine wpList_pair 39 49 Tryz.underlying49 inf53 w5 rfl (.tmp 25) (.tmp 29) rfl w.heap.size ag k cg _ ((t : Int), m) _ rfl rfl rfl (unhide hl) (unhide P5) (unhide b5).size hk9 ?_; intro g7 cap7 w7 a1 a2; replace a1 := hide a1; replace a2 := hide a2)
        go_roundw
        case rel => exact ⟨t + 1, k + 1, some ⟨g7, 0, none⟩, cap7, by omega, by omega, rfl, by go_num, by
          show _ = _
          rw [unhide e1, List.length_append, unhide hl]; rfl, by rw [unhide e1]; exact unhide a1, (unhide b5).trans (grown_below (unhide a2) (unhide b5).size (fun j hj => ((unhide P5).lt j hj).1))⟩
        case measure => simp [intOf]; omega
    · obtain rfl : t = n := by omega
      go_wp2
      go_ret
      exact ⟨_, rfl, unhide P3, unhide b3⟩
end Go.Proofs.YtgiklggnolbiiaaGreat

/- The reference's lane: without. -/
namespace Go.Proofs.YtgiklggnolbiiaaGreat
open Go.RowKit

/-- All but one. -/
def fltD (who : Int) (l : List En) : List En := l.filter (fun y => y.1 != who)
theorem wo_succ (who : Int) (l : List En) (t : Nat) (ht : t < l.length) : fltD who (l.take (t + 1)) = fltD who (l.take t) ++ (if (l.getD t (0, 0)).1 != who then [l.getD t (0, 0)] else []) := by
  unfold fltD
  rw [List.take_succ_eq_append_getElem ht, List.filter_append]
  have e : l.getD t (0, 0) = l[t] := by simp [List.getD, ht]
  rw [e]
  cases h : (l[t].1 != who) <;> simp [h]
theorem wo_le (who : Int) (l : List En) : (fltD who l).length ≤ l.length := List.length_filter_le _ _
theorem inf63 : (Tryz.prog.info? 92).map (fun i => (i.zero, i.size, i.bytes)) = some (some (.agg #[.int .i64 0, .int .i64 0]), 2, 16) := by kernel_rfl
set_option maxRecDepth 100000 in
set_option maxHeartbeats 2000000 in
theorem rwithout_any (w : World) {B : Nat} {v : Value} {l : List En} (h : Es B v l w) (hn : l.length < 1000000) (who : Int) :
    Calls Tryz.prog 90 #[v, .int .i64 who] w fun e w' => ∃ v', e = .returned v' ∧ Pr 92 w.heap.size v' (fltD who l) w' ∧ Below w.heap.size w w' := by
  rcases h with ⟨rfl, rfl⟩ | ⟨g, cap, rfl, _, r⟩
  · go_enter Tryz.func90, Tryz.ntmps90
    go_wp2
    go_loop [5, 6] (fun s5 s6 => s5 = .slice none 0 0 ∧ s6 = .int .i64 0) (fun _ _ => 1)
    case atStart => exact ⟨rfl, rfl⟩
    case round =>
      obtain ⟨rfl, rfl⟩ := hrel
      go_wp2
      go_ret
      exact ⟨_, rfl, Pr.nil _ _ _, Below.refl _ _⟩
  · have R := hide r
    clear r
    go_enter Tryz.func90, Tryz.ntmps90
    go_wp2
    go_loopw [5, 6] (fun s5 s6 wr => ∃ (t k : Nat) (ag : Option Addr) (cg : Nat), t ≤ l.length ∧ k ≤ t ∧ s5 = .slice ag k cg ∧ s6 = .int .i64 t ∧ Hid ((fltD who (l.take t)).length = k) ∧ Hid (Pr 92 w.heap.size (.slice ag k cg) (fltD who (l.take t)) wr) ∧ Hid (Below w.heap.size w wr)) (fun _ s6 _ => l.length - (intOf s6).toNat)
    case atStart => exact ⟨0, 0, none, 0, Nat.zero_le _, Nat.le_refl _, rfl, rfl, rfl, Pr.nil _ _ _, Below.refl _ _⟩
    case round =>
      obtain ⟨t, k, ag, cg, ht, hkt, rfl, rfl, hl, P3, b3⟩ := hrel
      by_cases hlt : t < l.length
      · obtain ⟨y, hy⟩ : ∃ y, y = l.getD t (0, 0) := ⟨_, rfl⟩
        have r3 := (unhide R).next (unhide b3)
        have d1 : wr.cell? ⟨g, t * 2, none⟩ = some (.int .i64 y.1) := by rw [hy]; exact r3.fst hlt
        have d2 : wr.cell? ⟨g, t * 2 + 1, none⟩ = some (.int .i64 y.2) := by rw [hy]; exact r3.snd hlt
        have hs := wo_succ who l t hlt
        rw [← hy] at hs
        clear r3 hy
        cases hq : (y.1 != who)
        · rw [hq, if_neg (by decide), List.append_nil] at hs
          replace hs := hide hs
          go_wp2
          go_roundw
          case rel => exact ⟨t + 1, k, ag, cg, by omega, by omega, rfl, by go_num, by rw [unhide hs]; exact unhide hl, by rw [unhide hs]; exact unhide P3, unhide b3⟩
          case measure => simp [intOf]; omega
        · rw [hq, if_pos rfl] at hs
          replace hs := hide hs
          have hk9 : k < 10000000 := by omega
          go_wp2_with (at_builtin; refine wpList_pair 92 58 Tryz.underlying58 inf63 wr rfl (.tmp 20) (.tmp 25) rfl w.heap.size ag k cg _ y _ rfl rfl rfl (unhide hl) (unhide P3) (unhide b3).size hk9 ?_; intro g7 cap7 w7 a1 a2; replace a1 := hide a1; replace a2 := hide a2)
          go_roundw
          case rel => exact ⟨t + 1, k + 1, some ⟨g7, 0, none⟩, cap7, by omega, by omega, rfl, by go_num, by
            show _ = _
            rw [unhide hs, List.length_append, unhide hl]; rfl, by rw [unhide hs]; exact unhide a1, (unhide b3).trans (grown_below (unhide a2) (unhide b3).size (fun j hj => ((unhide P3).lt j hj).1))⟩
          case measure => simp [intOf]; omega
      · obtain rfl : t = l.length := by omega
        have P4 : Hid (Pr 92 w.heap.size (.slice ag k cg) (fltD who l) wr) := by have := unhide P3; rw [List.take_length] at this; exact this
        go_wp2
        go_ret
        exact ⟨_, rfl, unhide P4, unhide b3⟩
/-- Where each is there once, it is to take that one out. -/
theorem flt_once {who : Int} : ∀ {l : List En}, Once l → fltD who l = out1 who l
  | [], _ => rfl
  | x :: r, h => by
    obtain ⟨h1, h2⟩ := List.pairwise_cons.1 h
    unfold fltD out1
    by_cases e : x.1 = who
    · have e1 : (x.1 != who) = false := by simp [e]
      have e2 : isWho who x = true := by simp [isWho, e]
      rw [List.filter_cons, e1, if_neg (by decide), List.eraseP_cons, e2]
      show List.filter _ r = r
      rw [List.filter_eq_self]
      intro y hy
      have := h1 y hy
      simp
      exact fun e3 => this (by rw [e, e3])
    · have e1 : (x.1 != who) = true := by simp [e]
      have e2 : isWho who x = false := by simp [isWho, e]
      rw [List.filter_cons, e1, if_pos rfl, List.eraseP_cons, e2]
      show x :: fltD who r = x :: out1 who r
      rw [flt_once h2]
end Go.Proofs.YtgiklggnolbiiaaGreat

/- The reference: SameEntries of two equal rows. -/
namespace Go.Proofs.YtgiklggnolbiiaaGreat
open Go.RowKit

theorem es_elem {B n : Nat} {a : Option Addr} {c : Nat} {l : List En} {W : World} (h : Es B (.slice a n c) l W) {i : Nat} (hi : i < l.length) : ∃ g, a = some ⟨g, 0, none⟩ ∧ W.cell? ⟨g, i * 2, none⟩ = some (.int .i64 (l.getD i (0, 0)).1) ∧ W.cell? ⟨g, i * 2 + 1, none⟩ = some (.int .i64 (l.getD i (0, 0)).2) := by
  rcases h with ⟨_, e⟩ | ⟨g, cap, e, _, r⟩
  · rw [e] at hi; simp at hi
  · injection e with e1 _ _
    exact ⟨g, e1, r.fst hi, r.snd hi⟩
set_option maxRecDepth 100000 in
set_option maxHeartbeats 1000000 in
/-- SameEntries of two equal ones. -/
theorem rsame_yes (u v : Value) (l : List En) {B B' : Nat} (w : World) (hu : Es B u l w) (hv : Es B' v l w) (hn : l.length < 1000000) :
    Calls Tryz.prog 26 #[u, v] w fun e w' => e = .returned (.bool true) ∧ Below w.heap.size w w' := by
  obtain ⟨a1, c1, rfl⟩ := slice_form hu
  obtain ⟨a2, c2, rfl⟩ := slice_form hv
  replace hu := hide hu
  replace hv := hide hv
  go_enter Tryz.func26, Tryz.ntmps26
  go_wp2_with fail
  go_loopw [5] (fun s wr => ∃ i : Nat, i ≤ l.length ∧ s = .int .i64 i ∧ Hid (Below w.heap.size w wr)) (fun s _ => l.length - (intOf s).toNat)
  case atStart => exact ⟨0, Nat.zero_le _, rfl, Below.refl _ _⟩
  case round =>
    obtain ⟨i, hi, rfl, b3⟩ := hrel
    by_cases hlt : i < l.length
    · obtain ⟨g1, rfl, d1, d2⟩ := es_elem ((unhide hu).next (unhide b3)) hlt
      obtain ⟨g2, rfl, d3, d4⟩ := es_elem ((unhide hv).next (unhide b3)) hlt
      obtain ⟨x, hx⟩ : ∃ x, x = l.getD i (0, 0) := ⟨_, rfl⟩
      rw [← hx] at d1 d2 d3 d4
      replace hx := hide hx
      obtain ⟨x1, x2⟩ := x
      dsimp only at d1 d2 d3 d4
      go_wp2_with fail
      go_region
      all_goals
        go_wp2
        go_roundw
        case rel => exact ⟨i + 1, by omega, by go_num, (unhide b3).drew⟩
        case measure => simp [intOf]; omega
    · obtain rfl : i = l.length := by omega
      go_wp2
      go_ret
      exact ⟨rfl, unhide b3⟩
end Go.Proofs.YtgiklggnolbiiaaGreat

/- A region of open order whose last operation writes what its loads have read: a condition on the world that is asked for as long as that one has not come up. -/
namespace Go.Proofs.YtgiklggnolbiiaaGreat
open Go.RowKit

section
variable {P : Program} {ops : Array Oper} {Q : Exit → Act → World → Prop} {md : Region.Mode} {S : World → Prop} {z : Nat}
/-- As long as z has not come up S holds behind each operation. -/
def Lw (P : Program) (md : Region.Mode) (ops : Array Oper) (Q : Exit → Act → World → Prop) (S : World → Prop) (z : Nat) : Nat → Array Bool → Act → World → Prop
  | 0, l, a, w => Region.ready md ops l = [] ∧ Q .normal a w
  | n + 1, l, a, w => (Region.ready md ops l = [] → Q .normal a w) ∧ ∀ i ∈ Region.ready md ops l, wpOp P ops Q i (fun b u => ((l.setIfInBounds i true).getD z false = false → S u) ∧ Lw P md ops Q S z n (l.setIfInBounds i true) b u) a w
theorem Lw.any : ∀ (n : Nat) (l : Array Bool) (a : Act) (w : World), Lw P md ops Q S z n l a w → wpAny P md ops Q n l a w
  | 0, _, _, _, h => h
  | n + 1, _, _, _, h => ⟨h.1, fun i hi => wpOp_mono (fun b u k => Lw.any n _ b u k.2) (h.2 i hi)⟩
/-- Whoever has come up came behind all that it waits for. -/
def Cld (md : Region.Mode) (ops : Array Oper) (l : Array Bool) : Prop := ∀ j o, ops[j]? = some o → l.getD j false = true → ∀ e ∈ o.after, Region.binds md e = true → l.getD e.on false = true
theorem Cld.none (n : Nat) : Cld md ops (Array.replicate n false) := fun j o _ hl => by
  exfalso
  by_cases h : j < n <;> simp [h] at hl
theorem Cld.step {l : Array Bool} {j : Nat} (h : Cld md ops l) (hj : j ∈ Region.ready md ops l) : Cld md ops (l.setIfInBounds j true) := fun k o ho hl e he hb => by
  obtain ⟨_, oj, hoj, hall⟩ := mem_ready.1 hj
  by_cases hk : j = k
  · subst hk
    rw [ho] at hoj
    cases hoj
    exact getD_set_true (hall e he hb)
  · rw [getD_set_ne false hk] at hl
    exact getD_set_true (h k o ho hl e he hb)
/-- Each waits for the one ahead of it. -/
def pthB (md : Region.Mode) (ops : Array Oper) : List Nat → Bool
  | a :: b :: r => (match ops[b]? with
      | some o => o.after.any (fun e => Region.binds md e && e.on == a)
      | none => false) && pthB md ops (b :: r)
  | _ => true
theorem pth_un : ∀ (ps : List Nat) (a : Nat) {l : Array Bool}, Cld md ops l → pthB md ops (a :: ps) = true → l.getD a false = false → l.getD ((a :: ps).getLast (by simp)) false = false
  | [], a, _, _, _, h => h
  | b :: r, a, l, hc, hp, h => by
    unfold pthB at hp
    rw [Bool.and_eq_true] at hp
    have hb : l.getD b false = false := by
      cases hl : l.getD b false
      · rfl
      · exfalso
        cases ho : ops[b]? with
        | none => rw [ho] at hp; exact absurd hp.1 (by simp)
        | some o =>
          rw [ho] at hp
          obtain ⟨e, he, hk⟩ := Array.any_eq_true'.1 hp.1
          rw [Bool.and_eq_true, beq_iff_eq] at hk
          have := hc b o ho hl e he hk.1
          rw [hk.2, h] at this
          cases this
    have := pth_un r b hc hp.2 hb
    simpa using this
theorem unl {l : Array Bool} {i : Nat} (h : l.getD i true = false) : l.getD i false = false := by
  by_cases hi : i < l.size
  · simpa [hi] using h
  · simp [Array.getElem?_eq_none (show l.size ≤ i by omega)] at h
/-- One that yields its value wherever S holds, and that z waits for, may be taken first. -/
theorem Lw.first {i : Nat} {o : Oper} {v : Value} (ps : List Nat) (hps : pthB md ops (i :: ps) = true) (hz : (i :: ps).getLast (by simp) = z) (hiz : i ≠ z) (hi : ops[i]? = some o) (hs : Region.noSelect ops = true)
    (hQ : ∀ c a w, Q (.panic c) (a.put o.dst v) w → Q (.panic c) a w) : ∀ (n : Nat) (l : Array Bool) (a : Act) (w : World),
      (∀ j oj, ops[j]? = some oj → j ≠ i → l.getD j true = false → (∀ e ∈ oj.after, Region.binds md e = true → e.on ≠ i) → o.apart ops oj = true) →
      i ∈ Region.ready md ops l → Cld md ops l → YieldsIf P ops S o v a → S w → Lw P md ops Q S z n (l.setIfInBounds i true) (a.put o.dst v) w → Lw P md ops Q S z (n + 1) l a w := by
  intro n
  induction n with
  | zero =>
    intro l a w _ hr _ hy hS H
    refine ⟨fun h => (by rw [h] at hr; cases hr), fun j hj => ?_⟩
    by_cases e : j = i
    · subst e; exact hy.wpOp hi hS ⟨fun _ => hS, H⟩
    · have := ready_mono hj e
      rw [H.1] at this
      cases this
  | succ n ih =>
    intro l a w hf hr hc hy hS H
    refine ⟨fun h => (by rw [h] at hr; cases hr), fun j hj => ?_⟩
    by_cases e : j = i
    · subst e; exact hy.wpOp hi hS ⟨fun _ => hS, H⟩
    · obtain ⟨hju, oj, hoj, hall⟩ := mem_ready.1 hj
      have hni : ∀ e ∈ oj.after, Region.binds md e = true → e.on ≠ i := fun e he hb heq => by
        have h1 := hall e he hb
        rw [heq, unl (mem_ready.1 hr).1] at h1
        cases h1
      have h2 := wpOp_putIf hoj (hf j oj hoj e hju hni) (fun cs b => Region.noSelect_spec hs i o cs b hi) (fun cs b => Region.noSelect_spec hs j oj cs b hoj) hQ hy (H.2 j (ready_mono hj e))
      have hr2 := ready_mono hr (Ne.symm e)
      have hc2 := hc.step hj
      have hzu : (l.setIfInBounds j true).getD z false = false := by
        rw [← hz]
        exact pth_un ps i hc2 hps (unl (mem_ready.1 hr2).1)
      have hzu2 : ((l.setIfInBounds i true).setIfInBounds j true).getD z false = false := by
        rw [Array.setIfInBounds_comm _ _ (Ne.symm e), getD_set_ne false hiz]
        exact hzu
      have hf2 : ∀ k ok, ops[k]? = some ok → k ≠ i → (l.setIfInBounds j true).getD k true = false → (∀ e ∈ ok.after, Region.binds md e = true → e.on ≠ i) → o.apart ops ok = true := fun k ok hk hki hun hno => by
        refine hf k ok hk hki ?_ hno
        by_cases hjk : j = k
        · subst hjk; exact hju
        · rw [getD_set_ne true hjk] at hun; exact hun
      refine wpOp_mono (fun b u h3 => ⟨fun _ => h3.2.1 hzu2, ih (l.setIfInBounds j true) b u hf2 hr2 hc2 h3.1 (h3.2.1 hzu2) ?_⟩) h2
      rw [Array.setIfInBounds_comm _ _ e]
      exact h3.2.2
theorem Lw.take {i : Nat} {o : Oper} {v : Value} {n : Nat} {l : Array Bool} {a : Act} {w : World} (ps : List Nat) (hps : pthB md ops (i :: ps) = true) (hz : (i :: ps).getLast (by simp) = z) (hiz : i ≠ z) (hi : ops[i]? = some o) (hs : Region.noSelect ops = true) (hf : Region.free md ops l i = true)
    (hr : (Region.ready md ops l).contains i = true) (hQ : ∀ c a w, Q (.panic c) (a.put o.dst v) w → Q (.panic c) a w) (hc : Cld md ops l) (hy : YieldsIf P ops S o v a) (hS : S w)
    (h : Cld md ops (l.setIfInBounds i true) → Lw P md ops Q S z n (l.setIfInBounds i true) (a.put o.dst v) w) : Lw P md ops Q S z (n + 1) l a w :=
  Lw.first ps hps hz hiz hi hs hQ n l a w (Region.free_spec hi hf) (by simpa using hr) hc hy hS (h (hc.step (by simpa using hr)))
theorem Lw.begin {id : Nat} {a : Act} {w : World} (z : Nat) (S : World → Prop) (hm : P.follows .mixedOrders = true) (hS : S w.drew)
    (h : S w.drew → Cld .any ops (Array.replicate ops.size false) → Lw P .any ops Q S z ops.size (Array.replicate ops.size false) a w.drew) : (Code.region id ops true).wp P Q a w :=
  wp_region_any hm (Lw.any _ _ _ _ (h hS (Cld.none _)))
theorem Lw.done {l : Array Bool} {a : Act} {w : World} (hr : Region.ready md ops l = []) (h : Q .normal a w) : ∀ n, Lw P md ops Q S z n l a w
  | 0 => ⟨hr, h⟩
  | _ + 1 => ⟨fun _ => h, by rw [hr]; simp⟩
/-- Each of some comes up next. -/
def Nxt1 (P : Program) (md : Region.Mode) (ops : Array Oper) (Q : Exit → Act → World → Prop) (S : World → Prop) (z n : Nat) (l : Array Bool) (a : Act) (w : World) (rs : List Nat) : Prop :=
  ∀ i ∈ rs, wpOp P ops Q i (fun b u => ((l.setIfInBounds i true).getD z false = false → S u) ∧ Lw P md ops Q S z n (l.setIfInBounds i true) b u) a w
theorem Lw.ready {rs : List Nat} {n : Nat} {l : Array Bool} {a : Act} {w : World} (hr : Region.ready md ops l = rs) (hne : rs ≠ []) (hc : Cld md ops l) (h : Cld md ops l → Nxt1 P md ops Q S z n l a w rs) : Lw P md ops Q S z (n + 1) l a w :=
  ⟨fun h0 => absurd (hr ▸ h0) hne, hr ▸ h hc⟩
theorem Nxt1.nil {n : Nat} {l : Array Bool} {a : Act} {w : World} : Nxt1 P md ops Q S z n l a w [] := fun _ h => by cases h
theorem Nxt1.cons {n : Nat} {l : Array Bool} {a : Act} {w : World} {i : Nat} {o : Oper} {rs : List Nat} (ho : ops[i]? = some o) (hr : (Region.ready md ops l).contains i = true) (hc : Cld md ops l)
    (h : ∀ K : Act → World → Prop, Hid (∀ a w, ((l.setIfInBounds i true).getD z false = false → S w) → (((l.setIfInBounds i true).getD z false = false → S w) → Cld md ops (l.setIfInBounds i true) → Lw P md ops Q S z n (l.setIfInBounds i true) a w) → K a w) → if Region.wanted o (yielded ops a.tmps) = true then Oper.wp P o a w K Q else K (a.put o.dst undef) w)
    (hs : Nxt1 P md ops Q S z n l a w rs) : Nxt1 P md ops Q S z n l a w (i :: rs) := fun j hj => by
  rcases List.mem_cons.1 hj with rfl | hj
  · exact wpOp_step ho (fun K hK => h K (fun a w hS hW => hK a w ⟨hS, hW hS (hc.step (by simpa using hr))⟩))
  · exact hs j hj
end
end Go.Proofs.YtgiklggnolbiiaaGreat

/- A new table. -/
namespace Go.Proofs.YtgiklggnolbiiaaGreat
open Go.RowKit

/-- Nothing anywhere. -/
def none0 : Nat → Lv := fun _ => ([], [])
/-- The lanes so far: j of them, of the row of n that lies in block rb. -/
structure Nw (B n rb j : Nat) (lb : Nat → Nat) (w : World) : Prop where
  row : ∃ cur, w.heap[rb]? = some (.cells cur 78 (0, 0)) ∧ cur.size = n ∧ ∀ i, i < j → cur[i]? = some (.pointer (some ⟨lb i, 0, none⟩))
  ls : Ls B j none0 lb (fun _ => .slice none 0 0) (fun _ => .slice none 0 0) w
  rB : B ≤ rb
theorem nw_start {B n rb : Nat} {w : World} {cur : Array Value} (h : w.heap[rb]? = some (.cells cur 78 (0, 0))) (hc : cur.size = n) (hB : B ≤ rb) : Nw B n rb 0 (fun _ => 0) w :=
  ⟨⟨cur, h, hc, fun i hi => by omega⟩, ⟨fun i hi => by omega, fun i j hi => by omega, fun i j hi => by omega⟩, hB⟩
theorem La.set95 {B b rb j : Nat} {H Q : List En} {hv qv : Value} {w : World} {cur : Array Value} (l : La B H Q b hv qv w) (h : w.heap[rb]? = some (.cells cur 78 (0, 0))) (v : Value) : La B H Q b hv qv (w.setCell ⟨rb, j, none⟩ v) := by
  refine ⟨(set_other _ _ _ _ _ (fun e => ?_)).trans l.blk, l.hr.keep fun g hg => set_other _ _ _ _ _ (fun e => es_ne l.hr h (by decide) (by rw [← e]; exact hg)), l.qr.keep fun g hg => set_other _ _ _ _ _ (fun e => es_ne l.qr h (by decide) (by rw [← e]; exact hg)), l.dq, l.bB, l.srt⟩
  rw [← e, l.blk] at h
  cases h
theorem nw_step {B n rb j : Nat} {lb : Nat → Nat} {w w' : World} (h : Nw B n rb j lb w) (hj : j < n) (L : La w.heap.size [] [] w.heap.size (.slice none 0 0) (.slice none 0 0) w') (k : Below w.heap.size w w') :
    Nw B n rb (j + 1) (set1 lb j w.heap.size) (w'.setCell ⟨rb, j, none⟩ (.pointer (some ⟨w.heap.size, 0, none⟩))) ∧ (∃ x, w'.cell? ⟨rb, j, none⟩ = some x) ∧ w'.frozen? ⟨rb, j, none⟩ = false := by
  obtain ⟨⟨cur, h1, h2, h3⟩, hl, hB⟩ := h
  have hrl := heap_lt h1
  have h1' := (k.block rb hrl).trans h1
  have hset : (w'.setCell ⟨rb, j, none⟩ (.pointer (some ⟨w.heap.size, 0, none⟩))).heap[rb]? = some (.cells (cur.set! j (.pointer (some ⟨w.heap.size, 0, none⟩))) 78 (0, 0)) := by
    show (w'.heap.modify rb _)[rb]? = _
    rw [Array.getElem?_modify, if_pos rfl, h1']; rfl
  have hjc : j < cur.size := by omega
  have L2 : La B [] [] w.heap.size (.slice none 0 0) (.slice none 0 0) w' := ⟨L.blk, .inl ⟨rfl, rfl⟩, .inl ⟨rfl, rfl⟩, fun k hk => (by cases hk), by omega, List.Pairwise.nil⟩
  refine ⟨⟨⟨_, hset, by simp [h2], fun i hi => ?_⟩, ⟨fun i hi => ?_, fun i i' hi hi' e => ?_, fun i i' _ _ _ g hg => ?_⟩, hB⟩, ⟨cur[j], by simp [World.cell?, h1', hjc]⟩, by simp [World.frozen?, h1']⟩
  · by_cases e : i = j
    · subst e
      rw [set1_same]
      simp [hjc]
    · rw [set1_other lb _ e, ← h3 i (by omega)]
      simp [Ne.symm e]
  · by_cases e : i = j
    · subst e
      rw [set1_same]
      exact L2.set95 h1' _
    · rw [set1_other lb _ e]
      exact ((hl.la i (by omega)).next k).set95 h1' _
  · by_cases e1 : i = j
    · by_cases e2 : i' = j
      · omega
      · subst e1
        rw [set1_same, set1_other lb _ e2] at e
        have := (hl.la i' (by omega)).lt
        omega
    · by_cases e2 : i' = j
      · subst e2
        rw [set1_same, set1_other lb _ e1] at e
        have := (hl.la i (by omega)).lt
        omega
      · rw [set1_other lb _ e1, set1_other lb _ e2] at e
        exact hl.inj i i' (by omega) (by omega) e
  · rcases hg with hg | hg <;> cases hg
theorem nw_end {B n rb : Nat} {most : Int} {lb : Nat → Nat} {w : World} (h : Nw B n rb n lb w) (hBw : B ≤ w.heap.size) : Tb B n most none0 w.heap.size rb lb (fun _ => .slice none 0 0) (fun _ => .slice none 0 0) (w.alloc (.cells #[.slice (some ⟨rb, 0, none⟩) n n, .int .i64 most] 46)) := by
  have bn := below_new w (.cells #[.slice (some ⟨rb, 0, none⟩) n n, .int .i64 most] 46)
  obtain ⟨⟨cur, h1, _, h3⟩, hl, hB⟩ := h
  exact ⟨heap_alloc_new w _, ⟨cur, (bn.block rb (heap_lt h1)).trans h1, h3⟩, hl.next bn, hBw, hB⟩
theorem zero95 : (Tryz.prog.info? 78).map (fun i => (i.zero, i.size, i.bytes)) = some (some (.agg #[.pointer none]), 1, 8) := by kernel_rfl
theorem make95 (n : Nat) (hn : n ≤ 10000) (w : World) : (Instr.makeSlice 42 (.int .i64 (n : Int)) (.int .i64 (n : Int))).run Tryz.prog w = .ok (.slice (some ⟨w.heap.size, 0, none⟩) n n) (w.alloc (.cells (madeCells #[.pointer none] n) 78)) := by
  obtain ⟨i, hi, hz, hs, hb⟩ := info_parts zero95
  have := run_makeSlice (P := Tryz.prog) w 42 78 i _ Tryz.underlying42 hi hz .i64 .i64 (n : Int) (n : Int) (by omega) (Int.le_refl _) (by rw [hs]; omega) (by rw [hb]; omega) (by omega)
  simp only [Int.toNat_natCast, hs, Nat.mul_one] at this
  exact this
set_option maxRecDepth 100000 in
set_option maxHeartbeats 2000000 in
theorem newt_t (n : Nat) (most : Int) (w : World) (h1 : 1 ≤ n) (h2 : n ≤ 10000) (h3 : 1 ≤ most) (h4 : most ≤ 4096) :
    Calls Tryz.prog 6 #[.int .i64 (n : Int), .int .i64 most] w fun e w' => ∃ b rb lb, e = .returned (.tuple #[.pointer (some ⟨b, 0, none⟩), .int .i64 0]) ∧ Tb w.heap.size n most none0 b rb lb (fun _ => .slice none 0 0) (fun _ => .slice none 0 0) w' ∧ Below w.heap.size w w' := by
  have hmk := make95 n h2
  obtain ⟨W1, hW1⟩ : ∃ W1, W1 = w.alloc (.cells (madeCells #[.pointer none] n) 78) := ⟨_, rfl⟩
  obtain ⟨rb, hrb⟩ : ∃ rb, rb = w.heap.size := ⟨_, rfl⟩
  have N1 : Hid (Nw w.heap.size n rb 0 (fun _ => 0) W1) := by rw [hW1, hrb]; exact nw_start (heap_alloc_new w _) (by simp [size_madeCells]) (Nat.le_refl _)
  have B1 : Hid (Below w.heap.size w W1) := by rw [hW1]; exact below_new w _
  have hh1 : (n : Int) ≥ 1 := by omega
  have hh2 : (n : Int) ≤ 10000 := by omega
  go_enter Tryz.func6, Tryz.ntmps6
  go_wp2_with fail
  rw [← hW1, ← hrb]
  replace hW1 := hide hW1
  replace hrb := hide hrb
  clear hmk
  go_loopw [26] (fun s26 wr => ∃ (t : Nat) (lb : Nat → Nat), t ≤ n ∧ s26 = .int .i64 t ∧ Hid (Nw w.heap.size n rb t lb wr) ∧ Hid (Below w.heap.size w wr)) (fun s26 _ => n - (intOf s26).toNat)
  case atStart => exact ⟨0, _, Nat.zero_le _, rfl, unhide N1, unhide B1⟩
  case round =>
    obtain ⟨t, lb, ht, rfl, N3, b3⟩ := hrel
    by_cases hlt : t < n
    · go_wp2_with fail
      refine (new_any wr).mono ?_
      rintro e w5 ⟨rfl, L5, b5⟩
      obtain ⟨N5, ⟨x, k1⟩, k2⟩ := nw_step (unhide N3) hlt L5 b5
      have b6 := hide ((below_then (unhide b3) b5).setCell (p := ⟨rb, t, none⟩) (unhide N3).rB (.pointer (some ⟨wr.heap.size, 0, none⟩)))
      replace N5 := hide N5
      clear L5 b5
      go_wp2
      go_roundw
      case rel => exact ⟨t + 1, _, by omega, by go_num, unhide N5, unhide b6⟩
      case measure => simp [intOf]; omega
    · obtain rfl : t = n := by omega
      have E3 := hide (nw_end (most := most) (unhide N3) (unhide b3).size)
      have b6 := hide (below_add (unhide b3) (.cells #[.slice (some ⟨rb, 0, none⟩) t t, .int .i64 most] 46))
      go_wp2
      go_ret2
      exact ⟨_, rfl, ⟨_, _, unhide E3⟩, unhide b6⟩
set_option maxRecDepth 100000 in
theorem newt_bad (n most : Int) (w : World) (h : n < 1 ∨ (n ≤ 10000 ∧ 1 ≤ n ∧ most < 1) ∨ 10000 < n ∨ (1 ≤ n ∧ n ≤ 10000 ∧ 4096 < most)) :
    Calls Tryz.prog 6 #[.int .i64 n, .int .i64 most] w fun e w' => e = .returned (.tuple #[.pointer none, .int .i64 1]) ∧ w' = w := by
  rcases h with h | ⟨h, h2, h3⟩ | h | ⟨h, h2, h3⟩
  all_goals
    go_enter Tryz.func6, Tryz.ntmps6
    go_wp2
    go_ret2
    exact ⟨rfl, rfl⟩
end Go.Proofs.YtgiklggnolbiiaaGreat

/- A region that draws its order, whose callees make memory but turn nothing that lies: one walk in the order of the text, over the class of the worlds behind w0 in which S holds. -/
namespace Go.Proofs.YtgiklggnolbiiaaGreat
open Go.RowKit

/-- The worlds behind w0 in which S holds. -/
structure Wc (S : World → Prop) (w0 : World) where
  w : World
  ok : S w
  bel : Below w0.heap.size w0 w
theorem Wc.call {S : World → Prop} {w0 : World} (hs : ∀ w w', S w → Below w.heap.size w w' → S w') {x : Wc S w0} {f : FuncId} {args : Array Value} {v : Value}
    (h : Calls Tryz.prog f args x.w fun e w' => e = .returned v ∧ Below x.w.heap.size x.w w') : Calls Tryz.prog f args x.w fun e w'' => e = .returned v ∧ ∃ y : Wc S w0, w'' = y.w :=
  h.mono fun _ w' ⟨he, hb⟩ => ⟨he, ⟨w', hs _ _ x.ok hb, below_then x.bel hb⟩, rfl⟩
theorem wp_region_wc {S : World → Prop} {w0 : World} {id : Nat} {Q : Exit → Act → World → Prop} {a : Act} {w : World} {l : List Oper} (hx : S w.drew) (hl : Below w0.heap.size w0 w) (hm : Tryz.prog.follows .mixedOrders = true) (hB : Region.lexB .any l.toArray = true)
    (h : wpQuiet Tryz.prog l.toArray (fun w' => ∃ x : Wc S w0, w' = x.w) (fun a' => ∀ w', (∃ x : Wc S w0, w' = x.w) → Q .normal a' w') l a) : (Code.region id l.toArray true).wp Tryz.prog Q a w :=
  wp_region_quiet (C := fun w' => ∃ x : Wc S w0, w' = x.w) hm hB ⟨⟨w.drew, hx, hl.drew⟩, rfl⟩ (by simpa using h)
end Go.Proofs.YtgiklggnolbiiaaGreat
