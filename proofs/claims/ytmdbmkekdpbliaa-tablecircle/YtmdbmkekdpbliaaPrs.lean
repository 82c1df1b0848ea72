/- Rows of pairs of numbers, of any type; one pair more; two such rows held against each other. -/
import Derived.Test.YtmdbmkekdpbliaaTabq
namespace Go.Proofs.Ytmdbmkekdpbliaa
open Go.RowKit

/-- The slice v: the pairs l, of type t, in a row of its own at or above B. -/
def Pr (t : TypeId) (B : Nat) (v : Value) (l : List En) (w : World) : Prop := w.ownsRow B t 2 v l.length (pairs l)
namespace Pr
variable {t : TypeId} {B : Nat} {v : Value} {l : List En} {w w' : World}
theorem nil (t : TypeId) (B : Nat) (w : World) : Pr t B (.slice none 0 0) [] w := World.ownsRow_nil w B t 2
theorem lt (h : Pr t B v l w) : ∀ g, v.ownBlock = some g → B ≤ g ∧ g < w.heap.size := World.ownsRow.lt h
theorem ty (h : Pr t B v l w) : ∀ g, v.ownBlock = some g → ∃ cur, w.heap[g]? = some (.cells cur t (0, 0)) := by
  rcases h.2 with ⟨rfl, _⟩ | ⟨g, cap, cur, rfl, _, hg, _⟩
  · intro k hk; cases hk
  · intro k hk
    obtain rfl : g = k := by simpa [Value.ownBlock] using hk
    exact ⟨_, hg⟩
theorem keep (h : Pr t B v l w) (k : ∀ g, v.ownBlock = some g → w'.heap[g]? = w.heap[g]?) : Pr t B v l w' := by
  refine ⟨h.1, ?_⟩
  rcases h.2 with h0 | ⟨g, cap, cur, rfl, hB, hg, r⟩
  · exact .inl h0
  · exact .inr ⟨g, cap, cur, rfl, hB, (k g rfl).trans hg, r⟩
theorem next (h : Pr t B v l w) (k : Below w.heap.size w w') : Pr t B v l w' := h.keep fun g hg => k.block g (h.lt g hg).2
theorem drewN (h : Pr t B v l w) (n : Nat) : Pr t B v l (w.drewN n) := h.keep fun _ _ => rfl
theorem down {B' : Nat} (h : Pr t B' v l w) (hB : B ≤ B') : Pr t B v l w := by
  refine ⟨h.1, ?_⟩
  rcases h.2 with h0 | ⟨g, cap, cur, rfl, hB', r⟩
  · exact .inl h0
  · exact .inr ⟨g, cap, cur, rfl, Nat.le_trans hB hB', r⟩
theorem form (h : Pr t B v l w) : ∃ a cap, v = .slice a l.length cap := by
  rcases h.2 with ⟨rfl, e⟩ | ⟨g, cap, cur, rfl, _⟩
  · exact ⟨none, 0, by rw [e]⟩
  · exact ⟨_, cap, rfl⟩
theorem elem {a : Option Addr} {n c : Nat} (h : Pr t B (.slice a n c) l w) {i : Nat} (hi : i < l.length) : ∃ g, a = some ⟨g, 0, none⟩ ∧ w.cell? ⟨g, i * 2, none⟩ = some (.int .i64 (l.getD i (0, 0)).1) ∧ w.cell? ⟨g, i * 2 + 1, none⟩ = some (.int .i64 (l.getD i (0, 0)).2) ∧ g < w.heap.size := by
  rcases h.2 with ⟨_, e⟩ | ⟨g, cap, cur, e, _, hg, _, _, _, hc⟩
  · omega
  · injection e with e1 _ _
    subst e1
    have key : ∀ j, j < l.length * 2 → w.cell? ⟨g, j, none⟩ = (pairs l)[j]? := fun j hj => by
      rw [← hc, List.getElem?_take_of_lt hj]
      simp [World.cell?, hg]
    exact ⟨g, rfl, by rw [key _ (by omega), pairs_fst l i hi], by rw [key _ (by omega), pairs_snd l i hi], heap_lt hg⟩
/-- Pairs lie in other blocks than a lane. -/
theorem moved {hv qv hv' qv' : Value} {B' b : Nat} {H Q : List En} (h : Pr t B' v l w) (k : La B H Q b hv qv w) (m : Mv b hv qv hv' qv' w w') (h1 : t ≠ 41) (h2 : t ≠ 76) : Pr t B' v l w' :=
  h.keep fun g hg => by
    obtain ⟨cur, hc⟩ := h.ty g hg
    rw [m.stays k hc h1 h2, hc]
end Pr
theorem inf53 : (Try.prog.info? 53).map (fun i => (i.zero, i.size, i.bytes)) = some (some (.agg #[.int .i64 0, .int .i64 0]), 2, 16) := by kernel_rfl
theorem inf69 : (Try.prog.info? 69).map (fun i => (i.zero, i.size, i.bytes)) = some (some (.agg #[.int .i64 0, .int .i64 0]), 2, 16) := by kernel_rfl
theorem pairs_all (x : En) : ∀ u ∈ pairs [x], u.oneCell' = true := pairs_one [x]
/-- One pair more, behind the others. -/
theorem wpList_pair (t st : TypeId) (ht : Try.prog.underlying st = some (.slice t)) (hinf : (Try.prog.info? t).map (fun i => (i.zero, i.size, i.bytes)) = some (some (.agg #[.int .i64 0, .int .i64 0]), 2, 16))
    (w : World) {ops : Array Oper} {rest : List Oper} {o : Oper} {a : Act} {Q : Exit → Act → World → Prop} (hgd : o.guard = none) (s x : Operand)
    (ho : o.op = .call { callee := .builtin .append, args := #[s, x], argTypes := #[st, st] }) (base : Nat) (ag : Option Addr) (n cg : Nat) (l : List En) (z : En)
    (N : Nat) (hs : a.eval s = .slice ag n cg) (hx : a.eval x = .slice (some ⟨N, 0, none⟩) 1 1) (hN : w.heap.size = N) (hn : l.length = n) (hown : Pr t base (.slice ag n cg) l w) (hb : base ≤ w.heap.size) (hm : n < 10000000)
    (h : ∀ g cap w', Pr t base (.slice (some ⟨g, 0, none⟩) (n + 1) cap) (l ++ [z]) w' → w.grownBy w' (Value.slice ag n cg).ownBlock → wpList Try.prog ops Q rest (a.put o.dst (.slice (some ⟨g, 0, none⟩) (n + 1) cap)) w') :
    wpList Try.prog ops Q (o :: rest) a (w.alloc (.cells #[.int .i64 z.1, .int .i64 z.2] t)) := by
  subst hN
  obtain ⟨i3, hi3, hz0, hz1, hz2⟩ := info_parts hinf
  have B5 := below_new w (.cells #[.int .i64 z.1, .int .i64 z.2] t)
  have G5 := hown.next B5
  have own5 : (w.alloc (.cells #[.int .i64 z.1, .int .i64 z.2] t)).ownsRow base t 2 (.slice ag n cg) n (pairs l) := by
    have := G5
    unfold Pr at this
    rw [hn] at this
    exact this
  refine wpList_append_lies _ hgd s x st ho base t i3 _ 2 16 ht hi3 hz0 hz1 hz2 rfl (by decide) _ n _ hs own5 ⟨w.heap.size, 0, none⟩ 1 1 (pairs [z]) hx rfl (World.news_of_block (heap_alloc_new w _)) (pairs_all z) (by decide) (by unfold maxLen; omega) (by omega) (Nat.le_trans hb B5.size) _ rfl ?_
  intro g cap w' a1 a2 _ _
  refine h g cap w' ?_ (grown_trans (grown_of_below B5 _) a2)
  unfold Pr
  rw [List.length_append, hn, pairs_app]
  exact a1
/-- What who holds in the first m lanes. -/
def heldD (who : Int) (T : Nat → Lv) : Nat → List En
  | 0 => []
  | m + 1 => if lookD who (T m).1 = 0 then heldD who T m else heldD who T m ++ [((m : Int), lookD who (T m).1)]
theorem held_len (who : Int) (T : Nat → Lv) : ∀ m, (heldD who T m).length ≤ m
  | 0 => Nat.le_refl _
  | m + 1 => by
    have := held_len who T m
    unfold heldD
    split
    · omega
    · rw [List.length_append]; simp; omega
theorem held_mem (who : Int) (T : Nat → Lv) : ∀ m, ∀ p ∈ heldD who T m, ∃ i, i < m ∧ p = ((i : Int), lookD who (T i).1)
  | 0, p, h => by cases h
  | m + 1, p, h => by
    have ih := held_mem who T m
    unfold heldD at h
    split at h
    · obtain ⟨i, h1, h2⟩ := ih p h
      exact ⟨i, by omega, h2⟩
    · rcases List.mem_append.1 h with h | h
      · obtain ⟨i, h1, h2⟩ := ih p h
        exact ⟨i, by omega, h2⟩
      · exact ⟨m, by omega, List.mem_singleton.1 h⟩
theorem held_srt (who : Int) (T : Nat → Lv) : ∀ m, (heldD who T m).Pairwise (fun a b => a.1 < b.1)
  | 0 => List.Pairwise.nil
  | m + 1 => by
    have ih := held_srt who T m
    unfold heldD
    split
    · exact ih
    · rw [List.pairwise_append]
      refine ⟨ih, List.pairwise_singleton _ _, fun x hx y hy => ?_⟩
      obtain ⟨i, h1, rfl⟩ := held_mem who T m x hx
      rw [List.mem_singleton.1 hy]
      show (i : Int) < (m : Int)
      omega
theorem held_same (who : Int) {T T' : Nat → Lv} : ∀ m, (∀ i, i < m → lookD who (T i).1 = lookD who (T' i).1) → heldD who T m = heldD who T' m
  | 0, _ => rfl
  | m + 1, h => by
    unfold heldD
    rw [held_same who m (fun i hi => h i (by omega)), h m (by omega)]
variable {B n : Nat} {most : Int} {T : Nat → Lv} {b rb : Nat} {lb : Nat → Nat} {hv qv : Nat → Value}
set_option maxRecDepth 100000 in
set_option maxHeartbeats 2000000 in
theorem held_t (w : World) (h : Tb B n most T b rb lb hv qv w) (hf : Few n 1000 T) (hn : n ≤ 10000) (who : Int) :
    Calls Try.prog 33 #[.pointer (some ⟨b, 0, none⟩), .int .i64 who] w fun e w' => ∃ v, e = .returned v ∧ Pr 53 w.heap.size v (heldD who T n) w' ∧ Below w.heap.size w w' := by
  have HT := hide h
  have c0 := h.c0
  clear h
  go_enter Try.func33, Try.ntmps33
  go_wp2_with fail
  clear c0
  go_loopw [5, 14] (fun s5 s14 wr => ∃ (t k : Nat) (ag : Option Addr) (cg : Nat), t ≤ n ∧ k ≤ t ∧ s5 = .slice ag k cg ∧ s14 = .int .i64 t ∧ Hid ((heldD who T t).length = k) ∧ Hid (Pr 53 w.heap.size (.slice ag k cg) (heldD who T t) wr) ∧ Hid (Below w.heap.size w wr)) (fun _ s14 _ => n - (intOf s14).toNat)
  case atStart => exact ⟨0, 0, none, 0, Nat.zero_le _, Nat.le_refl _, rfl, rfl, rfl, Pr.nil _ _ _, Below.refl _ _⟩
  case round =>
    obtain ⟨t, k, ag, cg, ht, hkt, rfl, rfl, hl, P3, b3⟩ := hrel
    by_cases hlt : t < n
    · have T3 := (unhide HT).next (unhide b3)
      have d1 := T3.at_ hlt
      obtain ⟨f1, f2⟩ := hf t hlt
      have L4 := hide ((T3.ls.la t hlt).next (below_new wr (.cells #[.pointer (some ⟨lb t, 0, none⟩)] 95)))
      replace f1 := hide f1
      obtain ⟨m, hm⟩ : ∃ m, m = lookD who (T t).1 := ⟨_, rfl⟩
      have hstep : Hid (heldD who T (t + 1) = if m = 0 then heldD who T t else heldD who T t ++ [((t : Int), m)]) := by show _ = _; rw [hm]; rfl
      replace hm := hide hm
      clear T3 f2
      go_wp2_with fail
      refine (holds_ln _ ⟨_, _, unhide L4⟩ (by have := unhide f1; omega) who (unhide hm).symm).mono ?_
      rintro e w5 ⟨rfl, b5⟩
      have B5 : Below wr.heap.size wr w5 := below_then (below_new wr _) b5
      have P5 := hide ((unhide P3).next B5)
      replace b5 := hide (below_then (unhide b3) B5)
      clear d1 B5
      by_cases h0 : m = 0
      · subst h0
        have e1 := unhide hstep
        rw [if_pos rfl] at e1
        replace e1 := hide e1
        go_wp2
        go_roundw
        case rel => exact ⟨t + 1, k, ag, cg, by omega, by omega, rfl, by go_num, by rw [unhide e1]; exact unhide hl, by rw [unhide e1]; exact unhide P5, unhide b5⟩
        case measure => simp [intOf]; omega
      · have e1 := unhide hstep
        rw [if_neg h0] at e1
        replace e1 := hide e1
        have hm0 : (m != 0) = true := by simpa using h0
        have hk9 : k < 10000000 := by omega
        go_wp2_with (at_builtin; refine wpList_pair 53 61 Try.underlying61 inf53 w5 rfl (.tmp 25) (.tmp 29) rfl w.heap.size ag k cg _ ((t : Int), m) _ rfl rfl rfl (unhide hl) (unhide P5) (unhide b5).size hk9 ?_; intro g7 cap7 w7 a1 a2; replace a1 := hide a1; replace a2 := hide a2)
        go_roundw
        case rel => exact ⟨t + 1, k + 1, some ⟨g7, 0, none⟩, cap7, by omega, by omega, rfl, by go_num, by
          show _ = _
          rw [unhide e1, List.length_append, unhide hl]; rfl, by rw [unhide e1]; exact unhide a1, (unhide b5).trans (grown_below (unhide a2) (unhide b5).size (fun j hj => ((unhide P5).lt j hj).1))⟩
        case measure => simp [intOf]; omega
    · obtain rfl : t = n := by omega
      go_wp2
      go_ret
      exact ⟨_, rfl, unhide P3, unhide b3⟩
end Go.Proofs.Ytmdbmkekdpbliaa
