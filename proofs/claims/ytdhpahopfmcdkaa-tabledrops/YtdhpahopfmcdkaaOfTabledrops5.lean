/- Texts of this claim, put together in their order. -/
import Derived.Test.YtdhpahopfmcdkaaOfTabledrops1
import Derived.Test.YtdhpahopfmcdkaaOfTabledrops2
import Derived.Test.YtdhpahopfmcdkaaOfTabledrops3
import Derived.Test.YtdhpahopfmcdkaaOfTabledrops4
/- Rows of pairs of numbers, of any type; one pair more; two such rows held against each other. -/
namespace Go.Proofs.Ytdhpahopfmcdkaa
open Go.RowKit

/-- The slice v: the pairs l, of type t, in a row of its own at or above B. -/
def Pr (t : TypeId) (B : Nat) (v : Value) (l : List En) (w : World) : Prop := w.ownsRow B t 2 v l.length (pairs l)
namespace Pr
variable {t : TypeId} {B : Nat} {v : Value} {l : List En} {w w' : World}
theorem nil (t : TypeId) (B : Nat) (w : World) : Pr t B (.slice none 0 0) [] w := World.ownsRow_nil w B t 2
theorem lt (h : Pr t B v l w) : ∀ g, v.ownBlock = some g → B ≤ g ∧ g < w.heap.size := World.ownsRow.lt h
theorem ty (h : Pr t B v l w) : ∀ g, v.ownBlock = some g → ∃ cur, w.heap[g]? = some (.cells cur t (0, 0)) := by
  rcases h.2 with ⟨rfl, _⟩ | ⟨g, cap, cur, rfl, _, hg, _⟩
  · intro k hk; cases hk
  · intro k hk
    obtain rfl : g = k := by simpa [Value.ownBlock] using hk
    exact ⟨_, hg⟩
theorem keep (h : Pr t B v l w) (k : ∀ g, v.ownBlock = some g → w'.heap[g]? = w.heap[g]?) : Pr t B v l w' := by
  refine ⟨h.1, ?_⟩
  rcases h.2 with h0 | ⟨g, cap, cur, rfl, hB, hg, r⟩
  · exact .inl h0
  · exact .inr ⟨g, cap, cur, rfl, hB, (k g rfl).trans hg, r⟩
theorem next (h : Pr t B v l w) (k : Below w.heap.size w w') : Pr t B v l w' := h.keep fun g hg => k.block g (h.lt g hg).2
theorem drewN (h : Pr t B v l w) (n : Nat) : Pr t B v l (w.drewN n) := h.keep fun _ _ => rfl
theorem down {B' : Nat} (h : Pr t B' v l w) (hB : B ≤ B') : Pr t B v l w := by
  refine ⟨h.1, ?_⟩
  rcases h.2 with h0 | ⟨g, cap, cur, rfl, hB', r⟩
  · exact .inl h0
  · exact .inr ⟨g, cap, cur, rfl, Nat.le_trans hB hB', r⟩
theorem form (h : Pr t B v l w) : ∃ a cap, v = .slice a l.length cap := by
  rcases h.2 with ⟨rfl, e⟩ | ⟨g, cap, cur, rfl, _⟩
  · exact ⟨none, 0, by rw [e]⟩
  · exact ⟨_, cap, rfl⟩
theorem elem {a : Option Addr} {n c : Nat} (h : Pr t B (.slice a n c) l w) {i : Nat} (hi : i < l.length) : ∃ g, a = some ⟨g, 0, none⟩ ∧ w.cell? ⟨g, i * 2, none⟩ = some (.int .i64 (l.getD i (0, 0)).1) ∧ w.cell? ⟨g, i * 2 + 1, none⟩ = some (.int .i64 (l.getD i (0, 0)).2) ∧ g < w.heap.size := by
  rcases h.2 with ⟨_, e⟩ | ⟨g, cap, cur, e, _, hg, _, _, _, hc⟩
  · omega
  · injection e with e1 _ _
    subst e1
    have key : ∀ j, j < l.length * 2 → w.cell? ⟨g, j, none⟩ = (pairs l)[j]? := fun j hj => by
      rw [← hc, List.getElem?_take_of_lt hj]
      simp [World.cell?, hg]
    exact ⟨g, rfl, by rw [key _ (by omega), pairs_fst l i hi], by rw [key _ (by omega), pairs_snd l i hi], heap_lt hg⟩
/-- Pairs lie in other blocks than a lane. -/
theorem moved {hv qv hv' qv' : Value} {B' b : Nat} {H Q : List En} (h : Pr t B' v l w) (k : La B H Q b hv qv w) (m : Mv b hv qv hv' qv' w w') (h1 : t ≠ 63) (h2 : t ≠ 90) : Pr t B' v l w' :=
  h.keep fun g hg => by
    obtain ⟨cur, hc⟩ := h.ty g hg
    rw [m.stays k hc h1 h2, hc]
end Pr
theorem inf53 : (Try.prog.info? 50).map (fun i => (i.zero, i.size, i.bytes)) = some (some (.agg #[.int .i64 0, .int .i64 0]), 2, 16) := by kernel_rfl
theorem inf69 : (Try.prog.info? 68).map (fun i => (i.zero, i.size, i.bytes)) = some (some (.agg #[.int .i64 0, .int .i64 0]), 2, 16) := by kernel_rfl
theorem pairs_all (x : En) : ∀ u ∈ pairs [x], u.oneCell' = true := pairs_one [x]
/-- One pair more, behind the others. -/
theorem wpList_pair (t st : TypeId) (ht : Try.prog.underlying st = some (.slice t)) (hinf : (Try.prog.info? t).map (fun i => (i.zero, i.size, i.bytes)) = some (some (.agg #[.int .i64 0, .int .i64 0]), 2, 16))
    (w : World) {ops : Array Oper} {rest : List Oper} {o : Oper} {a : Act} {Q : Exit → Act → World → Prop} (hgd : o.guard = none) (s x : Operand)
    (ho : o.op = .call { callee := .builtin .append, args := #[s, x], argTypes := #[st, st] }) (base : Nat) (ag : Option Addr) (n cg : Nat) (l : List En) (z : En)
    (N : Nat) (hs : a.eval s = .slice ag n cg) (hx : a.eval x = .slice (some ⟨N, 0, none⟩) 1 1) (hN : w.heap.size = N) (hn : l.length = n) (hown : Pr t base (.slice ag n cg) l w) (hb : base ≤ w.heap.size) (hm : n < 10000000)
    (h : ∀ g cap w', Pr t base (.slice (some ⟨g, 0, none⟩) (n + 1) cap) (l ++ [z]) w' → w.grownBy w' (Value.slice ag n cg).ownBlock → wpList Try.prog ops Q rest (a.put o.dst (.slice (some ⟨g, 0, none⟩) (n + 1) cap)) w') :
    wpList Try.prog ops Q (o :: rest) a (w.alloc (.cells #[.int .i64 z.1, .int .i64 z.2] t)) := by
  subst hN
  obtain ⟨i3, hi3, hz0, hz1, hz2⟩ := info_parts hinf
  have B5 := below_new w (.cells #[.int .i64 z.1, .int .i64 z.2] t)
  have G5 := hown.next B5
  have own5 : (w.alloc (.cells #[.int .i64 z.1, .int .i64 z.2] t)).ownsRow base t 2 (.slice ag n cg) n (pairs l) := by
    have := G5
    unfold Pr at this
    rw [hn] at this
    exact this
  refine wpList_append_lies _ hgd s x st ho base t i3 _ 2 16 ht hi3 hz0 hz1 hz2 rfl (by decide) _ n _ hs own5 ⟨w.heap.size, 0, none⟩ 1 1 (pairs [z]) hx rfl (World.news_of_block (heap_alloc_new w _)) (pairs_all z) (by decide) (by unfold maxLen; omega) (by omega) (Nat.le_trans hb B5.size) _ rfl ?_
  intro g cap w' a1 a2 _ _
  refine h g cap w' ?_ (grown_trans (grown_of_below B5 _) a2)
  unfold Pr
  rw [List.length_append, hn, pairs_app]
  exact a1
/-- What who holds in the first m lanes. -/
def heldD (who : Int) (T : Nat → Lv) : Nat → List En
  | 0 => []
  | m + 1 => if lookD who (T m).1 = 0 then heldD who T m else heldD who T m ++ [((m : Int), lookD who (T m).1)]
theorem held_len (who : Int) (T : Nat → Lv) : ∀ m, (heldD who T m).length ≤ m
  | 0 => Nat.le_refl _
  | m + 1 => by
    have := held_len who T m
    unfold heldD
    split
    · omega
    · rw [List.length_append]; simp; omega
theorem held_mem (who : Int) (T : Nat → Lv) : ∀ m, ∀ p ∈ heldD who T m, ∃ i, i < m ∧ p = ((i : Int), lookD who (T i).1)
  | 0, p, h => by cases h
  | m + 1, p, h => by
    have ih := held_mem who T m
    unfold heldD at h
    split at h
    · obtain ⟨i, h1, h2⟩ := ih p h
      exact ⟨i, by omega, h2⟩
    · rcases List.mem_append.1 h with h | h
      · obtain ⟨i, h1, h2⟩ := ih p h
        exact ⟨i, by omega, h2⟩
      · exact ⟨m, by omega, List.mem_singleton.1 h⟩
theorem held_srt (who : Int) (T : Nat → Lv) : ∀ m, (heldD who T m).Pairwise (fun a b => a.1 < b.1)
  | 0 => List.Pairwise.nil
  | m + 1 => by
    have ih := held_srt who T m
    unfold heldD
    split
    · exact ih
    · rw [List.pairwise_append]
      refine ⟨ih, List.pairwise_singleton _ _, fun x hx y hy => ?_⟩
      obtain ⟨i, h1, rfl⟩ := held_mem who T m x hx
      rw [List.mem_singleton.1 hy]
      show (i : Int) < (m : Int)
      omega
theorem held_same (who : Int) {T T' : Nat → Lv} : ∀ m, (∀ i, i < m → lookD who (T i).1 = lookD who (T' i).1) → heldD who T m = heldD who T' m
  | 0, _ => rfl
  | m + 1, h => by
    unfold heldD
    rw [held_same who m (fun i hi => h i (by omega)), h m (by omega)]
variable {B n : Nat} {most : Int} {T : Nat → Lv} {b rb : Nat} {lb : Nat → Nat} {hv qv : Nat → Value}
set_option maxRecDepth 100000 in
set_option maxHeartbeats 2000000 in
theorem held_t (w : World) (h : Tb B n most T b rb lb hv qv w) (hf : Few n 1000 T) (hn : n ≤ 10000) (who : Int) :
    Calls Try.prog 32 #[.pointer (some ⟨b, 0, none⟩), .int .i64 who] w fun e w' => ∃ v, e = .returned v ∧ Pr 50 w.heap.size v (heldD who T n) w' ∧ Below w.heap.size w w' := by
  have HT := hide h
  have c0 := h.c0
  clear h
  go_enter Try.func32, Try.ntmps32
  go_wp2_with fail
  clear c0
  go_loopw [5, 14] (fun s5 s14 wr => ∃ (t k : Nat) (ag : Option Addr) (cg : Nat), t ≤ n ∧ k ≤ t ∧ s5 = .slice ag k cg ∧ s14 = .int .i64 t ∧ Hid ((heldD who T t).length = k) ∧ Hid (Pr 50 w.heap.size (.slice ag k cg) (heldD who T t) wr) ∧ Hid (Below w.heap.size w wr)) (fun _ s14 _ => n - (intOf s14).toNat)
  case atStart => exact ⟨0, 0, none, 0, Nat.zero_le _, Nat.le_refl _, rfl, rfl, rfl, Pr.nil _ _ _, Below.refl _ _⟩
  case round =>
    obtain ⟨t, k, ag, cg, ht, hkt, rfl, rfl, hl, P3, b3⟩ := hrel
    by_cases hlt : t < n
    · have T3 := (unhide HT).next (unhide b3)
      have d1 := T3.at_ hlt
      obtain ⟨f1, f2⟩ := hf t hlt
      have L4 := hide ((T3.ls.la t hlt).next (below_new wr (.cells #[.pointer (some ⟨lb t, 0, none⟩)] 107)))
      replace f1 := hide f1
      obtain ⟨m, hm⟩ : ∃ m, m = lookD who (T t).1 := ⟨_, rfl⟩
      have hstep : Hid (heldD who T (t + 1) = if m = 0 then heldD who T t else heldD who T t ++ [((t : Int), m)]) := by show _ = _; rw [hm]; rfl
      replace hm := hide hm
      clear T3 f2
      go_wp2_with fail
      refine (holds_ln _ ⟨_, _, unhide L4⟩ (by have := unhide f1; omega) who (unhide hm).symm).mono ?_
      rintro e w5 ⟨rfl, b5⟩
      have B5 : Below wr.heap.size wr w5 := below_then (below_new wr _) b5
      have P5 := hide ((unhide P3).next B5)
      replace b5 := hide (below_then (unhide b3) B5)
      clear d1 B5
      by_cases h0 : m = 0
      · subst h0
        have e1 := unhide hstep
        rw [if_pos rfl] at e1
        replace e1 := hide e1
        go_wp2
        go_roundw
        case rel => exact ⟨t + 1, k, ag, cg, by omega, by omega, rfl, by go_num, by rw [unhide e1]; exact unhide hl, by rw [unhide e1]; exact unhide P5, unhide b5⟩
        case measure => simp [intOf]; omega
      · have e1 := unhide hstep
        rw [if_neg h0] at e1
        replace e1 := hide e1
        have hm0 : (m != 0) = true := by simpa using h0
        have hk9 : k < 10000000 := by omega
        go_wp2_with (at_builtin; refine wpList_pair 50 58 Try.underlying58 inf53 w5 rfl (.tmp 25) (.tmp 29) rfl w.heap.size ag k cg _ ((t : Int), m) _ rfl rfl rfl (unhide hl) (unhide P5) (unhide b5).size hk9 ?_; intro g7 cap7 w7 a1 a2; replace a1 := hide a1; replace a2 := hide a2)
        go_roundw
        case rel => exact ⟨t + 1, k + 1, some ⟨g7, 0, none⟩, cap7, by omega, by omega, rfl, by go_num, by
          show _ = _
          rw [unhide e1, List.length_append, unhide hl]; rfl, by rw [unhide e1]; exact unhide a1, (unhide b5).trans (grown_below (unhide a2) (unhide b5).size (fun j hj => ((unhide P5).lt j hj).1))⟩
        case measure => simp [intOf]; omega
    · obtain rfl : t = n := by omega
      go_wp2
      go_ret
      exact ⟨_, rfl, unhide P3, unhide b3⟩
end Go.Proofs.Ytdhpahopfmcdkaa

/- What holds of the six modes, by looking at all of them. -/
namespace Go.Proofs.Ytdhpahopfmcdkaa
open Go.RowKit

theorem six {m : Int} (h : knownB m = true) : ∃ i : Fin 6, m = (i.val : Int) := by
  have := known_iff.1 h
  exact ⟨⟨m.toNat, by omega⟩, by simp; omega⟩
/-- The least above two. -/
def sup2 (a b : Int) : Int := joinD (joinD 0 a) b
theorem supL_pair (a b : Int) : supL [a, b] = sup2 a b := rfl
theorem supL_triple (a b c : Int) : supL [a, b, c] = joinD (sup2 a b) c := rfl

set_option maxRecDepth 20000 in
theorem two_facts : ∀ i j : Fin 6, let a : Int := i.val; let b : Int := j.val;
    fitsB b a = fitsB a b ∧ sup2 b a = sup2 a b ∧ sup2 a a = a ∧ knownB (sup2 a b) = true ∧ coversB (sup2 a b) a = true ∧ coversB (sup2 a b) b = true ∧
    (coversB a b = true → coversB (intentD a) (intentD b) = true ∧ (readsB b = true → readsB a = true) ∧ (writesB b = true → writesB a = true)) ∧
    (coversB a b = true → coversB b a = true → a = b) ∧ (writesB a = true → readsB a = true) ∧
    (writesB a = true → b ≠ 0 → fitsB a b = false) ∧ (readsB a = true → coversB b 2 = true → fitsB a b = false) ∧ fitsB 0 a = true ∧ fitsB a 0 = true ∧
    fitsB (intentD a) (intentD b) = true ∧ coversB a (intentD a) = true ∧ intentD (intentD a) = intentD a ∧
    coversB a a = true ∧ coversB a 0 = true ∧ coversB 5 a = true ∧ (coversB a b = true ∨ coversB b a = true ∨ a + b = 5) := by
  decide +kernel
set_option maxRecDepth 20000 in
theorem three_facts : ∀ i j k : Fin 6, let a : Int := i.val; let b : Int := j.val; let c : Int := k.val;
    sup2 (sup2 a b) c = joinD (sup2 a b) c ∧ (fitsB c (sup2 a b) = true → fitsB c a = true ∧ fitsB c b = true) ∧
    (coversB c a = true → coversB c b = true → coversB c (sup2 a b) = true) ∧
    (coversB a b = true → coversB b c = true → coversB a c = true) ∧ (coversB a b = true → fitsB a c = true → fitsB b c = true) := by
  decide +kernel
end Go.Proofs.Ytdhpahopfmcdkaa

/- What Ask and Leave keep (plain facts). -/
namespace Go.Proofs.Ytdhpahopfmcdkaa
open Go.RowKit

/-- A mode that one can hold. -/
def md (m : Int) : Prop := 1 ≤ m ∧ m ≤ 5
theorem has_iff {k : Int} {l : List En} : hasD k l = true ↔ ∃ x ∈ l, x.1 = k := by
  unfold hasD
  rw [List.any_eq_true]
  simp
theorem hasnt {k : Int} {l : List En} (h : hasD k l = false) : ∀ x ∈ l, x.1 ≠ k := fun x hx e => by
  rw [has_iff.2 ⟨x, hx, e⟩] at h; cases h
theorem look_mem {k : Int} : ∀ {l : List En}, hasD k l = true → (k, lookD k l) ∈ l
  | [], h => by cases h
  | p :: r, h => by
    unfold lookD
    cases e : (p.1 == k)
    · have h2 : hasD k r = true := by
        unfold hasD at h ⊢
        rw [List.any_cons, e] at h
        simpa using h
      exact List.mem_cons_of_mem _ (look_mem h2)
    · have : p.1 = k := by simpa using e
      rw [← this]
      exact List.mem_cons_self
theorem look_zero {k : Int} {l : List En} (hm : ∀ x ∈ l, md x.2) : lookD k l = 0 ↔ hasD k l = false := by
  refine ⟨fun h => ?_, look_no⟩
  cases e : hasD k l
  · rfl
  · have := (hm _ (look_mem e)).1
    simp only at this; omega
theorem look_uniq {k v : Int} : ∀ {l : List En}, Srt l → (k, v) ∈ l → lookD k l = v
  | [], _, h => by cases h
  | p :: r, hs, h => by
    obtain ⟨h1, h2⟩ := List.pairwise_cons.1 hs
    unfold lookD
    rcases List.mem_cons.1 h with e | h
    · subst e; simp
    · have := h1 _ h
      have e : (p.1 == k) = false := by rw [beq_eq_false_iff_ne]; simp only at this; omega
      rw [e]
      exact look_uniq (l := r) h2 h
theorem put_mem {y z : En} {l : List En} (h : z ∈ putD y l) : z = y ∨ z ∈ l := by
  unfold putD at h
  split at h
  · rcases List.mem_or_eq_of_mem_set h with h | h
    · exact .inr h
    · exact .inl h
  · rcases List.mem_append.1 h with h | h
    · exact .inr (List.mem_of_mem_take h)
    · rcases List.mem_cons.1 h with h | h
      · exact .inl h
      · exact .inr (List.mem_of_mem_drop h)
theorem mem_put {y : En} {l : List En} (hs : Srt l) : y ∈ putD y l := by
  unfold putD
  split
  · rename_i hh
    exact List.mem_set (look_pos hs hh).1 y
  · exact List.mem_append_right _ List.mem_cons_self
theorem put_old {y z : En} {l : List En} (hs : Srt l) (h : z ∈ l) (hne : z.1 ≠ y.1) : z ∈ putD y l := by
  unfold putD
  split
  · rename_i hh
    obtain ⟨p1, p2, _⟩ := look_pos hs hh
    obtain ⟨j, hj, rfl⟩ := List.getElem_of_mem h
    have hjp : posD y.1 l ≠ j := by
      rintro e
      apply hne
      have e2 : (l.getD j (0, 0)).1 = y.1 := by rw [← e]; exact p2
      simpa [List.getD, hj] using e2
    have : (l.set (posD y.1 l) y)[j]'(by rw [List.length_set]; exact hj) = l[j] := List.getElem_set_ne hjp _
    rw [← this]
    exact List.getElem_mem _
  · rw [← List.take_append_drop (posD y.1 l) l] at h
    rcases List.mem_append.1 h with h | h
    · exact List.mem_append_left _ h
    · exact List.mem_append_right _ (List.mem_cons_of_mem _ h)
theorem wait_mem {held : Int} {y z : En} {H Q : List En} : z ∈ waitD held y H Q ↔ z = y ∨ z ∈ Q := by
  unfold waitD
  split
  · rw [List.mem_append, List.mem_singleton]; exact Or.comm
  · rw [List.mem_append, List.mem_cons]
    constructor
    · rintro (h | h | h)
      · exact .inr (List.mem_of_mem_take h)
      · exact .inl h
      · exact .inr (List.mem_of_mem_drop h)
    · rintro (h | h)
      · exact .inr (.inl h)
      · rw [← List.take_append_drop (convD H Q) Q] at h
        rcases List.mem_append.1 h with h | h
        · exact .inl h
        · exact .inr (.inr h)
theorem wait_len (held : Int) (y : En) (H Q : List En) : (waitD held y H Q).length = Q.length + 1 := by
  unfold waitD
  split
  · simp
  · exact ins_len Q _ y (conv_le H Q)
/-- Each waits once. -/
def Once (l : List En) : Prop := l.Pairwise (fun a b => a.1 ≠ b.1)
theorem once_wait {held : Int} {y : En} {H Q : List En} (h : Once Q) (hy : ∀ x ∈ Q, x.1 ≠ y.1) : Once (waitD held y H Q) := by
  unfold waitD Once
  split
  · rw [List.pairwise_append]
    exact ⟨h, List.pairwise_singleton _ _, fun a ha c hc => by rw [List.mem_singleton.1 hc]; exact hy a ha⟩
  · rw [List.pairwise_append]
    refine ⟨h.sublist (List.take_sublist _ _), ?_, fun a ha c hc => ?_⟩
    · rw [List.pairwise_cons]
      exact ⟨fun a ha => fun e => hy a (List.mem_of_mem_drop ha) e.symm, h.sublist (List.drop_sublist _ _)⟩
    · rcases List.mem_cons.1 hc with rfl | hc
      · exact hy a (List.mem_of_mem_take ha)
      · have h2 : (Q.take (convD H Q) ++ Q.drop (convD H Q)).Pairwise (fun a b => a.1 ≠ b.1) := by rw [List.take_append_drop]; exact h
        exact (List.pairwise_append.1 h2).2.2 a ha c hc

/-- What holds of a lane at all times: modes that can be held; each waits once; the first that waits does not fit. -/
structure Ok (H Q : List En) : Prop where
  hm : ∀ x ∈ H, md x.2
  qm : ∀ x ∈ Q, md x.2
  once : Once Q
  first : ∀ x r, Q = x :: r → fitsL x H = false
theorem ok_nil : Ok [] [] := ⟨fun x h => (by cases h), fun x h => (by cases h), List.Pairwise.nil, fun x r h => (by cases h)⟩
theorem fits_knows {a b : Int} (h : fitsB a b = true) : knownB a = true ∧ knownB b = true := by
  unfold fitsB at h
  simp only [known_iff, hasB] at *
  repeat' split at h
  all_goals simp_all [known_iff]
  all_goals omega
theorem goal_md {held m : Int} (hh : held = 0 ∨ md held) (hm : knownB m = true) (h0 : (m == 0) = false) : md (goal held m) ∧ ∀ x, fitsB x (goal held m) = true → md held → fitsB x held = true := by
  have hk : knownB held = true := by
    rw [known_iff]
    rcases hh with h | h
    · omega
    · exact ⟨by have := h.1; omega, h.2⟩
  obtain ⟨i, rfl⟩ := six hk
  obtain ⟨j, rfl⟩ := six hm
  have key : ∀ i j : Fin 6, ((j.val : Int) == 0) = false → (decide (1 ≤ goal (i.val : Int) (j.val : Int)) && decide (goal (i.val : Int) (j.val : Int) ≤ 5)) = true := by decide +kernel
  have h1 := key i j h0
  simp only [Bool.and_eq_true, decide_eq_true_eq] at h1
  refine ⟨h1, fun x hx hmd => ?_⟩
  have hxk : knownB x = true := by
    cases e : knownB x
    · rw [(fits_knows hx).1] at e; cases e
    · rfl
  obtain ⟨k, rfl⟩ := six hxk
  have key2 : ∀ i j k : Fin 6, (!fitsB (k.val : Int) (goal (i.val : Int) (j.val : Int)) || fitsB (k.val : Int) (i.val : Int)) = true := by decide +kernel
  have h2 := key2 i j k
  rw [hx] at h2
  simpa using h2
theorem fits_no {x : En} {H : List En} : fitsL x H = false ↔ ∃ h ∈ H, hindD h x = true := by
  unfold fitsL
  rw [Bool.not_eq_false', List.any_eq_true]
theorem wait_first {held : Int} {y x : En} {H Q r : List En} (e : waitD held y H Q = x :: r) : (∃ r', Q = x :: r') ∨ (x = y ∧ passD held H Q = true) := by
  unfold waitD at e
  unfold passD
  cases hh : (held == 0)
  · rw [hh] at e
    simp only [Bool.false_eq_true, if_false] at e ⊢
    cases hc : convD H Q with
    | zero =>
      rw [hc] at e
      simp only [List.take_zero, List.nil_append] at e
      injection e with e1 _
      exact .inr ⟨e1.symm, rfl⟩
    | succ n =>
      cases Q with
      | nil => simp [convD] at hc
      | cons q r2 =>
        rw [hc] at e
        simp only [List.take_succ_cons, List.cons_append] at e
        injection e with e1 _
        exact .inl ⟨r2, by rw [e1]⟩
  · rw [hh] at e
    simp only [if_true] at e ⊢
    cases Q with
    | nil =>
      simp only [List.nil_append] at e
      injection e with e1 _
      exact .inr ⟨e1.symm, rfl⟩
    | cons q r2 =>
      simp only [List.cons_append] at e
      injection e with e1 _
      exact .inl ⟨r2, by rw [e1]⟩
/-- Ask keeps it; who is there was there, or asked; one more at most. -/
theorem ask_ok {H Q : List En} (who m : Int) (hs : Srt H) (h : Ok H Q) : Ok (askD who m H Q).2.1 (askD who m H Q).2.2 ∧ (askD who m H Q).2.1.length + (askD who m H Q).2.2.length ≤ H.length + Q.length + 1 ∧
    (∀ x ∈ (askD who m H Q).2.1, x.1 = who ∨ ∃ z ∈ H, z.1 = x.1) ∧ (∀ x ∈ (askD who m H Q).2.2, x.1 = who ∨ ∃ z ∈ Q, z.1 = x.1) := by
  have same : Ok H Q ∧ H.length + Q.length ≤ H.length + Q.length + 1 ∧ (∀ x ∈ H, x.1 = who ∨ ∃ z ∈ H, z.1 = x.1) ∧ (∀ x ∈ Q, x.1 = who ∨ ∃ z ∈ Q, z.1 = x.1) :=
    ⟨h, by omega, fun x hx => .inr ⟨x, hx, rfl⟩, fun x hx => .inr ⟨x, hx, rfl⟩⟩
  cases hk : okD who m Q
  · have e : askD who m H Q = (0, H, Q) := by unfold askD; rw [hk]; rfl
    rw [e]; exact same
  · obtain ⟨⟨h1, h2⟩, h3⟩ : (knownB m = true ∧ (m == 0) = false) ∧ (lookD who Q == 0) = true := by
      unfold okD at hk
      simpa using hk
    have hnq : hasD who Q = false := (look_zero h.qm).1 (by simpa using h3)
    have hheld : lookD who H = 0 ∨ md (lookD who H) := by
      cases e : hasD who H
      · exact .inl (look_no e)
      · exact .inr (h.hm _ (look_mem e))
    obtain ⟨g1, g2⟩ := goal_md hheld h1 h2
    obtain ⟨held, hd⟩ : ∃ held, held = lookD who H := ⟨_, rfl⟩
    obtain ⟨t, ht⟩ : ∃ t, t = goal held m := ⟨_, rfl⟩
    rw [← hd, ← ht] at g1 g2
    cases hs1 : (t == held)
    · cases hp : (passD held H Q && fitsL (who, t) H)
      · have e : askD who m H Q = (2, H, waitD held (who, t) H Q) := by unfold askD; simp only [hk, ← hd, ← ht, hs1, hp]; rfl
        rw [e]
        refine ⟨⟨h.hm, fun x hx => ?_, once_wait h.once (hasnt hnq), fun x r hx => ?_⟩, ?_, fun x hx => .inr ⟨x, hx, rfl⟩, fun x hx => ?_⟩
        · rcases wait_mem.1 hx with rfl | hx
          · exact g1
          · exact h.qm x hx
        · rcases wait_first hx with ⟨r', e2⟩ | ⟨e1, e2⟩
          · exact h.first x r' e2
          · rw [e1]
            rw [e2] at hp
            simpa using hp
        · simp only [wait_len]; omega
        · rcases wait_mem.1 hx with rfl | hx
          · exact .inl rfl
          · exact .inr ⟨x, hx, rfl⟩
      · have e : askD who m H Q = (1, putD (who, t) H, Q) := by unfold askD; simp only [hk, ← hd, ← ht, hs1, hp]; rfl
        rw [e]
        refine ⟨⟨fun x hx => ?_, h.qm, h.once, fun x r hx => ?_⟩, ?_, fun x hx => ?_, fun x hx => .inr ⟨x, hx, rfl⟩⟩
        · rcases put_mem hx with rfl | hx
          · exact g1
          · exact h.hm x hx
        · obtain ⟨z, hz, hz2⟩ := fits_no.1 (h.first x r hx)
          unfold hindD at hz2
          simp only [Bool.and_eq_true, bne_iff_ne, Bool.not_eq_true'] at hz2
          by_cases hw : z.1 = who
          · refine fits_no.2 ⟨(who, t), mem_put hs, ?_⟩
            unfold hindD
            simp only [Bool.and_eq_true, bne_iff_ne, Bool.not_eq_true']
            refine ⟨by rw [← hw]; exact hz2.1, ?_⟩
            have hv : held = z.2 := by rw [hd]; exact look_uniq hs (by rw [← hw]; exact hz)
            cases hf : fitsB x.2 t
            · rfl
            · have := g2 _ hf (by rw [hv]; exact h.hm z hz)
              rw [hv, hz2.2] at this; cases this
          · refine fits_no.2 ⟨z, put_old hs hz hw, ?_⟩
            unfold hindD
            simp only [Bool.and_eq_true, bne_iff_ne, Bool.not_eq_true']
            exact hz2
        · have := put_len (who, t) H
          simp only; omega
        · rcases put_mem hx with rfl | hx
          · exact .inl rfl
          · exact .inr ⟨x, hx, rfl⟩
    · have e : askD who m H Q = (1, H, Q) := by unfold askD; simp only [hk, ← hd, ← ht, hs1]; rfl
      rw [e]; exact same
theorem ask_srt {H Q : List En} (who m : Int) (hs : Srt H) : Srt (askD who m H Q).2.1 := by
  unfold askD
  split
  · simp only
    split
    · exact hs
    · split
      · exact srt_put hs
      · exact hs
  · exact hs
/-- What grant leaves. -/
theorem grant_facts : ∀ (Q H : List En), Srt H → Once Q → (∀ x ∈ H, md x.2) → (∀ x ∈ Q, md x.2) →
    (∀ x ∈ Q.take (grantD H Q).1, x ∈ (grantD H Q).2) ∧ (∀ z ∈ H, (∀ x ∈ Q, x.1 ≠ z.1) → z ∈ (grantD H Q).2) ∧ (∀ z ∈ (grantD H Q).2, z ∈ H ∨ z ∈ Q) ∧ Srt (grantD H Q).2 ∧ (∀ x r, Q.drop (grantD H Q).1 = x :: r → fitsL x (grantD H Q).2 = false)
  | [], H, hs, _, _, _ => ⟨fun x h => (by cases h), fun z h _ => h, fun z h => .inl h, hs, fun x r h => (by cases h)⟩
  | x :: r, H, hs, ho, hm, qm => by
    cases hf : fitsL x H
    · rw [grant_stop hf]
      refine ⟨fun z h => (by cases h), fun z h _ => h, fun z h => .inl h, hs, fun z r' h => ?_⟩
      simp only [List.drop_zero] at h
      injection h with h1 _
      rw [← h1]; exact hf
    · rw [grant_cons hf]
      obtain ⟨ho1, ho2⟩ := List.pairwise_cons.1 ho
      have hm' : ∀ z ∈ putD x H, md z.2 := fun z hz => by
        rcases put_mem hz with rfl | hz
        · exact qm _ List.mem_cons_self
        · exact hm z hz
      obtain ⟨i1, i2, i3, i4, i5⟩ := grant_facts r (putD x H) (srt_put hs) ho2 hm' (fun z hz => qm z (List.mem_cons_of_mem _ hz))
      refine ⟨fun z hz => ?_, fun z hz hne => ?_, fun z hz => ?_, i4, fun z r' h => i5 z r' (by simpa using h)⟩
      · simp only [List.take_succ_cons] at hz
        rcases List.mem_cons.1 hz with rfl | hz
        · exact i2 _ (mem_put hs) (fun q hq => (ho1 q hq).symm)
        · exact i1 z hz
      · exact i2 z (put_old hs hz (fun e => hne x List.mem_cons_self e.symm)) (fun q hq => hne q (List.mem_cons_of_mem _ hq))
      · rcases i3 z hz with h | h
        · rcases put_mem h with rfl | h
          · exact .inr List.mem_cons_self
          · exact .inl h
        · exact .inr (List.mem_cons_of_mem _ h)
theorem out_mem {who : Int} {l : List En} {z : En} (h : z ∈ out1 who l) : z ∈ l := List.mem_of_mem_eraseP h
theorem out_once {who : Int} {l : List En} (h : Once l) : Once (out1 who l) := h.sublist List.eraseP_sublist
theorem out_gone {who : Int} : ∀ {l : List En}, Once l → ∀ z ∈ out1 who l, z.1 ≠ who
  | [], _, z, h => by cases h
  | p :: r, ho, z, h => by
    obtain ⟨h1, h2⟩ := List.pairwise_cons.1 ho
    unfold out1 at h
    rw [List.eraseP_cons] at h
    cases e : isWho who p
    · rw [e] at h
      rcases List.mem_cons.1 h with rfl | h
      · simpa [isWho] using e
      · exact out_gone (l := r) h2 z h
    · rw [e] at h
      have ep : p.1 = who := by simpa [isWho] using e
      have := h1 z (by simpa using h)
      rw [ep] at this
      exact this.symm
theorem srt_once {l : List En} (h : Srt l) : Once l := h.imp (fun h => by omega)
/-- Leave keeps it; who is there was there, and is not who left; no more than before. -/
theorem leave_ok {H Q : List En} (who : Int) (hs : Srt H) (h : Ok H Q) : Ok (leaveD who H Q).2.1 (leaveD who H Q).2.2 ∧ (leaveD who H Q).2.1.length + (leaveD who H Q).2.2.length ≤ H.length + Q.length ∧
    (∀ x ∈ (leaveD who H Q).2.1, x.1 ≠ who ∧ ((∃ z ∈ H, z.1 = x.1) ∨ ∃ z ∈ Q, z.1 = x.1)) ∧ (∀ x ∈ (leaveD who H Q).2.2, x.1 ≠ who ∧ ∃ z ∈ Q, z.1 = x.1) := by
  have hm1 : ∀ x ∈ out1 who H, md x.2 := fun x hx => h.hm x (out_mem hx)
  have qm1 : ∀ x ∈ out1 who Q, md x.2 := fun x hx => h.qm x (out_mem hx)
  have ho1 := out_once (who := who) h.once
  obtain ⟨i1, i2, i3, i4, i5⟩ := grant_facts (out1 who Q) (out1 who H) (out_srt hs) ho1 hm1 qm1
  have hle := grant_le (out1 who Q) (out1 who H)
  have hgl := grant_len (out1 who Q) (out1 who H)
  have l1 := out_len who H
  have l2 := out_len who Q
  unfold leaveD
  refine ⟨⟨fun x hx => ?_, fun x hx => qm1 x (List.mem_of_mem_drop hx), ho1.sublist (List.drop_sublist _ _), i5⟩, ?_, fun x hx => ?_, fun x hx => ?_⟩
  · rcases i3 x hx with h | h
    · exact hm1 x h
    · exact qm1 x h
  · simp only [List.length_drop]; omega
  · rcases i3 x hx with h2 | h2
    · exact ⟨out_gone (srt_once hs) x h2, .inl ⟨x, out_mem h2, rfl⟩⟩
    · exact ⟨out_gone h.once x h2, .inr ⟨x, out_mem h2, rfl⟩⟩
  · have h2 := List.mem_of_mem_drop hx
    exact ⟨out_gone h.once x h2, x, out_mem h2, rfl⟩
end Go.Proofs.Ytdhpahopfmcdkaa

/- What Ask and Leave keep, the rest of it (plain facts). -/
namespace Go.Proofs.Ytdhpahopfmcdkaa
open Go.RowKit
variable {H Q : List En}

theorem srt_same {l : List En} (hs : Srt l) {x y : En} (hx : x ∈ l) (hy : y ∈ l) (e : x.1 = y.1) : x = y := by
  have h1 := look_uniq (k := x.1) (v := x.2) hs hx
  have h2 := look_uniq (k := x.1) (v := y.2) hs (by rw [e]; exact hy)
  exact Prod.ext e (h1.symm.trans h2)
theorem put_mem2 {y z : En} (hs : Srt H) (h : z ∈ putD y H) : z = y ∨ (z ∈ H ∧ z.1 ≠ y.1) := by
  by_cases e : z.1 = y.1
  · exact .inl (srt_same (srt_put hs) h (mem_put hs) e)
  · rcases put_mem h with h | h
    · exact .inl h
    · exact .inr ⟨h, e⟩
theorem has_put {y : En} (hs : Srt H) (k : Int) : hasD k (putD y H) = true ↔ k = y.1 ∨ hasD k H = true := by
  constructor
  · intro h
    obtain ⟨x, hx, e⟩ := has_iff.1 h
    rcases put_mem hx with rfl | hx
    · exact .inl e.symm
    · exact .inr (has_iff.2 ⟨x, hx, e⟩)
  · rintro (h | h)
    · exact has_iff.2 ⟨y, mem_put hs, h.symm⟩
    · obtain ⟨x, hx, e⟩ := has_iff.1 h
      by_cases e2 : x.1 = y.1
      · exact has_iff.2 ⟨y, mem_put hs, by rw [← e2]; exact e⟩
      · exact has_iff.2 ⟨x, put_old hs hx e2, e⟩
theorem look_put {y : En} (hs : Srt H) {k : Int} (hk : k ≠ y.1) : lookD k (putD y H) = lookD k H := by
  cases e : hasD k H
  · rw [look_no e]
    apply look_no
    cases e2 : hasD k (putD y H)
    · rfl
    · rcases (has_put hs k).1 e2 with h | h
      · exact absurd h hk
      · rw [e] at h; cases h
  · exact look_uniq (srt_put hs) (put_old hs (look_mem e) hk)
/-- All that is held fits together. -/
def Fit (H : List En) : Prop := ∀ x ∈ H, ∀ y ∈ H, x.1 ≠ y.1 → fitsB x.2 y.2 = true
theorem fits_comm {a b : Int} (ha : md a) (hb : md b) : fitsB a b = fitsB b a := by
  obtain ⟨i, rfl⟩ := six (m := a) (known_iff.2 ⟨by have := ha.1; omega, ha.2⟩)
  obtain ⟨j, rfl⟩ := six (m := b) (known_iff.2 ⟨by have := hb.1; omega, hb.2⟩)
  have key : ∀ i j : Fin 6, fitsB (i.val : Int) (j.val : Int) = fitsB (j.val : Int) (i.val : Int) := by decide +kernel
  exact key i j
theorem fit_put {y : En} (hs : Srt H) (hm : ∀ x ∈ H, md x.2) (hy : md y.2) (h : Fit H) (hf : fitsL y H = true) : Fit (putD y H) := by
  have key : ∀ x ∈ H, x.1 ≠ y.1 → fitsB y.2 x.2 = true := fun x hx hne => by
    unfold fitsL at hf
    rw [Bool.not_eq_true', List.any_eq_false] at hf
    have := hf x hx
    unfold hindD at this
    cases e : fitsB y.2 x.2
    · exfalso; apply this; simp [hne, e]
    · rfl
  intro x hx z hz hne
  rcases put_mem2 hs hx with ex | ⟨hx2, nx⟩ <;> rcases put_mem2 hs hz with ez | ⟨hz2, nz⟩
  · rw [ex, ez] at hne; exact absurd rfl hne
  · rw [ex]; exact key z hz2 nz
  · rw [ez, fits_comm (hm x hx2) hy]; exact key x hx2 nx
  · exact h x hx2 z hz2 hne
/-- Those that hold something wait ahead of those that do not. -/
def Ahead (H Q : List En) : Prop := Q.Pairwise (fun a c => hasD c.1 H = true → hasD a.1 H = true)
theorem conv_has (hm : ∀ x ∈ H, md x.2) : ∀ {Q : List En}, ∀ x ∈ Q.take (convD H Q), hasD x.1 H = true
  | [], x, h => by simp at h
  | q :: r, x, h => by
    unfold convD at h
    split at h
    · simp at h
    · rename_i hq
      rw [List.take_succ_cons] at h
      rcases List.mem_cons.1 h with rfl | h
      · cases e : hasD x.1 H
        · exact absurd (by rw [look_no e]; rfl) hq
        · rfl
      · exact conv_has hm x h
theorem ahead_wait {held : Int} {y : En} (hm : ∀ x ∈ H, md x.2) (hh : held = lookD y.1 H) (h : Ahead H Q) : Ahead H (waitD held y H Q) := by
  unfold waitD Ahead
  split
  · rename_i e
    have e0 : hasD y.1 H = false := (look_zero hm).1 (by rw [← hh]; simpa using e)
    rw [List.pairwise_append]
    exact ⟨h, List.pairwise_singleton _ _, fun a _ c hc h2 => by rw [List.mem_singleton.1 hc, e0] at h2; cases h2⟩
  · rename_i e
    have e0 : hasD y.1 H = true := by
      cases e2 : hasD y.1 H
      · exact absurd (by rw [hh, look_no e2]; rfl) e
      · rfl
    rw [List.pairwise_append]
    refine ⟨List.Pairwise.sublist (List.take_sublist _ _) h, ?_, fun a ha c _ _ => conv_has hm a ha⟩
    rw [List.pairwise_cons]
    exact ⟨fun c _ _ => e0, List.Pairwise.sublist (List.drop_sublist _ _) h⟩
/-- All of it. -/
structure Fine (H Q : List En) : Prop where
  ok : Ok H Q
  fit : Fit H
  ahead : Ahead H Q
  cov : ∀ x ∈ Q, coversB x.2 (lookD x.1 H) = true
theorem fine_nil : Fine [] [] := ⟨ok_nil, fun x h => (by cases h), List.Pairwise.nil, fun x h => (by cases h)⟩
theorem goal_cov {held m : Int} (hh : held = 0 ∨ md held) (hm : knownB m = true) : coversB (goal held m) held = true ∧ coversB (goal held m) m = true := by
  have hk : knownB held = true := by
    rw [known_iff]
    rcases hh with h | h
    · omega
    · exact ⟨by have := h.1; omega, h.2⟩
  obtain ⟨i, rfl⟩ := six hk
  obtain ⟨j, rfl⟩ := six hm
  have key : ∀ i j : Fin 6, (coversB (goal (i.val : Int) (j.val : Int)) (i.val : Int) && coversB (goal (i.val : Int) (j.val : Int)) (j.val : Int)) = true := by decide +kernel
  simpa using key i j
theorem ask_fine (who m : Int) (hs : Srt H) (h : Fine H Q) : Fine (askD who m H Q).2.1 (askD who m H Q).2.2 ∧
    ((askD who m H Q).1 = 1 → coversB (lookD who (askD who m H Q).2.1) m = true ∧ coversB (lookD who (askD who m H Q).2.1) (lookD who H) = true) ∧
    ((askD who m H Q).1 ≠ 1 → lookD who (askD who m H Q).2.1 = lookD who H) := by
  have hok := (ask_ok who m hs h.ok).1
  cases hk : okD who m Q
  · have e : askD who m H Q = (0, H, Q) := by unfold askD; rw [hk]; rfl
    rw [e]
    exact ⟨h, fun e => absurd e (show ¬ ((0 : Int) = 1) by decide), fun _ => rfl⟩
  · obtain ⟨⟨h1, h2⟩, h3⟩ : (knownB m = true ∧ (m == 0) = false) ∧ (lookD who Q == 0) = true := by
      unfold okD at hk
      simpa using hk
    have hnq : hasD who Q = false := (look_zero h.ok.qm).1 (by simpa using h3)
    have hheld : lookD who H = 0 ∨ md (lookD who H) := by
      cases e : hasD who H
      · exact .inl (look_no e)
      · exact .inr (h.ok.hm _ (look_mem e))
    obtain ⟨g1, _⟩ := goal_md hheld h1 h2
    obtain ⟨g3, g4⟩ := goal_cov hheld h1
    obtain ⟨held, hd⟩ : ∃ held, held = lookD who H := ⟨_, rfl⟩
    obtain ⟨t, ht⟩ : ∃ t, t = goal held m := ⟨_, rfl⟩
    rw [← hd, ← ht] at g1 g3 g4
    cases hs1 : (t == held)
    · cases hp : (passD held H Q && fitsL (who, t) H)
      · have e : askD who m H Q = (2, H, waitD held (who, t) H Q) := by unfold askD; simp only [hk, ← hd, ← ht, hs1, hp]; rfl
        rw [e] at hok ⊢
        refine ⟨⟨hok, h.fit, ahead_wait (y := (who, t)) h.ok.hm hd h.ahead, fun x hx => ?_⟩, fun e => absurd e (show ¬ ((2 : Int) = 1) by decide), fun _ => rfl⟩
        rcases wait_mem.1 hx with rfl | hx
        · show coversB t (lookD who H) = true
          rw [← hd]; exact g3
        · exact h.cov x hx
      · have e : askD who m H Q = (1, putD (who, t) H, Q) := by unfold askD; simp only [hk, ← hd, ← ht, hs1, hp]; rfl
        rw [Bool.and_eq_true] at hp
        rw [e] at hok ⊢
        have hl : lookD who (putD (who, t) H) = t := look_uniq (srt_put hs) (mem_put hs)
        refine ⟨⟨hok, fit_put hs h.ok.hm g1 h.fit hp.2, ?_, fun x hx => ?_⟩, fun _ => ?_, fun e => absurd rfl e⟩
        · cases e0 : hasD who H
          · have hQ : Q = [] := by
              have h5 := hp.1
              unfold passD at h5
              rw [hd, look_no e0] at h5
              simpa using h5
            rw [hQ]; exact List.Pairwise.nil
          · have same : ∀ k, hasD k (putD (who, t) H) = hasD k H := fun k => by
              cases e1 : hasD k H
              · cases e2 : hasD k (putD (who, t) H)
                · rfl
                · rcases (has_put hs k).1 e2 with h6 | h6
                  · rw [h6] at e1; rw [e0] at e1; cases e1
                  · rw [e1] at h6; cases h6
              · exact (has_put hs k).2 (.inr e1)
            unfold Ahead
            simp only [same]
            exact h.ahead
        · show coversB x.2 (lookD x.1 (putD (who, t) H)) = true
          rw [look_put hs (hasnt hnq x hx)]; exact h.cov x hx
        · show coversB (lookD who (putD (who, t) H)) m = true ∧ coversB (lookD who (putD (who, t) H)) (lookD who H) = true
          rw [hl, ← hd]; exact ⟨g4, g3⟩
    · have e : askD who m H Q = (1, H, Q) := by unfold askD; simp only [hk, ← hd, ← ht, hs1]; rfl
      have e2 : t = held := by simpa using hs1
      rw [e]
      refine ⟨h, fun _ => ?_, fun e => absurd rfl e⟩
      show coversB (lookD who H) m = true ∧ coversB (lookD who H) (lookD who H) = true
      rw [← hd, ← e2]
      refine ⟨g4, ?_⟩
      rw [← e2] at g3; exact g3
theorem grant_keep : ∀ (Q H : List En), Srt H → (∀ z ∈ H, (∀ q ∈ Q.take (grantD H Q).1, q.1 ≠ z.1) → z ∈ (grantD H Q).2) ∧ (∀ z ∈ (grantD H Q).2, z ∈ H ∨ z ∈ Q.take (grantD H Q).1)
  | [], H, _ => ⟨fun z h _ => h, fun z h => .inl h⟩
  | x :: r, H, hs => by
    cases hf : fitsL x H
    · rw [grant_stop hf]
      exact ⟨fun z h _ => h, fun z h => .inl h⟩
    · rw [grant_cons hf]
      obtain ⟨i1, i2⟩ := grant_keep r (putD x H) (srt_put hs)
      refine ⟨fun z hz hne => ?_, fun z hz => ?_⟩
      · rw [List.take_succ_cons] at hne
        exact i1 z (put_old hs hz (fun e => hne x List.mem_cons_self e.symm)) (fun q hq => hne q (List.mem_cons_of_mem _ hq))
      · rw [List.take_succ_cons]
        rcases i2 z hz with h | h
        · rcases put_mem h with rfl | h
          · exact .inr List.mem_cons_self
          · exact .inl h
        · exact .inr (List.mem_cons_of_mem _ h)
theorem grant_fit : ∀ (Q H : List En), Srt H → (∀ x ∈ H, md x.2) → (∀ x ∈ Q, md x.2) → Fit H → Fit (grantD H Q).2
  | [], H, _, _, _, h => h
  | x :: r, H, hs, hm, qm, h => by
    cases hf : fitsL x H
    · rw [grant_stop hf]; exact h
    · rw [grant_cons hf]
      have hx := qm x List.mem_cons_self
      refine grant_fit r (putD x H) (srt_put hs) (fun z hz => ?_) (fun z hz => qm z (List.mem_cons_of_mem _ hz)) (fit_put hs hm hx h hf)
      rcases put_mem hz with rfl | hz
      · exact hx
      · exact hm z hz
theorem out_keep {who : Int} {l : List En} {z : En} (h : z ∈ l) (hne : z.1 ≠ who) : z ∈ out1 who l := by
  unfold out1
  rw [List.mem_eraseP_of_neg]
  · exact h
  · simpa [isWho] using hne
theorem leave_fine (who : Int) (hs : Srt H) (h : Fine H Q) : Fine (leaveD who H Q).2.1 (leaveD who H Q).2.2 ∧ lookD who (leaveD who H Q).2.1 = 0 ∧ lookD who (leaveD who H Q).2.2 = 0 := by
  obtain ⟨hok, _, h3, h4⟩ := leave_ok who hs h.ok
  have no : ∀ {l : List En}, (∀ x ∈ l, x.1 ≠ who) → lookD who l = 0 := fun {l} hl => look_no (by
    cases e : hasD who l
    · rfl
    · obtain ⟨x, hx, e2⟩ := has_iff.1 e
      exact absurd e2 (hl x hx))
  have hs1 := out_srt (who := who) hs
  have ho1 := out_once (who := who) h.ok.once
  have hm1 : ∀ x ∈ out1 who H, md x.2 := fun x hx => h.ok.hm x (out_mem hx)
  have qm1 : ∀ x ∈ out1 who Q, md x.2 := fun x hx => h.ok.qm x (out_mem hx)
  have hfit1 : Fit (out1 who H) := fun x hx y hy => h.fit x (out_mem hx) y (out_mem hy)
  obtain ⟨k1, k2⟩ := grant_keep (out1 who Q) (out1 who H) hs1
  obtain ⟨_, _, _, srt', _⟩ := grant_facts (out1 who Q) (out1 who H) hs1 ho1 hm1 qm1
  have apart : ∀ x ∈ (out1 who Q).drop (grantD (out1 who H) (out1 who Q)).1, ∀ q ∈ (out1 who Q).take (grantD (out1 who H) (out1 who Q)).1, q.1 ≠ x.1 := fun x hx q hq => by
    have h2 : ((out1 who Q).take (grantD (out1 who H) (out1 who Q)).1 ++ (out1 who Q).drop (grantD (out1 who H) (out1 who Q)).1).Pairwise (fun a b => a.1 ≠ b.1) := by rw [List.take_append_drop]; exact ho1
    exact (List.pairwise_append.1 h2).2.2 q hq x hx
  have has' : ∀ x ∈ (out1 who Q).drop (grantD (out1 who H) (out1 who Q)).1, hasD x.1 (grantD (out1 who H) (out1 who Q)).2 = hasD x.1 H := fun x hx => by
    have hne := out_gone h.ok.once x (List.mem_of_mem_drop hx)
    cases e1 : hasD x.1 H
    · cases e2 : hasD x.1 (grantD (out1 who H) (out1 who Q)).2
      · rfl
      · obtain ⟨z, hz, e3⟩ := has_iff.1 e2
        rcases k2 z hz with h5 | h5
        · rw [has_iff.2 ⟨z, out_mem h5, e3⟩] at e1; cases e1
        · exact absurd e3 (apart x hx z h5)
    · obtain ⟨z, hz, e3⟩ := has_iff.1 e1
      exact has_iff.2 ⟨z, k1 z (out_keep hz (by rw [e3]; exact hne)) (fun q hq => by rw [e3]; exact apart x hx q hq), e3⟩
  refine ⟨⟨hok, grant_fit _ _ hs1 hm1 qm1 hfit1, ?_, fun x hx => ?_⟩, no (fun x hx => (h3 x hx).1), no (fun x hx => (h4 x hx).1)⟩
  · show List.Pairwise _ _
    have hsub : ((out1 who Q).drop (grantD (out1 who H) (out1 who Q)).1).Sublist Q := (List.drop_sublist _ _).trans List.eraseP_sublist
    have := List.Pairwise.sublist hsub h.ahead
    refine this.imp_of_mem (fun {a c} ha hc h6 h7 => ?_)
    have h7' : hasD c.1 (grantD (out1 who H) (out1 who Q)).2 = true := h7
    show hasD a.1 (grantD (out1 who H) (out1 who Q)).2 = true
    rw [has' a ha]
    rw [has' c hc] at h7'
    exact h6 h7'
  · have hx' : x ∈ (out1 who Q).drop (grantD (out1 who H) (out1 who Q)).1 := hx
    have hne := out_gone h.ok.once x (List.mem_of_mem_drop hx')
    have e : lookD x.1 (leaveD who H Q).2.1 = lookD x.1 H := by
      show lookD x.1 (grantD (out1 who H) (out1 who Q)).2 = _
      cases e1 : hasD x.1 H
      · rw [look_no e1, look_no (by rw [has' x hx']; exact e1)]
      · exact look_uniq srt' (k1 _ (out_keep (look_mem e1) hne) (fun q hq => apart x hx' q hq))
    rw [e]
    exact h.cov x (out_mem (List.mem_of_mem_drop hx'))
end Go.Proofs.Ytdhpahopfmcdkaa

/- Ask at a table, with its rows left open; the examples of the chapter: first. -/
namespace Go.Proofs.Ytdhpahopfmcdkaa
open Go.RowKit

/-- What is neither a lane nor entries stays. -/
def Stay (w w' : World) : Prop := ∀ (k : Nat) (cur : Array Value) (t : TypeId), w.heap[k]? = some (.cells cur t (0, 0)) → t ≠ 63 → t ≠ 90 → w'.heap[k]? = some (.cells cur t (0, 0))
theorem Stay.of {w w' : World} (h : Below w.heap.size w w') : Stay w w' := fun k _ _ hk _ _ => (h.block k (heap_lt hk)).trans hk
theorem Stay.trans {w w' w'' : World} (h : Stay w w') (k : Stay w' w'') : Stay w w'' := fun j c t hj h1 h2 => k j c t (h j c t hj h1 h2) h1 h2
theorem Pr.stay {t : TypeId} {B : Nat} {v : Value} {l : List En} {w w' : World} (h : Pr t B v l w) (s : Stay w w') (h1 : t ≠ 63) (h2 : t ≠ 90) : Pr t B v l w' :=
  h.keep fun g hg => by
    obtain ⟨cur, hc⟩ := h.ty g hg
    rw [s g cur t hc h1 h2, hc]
theorem Is.stay {B : Nat} {v : Value} {l : List Int} {w w' : World} (h : Is B v l w) (s : Stay w w') : Is B v l w' :=
  h.keep fun g hg => by
    obtain ⟨cur, hc⟩ := h.ty g hg
    rw [s g cur 3 hc (by decide) (by decide), hc]
/-- What Ask answers, and the lanes behind it. -/
def askT (n : Nat) (most : Int) (T : Nat → Lv) (who node m : Int) : (Int × Int) × (Nat → Lv) :=
  if errD n most T who node m = 0 then (((askD who m (T node.toNat).1 (T node.toNat).2).1, 0), upd T node.toNat (askD who m (T node.toNat).1 (T node.toNat).2).2) else ((0, errD n most T who node m), T)
theorem err_node {n : Nat} {most : Int} {T : Nat → Lv} {who node m : Int} (h : errD n most T who node m = 0) : 0 ≤ node ∧ node < n ∧ noneW who n T ∧ 0 ≤ who ∧ m ≠ 0 ∧ knownB m = true ∧ (hasL who (T node.toNat) = true ∨ (lenD T n : Int) < most) := by
  unfold errD at h
  split at h
  · omega
  · rename_i h1
    split at h
    · omega
    · rename_i h2
      split at h
      · omega
      · rename_i h3
        split at h
        · omega
        · rename_i h4
          have h5 : 0 ≤ node ∧ node < n := by simpa using h1
          have h6 := atW_le who T n
          refine ⟨h5.1, h5.2, fun i hi => atW_low who T n i (by omega), ?_, fun e => h3 (.inr (.inl e)), ?_, ?_⟩
          · by_cases e : who < 0
            · exact absurd (.inl e) h3
            · omega
          · cases e : knownB m
            · exact absurd (.inr (.inr e)) h3
            · rfl
          · cases e : hasL who (T node.toNat)
            · right
              by_cases e2 : most ≤ (lenD T n : Int)
              · exact absurd ⟨e, e2⟩ h4
              · omega
            · exact .inl rfl
/-- The table in block b, its rows left open. -/
def Tn (B n : Nat) (most : Int) (T : Nat → Lv) (b : Nat) (w : World) : Prop := ∃ rb lb hv qv, Tb B n most T b rb lb hv qv w
variable {B n : Nat} {most : Int} {T : Nat → Lv} {b : Nat}
theorem Tn.next {w w' : World} (h : Tn B n most T b w) (k : Below w.heap.size w w') : Tn B n most T b w' := by
  obtain ⟨rb, lb, hv, qv, t⟩ := h
  exact ⟨rb, lb, hv, qv, t.next k⟩
theorem Tn.drew {w : World} (h : Tn B n most T b w) : Tn B n most T b w.drew := h.next ⟨rfl, rfl, rfl, Nat.le_refl _, fun _ _ => rfl⟩
theorem Tn.low {w : World} (h : Tn B n most T b w) : B ≤ w.heap.size := by
  obtain ⟨rb, lb, hv, qv, t⟩ := h
  exact t.low
theorem Tn.srt {w : World} (h : Tn B n most T b w) {i : Nat} (hi : i < n) : Srt (T i).1 := by
  obtain ⟨rb, lb, hv, qv, t⟩ := h
  exact (t.ls.la i hi).srt
set_option maxRecDepth 100000 in
set_option maxHeartbeats 1000000 in
theorem ask_n (w : World) (h : Tn B n most T b w) (hf : Few n 1000 T) (hn : n ≤ 10000) (who node m : Int) {r : (Int × Int) × (Nat → Lv)} (hr : askT n most T who node m = r) :
    Calls Try.prog 29 #[.pointer (some ⟨b, 0, none⟩), .int .i64 who, .int .i64 node, .int .i64 m] w fun e w' => e = .returned (.tuple #[.int .i64 r.1.1, .int .i64 r.1.2]) ∧ Tn B n most r.2 b w' ∧ Below B w w' ∧ Stay w w' := by
  subst hr
  obtain ⟨rb, lb, hv, qv, t⟩ := h
  have HT := hide t
  have hm := hide (may_t w t hf hn who node m)
  unfold askT
  by_cases h0 : errD n most T who node m = 0
  · rw [h0] at hm
    rw [if_pos h0]
    obtain ⟨p1, p2, _⟩ := err_node h0
    clear h0 t
    obtain ⟨k, rfl⟩ : ∃ k : Nat, node = (k : Int) := ⟨node.toNat, by omega⟩
    have hk : k < n := by omega
    have e2 : (k : Int).toNat = k := rfl
    rw [e2]
    clear e2
    obtain ⟨f1, f2⟩ := hf k hk
    replace f1 := hide f1
    replace f2 := hide f2
    go_enter Try.func29, Try.ntmps29
    go_wp2_with fail
    refine (unhide hm).mono ?_
    rintro e w1 ⟨rfl, b1⟩
    have T1 := (unhide HT).next b1
    have c0 := T1.c0
    have d0 := T1.at_ hk
    replace T1 := hide T1
    replace b1 := hide b1
    go_wp2_with fail
    refine (ask_any w1 ((unhide T1).ls.la k hk) (by have := unhide f1; omega) (by have := unhide f2; omega) who m).mono ?_
    rintro e w2 ⟨rfl, hv', qv', L2, M2⟩
    have T2 := hide ((unhide T1).step hk M2 L2)
    have B2 := hide (((unhide b1).mono (unhide HT).low).trans (M2.below ((unhide T1).ls.la k hk)))
    have S2 := hide ((Stay.of (unhide b1)).trans (fun j c t hj h1 h2 => M2.stays ((unhide T1).ls.la k hk) hj h1 h2))
    clear L2 M2 c0 d0
    go_wp2
    go_ret2
    exact ⟨rfl, ⟨_, _, _, _, unhide T2⟩, unhide B2, unhide S2⟩
  · rw [if_neg h0]
    have h1 : (errD n most T who node m != 0) = true := by simpa using h0
    obtain ⟨x, hx⟩ : ∃ x, x = errD n most T who node m := ⟨_, rfl⟩
    rw [← hx] at hm h1 ⊢
    have h2 : x ≠ 0 := by rw [hx]; exact h0
    clear h0 t hx
    go_enter Try.func29, Try.ntmps29
    go_wp2_with fail
    refine (unhide hm).mono ?_
    rintro e w1 ⟨rfl, b1⟩
    replace b1 := hide b1
    go_wp2
    go_ret2
    exact ⟨rfl, ⟨_, _, _, _, (unhide HT).next (unhide b1)⟩, (unhide b1).mono (unhide HT).low, Stay.of (unhide b1)⟩
theorem len_n (w : World) (h : Tn B n most T b w) (hf : Few n 1000 T) (hn : n ≤ 10000) {r : Nat} (hr : lenD T n = r) : Calls Try.prog 35 #[.pointer (some ⟨b, 0, none⟩)] w fun e w' => e = .returned (.int .i64 (r : Nat)) ∧ Below w.heap.size w w' := by
  subst hr
  obtain ⟨rb, lb, hv, qv, t⟩ := h
  exact len_t w t hf hn
theorem held_n (w : World) (h : Tn B n most T b w) (hf : Few n 1000 T) (hn : n ≤ 10000) (who : Int) :
    Calls Try.prog 32 #[.pointer (some ⟨b, 0, none⟩), .int .i64 who] w fun e w' => ∃ v, e = .returned v ∧ Pr 50 w.heap.size v (heldD who T n) w' ∧ Below w.heap.size w w' := by
  obtain ⟨rb, lb, hv, qv, t⟩ := h
  exact held_t w t hf hn who
theorem holds_n (w : World) (h : Tn B n most T b w) (hf : Few n 1000 T) (who node : Int) (h0 : 0 ≤ node) (h1 : node < n) {r : Int} (hr : lookD who (T node.toNat).1 = r) :
    Calls Try.prog 45 #[.pointer (some ⟨b, 0, none⟩), .int .i64 who, .int .i64 node] w fun e w' => e = .returned (.int .i64 r) ∧ Below w.heap.size w w' := by
  subst hr
  obtain ⟨rb, lb, hv, qv, t⟩ := h
  exact holds_t w t hf who node h0 h1
theorem waits_n (w : World) (h : Tn B n most T b w) (hf : Few n 1000 T) (hn : n ≤ 10000) (who : Int) {s : Nat} (hs : atW who T n = s) :
    Calls Try.prog 31 #[.pointer (some ⟨b, 0, none⟩), .int .i64 who] w fun e w' => e = .returned (waitV who n T s) ∧ Below w.heap.size w w' := by
  subst hs
  obtain ⟨rb, lb, hv, qv, t⟩ := h
  exact waits_tb w t hf hn who
theorem new_n (n : Nat) (most : Int) (w : World) (h1 : 1 ≤ n) (h2 : n ≤ 10000) (h3 : 1 ≤ most) (h4 : most ≤ 4096) :
    Calls Try.prog 28 #[.int .i64 (n : Int), .int .i64 most] w fun e w' => ∃ b, e = .returned (.tuple #[.pointer (some ⟨b, 0, none⟩), .int .i64 0]) ∧ Tn w.heap.size n most none0 b w' ∧ Below w.heap.size w w' :=
  (newt_t n most w h1 h2 h3 h4).mono fun _ _ ⟨b, _, _, he, ht, hb⟩ => ⟨b, he, ⟨_, _, _, _, ht⟩, hb⟩
theorem few_none (n k : Nat) : Few n k none0 := fun _ _ => ⟨Nat.zero_le _, Nat.zero_le _⟩
theorem few_upd {k : Nat} (h : Few n k T) (i : Nat) {x : Lv} (h1 : x.1.length ≤ k) (h2 : x.2.length ≤ k) : Few n k (upd T i x) := fun j hj => by
  by_cases e : j = i
  · subst e; rw [upd_same]; exact ⟨h1, h2⟩
  · rw [upd_other T x e]; exact h j hj
theorem ask_good {who node m : Int} {x : Int × Lv} (h : errD n most T who node m = 0) (k : Nat) (hk : node.toNat = k) (e : askD who m (T k).1 (T k).2 = x) : askT n most T who node m = ((x.1, 0), upd T k x.2) := by
  unfold askT
  rw [if_pos h, hk, e]
theorem ask_err {who node m x : Int} (h : errD n most T who node m = x) (hx : x ≠ 0) : askT n most T who node m = ((0, x), T) := by
  unfold askT
  rw [if_neg (by rw [h]; exact hx), h]
def t1 : Nat → Lv := upd none0 1 ([(0, 3)], [])
def t2 : Nat → Lv := upd t1 1 ([(0, 5)], [])
theorem g1 : askT 3 1 none0 0 1 3 = ((1, 0), t1) := ask_good (x := (1, [(0, 3)], [])) (show errD 3 1 none0 0 1 3 = 0 by decide +kernel) 1 rfl (show askD 0 3 (none0 1).1 (none0 1).2 = (1, [(0, 3)], []) by decide +kernel)
theorem g2 : askT 3 1 t1 1 2 3 = ((0, 3), t1) := ask_err (by decide +kernel) (by decide)
theorem g3 : askT 3 1 t1 0 1 5 = ((1, 0), t2) := ask_good (x := (1, [(0, 5)], [])) (show errD 3 1 t1 0 1 5 = 0 by decide +kernel) 1 rfl (show askD 0 5 (t1 1).1 (t1 1).2 = (1, [(0, 5)], []) by decide +kernel)
theorem g4 : lenD t2 3 = 1 := by decide +kernel
theorem few1 : Few 3 1000 t1 := few_upd (few_none _ _) 1 (by decide) (by decide)
theorem few2 : Few 3 1000 t2 := few_upd few1 1 (by decide) (by decide)
set_option maxRecDepth 100000 in
set_option maxHeartbeats 2000000 in
theorem firstt_any (w : World) : Calls Try.prog 27 #[] w fun e w' => e = .returned (.bool true) ∧ Below w.heap.size w w' := by
  obtain ⟨N, hN⟩ : ∃ N, N = w.heap.size := ⟨_, rfl⟩
  go_enter Try.func27, Try.ntmps27
  go_wp2_with fail
  refine (new_n 3 1 w (by decide) (by decide) (by decide) (by decide)).mono ?_
  rw [← hN]
  rintro e w1 ⟨b, rfl, L1, B1⟩
  replace hN := hide hN
  replace L1 := hide L1
  replace B1 := hide B1
  go_wp2_with fail
  refine (ask_n w1 (unhide L1) (few_none _ _) (by decide) 0 1 3 g1).mono ?_
  rintro e w2 ⟨rfl, L2, b2, _⟩
  have B2 := hide ((unhide B1).trans b2)
  replace L2 := hide L2
  clear b2
  go_wp2_with fail
  refine (ask_n w2 (unhide L2) few1 (by decide) 1 2 3 g2).mono ?_
  rintro e w3 ⟨rfl, L3, b2, _⟩
  have B3 := hide ((unhide B2).trans b2)
  replace L3 := hide L3
  clear b2
  go_wp2_with fail
  refine (ask_n w3 (unhide L3) few1 (by decide) 0 1 5 g3).mono ?_
  rintro e w4 ⟨rfl, L4, b2, _⟩
  have B4 := hide ((unhide B3).trans b2)
  replace L4 := hide L4
  clear b2
  go_wp2_with fail
  refine (len_n w4 (unhide L4) few2 (by decide) g4).mono ?_
  rintro e w5 ⟨rfl, b2⟩
  have B5 := hide (bt (unhide B4) b2 (unhide L4).low)
  clear b2
  go_wp2
  go_ret
  exact ⟨rfl, by rw [← unhide hN]; exact unhide B5⟩
end Go.Proofs.Ytdhpahopfmcdkaa

/- TableOrder: what the walk wants, plainly; SameLocks. -/
namespace Go.Proofs.Ytdhpahopfmcdkaa
open Go.RowKit

/-- Each lane in order, of k entries at most. -/
structure Gd (n k : Nat) (T : Nat → Lv) : Prop where
  fine : ∀ i, i < n → Fine (T i).1 (T i).2
  sum : ∀ i, i < n → (T i).1.length + (T i).2.length ≤ k
variable {n k : Nat} {most : Int} {T : Nat → Lv} {who node m : Int}
theorem gd_none (n k : Nat) : Gd n k none0 := ⟨fun _ _ => fine_nil, fun _ _ => Nat.zero_le _⟩
theorem Gd.few (h : Gd n k T) (hk : k ≤ 1000) : Few n 1000 T := fun i hi => by have := h.sum i hi; omega
theorem Gd.up (h : Gd n k T) {k' : Nat} (hk : k ≤ k') : Gd n k' T := ⟨h.fine, fun i hi => Nat.le_trans (h.sum i hi) hk⟩
theorem Gd.set (h : Gd n k T) (i : Nat) {x : Lv} (hx : Fine x.1 x.2) (hl : x.1.length + x.2.length ≤ k) : Gd n k (upd T i x) := by
  refine ⟨fun j hj => ?_, fun j hj => ?_⟩
  · by_cases e : j = i
    · subst e; rw [upd_same]; exact hx
    · rw [upd_other T x e]; exact h.fine j hj
  · by_cases e : j = i
    · subst e; rw [upd_same]; exact hl
    · rw [upd_other T x e]; exact h.sum j hj
theorem ask_yes (h : errD n most T who node m = 0) : askT n most T who node m = (((askD who m (T node.toNat).1 (T node.toNat).2).1, 0), upd T node.toNat (askD who m (T node.toNat).1 (T node.toNat).2).2) := by
  unfold askT; rw [if_pos h]
theorem ask_not (h : errD n most T who node m ≠ 0) : askT n most T who node m = ((0, errD n most T who node m), T) := by
  unfold askT; rw [if_neg h]
theorem gd_ask (hs : ∀ i, i < n → Srt (T i).1) (h : Gd n k T) : Gd n (k + 1) (askT n most T who node m).2 := by
  by_cases h0 : errD n most T who node m = 0
  · obtain ⟨p1, p2, _⟩ := err_node h0
    rw [ask_yes h0]
    have hi : node.toNat < n := by omega
    have f := h.fine _ hi
    refine (h.up (Nat.le_succ k)).set _ (ask_fine who m (hs _ hi) f).1 ?_
    have h1 := (ask_ok who m (hs _ hi) f.ok).2.1
    have h2 := h.sum _ hi
    omega
  · rw [ask_not h0]
    exact h.up (Nat.le_succ k)
theorem ask_other {H Q : List En} {a b m : Int} (hs : Srt H) (h : b ≠ a) : lookD b (askD a m H Q).2.1 = lookD b H := by
  unfold askD
  split
  · dsimp only
    split
    · rfl
    · split
      · exact look_put hs h
      · rfl
  · rfl
theorem held_other {b : Int} (hs : ∀ i, i < n → Srt (T i).1) (hb : b ≠ who) : heldD b (askT n most T who node m).2 n = heldD b T n := by
  by_cases h0 : errD n most T who node m = 0
  · obtain ⟨p1, p2, _⟩ := err_node h0
    rw [ask_yes h0]
    refine held_same b n (fun i hi => ?_)
    by_cases e : i = node.toNat
    · subst e
      show lookD b (upd _ _ _ _).1 = _
      rw [upd_same]
      exact ask_other (hs _ hi) hb
    · show lookD b (upd _ _ _ _).1 = _
      rw [upd_other _ _ e]
  · rw [ask_not h0]
theorem ask_cov (hs : ∀ i, i < n → Srt (T i).1) (h : Gd n k T) (he : (askT n most T who node m).1.2 = 0) (hr : (askT n most T who node m).1.1 = 1) : 0 ≤ node ∧ node < n ∧ coversB (lookD who ((askT n most T who node m).2 node.toNat).1) m = true := by
  by_cases h0 : errD n most T who node m = 0
  · obtain ⟨p1, p2, _⟩ := err_node h0
    rw [ask_yes h0] at hr ⊢
    have hi : node.toNat < n := by omega
    refine ⟨p1, p2, ?_⟩
    show coversB (lookD who (upd _ _ _ _).1) m = true
    rw [upd_same]
    exact ((ask_fine who m (hs _ hi) (h.fine _ hi)).2.1 hr).1
  · rw [ask_not h0] at he
    exact absurd he h0
theorem held_at (who : Int) (T : Nat → Lv) (n : Nat) {i : Nat} (hi : i < (heldD who T n).length) : ∃ j : Nat, j < n ∧ ((heldD who T n).getD i (0, 0)).1 = (j : Int) ∧ ((heldD who T n).getD i (0, 0)).2 = lookD who (T j).1 := by
  obtain ⟨j, h1, h2⟩ := held_mem who T n _ (show (heldD who T n).getD i (0, 0) ∈ heldD who T n by simp [List.getD, hi])
  exact ⟨j, h1, by rw [h2], by rw [h2]⟩
theorem held_rise (who : Int) (T : Nat → Lv) (n : Nat) {i : Nat} (hi : i + 1 < (heldD who T n).length) : ((heldD who T n).getD i (0, 0)).1 < ((heldD who T n).getD (i + 1) (0, 0)).1 := by
  have := List.pairwise_iff_getElem.1 (held_srt who T n) i (i + 1) (by omega) hi (by omega)
  simpa [List.getD, hi, show i < (heldD who T n).length by omega] using this
end Go.Proofs.Ytdhpahopfmcdkaa

/- Tables where 0 and 1 alone hold something and nobody waits, plainly. -/
namespace Go.Proofs.Ytdhpahopfmcdkaa
open Go.RowKit

/-- Those that hold: 0 holds a, 1 holds b (0: nothing). -/
def duoL (a b : Int) : List En := (if a = 0 then [] else [(0, a)]) ++ (if b = 0 then [] else [(1, b)])
/-- .. at each node. -/
def duo (f g : Nat → Int) : Nat → Lv := fun i => (duoL (f i) (g i), [])
def zer : Nat → Int := fun _ => 0
theorem duo_none : duo zer zer = none0 := rfl
theorem duoL_0 (a b : Int) : lookD 0 (duoL a b) = a := by
  unfold duoL
  by_cases h : a = 0 <;> by_cases h2 : b = 0 <;> simp [h, h2, lookD]
theorem duoL_1 (a b : Int) : lookD 1 (duoL a b) = b := by
  unfold duoL
  by_cases h : a = 0 <;> by_cases h2 : b = 0 <;> simp [h, h2, lookD]
theorem duoL_len (a b : Int) : (duoL a b).length ≤ 2 := by
  unfold duoL
  by_cases h : a = 0 <;> by_cases h2 : b = 0 <;> simp [h, h2]
theorem duo_few (f g : Nat → Int) (n : Nat) : Few n 1000 (duo f g) := fun i _ => ⟨Nat.le_trans (duoL_len _ _) (by decide), Nat.zero_le _⟩
theorem duo_sum (f g : Nat → Int) (n : Nat) : ∀ i, i < n → (duo f g i).1.length + (duo f g i).2.length ≤ 400 := fun i _ => by
  have := duoL_len (f i) (g i)
  show (duoL _ _).length + 0 ≤ 400
  omega
theorem duo_wait (f g : Nat → Int) (who : Int) (n : Nat) : atW who (duo f g) n = n := by
  have h1 := atW_le who (duo f g) n
  rcases Nat.lt_or_ge (atW who (duo f g) n) n with h | h
  · exact absurd rfl (atW_at who (duo f g) n h)
  · omega
/-- How many are not 0, below n. -/
def cntN (f : Nat → Int) : Nat → Nat
  | 0 => 0
  | n + 1 => cntN f n + (if f n = 0 then 0 else 1)
theorem cntN_zer : ∀ n, cntN zer n = 0
  | 0 => rfl
  | n + 1 => by unfold cntN; rw [cntN_zer n]; rfl
theorem duo_len (f g : Nat → Int) : ∀ n, lenD (duo f g) n = cntN f n + cntN g n
  | 0 => rfl
  | n + 1 => by
    unfold lenD cntN
    rw [duo_len f g n]
    have e : locksD (duo f g n) = (if f n = 0 then 0 else 1) + (if g n = 0 then 0 else 1) := by
      unfold locksD duo duoL
      by_cases h : f n = 0 <;> by_cases h2 : g n = 0 <;> simp [h, h2, newD]
    rw [e]; omega
theorem cntN_set (f : Nat → Int) (k : Nat) (x : Int) : ∀ n, cntN (set1 f k x) n ≤ cntN f n + (if k < n then 1 else 0)
  | 0 => by simp [cntN]
  | n + 1 => by
    have := cntN_set f k x n
    unfold cntN
    by_cases e : n = k
    · subst e
      rw [set1_same]
      have e1 : (if n < n then 1 else 0 : Nat) = 0 := if_neg (Nat.lt_irrefl n)
      have e2 : (if n < n + 1 then 1 else 0 : Nat) = 1 := if_pos (Nat.lt_succ_self n)
      rw [e1] at this
      rw [e2]
      split <;> split <;> omega
    · rw [set1_other f x e]
      have e2 : (if k < n + 1 then 1 else 0 : Nat) = (if k < n then 1 else 0) := by
        by_cases h : k < n
        · rw [if_pos h, if_pos (show k < n + 1 by omega)]
        · rw [if_neg h, if_neg (show ¬ k < n + 1 by omega)]
      rw [e2]
      generalize (if f n = 0 then 0 else 1 : Nat) = z
      generalize (if k < n then 1 else 0 : Nat) = y at this ⊢
      omega
theorem cntN_set1 (f : Nat → Int) (k : Nat) (x : Int) (n : Nat) : cntN (set1 f k x) n ≤ cntN f n + 1 := by
  have := cntN_set f k x n
  split at this <;> omega
/-- What one may hold: nothing, or a mode. -/
def mz (m : Int) : Prop := 0 ≤ m ∧ m ≤ 5
theorem mz_fin {m : Int} (h : mz m) : ∃ i : Fin 6, m = (i.val : Int) := ⟨⟨m.toNat, by have := h.1; have := h.2; omega⟩, by have := h.1; simp; omega⟩
theorem lane0 : ∀ i j k : Fin 6, let a : Int := i.val; let b : Int := j.val; let m : Int := k.val;
    m ≠ 0 → (b = 0 ∨ fitsB (goal a m) b = true) → askD 0 m (duoL a b) [] = (1, duoL (goal a m) b, []) := by
  decide +kernel
theorem lane1 : ∀ i j k : Fin 6, let a : Int := i.val; let b : Int := j.val; let m : Int := k.val;
    m ≠ 0 → (a = 0 ∨ fitsB (goal b m) a = true) → askD 1 m (duoL a b) [] = (1, duoL a (goal b m), []) := by
  decide +kernel
theorem lane0z (a b m : Int) (ha : mz a) (hb : mz b) (hm : mz m) (h0 : m ≠ 0) (hf : b = 0 ∨ fitsB (goal a m) b = true) : askD 0 m (duoL a b) [] = (1, duoL (goal a m) b, []) := by
  obtain ⟨i, rfl⟩ := mz_fin ha
  obtain ⟨j, rfl⟩ := mz_fin hb
  obtain ⟨k, rfl⟩ := mz_fin hm
  exact lane0 i j k h0 hf
theorem lane1z (a b m : Int) (ha : mz a) (hb : mz b) (hm : mz m) (h0 : m ≠ 0) (hf : a = 0 ∨ fitsB (goal b m) a = true) : askD 1 m (duoL a b) [] = (1, duoL a (goal b m), []) := by
  obtain ⟨i, rfl⟩ := mz_fin ha
  obtain ⟨j, rfl⟩ := mz_fin hb
  obtain ⟨k, rfl⟩ := mz_fin hm
  exact lane1 i j k h0 hf
theorem goal_mz : ∀ i k : Fin 6, 0 ≤ goal (i.val : Int) (k.val : Int) ∧ goal (i.val : Int) (k.val : Int) ≤ 5 := by
  decide +kernel
theorem mz_goal {a m : Int} (ha : mz a) (hm : mz m) : mz (goal a m) := by
  obtain ⟨i, rfl⟩ := mz_fin ha
  obtain ⟨k, rfl⟩ := mz_fin hm
  exact goal_mz i k
theorem duo_err {f g : Nat → Int} {n : Nat} {most : Int} {who m : Int} {k : Nat} (hk : k < n) (hw : 0 ≤ who) (hm : md m) (hr : (lenD (duo f g) n : Int) < most) : errD n most (duo f g) who (k : Int) m = 0 := by
  unfold errD
  have h1 : (decide (0 ≤ (k : Int)) && decide ((k : Int) < n)) = true := by simp; omega
  rw [h1, if_neg (by decide), duo_wait, if_neg (Nat.lt_irrefl n), if_neg, if_neg (by omega)]
  rintro (h | h | h)
  · omega
  · have := hm.1; omega
  · rw [known_no] at h
    exact h ⟨by have := hm.1; omega, hm.2⟩
theorem upd_duo0 (f g : Nat → Int) (k : Nat) (x : Int) : upd (duo f g) k (duoL x (g k), []) = duo (set1 f k x) g := by
  funext i
  unfold upd duo set1
  by_cases h : i = k
  · subst h; simp
  · simp [h]
theorem upd_duo1 (f g : Nat → Int) (k : Nat) (x : Int) : upd (duo f g) k (duoL (f k) x, []) = duo f (set1 g k x) := by
  funext i
  unfold upd duo set1
  by_cases h : i = k
  · subst h; simp
  · simp [h]
theorem duo_ask0 {f g : Nat → Int} {n : Nat} {most m : Int} {k : Nat} (hk : k < n) (hm : md m) (hf : mz (f k)) (hg : mz (g k)) (hfit : g k = 0 ∨ fitsB (goal (f k) m) (g k) = true) (hr : (lenD (duo f g) n : Int) < most) :
    askT n most (duo f g) 0 (k : Int) m = ((1, 0), duo (set1 f k (goal (f k) m)) g) := by
  rw [ask_yes (duo_err hk (by decide) hm hr)]
  have e2 : (k : Int).toNat = k := rfl
  rw [e2]
  have h := lane0z (f k) (g k) m hf hg ⟨by have := hm.1; omega, hm.2⟩ (by have := hm.1; omega) hfit
  show ((( askD 0 m (duoL (f k) (g k)) []).1, 0), upd (duo f g) k (askD 0 m (duoL (f k) (g k)) []).2) = _
  rw [h, upd_duo0]
theorem duo_ask1 {f g : Nat → Int} {n : Nat} {most m : Int} {k : Nat} (hk : k < n) (hm : md m) (hf : mz (f k)) (hg : mz (g k)) (hfit : f k = 0 ∨ fitsB (goal (g k) m) (f k) = true) (hr : (lenD (duo f g) n : Int) < most) :
    askT n most (duo f g) 1 (k : Int) m = ((1, 0), duo f (set1 g k (goal (g k) m))) := by
  rw [ask_yes (duo_err hk (by decide) hm hr)]
  have e2 : (k : Int).toNat = k := rfl
  rw [e2]
  have h := lane1z (f k) (g k) m hf hg ⟨by have := hm.1; omega, hm.2⟩ (by have := hm.1; omega) hfit
  show ((( askD 1 m (duoL (f k) (g k)) []).1, 0), upd (duo f g) k (askD 1 m (duoL (f k) (g k)) []).2) = _
  rw [h, upd_duo1]
end Go.Proofs.Ytdhpahopfmcdkaa
