/- Append to a slice that the call itself made; Sup of lists, as ModeSups looks at it. -/
import Derived.Test.YtjbhakimakfliaaSix
import Derived.Test.YtjbhakimakfliaaRow
import Derived.OwnWalk
namespace Go.Proofs.Ytjbhakimakfliaa
open Go.RowKit

theorem Try.info3 : (Try.prog.info? 3).map (fun i => (i.zero, i.size, i.bytes)) = some (some (.int .i64 0), 1, 8) := by kernel_rfl
theorem addr_add (b off i : Nat) : (⟨b, off, none⟩ : Addr).add i = ⟨b, off + i, none⟩ := by
  by_cases h : i = 0 <;> simp [Addr.add, h]
/-- The cells that hold the numbers of a list. -/
def vals (l : List Int) : List Value := l.map (Value.int .i64)
theorem owns_seg {w : World} {base : Nat} {v : Value} {n : Nat} {l : List Int} (h : w.ownsRow base 3 1 v n (vals l)) :
    ∃ a cap, v = .slice a n cap ∧ n ≤ cap ∧ cap ≤ maxLen ∧ SegK .i64 w a n l := by
  unfold vals at h
  have hl : l.length = n := by simpa using h.1
  rcases h.2 with ⟨rfl, rfl⟩ | ⟨g, cap, cur, rfl, _, hg, hnc, hcm, _, _⟩
  · exact ⟨none, 0, rfl, Nat.le_refl _, Nat.zero_le _, hl, .inl rfl⟩
  · refine ⟨_, cap, rfl, hnc, hcm, hl, .inr ⟨g, 0, rfl, fun i hi => ?_⟩⟩
    have := h.cells (g := g) rfl i (.int .i64 (l.getD i 0)) (by
      rw [List.getElem?_map, List.getElem?_eq_getElem (by omega)]; simp [List.getD, hl, hi])
    rwa [addr_add] at this
theorem seg_news {w : World} {b off len : Nat} {l : List Int} (hs : SegK .i64 w (some ⟨b, off, none⟩) len l) :
    ∀ j u, (vals l)[j]? = some u → w.cell? ((⟨b, off, none⟩ : Addr).add j) = some u := by
  intro j u hj
  unfold vals at hj
  rw [List.getElem?_map] at hj
  have hjl : j < l.length := by
    rcases Nat.lt_or_ge j l.length with h | h
    · exact h
    · rw [List.getElem?_eq_none (by omega)] at hj; simp at hj
  rw [List.getElem?_eq_getElem hjl] at hj
  obtain rfl : Value.int .i64 l[j] = u := by simpa using hj
  rcases hs.2 with h | ⟨b', off', he, hc⟩
  · have := hs.1; omega
  · obtain ⟨rfl, rfl⟩ : b = b' ∧ off = off' := by simpa using he
    rw [addr_add, hc j (by rw [← hs.1]; exact hjl), List.getD_eq_getElem?_getD, List.getElem?_eq_getElem hjl]
    rfl
theorem vals_len (l : List Int) (n : Nat) (h : l.length = n) : (vals l).length = n * 1 := by simp [vals, h]
/-- A slice of one, just written out, is the call's own. -/
theorem owns_one (w : World) (x : Int) (base : Nat) (hb : base ≤ w.heap.size) : (w.alloc (.cells #[.int .i64 x] 3)).ownsRow base 3 1 (.slice (some ⟨w.heap.size, 0, none⟩) 1 1) 1 (vals [x]) := by
  refine ⟨rfl, .inr ⟨w.heap.size, 1, #[.int .i64 x], rfl, hb, ?_, Nat.le_refl _, by decide, rfl, ?_⟩⟩
  · show (w.heap.push _)[w.heap.size]? = _
    simp
  · simp [vals]

/-- What append asks of its second argument: a slice that is read, nil or not. -/
theorem run_append_seg (w : World) (ty : TypeId) (base : Nat) (i0 : TypeInfo) (hi : Try.prog.info? 3 = some i0) (hz0 : i0.zero = some (.int .i64 0)) (hz1 : i0.size = 1) (hz2 : i0.bytes = 8)
    (v : Value) (n : Nat) (k : List Int) (hown : w.ownsRow base 3 1 v n (vals k)) (va : Option Addr) (m c : Nat) (l : List Int) (hs : SegK .i64 w va m l) (hnil : va = none → c = 0)
    (hm : n + m ≤ 2000) (hbase : base ≤ w.heap.size) :
    ∃ v' w', (Builtin.append_ #[22, 22] ty #[v, .slice va m c]).run Try.prog w = .ok v' w' ∧ w'.ownsRow base 3 1 v' (n + m) (vals (k ++ l)) ∧ w.grownBy w' v.ownBlock := by
  cases va with
  | none =>
    obtain rfl := hnil rfl
    have hm0 : m = 0 := by
      rcases hs.2 with h | ⟨_, _, h, _⟩
      · exact h
      · cases h
    subst hm0
    obtain rfl : l = [] := List.eq_nil_of_length_eq_zero hs.1
    have hr := run_append_owned_none (P := Try.prog) (w := w) base 22 ty 3 i0 1 Try.underlying22 hi v n _ hown
    exact ⟨v, w, hr, by simpa using hown, ⟨rfl, rfl, rfl, Nat.le_refl _, fun _ _ _ => rfl⟩⟩
  | some ad =>
    have hnews : ∀ j u, (vals l)[j]? = some u → w.cell? (ad.add j) = some u := by
      rcases hs.2 with h | ⟨b, off, h, _⟩
      · subst h
        obtain rfl : l = [] := List.eq_nil_of_length_eq_zero hs.1
        intro j u hj
        simp [vals] at hj
      · obtain rfl : ad = ⟨b, off, none⟩ := by simpa using h
        exact seg_news hs
    obtain ⟨v', w', hr, h2, h3, _⟩ := run_append_own (P := Try.prog) w base 22 ty 3 i0 (.int .i64 0) 1 8 Try.underlying22 hi hz0 hz1 hz2 rfl (by decide) v n _ hown ad m c _ (vals_len l m hs.1) hnews (ints_oneCell _ _) (by unfold maxLen; omega) (by omega) hbase
    exact ⟨v', w', hr, by unfold vals at *; rw [List.map_append]; exact h2, h3⟩
theorem wp_append_seg (w : World) {o : Oper} {a : Act} {K : Act → World → Prop} {Q : Exit → Act → World → Prop} (s x : Operand)
    (ho : o.op = .call { callee := .builtin .append, args := #[s, x], argTypes := #[22, 22] })
    (base : Nat) (v : Value) (n : Nat) (k : List Int) (hv : a.eval s = v) (hown : w.ownsRow base 3 1 v n (vals k)) (va : Option Addr) (m c : Nat) (l : List Int) (hx : a.eval x = .slice va m c) (hs : SegK .i64 w va m l) (hnil : va = none → c = 0)
    (hm : n + m ≤ 2000) (hbase : base ≤ w.heap.size)
    (h : ∀ v' w', w'.ownsRow base 3 1 v' (n + m) (vals (k ++ l)) → w.grownBy w' v.ownBlock → K (a.put o.dst v') w') : o.wp Try.prog a w K Q := by
  obtain ⟨i0, hi, hz0, hz1, hz2⟩ := info_parts Try.info3
  obtain ⟨v', w', hr, h2, h3⟩ := run_append_seg w o.type base i0 hi hz0 hz1 hz2 v n k hown va m c l hs hnil hm hbase
  unfold Oper.wp execOp
  simp only [ho, resolve, invoke, builtin, Sem.run_bind, Sem.run_pure, Result.andThen_ok, List.map_toArray, List.map_cons, List.map_nil, hv, hx, hr]
  exact h v' w' h2 h3
theorem wpList_append_seg (w : World) {ops : Array Oper} {rest : List Oper} {o : Oper} {a : Act} {Q : Exit → Act → World → Prop} (hw : Region.wanted o (yielded ops a.tmps) = true) (s x : Operand)
    (ho : o.op = .call { callee := .builtin .append, args := #[s, x], argTypes := #[22, 22] })
    (base : Nat) (v : Value) (n : Nat) (k : List Int) (hv : a.eval s = v) (hown : w.ownsRow base 3 1 v n (vals k)) (va : Option Addr) (m c : Nat) (l : List Int) (hx : a.eval x = .slice va m c) (hs : SegK .i64 w va m l) (hnil : va = none → c = 0)
    (hm : n + m ≤ 2000) (hbase : base ≤ w.heap.size)
    (h : ∀ v' w', w'.ownsRow base 3 1 v' (n + m) (vals (k ++ l)) → w.grownBy w' v.ownBlock → wpList Try.prog ops Q rest (a.put o.dst v') w') : wpList Try.prog ops Q (o :: rest) a w :=
  wpList_step fun K hK => by
    rw [if_pos hw]
    exact wp_append_seg w s x ho base v n k hv hown va m c l hx hs hnil hm hbase fun v' w' h2 h3 => hK _ _ (h v' w' h2 h3)
theorem isRow_nil {k : IntKind} {w : World} {a : Option Addr} {len cap : Nat} {zs : List Int} (h : IsRow k w a len cap zs) : a = none → cap = 0 := by
  rcases h with ⟨_, _, h, _⟩ | ⟨x, h, _⟩
  · exact fun _ => h
  · rintro rfl; cases h
theorem SegK.at {k : IntKind} {w : World} {a : Option Addr} {len : Nat} {l : List Int} (h : SegK k w a len l) {i : Nat} (hi : i < len) :
    ∃ b off, a = some ⟨b, off, none⟩ ∧ w.cell? ⟨b, off + i, none⟩ = some (.int k (l.getD i 0)) := by
  rcases h.2 with h0 | ⟨b, off, rfl, hc⟩
  · omega
  · exact ⟨b, off, rfl, hc i hi⟩

theorem join_zero {t : Int} (h : knownB t = true) : joinD 0 t = t := by
  have := known_iff.1 h
  simp [joinD, h]
  omega
theorem join_bad {t x : Int} (h : knownB x = false) : joinD t x = 5 := by simp [joinD, h]
theorem join_five (x : Int) : joinD 5 x = 5 := by
  cases h : knownB x
  · exact join_bad h
  · have := known_iff.1 h
    simp [joinD, h]
    omega
theorem fold_five (l : List Int) : l.foldl joinD 5 = 5 := by
  induction l with
  | nil => rfl
  | cons x l ih => rw [List.foldl_cons, join_five, ih]
theorem sup_bad {l : List Int} {x : Int} (hx : x ∈ l) (h : knownB x = false) : supL l = 5 := by
  unfold supL
  generalize (0 : Int) = t
  induction l generalizing t with
  | nil => cases hx
  | cons y l ih =>
    rw [List.foldl_cons]
    rcases List.mem_cons.1 hx with rfl | hx
    · rw [join_bad h, fold_five]
    · exact ih hx _
set_option maxRecDepth 20000 in
theorem join_facts : ∀ i j k : Fin 6, let a : Int := i.val; let b : Int := j.val; let c : Int := k.val;
    knownB (joinD a b) = true ∧ coversB (joinD a b) a = true ∧ coversB (joinD a b) b = true ∧ (coversB c a = true → coversB c b = true → coversB c (joinD a b) = true) ∧
    (coversB a b = true → coversB b c = true → coversB a c = true) ∧ (coversB a b = true → joinD a b = a) ∧ coversB a 0 = true ∧ coversB a a = true := by
  decide +kernel
theorem fold_facts (l : List Int) : ∀ (t : Int), knownB t = true → (∀ n ∈ l, knownB n = true) → knownB (l.foldl joinD t) = true ∧ coversB (l.foldl joinD t) t = true ∧ (∀ n ∈ l, coversB (l.foldl joinD t) n = true) ∧
    ∀ m, knownB m = true → coversB m t = true → (∀ n ∈ l, coversB m n = true) → coversB m (l.foldl joinD t) = true := by
  induction l with
  | nil =>
    intro t ht _
    obtain ⟨i, rfl⟩ := six ht
    exact ⟨ht, (join_facts i i i).2.2.2.2.2.2.2, by simp, fun m _ h _ => h⟩
  | cons x l ih =>
    intro t ht hl
    have hx : knownB x = true := hl x (List.mem_cons_self ..)
    obtain ⟨i, rfl⟩ := six ht
    obtain ⟨j, rfl⟩ := six hx
    obtain ⟨k1, k2, k3, -⟩ := join_facts i j i
    obtain ⟨r1, r2, r3, r4⟩ := ih (joinD i.val j.val) k1 (fun n hn => hl n (List.mem_cons_of_mem _ hn))
    rw [List.foldl_cons]
    have tr : ∀ c, knownB c = true → coversB (joinD i.val j.val) c = true → coversB (l.foldl joinD (joinD i.val j.val)) c = true := by
      intro c hc h
      obtain ⟨p, hp⟩ := six r1
      obtain ⟨q, hq⟩ := six k1
      obtain ⟨s, rfl⟩ := six hc
      have := (join_facts p q s).2.2.2.2.1
      rw [← hp, ← hq] at this
      exact this r2 h
    refine ⟨r1, tr _ ht k2, ?_, ?_⟩
    · intro n hn
      rcases List.mem_cons.1 hn with rfl | hn
      · exact tr _ hx k3
      · exact r3 n hn
    · intro m hm h1 h2
      refine r4 m hm ?_ (fun n hn => h2 n (List.mem_cons_of_mem _ hn))
      obtain ⟨k, rfl⟩ := six hm
      exact (join_facts i j k).2.2.2.1 h1 (h2 _ (List.mem_cons_self ..))
theorem fold_same (l : List Int) (s : Int) (hs : knownB s = true) (hl : ∀ n ∈ l, knownB n = true) (h : ∀ n ∈ l, coversB s n = true) : l.foldl joinD s = s := by
  induction l with
  | nil => rfl
  | cons x l ih =>
    rw [List.foldl_cons]
    obtain ⟨i, hi⟩ := six hs
    obtain ⟨j, hj⟩ := six (hl x (List.mem_cons_self ..))
    have := (join_facts i j i).2.2.2.2.2.1
    rw [← hi, ← hj] at this
    rw [this (h x (List.mem_cons_self ..))]
    exact ih (fun n hn => hl n (List.mem_cons_of_mem _ hn)) (fun n hn => h n (List.mem_cons_of_mem _ hn))
theorem mem_at {l : List Int} {j : Nat} (h : j < l.length) : l.getD j 0 ∈ l := by
  rw [List.getD_eq_getElem?_getD, List.getElem?_eq_getElem h]
  exact List.getElem_mem h
theorem at_mem {l : List Int} {P : Int → Prop} (h : ∀ j, j < l.length → P (l.getD j 0)) : ∀ n ∈ l, P n := by
  intro n hn
  obtain ⟨j, hj, rfl⟩ := List.getElem_of_mem hn
  have := h j hj
  rwa [List.getD_eq_getElem?_getD, List.getElem?_eq_getElem hj] at this
theorem sups_facts {l : List Int} (h : ∀ j, j < l.length → knownB (l.getD j 0) = true) :
    (∀ j, j < l.length → coversB (supL l) (l.getD j 0) = true) ∧ (∀ m, knownB m = true → (∀ j, j < l.length → coversB m (l.getD j 0) = true) → coversB m (supL l) = true) ∧ supL (0 :: l) = supL l ∧ supL (supL l :: l) = supL l := by
  have hl := at_mem (P := fun n => knownB n = true) h
  obtain ⟨r1, r2, r3, r4⟩ := fold_facts l 0 (by decide) hl
  refine ⟨fun j hj => r3 _ (mem_at hj), fun m hm hj => r4 m hm ?_ (at_mem (P := fun n => coversB m n = true) hj), rfl, ?_⟩
  · obtain ⟨i, rfl⟩ := six hm
    exact (join_facts i i i).2.2.2.2.2.2.1
  · show l.foldl joinD (joinD 0 (supL l)) = supL l
    unfold supL
    rw [join_zero r1]
    exact fold_same l _ r1 hl r3
/-- Are the first n all covered by m? -/
def allTo (m : Int) (l : List Int) (n : Nat) : Bool := (l.take n).all (coversB m)
theorem allTo_succ (m : Int) (l : List Int) (n : Nat) (h : n < l.length) : allTo m l (n + 1) = (allTo m l n && coversB m (l.getD n 0)) := by
  unfold allTo
  rw [List.take_succ_eq_append_getElem h, List.all_append, List.getD_eq_getElem?_getD, List.getElem?_eq_getElem h]
  simp
theorem allTo_all {m : Int} {l : List Int} {n : Nat} (hn : ¬ n < l.length) (h : allTo m l n = true) : ∀ j, j < l.length → coversB m (l.getD j 0) = true := by
  unfold allTo at h
  rw [take_all _ _ hn, List.all_eq_true] at h
  exact fun j hj => h _ (mem_at hj)
end Go.Proofs.Ytjbhakimakfliaa
