/- Slices that a call makes and appends to. -/
import Derived.Test.YtdhfpfkcbcgnaaaProgs
import Derived.OwnWalk
import Derived.Laws.OwnMore
namespace Go.Proofs.Ytdhfpfkcbcgnaaa
open Go.RowKit

theorem heap_lt {w : World} {g : Nat} {o : Obj} (h : w.heap[g]? = some o) : g < w.heap.size := by
  by_cases hl : g < w.heap.size
  · exact hl
  · rw [Array.getElem?_eq_none (by omega)] at h; cases h
theorem own_next {w w' : World} {B : Nat} {e : TypeId} {size n : Nat} {v : Value} {xs : List Value} (h : w.ownsRow B e size v n xs) (hb : Below w.heap.size w w') : w'.ownsRow B e size v n xs := by
  refine ⟨h.1, ?_⟩
  rcases h.2 with h0 | ⟨g, cap, cur, hv, hB, hg, r⟩
  · exact .inl h0
  · exact .inr ⟨g, cap, cur, hv, hB, (hb.block g (heap_lt hg)).trans hg, r⟩
theorem ls_len {B : Nat} {w : World} {v : Value} {l : List Int} (h : Ls B w v l) : ∃ a cap, v = .slice a l.length cap ∧ l.length ≤ cap ∧ cap ≤ maxLen ∧ (a = none → cap = 0) ∧ SegB .i64 B w a l.length l := by
  obtain ⟨a, len, cap, rfl, h1, h2, h4, h3⟩ := h
  have := h3.1
  subst this
  exact ⟨a, cap, rfl, h1, h2, h4, h3⟩
theorem Ls.next {w w' : World} {v : Value} {l : List Int} (h : Ls w.heap.size w v l) (hb : Below w.heap.size w w') : Ls w'.heap.size w' v l := (h.later hb).up hb.size
/-- t is a slice of e's, whose zero value is z, of q cells and y bytes. -/
structure El (t e : TypeId) (z : Value) (q y : Nat) : Prop where
  ut : Try.prog.underlying t = some (.slice e)
  inf : (Try.prog.info? e).map (fun i => (i.zero, i.size, i.bytes)) = some (some z, q, y)
  zs : z.cells.size = q
  q0 : 0 < q
theorem elInt : El 24 3 (.int .i64 0) 1 8 := ⟨Try.underlying24, by kernel_rfl, rfl, by decide⟩
theorem elIns : El 25 44 (.agg #[.int .i64 0, .int .i64 0, .int .i64 0, .int .i64 0, .slice none 0 0]) 5 56 := ⟨Try.underlying25, by kernel_rfl, rfl, by decide⟩
theorem elAcc : El 28 41 (.agg #[.int .i64 0, .int .i64 0]) 2 16 := ⟨Try.underlying28, by kernel_rfl, rfl, by decide⟩
/-- x is a slice of m elements (of q cells each) whose cells are cs. -/
def News (w : World) (x : Value) (m q : Nat) (cs : List Value) : Prop :=
  cs.length = m * q ∧ (∀ u ∈ cs, u.oneCell' = true) ∧ ((x = .slice none 0 0 ∧ m = 0) ∨ ∃ ad c, x = .slice (some ad) m c ∧ ∀ j u, cs[j]? = some u → w.cell? (ad.add j) = some u)
theorem run_app {t e : TypeId} {z : Value} {q y : Nat} (E : El t e z q y) (w : World) (ty : TypeId) (base : Nat) (v : Value) (n : Nat) (xs : List Value) (hown : w.ownsRow base e q v n xs) (x : Value) (m : Nat) (cs : List Value) (hx : News w x m q cs)
    (hm : (n + m) * y ≤ 140737488355328) (hm2 : n + m ≤ maxLen) (hbase : base ≤ w.heap.size) :
    ∃ v' w', (Builtin.append_ #[t, t] ty #[v, x]).run Try.prog w = .ok v' w' ∧ w'.ownsRow base e q v' (n + m) (xs ++ cs) ∧ w.grownBy w' v.ownBlock := by
  obtain ⟨i0, hi, hz0, hz1, hz2⟩ := info_parts E.inf
  obtain ⟨hl, h1, hx⟩ := hx
  rcases hx with ⟨rfl, rfl⟩ | ⟨ad, c, rfl, hc⟩
  · have e0 : cs = [] := List.length_eq_zero_iff.1 (by simpa using hl)
    subst e0
    exact ⟨v, w, run_append_owned_none (P := Try.prog) (w := w) base t ty e i0 q E.ut hi v n _ hown, by simpa using hown, ⟨rfl, rfl, rfl, Nat.le_refl _, fun _ _ _ => rfl⟩⟩
  · obtain ⟨v', w', hr, h2, h3, _⟩ := run_append_own (P := Try.prog) w base t ty e i0 z q y E.ut hi hz0 hz1 hz2 E.zs E.q0 v n _ hown ad m c cs hl hc h1 hm2 hm hbase
    exact ⟨v', w', hr, h2, h3⟩
theorem wp_app {t e : TypeId} {z : Value} {q y : Nat} (E : El t e z q y) (w : World) {o : Oper} {a : Act} {K : Act → World → Prop} {Q : Exit → Act → World → Prop} (s x : Operand)
    (ho : o.op = .call { callee := .builtin .append, args := #[s, x], argTypes := #[t, t] })
    (base : Nat) (v : Value) (n : Nat) (xs : List Value) (hv : a.eval s = v) (hown : w.ownsRow base e q v n xs) (u : Value) (m : Nat) (cs : List Value) (hu : a.eval x = u) (hx : News w u m q cs)
    (hm : (n + m) * y ≤ 140737488355328) (hm2 : n + m ≤ maxLen) (hbase : base ≤ w.heap.size)
    (h : ∀ v' w', w'.ownsRow base e q v' (n + m) (xs ++ cs) → w.grownBy w' v.ownBlock → K (a.put o.dst v') w') : o.wp Try.prog a w K Q := by
  obtain ⟨v', w', hr, h2, h3⟩ := run_app E w o.type base v n xs hown u m cs hx hm hm2 hbase
  unfold Oper.wp execOp
  simp only [ho, resolve, invoke, builtin, Sem.run_bind, Sem.run_pure, Result.andThen_ok, List.map_toArray, List.map_cons, List.map_nil, hv, hu, hr]
  exact h v' w' h2 h3
theorem step_app {t e : TypeId} {z : Value} {q y : Nat} (E : El t e z q y) (w : World) {ops : Array Oper} {o : Oper} {a : Act} {K : Act → World → Prop} {Q : Exit → Act → World → Prop} {E' : Prop} (hgd : Region.wanted o (yielded ops a.tmps) = true) (s x : Operand)
    (ho : o.op = .call { callee := .builtin .append, args := #[s, x], argTypes := #[t, t] })
    (base : Nat) (v : Value) (n : Nat) (xs : List Value) (hv : a.eval s = v) (hown : w.ownsRow base e q v n xs) (u : Value) (m : Nat) (cs : List Value) (hu : a.eval x = u) (hx : News w u m q cs)
    (hm : (n + m) * y ≤ 140737488355328) (hm2 : n + m ≤ maxLen) (hbase : base ≤ w.heap.size)
    (h : ∀ v' w', w'.ownsRow base e q v' (n + m) (xs ++ cs) → w.grownBy w' v.ownBlock → K (a.put o.dst v') w') :
    if Region.wanted o (yielded ops a.tmps) = true then Oper.wp Try.prog o a w K Q else E' := by
  rw [if_pos hgd]
  exact wp_app E w s x ho base v n xs hv hown u m cs hu hx hm hm2 hbase h
theorem wpList_app {t e : TypeId} {z : Value} {q y : Nat} (E : El t e z q y) (w : World) {ops : Array Oper} {rest : List Oper} {o : Oper} {a : Act} {Q : Exit → Act → World → Prop} (hgd : o.guard = none) (s x : Operand)
    (ho : o.op = .call { callee := .builtin .append, args := #[s, x], argTypes := #[t, t] })
    (base : Nat) (v : Value) (n : Nat) (xs : List Value) (hv : a.eval s = v) (hown : w.ownsRow base e q v n xs) (u : Value) (m : Nat) (cs : List Value) (hu : a.eval x = u) (hx : News w u m q cs)
    (hm : (n + m) * y ≤ 140737488355328) (hm2 : n + m ≤ maxLen) (hbase : base ≤ w.heap.size)
    (h : ∀ v' w', w'.ownsRow base e q v' (n + m) (xs ++ cs) → w.grownBy w' v.ownBlock → wpList Try.prog ops Q rest (a.put o.dst v') w') : wpList Try.prog ops Q (o :: rest) a w :=
  wpList_plain hgd fun _ hK => wp_app E w s x ho base v n xs hv hown u m cs hu hx hm hm2 hbase fun v' w' h2 h3 => hK _ _ (h v' w' h2 h3)
/-- 'make([]T, 0, n)'. -/
theorem wpList_mk {t e : TypeId} {z : Value} {q y : Nat} (E : El t e z q y) (w : World) {ops : Array Oper} {rest : List Oper} {o : Oper} {a : Act} {Q : Exit → Act → World → Prop} (hg : o.guard = none) (l c : Operand) (hop : o.op = Op.makeSlice t l c)
    (n : Nat) (hl : a.eval l = .int .i64 0) (hc : a.eval c = .int .i64 (n : Int)) (b2 : y * n ≤ 281474976710656) (b3 : n ≤ maxLen)
    (hK : ∀ w', w'.ownsRow w.heap.size e q (.slice (some ⟨w.heap.size, 0, none⟩) 0 n) 0 [] → Below w.heap.size w w' → wpList Try.prog ops Q rest (a.put o.dst (.slice (some ⟨w.heap.size, 0, none⟩) 0 n)) w') :
    wpList Try.prog ops Q (o :: rest) a w := by
  obtain ⟨i0, hi, hz0, hz1, hz2⟩ := info_parts E.inf
  refine wpList_make_own w hg l c t hop w.heap.size e i0 z q E.ut hi hz0 hz1 .i64 .i64 _ n hl hc rfl (by rw [hz2]; exact b2) b3 (Nat.le_refl _) ?_
  intro w' h1 h2
  exact hK w' h1 ((Below.refl _ w).grown h2 (Nat.le_refl _) (fun k hk => by cases hk))
theorem addr_add (b off i : Nat) : (⟨b, off, none⟩ : Addr).add i = ⟨b, off + i, none⟩ := by
  by_cases h : i = 0 <;> simp [Addr.add, h]
/-- A slice just written out. -/
theorem news_new (w : World) (cs : List Value) (e : TypeId) (m q c N : Nat) (hN : N = w.heap.size) (hl : cs.length = m * q) (h1 : ∀ u ∈ cs, u.oneCell' = true) : News (w.alloc (.cells cs.toArray e)) (.slice (some ⟨N, 0, none⟩) m c) m q cs := by
  subst hN
  refine ⟨hl, h1, .inr ⟨_, c, rfl, fun j u hj => ?_⟩⟩
  have h : (w.alloc (.cells cs.toArray e)).heap[w.heap.size]? = some (.cells cs.toArray e) := heap_alloc_new w _
  rw [addr_add]
  unfold World.cell?
  rw [h]
  simpa using hj
/-- The cells that hold the numbers of a list. -/
def vals (l : List Int) : List Value := l.map (Value.int .i64)
theorem vals_one (l : List Int) : ∀ u ∈ vals l, u.oneCell' = true := by
  intro u hu
  unfold vals at hu
  obtain ⟨n, _, rfl⟩ := List.mem_map.1 hu
  rfl
theorem ls_news {B : Nat} {w : World} {v : Value} {l : List Int} (h : Ls B w v l) : News w v l.length 1 (vals l) := by
  obtain ⟨a, cap, rfl, h1, h2, h4, h3⟩ := ls_len h
  refine ⟨by simp [vals], vals_one l, ?_⟩
  cases a with
  | none =>
    have e3 := h4 rfl
    have e2 : l.length = 0 := by omega
    exact .inl ⟨by rw [e2, e3], e2⟩
  | some ad =>
    refine .inr ⟨ad, cap, rfl, fun j u hj => ?_⟩
    unfold vals at hj
    rw [List.getElem?_map] at hj
    have hjl : j < l.length := by
      rcases Nat.lt_or_ge j l.length with hh | hh
      · exact hh
      · rw [List.getElem?_eq_none (by omega)] at hj; simp at hj
    rw [List.getElem?_eq_getElem hjl] at hj
    obtain rfl : Value.int .i64 l[j] = u := by simpa using hj
    obtain ⟨b, off, e5, _, hc⟩ := h3.at hjl
    obtain rfl : ad = ⟨b, off, none⟩ := by simpa using e5
    rw [addr_add, hc]
    simp [hjl]
theorem own_ls {w : World} {base : Nat} {v : Value} {n : Nat} {l : List Int} (h : w.ownsRow base 3 1 v n (vals l)) : Ls w.heap.size w v l := by
  have hl : l.length = n := by simpa [vals] using h.1
  rcases h.2 with ⟨rfl, rfl⟩ | ⟨g, cap, cur, rfl, _, hg, hnc, hcm, _, _⟩
  · exact ⟨none, 0, 0, rfl, Nat.le_refl _, Nat.zero_le _, fun _ => rfl, hl, .inl rfl⟩
  · refine ⟨_, n, cap, rfl, hnc, hcm, (fun h => by cases h), hl, .inr ⟨g, 0, rfl, heap_lt hg, fun i hi => ?_⟩⟩
    have := h.cells (g := g) rfl i (.int .i64 (l.getD i 0)) (by
      unfold vals
      rw [List.getElem?_map, List.getElem?_eq_getElem (by omega)]; simp [List.getD, hl, hi])
    rwa [addr_add] at this
theorem wpList_appG {t e : TypeId} {z : Value} {q y : Nat} (E : El t e z q y) (w : World) {ops : Array Oper} {rest : List Oper} {o : Oper} {a : Act} {Q : Exit → Act → World → Prop} (hw : Region.wanted o (yielded ops a.tmps) = true) (s x : Operand)
    (ho : o.op = .call { callee := .builtin .append, args := #[s, x], argTypes := #[t, t] })
    (base : Nat) (v : Value) (n : Nat) (xs : List Value) (hv : a.eval s = v) (hown : w.ownsRow base e q v n xs) (u : Value) (m : Nat) (cs : List Value) (hu : a.eval x = u) (hx : News w u m q cs)
    (hm : (n + m) * y ≤ 140737488355328) (hm2 : n + m ≤ maxLen) (hbase : base ≤ w.heap.size)
    (h : ∀ v' w', w'.ownsRow base e q v' (n + m) (xs ++ cs) → w.grownBy w' v.ownBlock → wpList Try.prog ops Q rest (a.put o.dst v') w') : wpList Try.prog ops Q (o :: rest) a w :=
  wpList_step fun K hK => by
    rw [if_pos hw]
    exact wp_app E w s x ho base v n xs hv hown u m cs hu hx hm hm2 hbase fun v' w' h2 h3 => hK _ _ (h v' w' h2 h3)
theorem News.next {w w' : World} {x : Value} {m q : Nat} {cs : List Value} (h : News w x m q cs) (hb : Below w.heap.size w w') : News w' x m q cs :=
  ⟨h.1, h.2.1, h.2.2.imp id fun ⟨ad, c, e, hc⟩ => ⟨ad, c, e, fun j u hj => (hb.cell (World.block_lt_of_cell? _ _ (hc j u hj))).trans (hc j u hj)⟩⟩
theorem own_keep {w W : World} {B : Nat} {v : Value} {n : Nat} {xs : List Value} (h : w.ownsRow B 3 1 v n xs) (hk : ∀ (k : Nat) (cur : Array Value) (fr : Nat × Nat), w.heap[k]? = some (Obj.cells cur 3 fr) → W.heap[k]? = w.heap[k]?) : W.ownsRow B 3 1 v n xs := by
  refine ⟨h.1, ?_⟩
  rcases h.2 with h0 | ⟨g, cap, cur, hv, hB, hg, r⟩
  · exact .inl h0
  · exact .inr ⟨g, cap, cur, hv, hB, (hk g cur _ hg).trans hg, r⟩
theorem own_base {w : World} {B : Nat} {v : Value} {n : Nat} {xs : List Value} (h : w.ownsRow B 3 1 v n xs) : w.ownsRow 0 3 1 v n xs := by
  refine ⟨h.1, ?_⟩
  rcases h.2 with h0 | ⟨g, cap, cur, hv, hB, r⟩
  · exact .inl h0
  · exact .inr ⟨g, cap, cur, hv, Nat.zero_le _, r⟩
/-- The numbers l lie in a row of their own: v. -/
def Lo (w : World) (v : Value) (l : List Int) : Prop := ∃ a c, v = .slice a l.length c ∧ w.ownsRow 0 3 1 v l.length (vals l)
theorem lo_nil (w : World) : Lo w (.slice none 0 0) [] := ⟨none, 0, rfl, rfl, .inl ⟨rfl, rfl⟩⟩
theorem Lo.ls {w : World} {v : Value} {l : List Int} (h : Lo w v l) : Ls w.heap.size w v l := own_ls h.choose_spec.choose_spec.2
theorem Lo.next {w w' : World} {v : Value} {l : List Int} (h : Lo w v l) (hb : Below w.heap.size w w') : Lo w' v l := by
  obtain ⟨a, c, e, h⟩ := h
  exact ⟨a, c, e, own_next h hb⟩
theorem Lo.keep {w W : World} {v : Value} {l : List Int} (h : Lo w v l) (hk : ∀ (k : Nat) (cur : Array Value) (fr : Nat × Nat), w.heap[k]? = some (Obj.cells cur 3 fr) → W.heap[k]? = w.heap[k]?) : Lo W v l := by
  obtain ⟨a, c, e, h⟩ := h
  exact ⟨a, c, e, own_keep h hk⟩
theorem lo_own {w : World} {B : Nat} {v : Value} {n : Nat} {l : List Int} (h : w.ownsRow B 3 1 v n (vals l)) (hn : n = l.length) : Lo w v l := by
  subst hn
  rcases h.2 with ⟨e, e2⟩ | ⟨g, cap, cur, e, r⟩
  · exact ⟨none, 0, by rw [e, e2], own_base h⟩
  · exact ⟨_, cap, e, own_base h⟩
theorem drewN_below (w : World) (q : Nat) : Below w.heap.size w (w.drewN q) := (Below.refl _ _).trans ⟨rfl, rfl, rfl, Nat.le_refl _, fun _ _ => rfl⟩
end Go.Proofs.Ytdhfpfkcbcgnaaa
