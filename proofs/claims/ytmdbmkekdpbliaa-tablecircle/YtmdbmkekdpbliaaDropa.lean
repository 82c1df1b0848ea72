/- Drop: what it does, lane by lane; what stays where only lanes are turned. -/
import Derived.Test.YtmdbmkekdpbliaaOrd
import Derived.Test.YtmdbmkekdpbliaaBack
namespace Go.Proofs.Ytmdbmkekdpbliaa
open Go.RowKit

/-- One lane's turn: who were granted so far, and the lanes. -/
def dropS (who : Int) (s : List Int × (Nat → Lv)) (x : Nat) : List Int × (Nat → Lv) :=
  if hasL who (s.2 x) then (s.1 ++ (leaveD who (s.2 x).1 (s.2 x).2).1, upd s.2 x (leaveD who (s.2 x).1 (s.2 x).2).2) else s
def dropD (who : Int) (T : Nat → Lv) (xs : List Nat) : List Int × (Nat → Lv) := xs.foldl (dropS who) ([], T)
theorem drop_snoc (who : Int) (T : Nat → Lv) (xs : List Nat) (x : Nat) : dropD who T (xs ++ [x]) = dropS who (dropD who T xs) x := by
  unfold dropD; rw [List.foldl_append]; rfl
theorem leave_few {who : Int} {H Q : List En} : (leaveD who H Q).1.length ≤ Q.length := by
  unfold leaveD
  simp only [List.length_map, List.length_take]
  have := out_len who Q
  omega
theorem grant_srt : ∀ (Q H : List En), Srt H → Srt (grantD H Q).2
  | [], _, h => h
  | x :: r, H, h => by
    unfold grantD
    split
    · exact grant_srt r _ (srt_put h)
    · exact h
theorem leave_srt {who : Int} {H Q : List En} (hs : Srt H) : Srt (leaveD who H Q).2.1 := by
  unfold leaveD
  exact grant_srt (out1 who Q) (out1 who H) (out_srt hs)
theorem gd_drop {n k : Nat} {who : Int} {s : List Int × (Nat → Lv)} {x : Nat} (hx : x < n) (hs : Srt (s.2 x).1) (h : Gd n k s.2) : Gd n k (dropS who s x).2 := by
  unfold dropS
  split
  · have f := h.fine x hx
    refine h.set x (leave_fine who hs f).1 ?_
    have h1 := (leave_ok who hs f.ok).2.1
    have h2 := h.sum x hx
    exact Nat.le_trans h1 h2
  · exact h
theorem drop_len {n k : Nat} {who : Int} {s : List Int × (Nat → Lv)} {x : Nat} (hx : x < n) (h : Gd n k s.2) : (dropS who s x).1.length ≤ s.1.length + k := by
  unfold dropS
  split
  · have h1 := leave_few (who := who) (H := (s.2 x).1) (Q := (s.2 x).2)
    have h2 := h.sum x hx
    simp only [List.length_append]
    omega
  · omega
/-- All cells stay. -/
def Cz (W W' : World) : Prop := ∀ (k : Nat) (cur : Array Value) (t : TypeId) (f : Nat × Nat), W.heap[k]? = some (.cells cur t f) → W'.heap[k]? = some (.cells cur t f)
theorem cz_own {B : Nat} {W W' : World} {row : Option Nat} (hg : W.grownBy W' row) (hr : ∀ r, row = some r → B ≤ r ∧ ∃ o : Obj, W.heap[r]? = some o ∧ o.isCells = false) : Cz W W' := fun k cur t f hk =>
  (hg.block k (heap_lt hk) (fun e => by
    obtain ⟨_, o, ho, hc⟩ := hr k e.symm
    rw [hk] at ho
    cases ho
    cases hc)).trans hk
theorem Es.cz {B : Nat} {v : Value} {l : List En} {w w' : World} (h : Es B v l w) (k : Cz w w') : Es B v l w' := h.keep fun g hg => by
  obtain ⟨cur, hc⟩ := h.ty g hg
  rw [k g _ _ _ hc, hc]
theorem Is.cz {B : Nat} {v : Value} {l : List Int} {w w' : World} (h : Is B v l w) (k : Cz w w') : Is B v l w' := h.keep fun g hg => by
  obtain ⟨cur, hc⟩ := h.ty g hg
  rw [k g _ _ _ hc, hc]
theorem La.cz {B b : Nat} {H Q : List En} {hv qv : Value} {w w' : World} (h : La B H Q b hv qv w) (k : Cz w w') : La B H Q b hv qv w' := ⟨k _ _ _ _ h.blk, h.hr.cz k, h.qr.cz k, h.dq, h.bB, h.srt⟩
theorem Tb.cz {B n : Nat} {most : Int} {T : Nat → Lv} {b rb : Nat} {lb : Nat → Nat} {hv qv : Nat → Value} {w w' : World} (h : Tb B n most T b rb lb hv qv w) (k : Cz w w') : Tb B n most T b rb lb hv qv w' :=
  ⟨k _ _ _ _ h.blk, ⟨_, k _ _ _ _ h.row.choose_spec.1, h.row.choose_spec.2⟩, ⟨fun i hi => (h.ls.la i hi).cz k, h.ls.inj, h.ls.apart⟩, h.bB, h.rB⟩
theorem not_cells {o : Obj} {cur : Array Value} {t : TypeId} {f : Nat × Nat} (h : o = .cells cur t f) (ho : o.isCells = false) : False := by
  subst h; cases ho
/-- What is no cells stays where a lane is turned. -/
theorem Mv.others {B b : Nat} {H Q : List En} {hv qv hv' qv' : Value} {w w' : World} (m : Mv b hv qv hv' qv' w w') (l : La B H Q b hv qv w) : KeepsOthers w w' := by
  refine ⟨m.size, fun k o hk ho => (m.block k (heap_lt hk) (fun e => ?_) (fun e => ?_) (fun e => ?_)).trans hk⟩
  · rw [e, l.blk] at hk
    exact not_cells (Option.some.inj hk).symm ho
  · obtain ⟨c, hc⟩ := l.hr.ty k e
    rw [hc] at hk
    exact not_cells (Option.some.inj hk).symm ho
  · obtain ⟨c, hc⟩ := l.qr.ty k e
    rw [hc] at hk
    exact not_cells (Option.some.inj hk).symm ho
theorem Is.others {B : Nat} {v : Value} {l : List Int} {w w' : World} (h : Is B v l w) (g : w.grownBy w' v.ownBlock) : KeepsOthers w w' :=
  ⟨g.size, fun k o hk ho => (g.block k (heap_lt hk) (fun e => by
    obtain ⟨c, hc⟩ := h.ty k e.symm
    rw [hc] at hk
    exact not_cells (Option.some.inj hk).symm ho)).trans hk⟩
theorem below_others {w w' : World} (h : Below w.heap.size w w') : KeepsOthers w w' := ⟨h.size, fun k _ hk _ => (h.block k (heap_lt hk)).trans hk⟩
theorem below_kr {w w' : World} (h : Below w.heap.size w w') : Kr w w' := fun k _ _ hk _ => (h.block k (heap_lt hk)).trans hk
/-- Numbers behind numbers: append of a row that may be nil. -/
theorem app_is {M M' : Nat} {u v : Value} {l m : List Int} {w : World} (ty : TypeId) (hu : Is M u l w) (hv : Is M' v m w) (hM : M ≤ w.heap.size) (hl : l.length + m.length ≤ 100000000) :
    ∃ v' w', (Builtin.append_ #[34, 34] ty #[u, v]).run Try.prog w = .ok v' w' ∧ Is M v' (l ++ m) w' ∧ w.grownBy w' u.ownBlock := by
  obtain ⟨i0, hi, hz0, hz1, hz2⟩ := info_parts inf3
  have up : ∀ v' w', w'.ownsRow M 3 1 v' (l.length + m.length) (vals l ++ vals m) → Is M v' (l ++ m) w' := fun v' w' h => by
    unfold Is vals
    rw [List.length_append, List.map_append]
    exact h
  rcases hv.2 with ⟨rfl, h0⟩ | ⟨g, cap, cur, rfl, hB, hg, h2, h3, h4, h5⟩
  · obtain rfl : m = [] := List.eq_nil_of_length_eq_zero h0
    have hr := run_append_owned_none (P := Try.prog) (w := w) M 34 ty 3 i0 1 Try.underlying34 hi u l.length _ hu
    exact ⟨u, w, hr, by rw [List.append_nil]; exact hu, ⟨rfl, rfl, rfl, Nat.le_refl _, fun _ _ _ => rfl⟩⟩
  · have hnews : ∀ j x, (vals m)[j]? = some x → w.cell? ((⟨g, 0, none⟩ : Addr).add j) = some x := fun j x hj => by
      have hjl : j < m.length := by have := (List.getElem?_eq_some_iff.1 hj).1; simpa [vals] using this
      rw [Addr.add_lit, Nat.zero_add, ← hj, ← h5, List.getElem?_take_of_lt (by omega)]
      simp [World.cell?, hg]
    obtain ⟨v', w', hr, o2, o3, _⟩ := run_append_own (P := Try.prog) w M 34 ty 3 i0 (.int .i64 0) 1 8 Try.underlying34 hi hz0 hz1 hz2 rfl (by decide) u l.length _ hu ⟨g, 0, none⟩ m.length cap (vals m) (by simp [vals]) hnews (vals_one m) (by unfold maxLen; omega) (by omega) hM
    exact ⟨v', w', hr, up v' w' o2, o3⟩
/-- append, its run being known. -/
theorem stepIn_app {F : Fence} {n : Nat} {P : Program} {w w' : World} {ops : Array Oper} {o : Oper} {a : Act} {K : Act → World → Prop} {Q : Exit → Act → World → Prop} {E : Prop} {u v v' : Value} (hg : o.guard = none) (s x : Operand)
    (hop : o.op = Op.call { callee := Callee.builtin Builtin.append, args := #[s, x], argTypes := #[34, 34] }) (hs : a.eval s = u) (hx : a.eval x = v) (hr : (Builtin.append_ #[34, 34] o.type #[u, v]).run P w = .ok v' w') (hK : K (a.put o.dst v') w') :
    if Region.wanted o (yielded ops a.tmps) = true then Oper.wpIn F n P o a w K Q else E := by
  have hw : Region.wanted o (yielded ops a.tmps) = true := by simp [Region.wanted, hg]
  rw [if_pos hw]
  unfold Oper.wpIn
  refine ⟨?_, ?_⟩
  · simp [Oper.about, hop, resolve, Target.leads, Sem.run_pure]
  · rw [Oper.semAt_plain F _ _ (by rw [hop]; intro c hc'; cases hc')]
    simp [execOp, hop, resolve, invoke, builtin, hs, hx, hr, Result.andThen]
    exact hK
/-- All cells stay but numbers and boxes of slices of numbers. -/
def Cy (W W' : World) : Prop := ∀ (k : Nat) (cur : Array Value) (t : TypeId) (f : Nat × Nat), W.heap[k]? = some (.cells cur t f) → t ≠ 3 → t ≠ 34 → W'.heap[k]? = some (.cells cur t f)
theorem Es.cy {B : Nat} {v : Value} {l : List En} {w w' : World} (h : Es B v l w) (k : Cy w w') : Es B v l w' := h.keep fun g hg => by
  obtain ⟨cur, hc⟩ := h.ty g hg
  rw [k g _ _ _ hc (by decide) (by decide), hc]
theorem La.cy {B b : Nat} {H Q : List En} {hv qv : Value} {w w' : World} (h : La B H Q b hv qv w) (k : Cy w w') : La B H Q b hv qv w' := ⟨k _ _ _ _ h.blk (by decide) (by decide), h.hr.cy k, h.qr.cy k, h.dq, h.bB, h.srt⟩
theorem Tb.cy {B n : Nat} {most : Int} {T : Nat → Lv} {b rb : Nat} {lb : Nat → Nat} {hv qv : Nat → Value} {w w' : World} (h : Tb B n most T b rb lb hv qv w) (k : Cy w w') : Tb B n most T b rb lb hv qv w' :=
  ⟨k _ _ _ _ h.blk (by decide) (by decide), ⟨_, k _ _ _ _ h.row.choose_spec.1 (by decide) (by decide), h.row.choose_spec.2⟩, ⟨fun i hi => (h.ls.la i hi).cy k, h.ls.inj, h.ls.apart⟩, h.bB, h.rB⟩
theorem cy_is {M : Nat} {v : Value} {l : List Int} {w w' : World} (h : Is M v l w) (g : w.grownBy w' v.ownBlock) : Cy w w' := fun k cur t f hk h3 _ =>
  (g.block k (heap_lt hk) (fun e => by
    obtain ⟨c, hc⟩ := h.ty k e.symm
    rw [hk] at hc
    cases hc
    exact h3 rfl)).trans hk
theorem cy_set {w : World} {G : Nat} {gv : Value} (h : w.heap[G]? = some (.cells #[gv] 34 (0, 0))) (v : Value) : Cy w (w.setCell ⟨G, 0, none⟩ v) := fun k cur t f hk _ h4 =>
  (set_other _ _ _ _ _ (fun e => by
    rw [e, h] at hk
    cases hk
    exact h4 rfl)).trans hk
/-- A lane that who leaves: what was granted goes behind what was granted before. -/
theorem drop_round {B N : Nat} {most : Int} {S : Nat → Lv} {a : List Int} {b rb : Nat} {lb : Nat → Nat} {hv qv : Nat → Value} {V : World} {P G M : Nat} {gv : Value} {who : Int}
    (t : Tb B N most S b rb lb hv qv V) (g1 : V.heap[G]? = some (.cells #[gv] 34 (0, 0))) (i1 : Is M gv a V) (p1 : V.heap[P]? = some (.cells #[.int .i64 who] 3 (0, 0))) (hPM : P < M) (hMV : M ≤ V.heap.size) {k : Nat} (hk : k < N) {gl hv' qv' : Value} {l : List Int} {x : Lv} {w6 : World}
    (I6 : Is V.heap.size gl l w6) (L6 : La B x.1 x.2 (lb k) hv' qv' w6) (M6 : Mv (lb k) (hv k) (qv k) hv' qv' V w6) (hl : a.length + l.length ≤ 100000000) (hBM : B ≤ M) :
    w6.cell? ⟨G, 0, none⟩ = some gv ∧ ∃ v' w7, (Builtin.append_ #[34, 34] 34 #[gv, gl]).run Try.prog w6 = .ok v' w7 ∧ w7.cell? ⟨G, 0, none⟩ = some gv ∧ w7.frozen? ⟨G, 0, none⟩ = false ∧
      KeepsOthers V (w7.setCell ⟨G, 0, none⟩ v') ∧ Kr V (w7.setCell ⟨G, 0, none⟩ v') ∧ Tb B N most (upd S k x) b rb lb (set1 hv k hv') (set1 qv k qv') (w7.setCell ⟨G, 0, none⟩ v') ∧ (w7.setCell ⟨G, 0, none⟩ v').heap[G]? = some (.cells #[v'] 34 (0, 0)) ∧
      Is M v' (a ++ l) (w7.setCell ⟨G, 0, none⟩ v') ∧ (w7.setCell ⟨G, 0, none⟩ v').heap[P]? = some (.cells #[.int .i64 who] 3 (0, 0)) ∧ V.heap.size ≤ (w7.setCell ⟨G, 0, none⟩ v').heap.size ∧ (B ≤ G → Below B V (w7.setCell ⟨G, 0, none⟩ v')) := by
  have la := t.ls.la k hk
  have t6 := t.step hk M6 L6
  have g6 := M6.stays la g1 (by decide) (by decide)
  have p6 := M6.stays la p1 (by decide) (by decide)
  have i6 := i1.moved la M6
  obtain ⟨v', w7, hr, i7, gr⟩ := app_is (ty := 34) i6 I6 (Nat.le_trans hMV M6.size) hl
  have c7 := cy_is i6 gr
  have gne : gv.ownBlock ≠ some G := fun e => by
    obtain ⟨c, hc⟩ := i6.ty G e
    rw [g6] at hc; cases hc
  have pne : gv.ownBlock ≠ some P := fun e => by have := (i6.lt P e).1; omega
  have g7 : w7.heap[G]? = some (.cells #[gv] 34 (0, 0)) := (gr.block G (heap_lt g6) (fun e => gne e.symm)).trans g6
  have p7 : w7.heap[P]? = some (.cells #[.int .i64 who] 3 (0, 0)) := (gr.block P (heap_lt p6) (fun e => pne e.symm)).trans p6
  have c8 := cy_set g7 v'
  have sz : V.heap.size ≤ (w7.setCell ⟨G, 0, none⟩ v').heap.size := by
    show V.heap.size ≤ (w7.heap.modify G _).size
    rw [Array.size_modify]
    exact Nat.le_trans M6.size gr.size
  have hPG : P ≠ G := fun e => by rw [e, g7] at p7; cases p7
  refine ⟨by simp [World.cell?, g6], v', w7, hr, by simp [World.cell?, g7], by simp [World.frozen?, g7], ?_, ?_, (t6.cy c7).cy c8, ?_, ?_, (set_other _ _ _ _ _ hPG).trans p7, sz, fun hG => ?_⟩
  · exact ((M6.others la).trans (i6.others gr)).trans (KeepsOthers.setCell _ _ _)
  · intro j c ty hj ht
    have h1 : ty ≠ 3 := by rcases ht with rfl | rfl <;> decide
    have h2 : ty ≠ 34 := by rcases ht with rfl | rfl <;> decide
    have h3 : ty ≠ 41 := by rcases ht with rfl | rfl <;> decide
    have h4 : ty ≠ 76 := by rcases ht with rfl | rfl <;> decide
    exact c8 j c ty _ (c7 j c ty _ (M6.stays la hj h3 h4) h1 h2) h1 h2
  · show (w7.heap.modify G _)[G]? = _
    rw [Array.getElem?_modify, if_pos rfl, g7]; rfl
  · refine i7.keep fun j hj => set_other _ _ _ _ _ (fun e => ?_)
    obtain ⟨c, hc⟩ := i7.ty j hj
    rw [e, g7] at hc; cases hc
  · exact (((M6.below la).trans (grown_below gr (Nat.le_trans hBM (Nat.le_trans hMV M6.size)) (fun j hj => Nat.le_trans hBM (i6.lt j hj).1)))).setCell (p := ⟨G, 0, none⟩) hG _
end Go.Proofs.Ytmdbmkekdpbliaa
