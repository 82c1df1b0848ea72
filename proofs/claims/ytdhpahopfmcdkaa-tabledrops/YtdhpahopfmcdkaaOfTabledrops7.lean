/- Texts of this claim, put together in their order. -/
import Derived.RangeFuncNested
import Derived.RangeFuncBound
import Derived.RangeFuncCalls
import Derived.RangeFuncLeaves
import Derived.Shelf.Abstract
import Derived.Shelf.RegionOpen
import Derived.WalkKit
import Derived.OwnWalkIn
import Derived.TacticsInMore
import Derived.LoopNIn
import Derived.LoopIn
import Derived.Shelf.SlSortCmp.WholeK
import Derived.Shelf.SlSortCmp.NoneTotal
import Derived.Shelf.SlLaysF0
import Derived.Ground.SlsfProg
import Derived.Test.YtdhpahopfmcdkaaProg
import Derived.Deep.RegionHeld3
import Derived.Test.YtdhpahopfmcdkaaOfTabledrops1
import Derived.Test.YtdhpahopfmcdkaaOfTabledrops2
import Derived.Test.YtdhpahopfmcdkaaOfTabledrops3
import Derived.Test.YtdhpahopfmcdkaaOfTabledrops4
import Derived.Test.YtdhpahopfmcdkaaOfTabledrops5
import Derived.Test.YtdhpahopfmcdkaaOfTabledrops6
/- slices.Backward over a table's rows: from the last one down. -/
namespace Go.Proofs.Ytdhpahopfmcdkaa
open Go.RowKit Go.Shelf

attribute [local go_sem] Oper.semAt_some

variable {X : Nat → Prop}
/-- The rows of pointers and the boxes of slices of rows stay, and the blocks of X. -/
def Kr (X : Nat → Prop) (W W' : World) : Prop := ∀ (k : Nat) (cur : Array Value) (t : TypeId), W.heap[k]? = some (.cells cur t (0, 0)) → t = 107 ∨ t = 53 ∨ t = 46 ∨ X k → W'.heap[k]? = some (.cells cur t (0, 0))
theorem kr_refl (W : World) : Kr X W W := fun _ _ _ h _ => h
theorem kr_t {A B C : World} (h : Kr X A B) (k : Kr X B C) : Kr X A C := fun j c t hj ht => k j c t (h j c t hj ht) ht
theorem kr_b (W : World) (l : Nat) (o o' : Obj) (hl : W.heap[l]? = some o) (ho : o.isCells = false) : Kr X W (W.putObj l o') := fun j c t hj _ => by
  refine (World.putObj_heap_other (fun e => ?_)).trans hj
  subst e
  rw [hl] at hj
  cases hj
  cases ho
theorem kr_alloc (W : World) (o : Obj) : Kr X W (W.alloc o) := fun j _ _ hj _ => ((below_new W o).block j (heap_lt hj)).trans hj
/-- The blocks of X lie below P, and none of them is one of the lanes'. -/
def Fn (X : Nat → Prop) (N P : Nat) (lb : Nat → Nat) (hv qv : Nat → Value) : Prop := ∀ j, X j → j < P ∧ ∀ i, i < N → j ≠ lb i ∧ (hv i).ownBlock ≠ some j ∧ (qv i).ownBlock ≠ some j
/-- The places from N - 1 down to m. -/
def dn (N m : Nat) : List Nat := (List.range (N - m)).map (fun j => N - 1 - j)
theorem dn_step {N m : Nat} (hm : m < N) : dn N m = dn N (m + 1) ++ [m] := by
  unfold dn
  rw [show N - m = (N - (m + 1)) + 1 by omega, List.range_succ, List.map_append]
  congr 1
  simp
  omega
theorem dn_len (N m : Nat) : (dn N m).length = N - m := by simp [dn]
theorem dn_none (N : Nat) : dn N N = [] := by simp [dn]
theorem dn_lt {N m x : Nat} (h : x ∈ dn N m) : x < N := by
  unfold dn at h
  obtain ⟨j, hj, rfl⟩ := List.mem_map.1 h
  have := List.mem_range.1 hj
  omega
set_option maxRecDepth 100000 in
set_option maxHeartbeats 2000000 in
theorem back1_in (F : Fence) (n : Nat) (hF : F.fn 107) (hro : F.round = none) (hn : 1 ≤ n) (l Bs rb N : Nat) (lb : Nat → Nat) (hN : N ≤ 10000) (J Jx : List Nat → World → Prop)
    (hY : ∀ pre x W, x < N → J pre W → pre.length < N → YieldAt F (n - 1) Try.prog l #[.int .i64 ((x : Nat) : Int), .agg #[.pointer (some ⟨lb x, 0, none⟩)]] W fun e W' =>
      (e = .returned (.bool true) ∧ J (pre ++ [x]) W' ∧ Kr X W W') ∨ (e = .returned (.bool false) ∧ Jx (pre ++ [x]) W'))
    (W : World) (hBs : W.heap[Bs]? = some (.cells #[.slice (some ⟨rb, 0, none⟩) N N] 53 (0, 0))) (hrow : ∃ cur, W.heap[rb]? = some (.cells cur 107 (0, 0)) ∧ ∀ i, i < N → cur[i]? = some (.pointer (some ⟨lb i, 0, none⟩))) (h0 : J [] W) :
    CallsIn F n Try.prog 107 #[.func (.yield l) #[] #[], .pointer (some ⟨Bs, 0, none⟩)] W fun e W' => (∃ v, e = .returned v) ∧
      ((∃ ys, ys = dn N 0 ∧ J ys W') ∨ (∃ pre, True ∧ Jx pre W')) := by
  have cB : ∀ W', Kr X W W' → W'.cell? ⟨Bs, 0, none⟩ = some (.slice (some ⟨rb, 0, none⟩) N N) := fun W' hk => by
    have := hk Bs _ 53 hBs (.inr (.inl rfl))
    simp [World.cell?, this]
  have cR : ∀ W', Kr X W W' → ∀ i, i < N → W'.cell? ⟨rb, i, none⟩ = some (.pointer (some ⟨lb i, 0, none⟩)) := fun W' hk i hi => by
    obtain ⟨cur, h1, h2⟩ := hrow
    have := hk rb _ 107 h1 (.inl rfl)
    simp [World.cell?, this, h2 i hi]
  have c0 := cB W (kr_refl W)
  refine callsIn_of_wp Try.func107 rfl hF ?_ hro
  simp only [Try.ntmps107, List.size_toArray, List.length_cons, List.length_nil, Nat.reduceAdd, Nat.reduceSub, Array.replicate_succ, Array.replicate_zero, List.push_toArray, List.append_toArray, List.nil_append, List.cons_append]
  gi_wp2
  gi_loopw [3] (fun i wr => ∃ m : Nat, m ≤ N ∧ i = .int .i64 ((m : Int) - 1) ∧ J (dn N m) wr ∧ Kr X W wr)
    (fun i _ => (intOf i + 1).toNat)
  case atStart => exact ⟨N, Nat.le_refl _, rfl, by rw [dn_none]; exact h0, kr_refl _⟩
  case round =>
    obtain ⟨m, hm, rfl, hJs, hk⟩ := hrel
    rcases m with _ | m
    · gi_wp2
      go_end0
      exact ⟨⟨_, rfl⟩, .inl ⟨_, rfl, hJs⟩⟩
    · have e1 : ((m + 1 : Nat) : Int) - 1 = (m : Int) := by omega
      rw [e1]
      have b1 := cB _ hk
      have b2 := cR _ hk m (by omega)
      have hmN : (m : Int) < (N : Int) := by omega
      have hmN2 : m < N := by omega
      obtain ⟨fn, tmps, assign, body, hy, hR⟩ := hY _ m _ hmN2 hJs (by rw [dn_len]; omega)
      gi_wp2
      refine hR.mono ?_
      rintro e W3 (⟨rfl, hJ3, hk3⟩ | ⟨rfl, hJx3⟩)
      · gi_wp2
        go_roundw
        case rel => exact ⟨m, by omega, by go_num, by rw [dn_step hmN2]; exact hJ3, kr_t hk hk3⟩
        case measure => simp [intOf] <;> omega
      · gi_wp2
        refine bodyPost_ret (results_none rfl _ _ _) rfl ?_
        exact ⟨⟨_, rfl⟩, .inr ⟨_, trivial, hJx3⟩⟩
set_option maxHeartbeats 1000000 in
/-- slices.Backward(s): the slice value is boxed; the function value captures the box. -/
theorem back_in (F : Fence) (n : Nat) (hF : F.fn 75) (hro : F.round = none) (a : Option Addr) (len cap : Nat) (w : World) :
    CallsIn F n Try.prog 75 #[.slice a len cap] w fun e w' => e = .returned (.func (.func 107) #[] #[.pointer (some ⟨w.heap.size, 0, none⟩)]) ∧ w' = w.alloc (.cells #[.slice a len cap] 53) := by
  refine callsIn_of_wp Try.func75 rfl hF ?_ hro
  simp only [Try.ntmps75, List.size_toArray, List.length_cons, List.length_nil, Nat.reduceAdd, Nat.reduceSub, Array.replicate_succ, Array.replicate_zero, List.push_toArray, List.append_toArray, List.nil_append, List.cons_append]
  gi_wp2
  go_ret
  exact ⟨rfl, rfl⟩
theorem back_stops (F : Fence) (n : Nat) (hF : F.fn 107) (hro : F.round = none) (hn : 1 ≤ n) (Bs rb N : Nat) (lb : Nat → Nat) (hN : N ≤ 10000) (w : World)
    (hBs : w.heap[Bs]? = some (.cells #[.slice (some ⟨rb, 0, none⟩) N N] 53 (0, 0))) (hrow : ∃ cur, w.heap[rb]? = some (.cells cur 107 (0, 0)) ∧ ∀ i, i < N → cur[i]? = some (.pointer (some ⟨lb i, 0, none⟩))) :
    SeqStopsK F n Try.prog 107 #[.pointer (some ⟨Bs, 0, none⟩)] (fun x : { x : Nat // x < N } => #[Value.int .i64 (x.1 : Int), .agg #[.pointer (some ⟨lb x.1, 0, none⟩)]]) (Kr X) (fun ys => ys.map (·.1) = dn N 0) (fun _ => True) N w := fun l J Jx W hW _ _ hY h0 => by
  obtain ⟨cur, h1, h2⟩ := hrow
  refine (back1_in (X := X) F n hF hro hn l Bs rb N lb hN (fun pre W => ∃ p : List { x : Nat // x < N }, p.map (·.1) = pre ∧ J p W) (fun pre W => ∃ p : List { x : Nat // x < N }, p.map (·.1) = pre ∧ Jx p W) ?_ W ((hW.block _ (heap_lt hBs)).trans hBs) ⟨cur, (hW.block _ (heap_lt h1)).trans h1, h2⟩ ⟨[], rfl, h0⟩).mono ?_
  · rintro pre x W1 hx ⟨p, rfl, hp⟩ hl
    refine (hY p ⟨x, hx⟩ W1 hp (by simpa using hl)).mono ?_
    rintro e W' (⟨e1, e2, e3⟩ | ⟨e1, e2⟩)
    · exact .inl ⟨e1, ⟨_, by simp, e2⟩, e3⟩
    · exact .inr ⟨e1, ⟨_, by simp, e2⟩⟩
  · rintro e W' ⟨he, ⟨ys, rfl, p, hp, hJ⟩ | ⟨pre, _, p, _, hJ⟩⟩
    · exact ⟨he, .inl ⟨p, hp, hJ⟩⟩
    · exact ⟨he, .inr ⟨p, trivial, hJ⟩⟩
end Go.Proofs.Ytdhpahopfmcdkaa

/- Drop: what it does, lane by lane; what stays where only lanes are turned. -/
namespace Go.Proofs.Ytdhpahopfmcdkaa
open Go.RowKit
variable {X : Nat → Prop}

/-- One lane's turn: who were granted so far, and the lanes. -/
def dropS (who : Int) (s : List Int × (Nat → Lv)) (x : Nat) : List Int × (Nat → Lv) :=
  if hasL who (s.2 x) then (s.1 ++ (leaveD who (s.2 x).1 (s.2 x).2).1, upd s.2 x (leaveD who (s.2 x).1 (s.2 x).2).2) else s
def dropD (who : Int) (T : Nat → Lv) (xs : List Nat) : List Int × (Nat → Lv) := xs.foldl (dropS who) ([], T)
theorem drop_snoc (who : Int) (T : Nat → Lv) (xs : List Nat) (x : Nat) : dropD who T (xs ++ [x]) = dropS who (dropD who T xs) x := by
  unfold dropD; rw [List.foldl_append]; rfl
theorem leave_few {who : Int} {H Q : List En} : (leaveD who H Q).1.length ≤ Q.length := by
  unfold leaveD
  simp only [List.length_map, List.length_take]
  have := out_len who Q
  omega
theorem grant_srt : ∀ (Q H : List En), Srt H → Srt (grantD H Q).2
  | [], _, h => h
  | x :: r, H, h => by
    unfold grantD
    split
    · exact grant_srt r _ (srt_put h)
    · exact h
theorem leave_srt {who : Int} {H Q : List En} (hs : Srt H) : Srt (leaveD who H Q).2.1 := by
  unfold leaveD
  exact grant_srt (out1 who Q) (out1 who H) (out_srt hs)
theorem gd_drop {n k : Nat} {who : Int} {s : List Int × (Nat → Lv)} {x : Nat} (hx : x < n) (hs : Srt (s.2 x).1) (h : Gd n k s.2) : Gd n k (dropS who s x).2 := by
  unfold dropS
  split
  · have f := h.fine x hx
    refine h.set x (leave_fine who hs f).1 ?_
    have h1 := (leave_ok who hs f.ok).2.1
    have h2 := h.sum x hx
    exact Nat.le_trans h1 h2
  · exact h
theorem drop_len {n k : Nat} {who : Int} {s : List Int × (Nat → Lv)} {x : Nat} (hx : x < n) (h : Gd n k s.2) : (dropS who s x).1.length ≤ s.1.length + k := by
  unfold dropS
  split
  · have h1 := leave_few (who := who) (H := (s.2 x).1) (Q := (s.2 x).2)
    have h2 := h.sum x hx
    simp only [List.length_append]
    omega
  · omega
/-- All cells stay. -/
def Cz (W W' : World) : Prop := ∀ (k : Nat) (cur : Array Value) (t : TypeId) (f : Nat × Nat), W.heap[k]? = some (.cells cur t f) → W'.heap[k]? = some (.cells cur t f)
theorem cz_own {B : Nat} {W W' : World} {row : Option Nat} (hg : W.grownBy W' row) (hr : ∀ r, row = some r → B ≤ r ∧ ∃ o : Obj, W.heap[r]? = some o ∧ o.isCells = false) : Cz W W' := fun k cur t f hk =>
  (hg.block k (heap_lt hk) (fun e => by
    obtain ⟨_, o, ho, hc⟩ := hr k e.symm
    rw [hk] at ho
    cases ho
    cases hc)).trans hk
theorem Es.cz {B : Nat} {v : Value} {l : List En} {w w' : World} (h : Es B v l w) (k : Cz w w') : Es B v l w' := h.keep fun g hg => by
  obtain ⟨cur, hc⟩ := h.ty g hg
  rw [k g _ _ _ hc, hc]
theorem Is.cz {B : Nat} {v : Value} {l : List Int} {w w' : World} (h : Is B v l w) (k : Cz w w') : Is B v l w' := h.keep fun g hg => by
  obtain ⟨cur, hc⟩ := h.ty g hg
  rw [k g _ _ _ hc, hc]
theorem La.cz {B b : Nat} {H Q : List En} {hv qv : Value} {w w' : World} (h : La B H Q b hv qv w) (k : Cz w w') : La B H Q b hv qv w' := ⟨k _ _ _ _ h.blk, h.hr.cz k, h.qr.cz k, h.dq, h.bB, h.srt⟩
theorem Tb.cz {B n : Nat} {most : Int} {T : Nat → Lv} {b rb : Nat} {lb : Nat → Nat} {hv qv : Nat → Value} {w w' : World} (h : Tb B n most T b rb lb hv qv w) (k : Cz w w') : Tb B n most T b rb lb hv qv w' :=
  ⟨k _ _ _ _ h.blk, ⟨_, k _ _ _ _ h.row.choose_spec.1, h.row.choose_spec.2⟩, ⟨fun i hi => (h.ls.la i hi).cz k, h.ls.inj, h.ls.apart⟩, h.bB, h.rB⟩
theorem not_cells {o : Obj} {cur : Array Value} {t : TypeId} {f : Nat × Nat} (h : o = .cells cur t f) (ho : o.isCells = false) : False := by
  subst h; cases ho
/-- What is no cells stays where a lane is turned. -/
theorem Mv.others {B b : Nat} {H Q : List En} {hv qv hv' qv' : Value} {w w' : World} (m : Mv b hv qv hv' qv' w w') (l : La B H Q b hv qv w) : KeepsOthers w w' := by
  refine ⟨m.size, fun k o hk ho => (m.block k (heap_lt hk) (fun e => ?_) (fun e => ?_) (fun e => ?_)).trans hk⟩
  · rw [e, l.blk] at hk
    exact not_cells (Option.some.inj hk).symm ho
  · obtain ⟨c, hc⟩ := l.hr.ty k e
    rw [hc] at hk
    exact not_cells (Option.some.inj hk).symm ho
  · obtain ⟨c, hc⟩ := l.qr.ty k e
    rw [hc] at hk
    exact not_cells (Option.some.inj hk).symm ho
theorem Is.others {B : Nat} {v : Value} {l : List Int} {w w' : World} (h : Is B v l w) (g : w.grownBy w' v.ownBlock) : KeepsOthers w w' :=
  ⟨g.size, fun k o hk ho => (g.block k (heap_lt hk) (fun e => by
    obtain ⟨c, hc⟩ := h.ty k e.symm
    rw [hc] at hk
    exact not_cells (Option.some.inj hk).symm ho)).trans hk⟩
theorem below_others {w w' : World} (h : Below w.heap.size w w') : KeepsOthers w w' := ⟨h.size, fun k _ hk _ => (h.block k (heap_lt hk)).trans hk⟩
theorem below_kr {w w' : World} (h : Below w.heap.size w w') : Kr X w w' := fun k _ _ hk _ => (h.block k (heap_lt hk)).trans hk
/-- Numbers behind numbers: append of a row that may be nil. -/
theorem app_is {M M' : Nat} {u v : Value} {l m : List Int} {w : World} (ty : TypeId) (hu : Is M u l w) (hv : Is M' v m w) (hM : M ≤ w.heap.size) (hl : l.length + m.length ≤ 100000000) :
    ∃ v' w', (Builtin.append_ #[34, 34] ty #[u, v]).run Try.prog w = .ok v' w' ∧ Is M v' (l ++ m) w' ∧ w.grownBy w' u.ownBlock := by
  obtain ⟨i0, hi, hz0, hz1, hz2⟩ := info_parts inf3
  have up : ∀ v' w', w'.ownsRow M 3 1 v' (l.length + m.length) (vals l ++ vals m) → Is M v' (l ++ m) w' := fun v' w' h => by
    unfold Is vals
    rw [List.length_append, List.map_append]
    exact h
  rcases hv.2 with ⟨rfl, h0⟩ | ⟨g, cap, cur, rfl, hB, hg, h2, h3, h4, h5⟩
  · obtain rfl : m = [] := List.eq_nil_of_length_eq_zero h0
    have hr := run_append_owned_none (P := Try.prog) (w := w) M 34 ty 3 i0 1 Try.underlying34 hi u l.length _ hu
    exact ⟨u, w, hr, by rw [List.append_nil]; exact hu, ⟨rfl, rfl, rfl, Nat.le_refl _, fun _ _ _ => rfl⟩⟩
  · have hnews : ∀ j x, (vals m)[j]? = some x → w.cell? ((⟨g, 0, none⟩ : Addr).add j) = some x := fun j x hj => by
      have hjl : j < m.length := by have := (List.getElem?_eq_some_iff.1 hj).1; simpa [vals] using this
      rw [Addr.add_lit, Nat.zero_add, ← hj, ← h5, List.getElem?_take_of_lt (by omega)]
      simp [World.cell?, hg]
    obtain ⟨v', w', hr, o2, o3, _⟩ := run_append_own (P := Try.prog) w M 34 ty 3 i0 (.int .i64 0) 1 8 Try.underlying34 hi hz0 hz1 hz2 rfl (by decide) u l.length _ hu ⟨g, 0, none⟩ m.length cap (vals m) (by simp [vals]) hnews (vals_one m) (by unfold maxLen; omega) (by omega) hM
    exact ⟨v', w', hr, up v' w' o2, o3⟩
/-- append, its run being known. -/
theorem stepIn_app {F : Fence} {n : Nat} {P : Program} {w w' : World} {ops : Array Oper} {o : Oper} {a : Act} {K : Act → World → Prop} {Q : Exit → Act → World → Prop} {E : Prop} {u v v' : Value} (hg : o.guard = none) (s x : Operand)
    (hop : o.op = Op.call { callee := Callee.builtin Builtin.append, args := #[s, x], argTypes := #[34, 34] }) (hs : a.eval s = u) (hx : a.eval x = v) (hr : (Builtin.append_ #[34, 34] o.type #[u, v]).run P w = .ok v' w') (hK : K (a.put o.dst v') w') :
    if Region.wanted o (yielded ops a.tmps) = true then Oper.wpIn F n P o a w K Q else E := by
  have hw : Region.wanted o (yielded ops a.tmps) = true := by simp [Region.wanted, hg]
  rw [if_pos hw]
  unfold Oper.wpIn
  refine ⟨?_, ?_⟩
  · simp [Oper.about, hop, resolve, Target.leads, Sem.run_pure]
  · rw [Oper.semAt_plain F _ _ (by rw [hop]; intro c hc'; cases hc')]
    simp [execOp, hop, resolve, invoke, builtin, hs, hx, hr, Result.andThen]
    exact hK
/-- All cells stay but numbers and boxes of slices of numbers. -/
def Cy (W W' : World) : Prop := ∀ (k : Nat) (cur : Array Value) (t : TypeId) (f : Nat × Nat), W.heap[k]? = some (.cells cur t f) → t ≠ 3 → t ≠ 34 → W'.heap[k]? = some (.cells cur t f)
theorem Es.cy {B : Nat} {v : Value} {l : List En} {w w' : World} (h : Es B v l w) (k : Cy w w') : Es B v l w' := h.keep fun g hg => by
  obtain ⟨cur, hc⟩ := h.ty g hg
  rw [k g _ _ _ hc (by decide) (by decide), hc]
theorem La.cy {B b : Nat} {H Q : List En} {hv qv : Value} {w w' : World} (h : La B H Q b hv qv w) (k : Cy w w') : La B H Q b hv qv w' := ⟨k _ _ _ _ h.blk (by decide) (by decide), h.hr.cy k, h.qr.cy k, h.dq, h.bB, h.srt⟩
theorem Tb.cy {B n : Nat} {most : Int} {T : Nat → Lv} {b rb : Nat} {lb : Nat → Nat} {hv qv : Nat → Value} {w w' : World} (h : Tb B n most T b rb lb hv qv w) (k : Cy w w') : Tb B n most T b rb lb hv qv w' :=
  ⟨k _ _ _ _ h.blk (by decide) (by decide), ⟨_, k _ _ _ _ h.row.choose_spec.1 (by decide) (by decide), h.row.choose_spec.2⟩, ⟨fun i hi => (h.ls.la i hi).cy k, h.ls.inj, h.ls.apart⟩, h.bB, h.rB⟩
theorem cy_is {M : Nat} {v : Value} {l : List Int} {w w' : World} (h : Is M v l w) (g : w.grownBy w' v.ownBlock) : Cy w w' := fun k cur t f hk h3 _ =>
  (g.block k (heap_lt hk) (fun e => by
    obtain ⟨c, hc⟩ := h.ty k e.symm
    rw [hk] at hc
    cases hc
    exact h3 rfl)).trans hk
theorem cy_set {w : World} {G : Nat} {gv : Value} (h : w.heap[G]? = some (.cells #[gv] 34 (0, 0))) (v : Value) : Cy w (w.setCell ⟨G, 0, none⟩ v) := fun k cur t f hk _ h4 =>
  (set_other _ _ _ _ _ (fun e => by
    rw [e, h] at hk
    cases hk
    exact h4 rfl)).trans hk
/-- A lane that who leaves: what was granted goes behind what was granted before. -/
theorem drop_round {B N : Nat} {most : Int} {S : Nat → Lv} {a : List Int} {b rb : Nat} {lb : Nat → Nat} {hv qv : Nat → Value} {V : World} {P G M : Nat} {gv : Value} {who : Int}
    (t : Tb B N most S b rb lb hv qv V) (g1 : V.heap[G]? = some (.cells #[gv] 34 (0, 0))) (i1 : Is M gv a V) (p1 : V.heap[P]? = some (.cells #[.int .i64 who] 3 (0, 0))) (hPM : P < M) (hMV : M ≤ V.heap.size) (hX : Fn X N P lb hv qv) (hPG2 : P < G) {k : Nat} (hk : k < N) {gl hv' qv' : Value} {l : List Int} {x : Lv} {w6 : World}
    (I6 : Is V.heap.size gl l w6) (L6 : La B x.1 x.2 (lb k) hv' qv' w6) (M6 : Mv (lb k) (hv k) (qv k) hv' qv' V w6) (hl : a.length + l.length ≤ 100000000) (hBM : B ≤ M) :
    w6.cell? ⟨G, 0, none⟩ = some gv ∧ ∃ v' w7, (Builtin.append_ #[34, 34] 34 #[gv, gl]).run Try.prog w6 = .ok v' w7 ∧ w7.cell? ⟨G, 0, none⟩ = some gv ∧ w7.frozen? ⟨G, 0, none⟩ = false ∧
      KeepsOthers V (w7.setCell ⟨G, 0, none⟩ v') ∧ Kr X V (w7.setCell ⟨G, 0, none⟩ v') ∧ (Tb B N most (upd S k x) b rb lb (set1 hv k hv') (set1 qv k qv') (w7.setCell ⟨G, 0, none⟩ v') ∧ Fn X N P lb (set1 hv k hv') (set1 qv k qv')) ∧ (w7.setCell ⟨G, 0, none⟩ v').heap[G]? = some (.cells #[v'] 34 (0, 0)) ∧
      Is M v' (a ++ l) (w7.setCell ⟨G, 0, none⟩ v') ∧ (w7.setCell ⟨G, 0, none⟩ v').heap[P]? = some (.cells #[.int .i64 who] 3 (0, 0)) ∧ V.heap.size ≤ (w7.setCell ⟨G, 0, none⟩ v').heap.size ∧ (B ≤ G → Below B V (w7.setCell ⟨G, 0, none⟩ v')) := by
  have la := t.ls.la k hk
  have t6 := t.step hk M6 L6
  have g6 := M6.stays la g1 (by decide) (by decide)
  have p6 := M6.stays la p1 (by decide) (by decide)
  have i6 := i1.moved la M6
  obtain ⟨v', w7, hr, i7, gr⟩ := app_is (ty := 34) i6 I6 (Nat.le_trans hMV M6.size) hl
  have c7 := cy_is i6 gr
  have gne : gv.ownBlock ≠ some G := fun e => by
    obtain ⟨c, hc⟩ := i6.ty G e
    rw [g6] at hc; cases hc
  have pne : gv.ownBlock ≠ some P := fun e => by have := (i6.lt P e).1; omega
  have g7 : w7.heap[G]? = some (.cells #[gv] 34 (0, 0)) := (gr.block G (heap_lt g6) (fun e => gne e.symm)).trans g6
  have p7 : w7.heap[P]? = some (.cells #[.int .i64 who] 3 (0, 0)) := (gr.block P (heap_lt p6) (fun e => pne e.symm)).trans p6
  have c8 := cy_set g7 v'
  have sz : V.heap.size ≤ (w7.setCell ⟨G, 0, none⟩ v').heap.size := by
    show V.heap.size ≤ (w7.heap.modify G _).size
    rw [Array.size_modify]
    exact Nat.le_trans M6.size gr.size
  have hPG : P ≠ G := fun e => by rw [e, g7] at p7; cases p7
  have hF : Fn X N P lb (set1 hv k hv') (set1 qv k qv') := fun j hj => by
    obtain ⟨hjP, hjf⟩ := hX j hj
    refine ⟨hjP, fun i hi => ?_⟩
    by_cases e : i = k
    · subst e
      rw [set1_same, set1_same]
      refine ⟨(hjf i hi).1, fun e2 => ?_, fun e2 => ?_⟩
      · rcases M6.ha j e2 with h | h
        · exact (hjf i hi).2.1 h
        · omega
      · rcases M6.qa j e2 with h | h
        · exact (hjf i hi).2.2 h
        · omega
    · rw [set1_other hv hv' e, set1_other qv qv' e]
      exact hjf i hi
  refine ⟨by simp [World.cell?, g6], v', w7, hr, by simp [World.cell?, g7], by simp [World.frozen?, g7], ?_, ?_, ⟨(t6.cy c7).cy c8, hF⟩, ?_, ?_, (set_other _ _ _ _ _ hPG).trans p7, sz, fun hG => ?_⟩
  · exact ((M6.others la).trans (i6.others gr)).trans (KeepsOthers.setCell _ _ _)
  · intro j c ty hj ht
    have main : (ty = 107 ∨ ty = 53 ∨ ty = 46) → (w7.setCell ⟨G, 0, none⟩ v').heap[j]? = some (.cells c ty (0, 0)) := fun ht => by
      have h1 : ty ≠ 3 := by rcases ht with rfl | rfl | rfl <;> decide
      have h2 : ty ≠ 34 := by rcases ht with rfl | rfl | rfl <;> decide
      have h3 : ty ≠ 63 := by rcases ht with rfl | rfl | rfl <;> decide
      have h4 : ty ≠ 90 := by rcases ht with rfl | rfl | rfl <;> decide
      exact c8 j c ty _ (c7 j c ty _ (M6.stays la hj h3 h4) h1 h2) h1 h2
    rcases ht with h | h | h | h
    · exact main (.inl h)
    · exact main (.inr (.inl h))
    · exact main (.inr (.inr h))
    · obtain ⟨hjP, hjf⟩ := hX j h
      obtain ⟨e1, e2, e3⟩ := hjf k hk
      have h6 := (M6.block j (heap_lt hj) e1 e2 e3).trans hj
      have h7 := (gr.block j (heap_lt h6) (fun e => by have := (i6.lt j e.symm).1; omega)).trans h6
      exact (set_other _ _ _ _ _ (by omega)).trans h7
  · show (w7.heap.modify G _)[G]? = _
    rw [Array.getElem?_modify, if_pos rfl, g7]; rfl
  · refine i7.keep fun j hj => set_other _ _ _ _ _ (fun e => ?_)
    obtain ⟨c, hc⟩ := i7.ty j hj
    rw [e, g7] at hc; cases hc
  · exact (((M6.below la).trans (grown_below gr (Nat.le_trans hBM (Nat.le_trans hMV M6.size)) (fun j hj => Nat.le_trans hBM (i6.lt j hj).1)))).setCell (p := ⟨G, 0, none⟩) hG _
end Go.Proofs.Ytdhpahopfmcdkaa

/- LaneFits: the plain facts. -/
namespace Go.Proofs.Ytdhpahopfmcdkaa
open Go.RowKit
variable {H Q : List En}

theorem once_ne {l : List En} (h : Once l) {i j : Nat} (hij : i < j) (hj : j < l.length) : (l.getD i (0, 0)).1 ≠ (l.getD j (0, 0)).1 := by
  have := List.pairwise_iff_getElem.1 h i j (by omega) hj hij
  simpa [List.getD, hj, show i < l.length by omega] using this
theorem getD_mem {l : List En} {i : Nat} (hi : i < l.length) : l.getD i (0, 0) ∈ l := by simp [List.getD, hi]
theorem blocks_at (h : Once Q) {x : Nat} (hx : x < Q.length) : blocksD (Q.getD x (0, 0)).1 H Q = canon (metD H Q x (Q.getD x (0, 0))) := by
  have e : idxD (isWho (Q.getD x (0, 0)).1) Q = (x : Int) := idx_at hx (fun t ht => by
    have := once_ne h ht hx
    simpa [isWho] using this) (by simp [isWho])
  unfold blocksD
  rw [e]; rfl
theorem take_who {x z : Nat} (hz : z < x) (hx : x ≤ Q.length) : (Q.getD z (0, 0)).1 ∈ (Q.take x).map (·.1) := by
  rw [List.mem_map]
  refine ⟨Q.getD z (0, 0), ?_, rfl⟩
  rw [List.mem_take_iff_getElem]
  exact ⟨z, by omega, by simp [List.getD, show z < Q.length by omega]⟩
theorem wait_facts (h : Fine H Q) {x : Nat} (hx : x < Q.length) (bl : List Int) (hb : bl = blocksD (Q.getD x (0, 0)).1 H Q) :
    0 < bl.length ∧ bl.length ≤ H.length + Q.length ∧ bl.any (fun y => y == (Q.getD x (0, 0)).1) = false ∧ lookD (Q.getD x (0, 0)).1 Q = (Q.getD x (0, 0)).2 ∧ coversB (Q.getD x (0, 0)).2 (lookD (Q.getD x (0, 0)).1 H) = true ∧
    ∀ z, z < x → bl.any (fun y => y == (Q.getD z (0, 0)).1) = true ∧ (lookD (Q.getD x (0, 0)).1 H = 0 ∨ (lookD (Q.getD z (0, 0)).1 H == 0) = false) := by
  rw [blocks_at h.ok.once hx] at hb
  obtain ⟨c1, _⟩ := canon_facts (metD H Q x (Q.getD x (0, 0)))
  rw [← hb] at c1
  have hlen : bl.length ≤ H.length + Q.length := by
    rw [hb]
    unfold canon
    refine Nat.le_trans (Lib.compact_length_le _) ?_
    rw [sortI_len]
    unfold metD
    rw [List.length_append, List.length_map, List.length_map, List.length_take]
    have := List.length_filter_le (fun z => hindD z (Q.getD x (0, 0))) H
    omega
  refine ⟨?_, hlen, ?_, ?_, h.cov _ (getD_mem hx), fun z hz => ⟨?_, ?_⟩⟩
  · have hex : ∃ a, a ∈ metD H Q x (Q.getD x (0, 0)) := by
      unfold metD
      cases x with
      | succ n => exact ⟨_, List.mem_append_left _ (take_who (z := 0) (by omega) (by omega))⟩
      | zero =>
        cases hQ : Q with
        | nil => rw [hQ] at hx; simp at hx
        | cons q r =>
          obtain ⟨a, ha, ha2⟩ := fits_no.1 (h.ok.first q r hQ)
          refine ⟨a.1, List.mem_append_right _ ?_⟩
          rw [List.mem_map]
          exact ⟨a, by rw [List.mem_filter]; exact ⟨ha, by simpa using ha2⟩, rfl⟩
    obtain ⟨a, ha⟩ := hex
    exact List.length_pos_of_mem ((c1 a).2 ha)
  · rw [List.any_eq_false]
    intro a ha e
    have e2 : a = (Q.getD x (0, 0)).1 := by simpa using e
    have := (c1 a).1 ha
    unfold metD at this
    rcases List.mem_append.1 this with h2 | h2
    · obtain ⟨q, hq, e3⟩ := List.mem_map.1 h2
      obtain ⟨j, hj, rfl⟩ := List.mem_take_iff_getElem.1 hq
      have := once_ne h.ok.once (show j < x by omega) hx
      apply this
      rw [← e2, ← e3]
      simp [List.getD, show j < Q.length by omega]
    · obtain ⟨q, hq, e3⟩ := List.mem_map.1 h2
      rw [List.mem_filter] at hq
      have h5 := hq.2
      unfold hindD at h5
      simp only [Bool.and_eq_true, bne_iff_ne] at h5
      exact h5.1 (e3.trans e2)
  · refine (look_at hx (fun t ht => ?_) (by simp [isWho])).symm
    have := once_ne h.ok.once ht hx
    simpa [isWho] using this
  · rw [List.any_eq_true]
    exact ⟨_, (c1 _).2 (by unfold metD; exact List.mem_append_left _ (take_who hz (by omega))), by simp⟩
  · cases e : hasD (Q.getD x (0, 0)).1 H
    · exact .inl (look_no e)
    · right
      have h6 := List.pairwise_iff_getElem.1 h.ahead z x (by omega) hx hz
      have e1 : Q[z] = Q.getD z (0, 0) := by simp [List.getD, show z < Q.length by omega]
      have e2 : Q[x] = Q.getD x (0, 0) := by simp [List.getD, hx]
      rw [e1, e2] at h6
      have h7 := h6 e
      rw [beq_eq_false_iff_ne]
      intro e3
      rw [(look_zero h.ok.hm).1 e3] at h7; cases h7
theorem hold_facts (hs : Srt H) (h : Fine H Q) {x z : Nat} (hz : z < x) (hx : x < H.length) : fitsB (H.getD x (0, 0)).2 (H.getD z (0, 0)).2 = true ∧ (H.getD z (0, 0)).1 < (H.getD x (0, 0)).1 := by
  have := srt_lt hs hz hx
  exact ⟨h.fit _ (getD_mem hx) _ (getD_mem (by omega)) (by omega), this⟩
end Go.Proofs.Ytdhpahopfmcdkaa

/- LaneEdges: the plain facts. -/
namespace Go.Proofs.Ytdhpahopfmcdkaa
open Go.RowKit
variable {H Q : List En}

theorem out_last {c : Int} {y : En} (h : y.1 ≠ c) : ∀ (P : List En), out1 c (P ++ [y]) = out1 c P ++ [y]
  | [] => by
    unfold out1
    have e : isWho c y = false := by simpa [isWho] using h
    simp [e]
  | p :: r => by
    have ih := out_last h r
    unfold out1 at ih ⊢
    rw [List.cons_append, List.eraseP_cons, List.eraseP_cons]
    cases e : isWho c p
    · simp only [cond_false, List.cons_append]; rw [ih]
    · simp only [cond_true]
/-- y waits last; whoever waits ahead of it, or holds against it, is in b. -/
def Wt (y : En) (b : List Int) (H Q : List En) : Prop := (∃ P, Q = P ++ [y] ∧ ∀ x ∈ P, x.1 ∈ b) ∧ ∀ h ∈ H, hindD h y = true → h.1 ∈ b
theorem edge_step {y : En} {c : Int} {b : List Int} (hs : Srt H) (h : Fine H Q) (hw : Wt y (c :: b) H Q) (hc : y.1 ≠ c) :
    Wt y b (leaveD c H Q).2.1 (leaveD c H Q).2.2 ∨ (lookD y.1 (leaveD c H Q).2.2 = 0 ∧ lookD y.1 (leaveD c H Q).2.1 = y.2) := by
  obtain ⟨⟨P, hQ, hP⟩, hh⟩ := hw
  have hs1 := out_srt (who := c) hs
  have ho1 := out_once (who := c) h.ok.once
  obtain ⟨i1, _, _, i4, _⟩ := grant_facts (out1 c Q) (out1 c H) hs1 ho1 (fun x hx => h.ok.hm x (out_mem hx)) (fun x hx => h.ok.qm x (out_mem hx))
  obtain ⟨_, k2⟩ := grant_keep (out1 c Q) (out1 c H) hs1
  have hle := grant_le (out1 c Q) (out1 c H)
  have hQ1 : out1 c Q = out1 c P ++ [y] := by rw [hQ]; exact out_last hc P
  have hP1 : ∀ x ∈ out1 c P, x.1 ∈ b := fun x hx => by
    have hx2 : x ∈ out1 c Q := by rw [hQ1]; exact List.mem_append_left _ hx
    have hne := out_gone h.ok.once x hx2
    rcases List.mem_cons.1 (hP x (out_mem hx)) with e | e
    · exact absurd e hne
    · exact e
  have hlen : (out1 c Q).length = (out1 c P).length + 1 := by rw [hQ1]; simp
  unfold leaveD
  by_cases hn : (grantD (out1 c H) (out1 c Q)).1 = (out1 c Q).length
  · right
    constructor
    · show lookD y.1 ((out1 c Q).drop _) = 0
      rw [List.drop_eq_nil_of_le (by omega)]; rfl
    · refine look_uniq i4 (i1 y ?_)
      rw [List.take_of_length_le (by omega), hQ1]
      exact List.mem_append_right _ (List.mem_singleton.2 rfl)
  · left
    have hnp : (grantD (out1 c H) (out1 c Q)).1 ≤ (out1 c P).length := by omega
    refine ⟨⟨(out1 c P).drop (grantD (out1 c H) (out1 c Q)).1, ?_, fun x hx => hP1 x (List.mem_of_mem_drop hx)⟩, fun z hz hz2 => ?_⟩
    · show (out1 c Q).drop (grantD (out1 c H) (out1 c Q)).1 = _
      generalize (grantD (out1 c H) (out1 c Q)).1 = n at hnp ⊢
      rw [hQ1, List.drop_append_of_le_length hnp]
    · rcases k2 z hz with h5 | h5
      · have hne := out_gone (srt_once hs) z h5
        rcases List.mem_cons.1 (hh z (out_mem h5) hz2) with e | e
        · exact absurd e hne
        · exact e
      · refine hP1 z ?_
        generalize (grantD (out1 c H) (out1 c Q)).1 = n at hnp h5
        rw [hQ1, List.take_append_of_le_length hnp] at h5
        exact List.mem_of_mem_take h5
/-- When nobody is left that it waits for, it does not wait. -/
theorem edge_end {y : En} (h : Fine H Q) : ¬ Wt y [] H Q := by
  rintro ⟨⟨P, hQ, hP⟩, hh⟩
  have hPn : P = [] := by
    cases P with
    | nil => rfl
    | cons p r => have := hP p List.mem_cons_self; cases this
  rw [hPn, List.nil_append] at hQ
  obtain ⟨z, hz, hz2⟩ := fits_no.1 (h.ok.first y [] hQ)
  have := hh z hz hz2
  cases this
theorem edge_start (h : Once Q) (hq : 0 < Q.length) : Wt (Q.getD (Q.length - 1) (0, 0)) (blocksD (Q.getD (Q.length - 1) (0, 0)).1 H Q) H Q ∧ ∀ c ∈ blocksD (Q.getD (Q.length - 1) (0, 0)).1 H Q, (Q.getD (Q.length - 1) (0, 0)).1 ≠ c := by
  have hx : Q.length - 1 < Q.length := by omega
  rw [blocks_at h hx]
  obtain ⟨c1, _⟩ := canon_facts (metD H Q (Q.length - 1) (Q.getD (Q.length - 1) (0, 0)))
  refine ⟨⟨⟨Q.take (Q.length - 1), ?_, fun x hx2 => ?_⟩, fun z hz hz2 => ?_⟩, fun c hc e => ?_⟩
  · have e := drop_at hx
    rw [show Q.length - 1 + 1 = Q.length by omega, List.drop_length] at e
    conv => lhs; rw [← List.take_append_drop (Q.length - 1) Q]
    rw [e]
  · refine (c1 _).2 ?_
    unfold metD
    exact List.mem_append_left _ (List.mem_map.2 ⟨x, hx2, rfl⟩)
  · refine (c1 _).2 ?_
    unfold metD
    exact List.mem_append_right _ (List.mem_map.2 ⟨z, List.mem_filter.2 ⟨hz, by simpa using hz2⟩, rfl⟩)
  · have := (c1 c).1 hc
    unfold metD at this
    rcases List.mem_append.1 this with h2 | h2
    · obtain ⟨q, hq2, e3⟩ := List.mem_map.1 h2
      obtain ⟨j, hj, rfl⟩ := List.mem_take_iff_getElem.1 hq2
      have h4 := once_ne h (show j < Q.length - 1 by omega) hx
      apply h4
      rw [e, ← e3]
      simp [List.getD, show j < Q.length by omega]
    · obtain ⟨q, hq2, e3⟩ := List.mem_map.1 h2
      rw [List.mem_filter] at hq2
      have h5 := hq2.2
      unfold hindD at h5
      simp only [Bool.and_eq_true, bne_iff_ne] at h5
      exact h5.1 (e3.trans e.symm)
end Go.Proofs.Ytdhpahopfmcdkaa

/- LaneEdges: a round, plainly. -/
namespace Go.Proofs.Ytdhpahopfmcdkaa
open Go.RowKit
variable {H Q : List En}

theorem look_once : ∀ {l : List En} {y : En}, Once l → y ∈ l → lookD y.1 l = y.2
  | [], y, _, h => by cases h
  | p :: r, y, ho, h => by
    obtain ⟨h1, h2⟩ := List.pairwise_cons.1 ho
    unfold lookD
    rcases List.mem_cons.1 h with rfl | h3
    · simp
    · have hne := h1 y h3
      rw [if_neg (by simpa using hne)]
      exact look_once h2 h3
theorem fits_none : ∀ i : Fin 6, fitsB (i.val : Int) 0 = true := by decide +kernel
theorem fits_zero {m : Int} (h : md m) : fitsB m 0 = true := by
  obtain ⟨h1, h2⟩ := h
  obtain ⟨k, rfl⟩ : ∃ k : Nat, m = (k : Int) := ⟨m.toNat, by omega⟩
  exact fits_none ⟨k, by omega⟩
theorem edge_round {y : En} {bl : List Int} {i : Nat} (hi : i < bl.length) (hy : md y.2) (hs : Srt H) (h : Fine H Q) (hne : ∀ c ∈ bl, y.1 ≠ c)
    (hI : Wt y (bl.drop i) H Q ∨ (lookD y.1 Q = 0 ∧ lookD y.1 H = y.2)) :
    (lookD y.1 Q = 0 → fitsB y.2 (lookD (bl.getD i 0) H) = true ∧ (Wt y (bl.drop (i + 1)) H Q ∨ (lookD y.1 Q = 0 ∧ lookD y.1 H = y.2))) ∧
    (lookD y.1 Q ≠ 0 → Wt y (bl.drop (i + 1)) (leaveD (bl.getD i 0) H Q).2.1 (leaveD (bl.getD i 0) H Q).2.2 ∨ (lookD y.1 (leaveD (bl.getD i 0) H Q).2.2 = 0 ∧ lookD y.1 (leaveD (bl.getD i 0) H Q).2.1 = y.2)) := by
  have hmem : bl.getD i 0 ∈ bl := by simp [List.getD, hi]
  have hd : bl.drop i = bl.getD i 0 :: bl.drop (i + 1) := by rw [List.drop_eq_getElem_cons hi]; simp [List.getD, hi]
  have hyn : y.2 ≠ 0 := by have := hy.1; omega
  constructor
  · intro h0
    rcases hI with hw | hr
    · obtain ⟨⟨P, hQ, _⟩, _⟩ := hw
      have : y ∈ Q := by rw [hQ]; exact List.mem_append_right _ (List.mem_singleton.2 rfl)
      have := look_once h.ok.once this
      omega
    · refine ⟨?_, .inr hr⟩
      have hyH : (y.1, y.2) ∈ H := by
        cases hh : hasD y.1 H
        · have := look_no hh; omega
        · have := look_mem hh; rw [hr.2] at this; exact this
      cases hc : hasD (bl.getD i 0) H
      · rw [look_no hc]; exact fits_zero hy
      · exact h.fit _ hyH _ (look_mem hc) (hne _ hmem)
  · intro h0
    rcases hI with hw | hr
    · rw [hd] at hw
      exact edge_step hs h hw (hne _ hmem)
    · exact absurd hr.1 h0
theorem edge_last {y : En} {bl : List Int} (h : Fine H Q) (hI : Wt y (bl.drop bl.length) H Q ∨ (lookD y.1 Q = 0 ∧ lookD y.1 H = y.2)) : lookD y.1 Q = 0 ∧ lookD y.1 H = y.2 := by
  rcases hI with hw | hr
  · rw [List.drop_length] at hw
    exact absurd hw (edge_end h)
  · exact hr
theorem met_len (i : Nat) (y : En) : (metD H Q i y).length ≤ Q.length + H.length := by
  unfold metD
  rw [List.length_append, List.length_map, List.length_map, List.length_take]
  have := List.length_filter_le (fun x => hindD x y) H
  omega
theorem blocks_len (who : Int) : (blocksD who H Q).length ≤ Q.length + H.length := by
  unfold blocksD
  split
  · rename_i i _
    refine Nat.le_trans (Lib.compact_length_le _) ?_
    rw [sortI_len]
    exact met_len _ _
  · simp
end Go.Proofs.Ytdhpahopfmcdkaa

/- The edges of one node. -/
namespace Go.Proofs.Ytdhpahopfmcdkaa
open Go.RowKit
variable {B b : Nat} {H Q : List En}

/-- Those that x waits for, each with x ahead. -/
def edge1 (H Q : List En) (x : En) : List En := (blocksD x.1 H Q).map (fun t => (x.1, t))
/-- For each one that waits whom it waits for. -/
def edgeL (H Q : List En) : List En := Q.flatMap (edge1 H Q)
theorem flat_take (f : En → List En) (l : List En) (t : Nat) (h : t < l.length) : (l.take (t + 1)).flatMap f = (l.take t).flatMap f ++ f (l.getD t (0, 0)) := by
  rw [List.take_succ_eq_append_getElem h, List.flatMap_append]
  simp [List.getD, h]
theorem map_take (a : Int) (l : List Int) (j : Nat) (h : j < l.length) : ((l.take (j + 1)).map (fun t => ((a, t) : En))) = (l.take j).map (fun t => ((a, t) : En)) ++ [(a, l.getD j 0)] := by
  rw [List.take_succ_eq_append_getElem h, List.map_append]
  simp [List.getD, h]
theorem Is.elem' {B : Nat} {a : Option Addr} {n c : Nat} {l : List Int} {w : World} (h : Is B (.slice a n c) l w) {i : Nat} (hi : i < l.length) : ∃ g o, a = some ⟨g, o, none⟩ ∧ w.cell? ⟨g, o + i, none⟩ = some (.int .i64 (l.getD i 0)) ∧ g < w.heap.size := by
  obtain ⟨a', c', e, sg⟩ := h.rd
  injection e with e1 e2 e3
  subst e1 e3
  obtain ⟨g, o, rfl, d⟩ := seg_at sg hi
  exact ⟨g, o, rfl, d, World.block_lt_of_cell? _ _ d⟩
/-- All cells stay but edges. -/
structure Cw (W W' : World) : Prop where
  same : ∀ (k : Nat) (cur : Array Value) (t : TypeId) (f : Nat × Nat), W.heap[k]? = some (.cells cur t f) → t ≠ 68 → W'.heap[k]? = some (.cells cur t f)
  size : W.heap.size ≤ W'.heap.size
namespace Cw
variable {W W' W'' : World}
theorem refl (W : World) : Cw W W := ⟨fun _ _ _ _ h _ => h, Nat.le_refl _⟩
theorem trans (h : Cw W W') (k : Cw W' W'') : Cw W W'' := ⟨fun j c t f hj ht => k.same j c t f (h.same j c t f hj ht) ht, Nat.le_trans h.size k.size⟩
theorem of (h : Below W.heap.size W W') : Cw W W' := ⟨fun _ _ _ _ hj _ => (h.block _ (heap_lt hj)).trans hj, h.size⟩
theorem row {B : Nat} {v : Value} {l : List En} (h : Pr 68 B v l W) (g : W.grownBy W' v.ownBlock) : Cw W W' := ⟨fun k cur t f hk ht => (g.block k (heap_lt hk) (fun e => by
    obtain ⟨c, hc⟩ := h.ty k e.symm
    rw [hk] at hc
    cases hc
    exact ht rfl)).trans hk, g.size⟩
theorem es {B : Nat} {v : Value} {l : List En} (k : Cw W W') (h : Es B v l W) : Es B v l W' := h.keep fun g hg => by
  obtain ⟨cur, hc⟩ := h.ty g hg
  rw [k.same g _ _ _ hc (by decide), hc]
theorem is {B : Nat} {v : Value} {l : List Int} (k : Cw W W') (h : Is B v l W) : Is B v l W' := h.keep fun g hg => by
  obtain ⟨cur, hc⟩ := h.ty g hg
  rw [k.same g _ _ _ hc (by decide), hc]
theorem la {B b : Nat} {H Q : List En} {hv qv : Value} (k : Cw W W') (h : La B H Q b hv qv W) : La B H Q b hv qv W' := ⟨k.same _ _ _ _ h.blk (by decide), k.es h.hr, k.es h.qr, h.dq, h.bB, h.srt⟩
theorem ln {B b : Nat} {H Q : List En} (k : Cw W W') (h : Ln B H Q b W) : Ln B H Q b W' := by
  obtain ⟨hv, qv, l⟩ := h
  exact ⟨hv, qv, k.la l⟩
theorem tb {B n : Nat} {most : Int} {T : Nat → Lv} {b rb : Nat} {lb : Nat → Nat} {hv qv : Nat → Value} (k : Cw W W') (h : Tb B n most T b rb lb hv qv W) : Tb B n most T b rb lb hv qv W' :=
  ⟨k.same _ _ _ _ h.blk (by decide), ⟨_, k.same _ _ _ _ h.row.choose_spec.1 (by decide), h.row.choose_spec.2⟩, ⟨fun i hi => k.la (h.ls.la i hi), h.ls.inj, h.ls.apart⟩, h.bB, h.rB⟩
end Cw
theorem pr_below {B0 : Nat} {v : Value} {l : List En} {w0 w w' : World} (h : Below B0 w0 w) (p : Pr 68 B0 v l w) (g : w.grownBy w' v.ownBlock) (hB : B0 ≤ w.heap.size) : Below B0 w0 w' := h.trans (grown_below g hB (fun k hk => (p.lt k hk).1))
set_option maxRecDepth 100000 in
set_option maxHeartbeats 4000000 in
theorem edges_r (w : World) (h : Ln B H Q b w) (hn : H.length + Q.length ≤ 400) :
    Calls Try.prog 79 #[.agg #[.pointer (some ⟨b, 0, none⟩)]] w fun e w' => ∃ v, e = .returned v ∧ Pr 68 w.heap.size v (edgeL H Q) w' ∧ Below w.heap.size w w' ∧ (edgeL H Q).length ≤ 160000 := by
  have H1 := hide (h.next (below_new w (.cells #[.pointer (some ⟨b, 0, none⟩)] 107)))
  clear h
  go_enter Try.func79, Try.ntmps79
  go_wp2_with fail
  refine (queue_ln _ (unhide H1) (by omega)).mono ?_
  rintro e w2 ⟨v2, rfl, E2, b2⟩
  have H3 := hide ((unhide H1).next b2)
  have CB : Hid (w2.heap[w.heap.size]? = some (.cells #[.pointer (some ⟨b, 0, none⟩)] 107 (0, 0))) := (b2.block _ (by simp)).trans (heap_alloc_new w _)
  replace b2 := hide (below_then (below_new w _) b2)
  obtain ⟨a2, n2, c2, rfl, hn2⟩ := slice_form' E2
  replace E2 := hide E2
  have hn9 : n2 ≤ 400 := by omega
  replace hn2 := hide hn2
  go_wp2_with fail
  go_loopw [3, 12] (fun s3 s12 wr => ∃ (t c : Nat) (ag : Option Addr) (cg : Nat), t ≤ n2 ∧ c ≤ t * 400 ∧ s3 = .slice ag c cg ∧ s12 = .int .i64 t ∧ Hid (((Q.take t).flatMap (edge1 H Q)).length = c) ∧ Hid (Pr 68 w.heap.size (.slice ag c cg) ((Q.take t).flatMap (edge1 H Q)) wr) ∧ Hid (Cw w2 wr) ∧ Hid (Below w.heap.size w wr)) (fun _ s12 _ => n2 - (intOf s12).toNat)
  case atStart => exact ⟨0, 0, none, 0, Nat.zero_le _, Nat.zero_le _, rfl, rfl, rfl, Pr.nil _ _ _, Cw.refl _, unhide b2⟩
  case round =>
    obtain ⟨t, c, ag, cg, ht, hct, rfl, rfl, hl, P3, k3, b3⟩ := hrel
    by_cases hlt : t < n2
    · have hlt2 : t < Q.length := by have := unhide hn2; omega
      obtain ⟨g, rfl, r⟩ : ∃ g, a2 = some ⟨g, 0, none⟩ ∧ Rb g c2 Q wr := by
        rcases (unhide k3).es (unhide E2) with ⟨_, e⟩ | ⟨g, cap', e, _, r⟩
        · rw [e] at hlt2; simp at hlt2
        · injection e with e1 _ e2
          subst e1 e2
          exact ⟨g, rfl, r⟩
      obtain ⟨x, hx⟩ : ∃ x, x = Q.getD t (0, 0) := ⟨_, rfl⟩
      have d1 : wr.cell? ⟨g, t * 2, none⟩ = some (.int .i64 x.1) := by rw [hx]; exact r.fst hlt2
      have d2 : wr.cell? ⟨g, t * 2 + 1, none⟩ = some (.int .i64 x.2) := by rw [hx]; exact r.snd hlt2
      obtain ⟨W1, hW1⟩ : ∃ W1, W1 = wr.alloc (.cells #[.int .i64 x.1, .int .i64 x.2] 63) := ⟨_, rfl⟩
      have BW : Below wr.heap.size wr W1 := by rw [hW1]; exact below_new wr _
      have X1 : W1.heap[wr.heap.size]? = some (.cells #[.int .i64 x.1, .int .i64 x.2] 63 (0, 0)) := by rw [hW1]; exact heap_alloc_new wr _
      have H4 := hide (((unhide k3).ln (unhide H3)).next BW)
      have cb1 := (BW.block _ (heap_lt ((unhide k3).same _ _ _ _ (unhide CB) (by decide)))).trans ((unhide k3).same _ _ _ _ (unhide CB) (by decide))
      have cb0 : W1.cell? ⟨w.heap.size, 0, none⟩ = some (.pointer (some ⟨b, 0, none⟩)) := by simp [World.cell?, cb1]
      have cb : (wr.alloc (.cells #[.int .i64 x.1, .int .i64 x.2] 63)).cell? ⟨w.heap.size, 0, none⟩ = some (.pointer (some ⟨b, 0, none⟩)) := by rw [← hW1]; exact cb0
      obtain ⟨bl, hbl⟩ : ∃ bl, bl = blocksD x.1 H Q := ⟨_, rfl⟩
      have hbl9 : bl.length ≤ 400 := by have := blocks_len (H := H) (Q := Q) x.1; rw [hbl]; omega
      have hstep : Hid ((Q.take (t + 1)).flatMap (edge1 H Q) = (Q.take t).flatMap (edge1 H Q) ++ bl.map (fun z => ((x.1, z) : En))) := by
        show _ = _
        rw [flat_take _ _ _ hlt2, ← hx, hbl]; rfl
      have hct9 : c ≤ 160000 := by omega
      generalize (Q.take t).flatMap (edge1 H Q) = L0 at hl P3 hstep
      replace hbl := hide hbl
      replace hx := hide hx
      clear r
      go_wp2_with fail
      refine (blocks_ln _ (by rw [← hW1]; exact unhide H4) (by omega) x.1 (unhide hbl).symm).mono ?_
      rw [← hW1]
      rintro e w5 ⟨v5, rfl, I5, b5⟩
      have x5 := (b5.block _ (heap_lt X1)).trans X1
      have bw5 := below_then BW b5
      have P5 := hide ((unhide P3).next bw5)
      obtain ⟨a5, c5, rfl⟩ := I5.form
      replace I5 := hide I5
      have b6 := hide (below_then (unhide b3) bw5)
      have k6 := hide ((unhide k3).trans (Cw.of bw5))
      have Y1 := hide x5
      replace hW1 := hide hW1
      clear cb cb0 cb1 d1 d2 X1 x5 bw5 BW b5
      go_wp2_with fail
      go_loopw [3, 22] (fun s3 s22 wq => ∃ (j c3 : Nat) (ag : Option Addr) (cg : Nat) (wz : World), j ≤ bl.length ∧ c3 ≤ c + j ∧ s3 = .slice ag c3 cg ∧ s22 = .int .i64 j ∧ wz = wq ∧ Hid ((L0 ++ (bl.take j).map (fun z => ((x.1, z) : En))).length = c3) ∧ Hid (Pr 68 w.heap.size (.slice ag c3 cg) (L0 ++ (bl.take j).map (fun z => ((x.1, z) : En))) wz) ∧ Hid (Cw w5 wz) ∧ Hid (Below w.heap.size w wz)) (fun _ s22 _ => bl.length - (intOf s22).toNat)
      case atStart => exact ⟨0, c, ag, cg, _, Nat.zero_le _, Nat.le_refl _, rfl, rfl, rfl, by simpa [Hid] using unhide hl, by simpa [Hid] using unhide P5, Cw.refl _, unhide b6⟩
      case round =>
        obtain ⟨j, c3, ag3, cg3, wq, hj, hc3, rfl, rfl, hwz, hl3, P6, k7, b7⟩ := hrel
        subst hwz
        by_cases hlj : j < bl.length
        · obtain ⟨gg, o, rfl, e1, _⟩ := ((unhide k7).is (unhide I5)).elem' hlj
          obtain ⟨z, hz⟩ : ∃ z, z = bl.getD j 0 := ⟨_, rfl⟩
          rw [← hz] at e1
          have y3 := (unhide k7).same _ _ _ _ (unhide Y1) (by decide)
          have y2 : wq.cell? ⟨wr.heap.size, 0, none⟩ = some (.int .i64 x.1) := by simp [World.cell?, y3]
          have hm := hide (map_take x.1 bl j hlj)
          rw [← hz] at hm
          have hsz : Hid (w.heap.size ≤ wq.heap.size) := (unhide b7).size
          have hc9 : c3 < 10000000 := by omega
          replace hz := hide hz
          clear y3
          go_wp2_with (at_builtin; refine wpList_pair 68 65 Try.underlying65 inf69 wq rfl (.tmp 26) (.tmp 31) rfl w.heap.size ag3 c3 cg3 _ ((x.1, z) : En) _ rfl rfl rfl (unhide hl3) (unhide P6) (unhide hsz) hc9 ?_; intro g7 cap7 w7 a1 a2; replace a1 := hide a1; replace a2 := hide a2)
          go_roundw
          case rel =>
            refine ⟨j + 1, c3 + 1, some ⟨g7, 0, none⟩, cap7, _, by omega, by omega, rfl, by go_num, rfl, ?_, ?_, ?_, ?_⟩
            · show _ = _
              rw [unhide hm, ← List.append_assoc, List.length_append, unhide hl3]; rfl
            · show Pr _ _ _ _ _
              rw [unhide hm, ← List.append_assoc]
              exact unhide a1
            · exact (unhide k7).trans (Cw.row (unhide P6) (unhide a2))
            · exact pr_below (unhide b7) (unhide P6) (unhide a2) (unhide b7).size
          case measure => simp [intOf]; omega
        · obtain rfl : j = bl.length := by omega
          have e1 : Hid (L0 ++ (bl.take bl.length).map (fun z => ((x.1, z) : En)) = (Q.take (t + 1)).flatMap (edge1 H Q)) := by
            show _ = _
            rw [List.take_length, unhide hstep]
          rw [unhide e1] at hl3 P6
          go_wp2
          go_roundw
          case rel => exact ⟨t + 1, c3, ag3, cg3, by omega, by omega, rfl, by go_num, unhide hl3, unhide P6, (unhide k6).trans (unhide k7), unhide b7⟩
          case measure => simp [intOf]; omega
    · obtain rfl : t = n2 := by omega
      have e1 : Hid ((Q.take t).flatMap (edge1 H Q) = edgeL H Q) := by
        show _ = _
        rw [List.take_of_length_le (by have := unhide hn2; omega)]; rfl
      rw [unhide e1] at hl P3
      have hle : Hid ((edgeL H Q).length ≤ 160000) := by have := unhide hl; show _ ≤ _; omega
      go_wp2
      go_ret
      exact ⟨_, rfl, unhide P3, unhide b3, unhide hle⟩
end Go.Proofs.Ytdhpahopfmcdkaa

/- The library contract of SortFunc at edges, laid at this translation by the kit's command (plain words). -/
namespace Go.Proofs.Ytdhpahopfmcdkaa
open Go.Shelf
def Try.laysE_ren : Go.Shelf.Ren := ⟨fun | 6 => 80 | 15 => 106 | 14 => 108 | 28 => 128 | 29 => 129 | 20 => 130 | 21 => 131 | 22 => 132 | 23 => 133 | 24 => 134 | 25 => 135 | 26 => 136 | 27 => 137 | 46 => 146 | 47 => 142 | 48 => 143 | 49 => 147 | 50 => 148 | 57 => 151 | n => n, fun | 22 => 65 | 24 => 68 | 25 => 114 | 3 => 3 | 39 => 127 | 0 => 0 | 53 => 141 | 55 => 143 | 4 => 4 | 46 => 135 | 45 => 134 | 50 => 97 | 5 => 5 | 9 => 9 | 66 => 151 | 70 => 155 | 76 => 160 | 77 => 161 | n => n, fun | n => n⟩
theorem Try.laysE : Go.Proofs.SlLaysF0.n6 Try.prog Try.laysE_ren := {
  mixed := by kernel_rfl
  f6 := ⟨Try.f80.name, by decide, Try.func80.trans (congrArg some (by kernel_rfl))⟩
  f14 := ⟨Try.f108.name, by decide, Try.func108.trans (congrArg some (by kernel_rfl))⟩
  f15 := Try.func106.trans (congrArg some (by kernel_rfl))
  f20 := ⟨Try.f130.name, by decide, Try.func130.trans (congrArg some (by kernel_rfl))⟩
  f21 := ⟨Try.f131.name, by decide, Try.func131.trans (congrArg some (by kernel_rfl))⟩
  f22 := ⟨Try.f132.name, by decide, Try.func132.trans (congrArg some (by kernel_rfl))⟩
  f23 := ⟨Try.f133.name, by decide, Try.func133.trans (congrArg some (by kernel_rfl))⟩
  f24 := ⟨Try.f134.name, by decide, Try.func134.trans (congrArg some (by kernel_rfl))⟩
  f25 := ⟨Try.f135.name, by decide, Try.func135.trans (congrArg some (by kernel_rfl))⟩
  f26 := ⟨Try.f136.name, by decide, Try.func136.trans (congrArg some (by kernel_rfl))⟩
  f27 := ⟨Try.f137.name, by decide, Try.func137.trans (congrArg some (by kernel_rfl))⟩
  f28 := Try.func128.trans (congrArg some (by kernel_rfl))
  f29 := Try.func129.trans (congrArg some (by kernel_rfl))
  f46 := ⟨Try.f146.name, by decide, Try.func146.trans (congrArg some (by kernel_rfl))⟩
  f47 := Try.func142.trans (congrArg some (by kernel_rfl))
  f48 := Try.func143.trans (congrArg some (by kernel_rfl))
  f49 := ⟨Try.f147.name, by decide, Try.func147.trans (congrArg some (by kernel_rfl))⟩
  f50 := ⟨Try.f148.name, by decide, Try.func148.trans (congrArg some (by kernel_rfl))⟩
  f57 := ⟨Try.f151.name, by decide, Try.func151.trans (congrArg some (by kernel_rfl))⟩
  t0 := Try.underlying0
  a0 := Try.isAgg0
  z0 := Try.sizeOf0
  v0 := Try.zeroValue0
  t3 := Try.underlying3
  a3 := Try.isAgg3
  z3 := Try.sizeOf3
  v3 := Try.zeroValue3
  t4 := Try.underlying4
  a4 := Try.isAgg4
  z4 := Try.sizeOf4
  v4 := Try.zeroValue4
  t5 := Try.underlying5
  a5 := Try.isAgg5
  z5 := Try.sizeOf5
  v5 := Try.zeroValue5
  t9 := Try.underlying9
  a9 := Try.isAgg9
  z9 := Try.sizeOf9
  v9 := Try.zeroValue9
  t22 := Try.underlying65
  a22 := Try.isAgg65
  z22 := Try.sizeOf65
  v22 := Try.zeroValue65
  t25 := Try.underlying114
  a25 := Try.isAgg114
  z25 := Try.sizeOf114
  v25 := Try.zeroValue114
  t39 := Try.underlying127
  a39 := Try.isAgg127
  z39 := Try.sizeOf127
  v39 := Try.zeroValue127
  t45 := Try.underlying134
  a45 := Try.isAgg134
  z45 := Try.sizeOf134
  v45 := Try.zeroValue134
  t46 := Try.underlying135
  a46 := Try.isAgg135
  z46 := Try.sizeOf135
  v46 := Try.zeroValue135
  t50 := Try.underlying97
  a50 := Try.isAgg97
  z50 := Try.sizeOf97
  v50 := Try.zeroValue97
  t53 := Try.underlying141
  a53 := Try.isAgg141
  z53 := Try.sizeOf141
  v53 := Try.zeroValue141
  t55 := Try.underlying143
  a55 := Try.isAgg143
  z55 := Try.sizeOf143
  v55 := Try.zeroValue143
  t66 := Try.underlying151
  a66 := Try.isAgg151
  z66 := Try.sizeOf151
  v66 := Try.zeroValue151
  t70 := Try.underlying155
  a70 := Try.isAgg155
  z70 := Try.sizeOf155
  v70 := Try.zeroValue155
  t76 := Try.underlying160
  a76 := Try.isAgg160
  z76 := Try.sizeOf160
  v76 := Try.zeroValue160
  t77 := Try.underlying161
  a77 := Try.isAgg161
  z77 := Try.sizeOf161
  v77 := Try.zeroValue161 }
end Go.Proofs.Ytdhpahopfmcdkaa

/- SortFunc at edges: by From, then To. -/
namespace Go.Proofs.Ytdhpahopfmcdkaa
open Go.RowKit Go.Sort

/-- By the first number, then by the second one. -/
def cfE (x y : En) : Int := if cmpD x.1 y.1 = 0 then cmpD x.2 y.2 else cmpD x.1 y.1
theorem lt_iff (x y : En) : Go.Proofs.ltOf cfE x y = true ↔ x.1 < y.1 ∨ (x.1 = y.1 ∧ x.2 < y.2) := by
  unfold Go.Proofs.ltOf cfE cmpD
  rw [decide_eq_true_eq]
  split <;> (repeat' split) <;> omega
theorem lt_no (x y : En) : Go.Proofs.ltOf cfE x y = false ↔ ¬ (x.1 < y.1 ∨ (x.1 = y.1 ∧ x.2 < y.2)) := by
  rw [← lt_iff]; simp
theorem swoE : SWO (Go.Proofs.ltOf cfE) := by
  refine ⟨fun x => ?_, fun x y z h1 h2 => ?_, fun x y z h1 h2 => ?_⟩
  · rw [lt_no]; omega
  · rw [lt_iff] at *; omega
  · rw [lt_no] at *; omega
theorem sepE (x y : En) (h1 : Go.Proofs.ltOf cfE x y = false) (h2 : Go.Proofs.ltOf cfE y x = false) : x = y := by
  rw [lt_no] at *
  have a : x.1 = y.1 := by omega
  have b : x.2 = y.2 := by omega
  exact Prod.ext a b
/-- The edges in order. -/
def srtE (l : List En) : List En := l.mergeSort fun x y => !(Go.Proofs.ltOf cfE) y x
theorem srtE_perm (l : List En) : (srtE l).Perm l := List.mergeSort_perm _ _
theorem srtE_len (l : List En) : (srtE l).length = l.length := (srtE_perm l).length_eq
theorem srtE_mem {l : List En} {x : En} : x ∈ srtE l ↔ x ∈ l := (srtE_perm l).mem_iff
def encE (x : En) : List Value := [.int .i64 x.1, .int .i64 x.2]
theorem flat_pairs (l : List En) : (flatK encE 2 l.toArray).toList = pairs l := by
  apply List.ext_getElem?
  intro t
  by_cases ht : t < l.length * 2
  · have h1 : (flatK encE 2 l.toArray)[t]! = (encE l.toArray[t / 2]!)[t % 2]! := get_flatK _ _ _ _ (by simpa using ht)
    have h2 : (flatK encE 2 l.toArray).toList[t]? = some (flatK encE 2 l.toArray)[t]! := by
      rw [Array.getElem?_toList, Array.getElem?_eq_getElem (by rw [size_flatK]; simpa using ht), getElem!_pos _ t (by rw [size_flatK]; simpa using ht)]
    have h3 : t / 2 < l.length := by omega
    have h4 : l.toArray[t / 2]! = l.getD (t / 2) (0, 0) := by simp [List.getD, h3]
    rw [h2, h1, h4]
    rcases (show t = t / 2 * 2 ∨ t = t / 2 * 2 + 1 by omega) with e | e
    · have e2 : t % 2 = 0 := by omega
      rw [e2]
      conv => rhs; rw [e]
      rw [pairs_fst l _ h3]; rfl
    · have e2 : t % 2 = 1 := by omega
      rw [e2]
      conv => rhs; rw [e]
      rw [pairs_snd l _ h3]; rfl
  · rw [List.getElem?_eq_none (by rw [Array.length_toList, size_flatK]; simpa using ht), List.getElem?_eq_none (by rw [pairs_len]; omega)]
set_option maxRecDepth 100000 in
theorem or_any (x y : Int) (N : Nat) (w : World) (h1 : w.cell? ⟨N, 0, none⟩ = some (.int .i64 x)) (h2 : w.cell? ⟨N, 1, none⟩ = some (.int .i64 y)) : Calls Try.prog 82 #[.slice (some ⟨N, 0, none⟩) 2 2] w fun e w' => e = .returned (.int .i64 (if x = 0 then y else x)) ∧ w' = w := by
  obtain ⟨r, hr⟩ : ∃ r, r = (if x = 0 then y else x) := ⟨_, rfl⟩
  rw [← hr]
  replace hr := hide hr
  go_enter Try.func82, Try.ntmps82
  go_wp2_with fail
  go_loopw [8] (fun s wr => ∃ k : Nat, k ≤ 2 ∧ s = .int .i64 k ∧ w = wr ∧ (0 < k → x = 0) ∧ (1 < k → y = 0)) (fun s _ => 2 - (intOf s).toNat)
  case atStart => exact ⟨0, by decide, rfl, rfl, fun h => absurd h (by decide), fun h => absurd h (by decide)⟩
  case round =>
    obtain ⟨k, hk, rfl, hw, hx, hy⟩ := hrel
    subst hw
    rcases (show k = 0 ∨ k = 1 ∨ k = 2 by omega) with rfl | rfl | rfl
    · clear hx hy
      by_cases h0 : x = 0
      · subst h0
        go_wp2
        go_roundw
        case rel => exact ⟨1, by decide, (by first | trivial | rfl), (by first | trivial | rfl), (by first | trivial | exact fun _ => rfl), fun h => absurd h (by decide)⟩
        case measure => simp [intOf]
      · have h3 : (x != 0) = true := by simpa using h0
        have e1 : Hid (r = x) := by show _ = _; rw [unhide hr, if_neg h0]
        go_wp2
        go_ret
        exact ⟨by rw [unhide e1]; rfl, rfl⟩
    · obtain rfl : x = 0 := hx (by decide)
      clear hx hy
      by_cases h0 : y = 0
      · subst h0
        go_wp2
        go_roundw
        case rel => exact ⟨2, by decide, (by first | trivial | rfl), (by first | trivial | rfl), (by first | trivial | exact fun _ => rfl), (by first | trivial | exact fun _ => rfl)⟩
        case measure => simp [intOf]
      · have h3 : (y != 0) = true := by simpa using h0
        have e1 : Hid (r = y) := by show _ = _; rw [unhide hr, if_pos rfl]
        go_wp2
        go_ret
        exact ⟨by rw [unhide e1]; rfl, rfl⟩
    · obtain rfl : x = 0 := hx (by decide)
      obtain rfl : y = 0 := hy (by decide)
      have e1 : Hid (r = 0) := by show _ = _; rw [unhide hr, if_pos rfl]
      clear hx hy
      go_wp2
      go_ret
      exact ⟨by rw [unhide e1]; rfl, rfl⟩
theorem or_r (x y : Int) (N : Nat) (w : World) {r : Int} (hr : r = if x = 0 then y else x) (h1 : w.cell? ⟨N, 0, none⟩ = some (.int .i64 x)) (h2 : w.cell? ⟨N, 1, none⟩ = some (.int .i64 y)) : Calls Try.prog 82 #[.slice (some ⟨N, 0, none⟩) 2 2] w fun e w' => e = .returned (.int .i64 r) ∧ w' = w := by
  subst hr; exact or_any x y N w h1 h2
theorem box69 {w : World} {p : Nat} {x : En} (h : w.heap[p]? = some (.cells #[.int .i64 x.1, .int .i64 x.2] 68 (0, 0))) : w.cell? ⟨p, 0, none⟩ = some (.int .i64 x.1) ∧ w.cell? ⟨p, 1, none⟩ = some (.int .i64 x.2) := by
  simp [World.cell?, h]
theorem cmp_r (a b : Int) (w : World) {r : Int} (hr : cmpD a b = r) : Calls Try.prog 83 #[.int .i64 a, .int .i64 b] w fun e w' => e = .returned (.int .i64 r) ∧ w' = w := by
  subst hr; exact cmp_any a b w
set_option maxRecDepth 100000 in
set_option maxHeartbeats 2000000 in
/-- The closure of Edges: three blocks are laid. -/
theorem closure71 (x y : En) (W : World) : Calls Try.prog 81 #[.agg #[.int .i64 x.1, .int .i64 x.2], .agg #[.int .i64 y.1, .int .i64 y.2]] W fun e w' => e = .returned (.int .i64 (cfE x y)) ∧ ∃ q os', w' = Go.Sort.grow (W.drewN q) os' := by
  obtain ⟨x1, x2⟩ := x
  obtain ⟨y1, y2⟩ := y
  obtain ⟨c1, hc1⟩ : ∃ c, cmpD x1 y1 = c := ⟨_, rfl⟩
  obtain ⟨c2, hc2⟩ : ∃ c, cmpD x2 y2 = c := ⟨_, rfl⟩
  have hr : Hid (cfE (x1, x2) (y1, y2) = if c1 = 0 then c2 else c1) := by show _ = _; rw [← hc1, ← hc2]; rfl
  dsimp only
  obtain ⟨r, hrr⟩ : ∃ r, r = cfE (x1, x2) (y1, y2) := ⟨_, rfl⟩
  rw [← hrr] at hr ⊢
  replace hrr := hide hrr
  obtain ⟨W2, hW2⟩ : ∃ W2, W2 = (W.alloc (.cells #[.int .i64 x1, .int .i64 x2] 68)).alloc (.cells #[.int .i64 y1, .int .i64 y2] 68) := ⟨_, rfl⟩
  have p1 : W2.heap[W.heap.size]? = some (.cells #[.int .i64 x1, .int .i64 x2] 68 (0, 0)) := by
    rw [hW2]
    exact ((below_new _ _).block _ (by simp)).trans (heap_alloc_new W _)
  have p2 : W2.heap[W.heap.size + 1]? = some (.cells #[.int .i64 y1, .int .i64 y2] 68 (0, 0)) := by
    rw [hW2]
    have := heap_alloc_new (W.alloc (.cells #[.int .i64 x1, .int .i64 x2] 68)) (.cells #[.int .i64 y1, .int .i64 y2] 68)
    rw [World.size_alloc] at this
    exact this
  obtain ⟨k0, k1⟩ := box69 (x := (x1, x2)) p1
  obtain ⟨k2, k3⟩ := box69 (x := (y1, y2)) p2
  dsimp only at k0 k1 k2 k3
  obtain ⟨n0, n1⟩ : (∀ o, ((W2.alloc o).drew).cell? ⟨W.heap.size, 0, none⟩ = some (.int .i64 x1)) ∧ (∀ o, ((W2.alloc o).drew).cell? ⟨W.heap.size, 1, none⟩ = some (.int .i64 x2)) := ⟨fun o => ((below_new W2 o).cell (p := ⟨W.heap.size, 0, none⟩) (heap_lt p1)).trans k0, fun o => ((below_new W2 o).cell (p := ⟨W.heap.size, 1, none⟩) (heap_lt p1)).trans k1⟩
  obtain ⟨n2, n3⟩ : (∀ o, ((W2.alloc o).drew).cell? ⟨W.heap.size + 1, 0, none⟩ = some (.int .i64 y1)) ∧ (∀ o, ((W2.alloc o).drew).cell? ⟨W.heap.size + 1, 1, none⟩ = some (.int .i64 y2)) := ⟨fun o => ((below_new W2 o).cell (p := ⟨W.heap.size + 1, 0, none⟩) (heap_lt p2)).trans k2, fun o => ((below_new W2 o).cell (p := ⟨W.heap.size + 1, 1, none⟩) (heap_lt p2)).trans k3⟩
  have fin : Hid (∀ o, ∃ q os', (W2.alloc o).drew = Go.Sort.grow (W.drewN q) os') := by
    intro o
    refine ⟨1, #[.cells #[.int .i64 x1, .int .i64 x2] 68, .cells #[.int .i64 y1, .int .i64 y2] 68, o], ?_⟩
    rw [hW2, alloc_eq_grow, alloc_eq_grow, alloc_eq_grow, grow_grow, grow_grow]
    rfl
  have hc1' := hide hc1
  have hc2' := hide hc2
  clear hc1 hc2
  go_enter Try.func81, Try.ntmps81
  go_wp2_with fail
  rw [← hW2]
  replace hW2 := hide hW2
  go_region_held3 (fun wz => wz.cell? ⟨W.heap.size, 0, none⟩ = some (.int .i64 x1) ∧ wz.cell? ⟨W.heap.size, 1, none⟩ = some (.int .i64 x2) ∧ wz.cell? ⟨W.heap.size + 1, 0, none⟩ = some (.int .i64 y1) ∧ wz.cell? ⟨W.heap.size + 1, 1, none⟩ = some (.int .i64 y2))
    (first | exact ⟨k0, k1, k2, k3⟩ | exact ⟨n0 _, n1 _, n2 _, n3 _⟩)
    (first | (go_at_call 83; with_reducible refine Calls.mono (cmp_r x1 y1 _ (unhide hc1')) ?_; rintro e w5 ⟨rfl, rfl⟩) | (go_at_call 83; with_reducible refine Calls.mono (cmp_r x2 y2 _ (unhide hc2')) ?_; rintro e w5 ⟨rfl, rfl⟩) | (go_at_call 82; refine Calls.mono (or_r c1 c2 _ _ (unhide hr) (show (W2.alloc (.cells #[.int .i64 c1, .int .i64 c2] 3)).cell? ⟨W2.heap.size, 0, none⟩ = _ from by rw [World.cell?_alloc_new]; rfl) (show (W2.alloc (.cells #[.int .i64 c1, .int .i64 c2] 3)).cell? ⟨W2.heap.size, 1, none⟩ = _ from by rw [World.cell?_alloc_new]; rfl)) ?_; rintro e w5 ⟨rfl, rfl⟩))
  all_goals
    go_wp2
    go_ret
    exact ⟨rfl, unhide fin _⟩
theorem isAgg69 (w : World) : (isAgg 68).run Try.prog w = .ok true w := by
  first | exact Try.isAgg68 w | simp [isAgg, run_underlying Try.underlying68]
theorem sortE_any (w : World) {M : Nat} {v : Value} {l : List En} (h : Pr 68 M v l w) (hl : l.length < 1000000000) :
    Calls Try.prog 80 #[v, .func (.func 81) #[] #[]] w fun e w' => e = .returned (.tuple #[]) ∧ Pr 68 M v (srtE l) w' ∧ w.grownBy w' v.ownBlock := by
  have e0 : srtE [] = [] := by unfold srtE; exact List.mergeSort_nil
  have triv : l = [] → Calls Try.prog 80 #[v, .func (.func 81) #[] #[]] w fun e w' => e = .returned (.tuple #[]) ∧ Pr 68 M v (srtE l) w' ∧ w.grownBy w' v.ownBlock := by
    rintro rfl
    obtain ⟨a, cap, rfl⟩ := h.form
    refine Calls.mono (AnyF.slices_SortFunc_none Try.laysE a cap _ w) ?_
    rintro e w' ⟨rfl, rfl⟩
    rw [e0]
    exact ⟨rfl, h, ⟨rfl, rfl, rfl, Nat.le_refl _, fun _ _ _ => rfl⟩⟩
  rcases h.2 with ⟨_, e⟩ | ⟨g, cap, cur, rfl, hB, hg, hn, hm, hs, ht⟩
  · exact triv (List.eq_nil_of_length_eq_zero e)
  · rcases Nat.eq_zero_or_pos l.length with h0 | h0
    · exact triv (List.eq_nil_of_length_eq_zero h0)
    · have hH : HoldsK encE 2 w g 0 l.toArray := by
        intro j hj
        rw [size_flatK] at hj
        have hj2 : j < l.length * 2 := by simpa using hj
        have h1 : (flatK encE 2 l.toArray)[j]! = (pairs l).getD j undef := by
          rw [← flat_pairs l]
          simp [getElem!_pos, List.getD, hj2]
        have h2 : (pairs l)[j]? = some ((pairs l).getD j undef) := by
          have : j < (pairs l).length := by rw [pairs_len]; exact hj2
          simp [List.getD, this]
        refine ⟨?_, by simp [World.frozen?, hg]⟩
        show w.cell? ⟨g, 0 + j, none⟩ = some (flatK encE 2 l.toArray)[j]!
        rw [h1, ← h2, ← ht, List.getElem?_take_of_lt hj2]
        simp [World.cell?, hg]
      have eg : ∀ args w, (callFunc 81 args).run Try.prog w = .ok (.enter 81 args) w := enters_of Try.func81 (by kernel_rfl) rfl
      have C := AnyQ.slices_SortFunc_total Try.laysE 2 isAgg69 Try.sizeOf68 encE (fun _ => rfl) (fun x v hv => by simp [encE] at hv; rcases hv with rfl | rfl <;> rfl) cfE swoE 81 #[] g 0 cap l.toArray w eg (fun m os dk _ x y => closure71 x y _) hH (heap_lt hg) (by simp; omega) sepE
      refine Calls.mono C ?_
      rintro e w' ⟨rfl, q, os, hw⟩
      subst hw
      have hlen := srtE_len l
      obtain ⟨F, hF⟩ : ∃ F, F = flatK encE 2 (srtE l).toArray := ⟨_, rfl⟩
      have hFl : F.toList = pairs (srtE l) := by rw [hF]; exact flat_pairs _
      have hFs : F.size = l.length * 2 := by rw [hF, size_flatK]; simp [hlen]
      have hg2 : (Go.Sort.putRow id (Go.Sort.ahead w q) g 0 F).heap[g]? = some (.cells (Go.Sort.putCells id 0 F cur) 68 (0, 0)) := by
        simp [Go.Sort.putRow, Go.Sort.mapBlock, Go.Sort.ahead, Array.getElem?_modify, hg, Go.Sort.onCells]
      have hsz : (Go.Sort.putRow id (Go.Sort.ahead w q) g 0 F).heap.size = w.heap.size := by simp [Go.Sort.putRow, Go.Sort.mapBlock, Go.Sort.ahead]
      have hw : sortWorldK encE 2 w g 0 q (l.toArray.toList.mergeSort fun x y => !(Go.Proofs.ltOf cfE) y x).toArray os = Go.Sort.grow (Go.Sort.putRow id (Go.Sort.ahead w q) g 0 F) os := by rw [hF]; rfl
      rw [hw]
      refine ⟨rfl, ⟨by rw [pairs_len], .inr ⟨g, cap, Go.Sort.putCells id 0 F cur, by rw [hlen], hB, ?_, by omega, hm, by simpa [Go.Sort.putCells] using hs, ?_⟩⟩, ⟨rfl, rfl, rfl, ?_, fun k hk hne => ?_⟩⟩
      · exact (grow_old _ os g (by rw [hsz]; exact heap_lt hg)).trans hg2
      · apply List.ext_getElem?
        intro j
        rw [List.getElem?_take, hlen, ← hFl]
        by_cases hj : j < l.length * 2
        · have hjc : j < cur.size := by omega
          rw [if_pos hj]
          simp only [Go.Sort.putCells, Array.getElem?_toList, Array.getElem?_mapIdx, Array.getElem?_eq_getElem hjc, Option.map_some]
          rw [if_pos (by omega), Array.getElem?_eq_getElem (by omega)]
          simp [getElem!_pos, hFs, hj]
        · rw [if_neg hj, List.getElem?_eq_none (by rw [Array.length_toList]; omega)]
      · show w.heap.size ≤ (_ ++ os).size
        rw [Array.size_append, hsz]; omega
      · refine (grow_old _ os k (by rw [hsz]; exact hk)).trans ?_
        have hgk : g ≠ k := fun e => hne (by rw [e]; rfl)
        simp [Go.Sort.putRow, Go.Sort.mapBlock, Go.Sort.ahead, Array.getElem?_modify, hgk]
end Go.Proofs.Ytdhpahopfmcdkaa
