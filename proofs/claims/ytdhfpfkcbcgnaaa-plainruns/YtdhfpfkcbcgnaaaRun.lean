/- Run of package plain. -/
import Derived.Test.YtdhfpfkcbcgnaaaRund
namespace Go.Proofs.Ytdhfpfkcbcgnaaa
open Go.RowKit

/-- Block b is a machine's. -/
def HasM (b : Nat) (w : World) : Prop := w.heap[b]? = some (.cells #[.int .i64 0, .int .i64 0, .int .i64 0, .int .i64 0, .int .i64 0, .int .i64 0, .int .i64 0, .int .i64 0, .int .i64 0, .int .i64 0, .int .i64 0, .int .i64 0, .slice none 0 0, .int .i64 0, .slice none 0 0, .slice none 0 0, .slice none 0 0] 50 (0, 0))
theorem hasM_at {w : World} {b : Nat} (h : b = w.heap.size) : HasM b (w.alloc (.cells #[.int .i64 0, .int .i64 0, .int .i64 0, .int .i64 0, .int .i64 0, .int .i64 0, .int .i64 0, .int .i64 0, .int .i64 0, .int .i64 0, .int .i64 0, .int .i64 0, .slice none 0 0, .int .i64 0, .slice none 0 0, .slice none 0 0, .slice none 0 0] 50)) := by
  subst h
  exact heap_alloc_new w _
theorem HasM.lt {b : Nat} {w : World} (h : HasM b w) : b < w.heap.size := heap_lt h
theorem HasM.next {b : Nat} {w w' : World} (h : HasM b w) (hb : Below w.heap.size w w') : HasM b w' := (hb.block b h.lt).trans h
theorem HasM.far {b : Nat} {w : World} (h : HasM b w) (o : Obj) : HasM b (w.alloc o) := h.next (below_new w o)
theorem HasM.there {b : Nat} {w : World} (h : HasM b w) : w.there b 0 17 := fun j hj => by
  unfold HasM at h
  rw [Nat.zero_add]
  constructor
  · simp only [World.cell?, h]
    simp [hj]
  · simp [World.frozen?, h]
/-- The machine in block b is written over. -/
def setM (w : World) (b : Nat) (cs : List Value) : World := w.setCells b 0 cs
theorem setCells_other (b k : Nat) (h : k ≠ b) : ∀ (cs : List Value) (o : Nat) (w : World), (w.setCells b o cs).heap[k]? = w.heap[k]?
  | [], _, _ => rfl
  | v :: r, o, w => by
    rw [World.setCells, setCells_other b k h r (o + 1), set_other _ _ _ _ _ h]
theorem setM_other (w : World) (b k : Nat) (cs : List Value) (h : k ≠ b) : (setM w b cs).heap[k]? = w.heap[k]? := setCells_other b k h cs 0 w
theorem setM_below {w0 w : World} {B b : Nat} (h : Below B w0 w) (hB : B ≤ b) : ∀ (cs : List Value) (o : Nat), Below B w0 (w.setCells b o cs) := by
  intro cs
  induction cs generalizing w with
  | nil => exact fun o => h
  | cons v r ih => exact fun o => ih (h.setCell (p := ⟨b, o, none⟩) hB v) (o + 1)
theorem setM_at {w : World} {b : Nat} (h : HasM b w) {c : Cf} {v0 v1 v2 v3 v4 : Value} : (setM w b [.int .i64 c.r, .int .i64 c.o, .int .i64 c.s, .int .i64 c.d, .int .i64 c.t, .int .i64 c.l, .int .i64 c.g, .int .i64 c.k, .int .i64 c.u, .int .i64 c.e, .int .i64 c.i, .int .i64 c.p, v0, v1, v2, v3, v4]).heap[b]? = some (.cells #[.int .i64 c.r, .int .i64 c.o, .int .i64 c.s, .int .i64 c.d, .int .i64 c.t, .int .i64 c.l, .int .i64 c.g, .int .i64 c.k, .int .i64 c.u, .int .i64 c.e, .int .i64 c.i, .int .i64 c.p, v0, v1, v2, v3, v4] 50 (0, 0)) := by
  have q : ∀ (w : World) (cs : Array Value) (i : Nat) (v : Value), w.heap[b]? = some (.cells cs 50 (0, 0)) → (w.setCell ⟨b, i, none⟩ v).heap[b]? = some (.cells (cs.setIfInBounds i v) 50 (0, 0)) := by
    intro w cs i v h
    show (w.heap.modify b _)[b]? = _
    rw [Array.getElem?_modify, if_pos rfl, h]; rfl
  unfold setM
  simp only [World.setCells]
  unfold HasM at h
  exact (q _ _ _ _ (q _ _ _ _ (q _ _ _ _ (q _ _ _ _ (q _ _ _ _ (q _ _ _ _ (q _ _ _ _ (q _ _ _ _ (q _ _ _ _ (q _ _ _ _ (q _ _ _ _ (q _ _ _ _ (q _ _ _ _ (q _ _ _ _ (q _ _ _ _ (q _ _ _ _ (q _ _ _ _ (h)))))))))))))))))).trans (by kernel_rfl)
def mySt (a : Addr) (vs : List Value) : Sem Unit := storeCells a vs 0
theorem mySt_eq (a : Addr) (v0 v1 v2 v3 v4 v5 v6 v7 v8 v9 v10 v11 v12 v13 v14 v15 v16 : Value) : storeCells a [v0, v1, v2, v3, v4, v5, v6, v7, v8, v9, v10, v11, v12, v13, v14, v15, v16] 0 = mySt a [v0, v1, v2, v3, v4, v5, v6, v7, v8, v9, v10, v11, v12, v13, v14, v15, v16] := rfl
theorem mySt_run {w : World} {b : Nat} (h : HasM b w) (c : Cf) (a1 a2 : Option Addr) (n1 c1 n2 c2 : Nat) : (mySt ⟨b, 0, none⟩ [.int .i64 c.r, .int .i64 c.o, .int .i64 c.s, .int .i64 c.d, .int .i64 c.t, .int .i64 c.l, .int .i64 c.g, .int .i64 c.k, .int .i64 c.u, .int .i64 c.e, .int .i64 c.i, .int .i64 c.p, .slice a1 n1 c1, .int .i64 0, .slice a2 n2 c2, .slice none 0 0, .slice none 0 0]).run Try.prog w = .ok () (setM w b [.int .i64 c.r, .int .i64 c.o, .int .i64 c.s, .int .i64 c.d, .int .i64 c.t, .int .i64 c.l, .int .i64 c.g, .int .i64 c.k, .int .i64 c.u, .int .i64 c.e, .int .i64 c.i, .int .i64 c.p, .slice a1 n1 c1, .int .i64 0, .slice a2 n2 c2, .slice none 0 0, .slice none 0 0]) := by
  have := run_storeCells_cells (P := Try.prog) b 0 [.int .i64 c.r, .int .i64 c.o, .int .i64 c.s, .int .i64 c.d, .int .i64 c.t, .int .i64 c.l, .int .i64 c.g, .int .i64 c.k, .int .i64 c.u, .int .i64 c.e, .int .i64 c.i, .int .i64 c.p, .slice a1 n1 c1, .int .i64 0, .slice a2 n2 c2, .slice none 0 0, .slice none 0 0] 0 w (fun j hj => by simpa using (h.there j (by simpa using hj)).1) (fun j hj => by simpa using (h.there j (by simpa using hj)).2) (by intro v hv; simp only [List.mem_cons, List.not_mem_nil, or_false] at hv; rcases hv with rfl | rfl | rfl | rfl | rfl | rfl | rfl | rfl | rfl | rfl | rfl | rfl | rfl | rfl | rfl | rfl | rfl <;> rfl)
  exact this
theorem conf_setM {c : Cf} {N b : Nat} {w : World} (h : N ≠ b) (hx : Bx c N w) (vs : List Value) : Bx c N (setM w b vs) := (setM_other w b N vs h).trans hx
/-- An Out beside the machine is written over. -/
theorem Ma.out {B : Nat} {c : Cf} {s : St} {b gh gr ch : Nat} {e : Int} {dv wv : Value} {w : World} (h : Ma B c s b gh gr ch e dv wv w) {e' : Int} {rv' dv' wv' : Value} {N : Nat} (ho : Ob e' rv' dv' wv' N w) (v0 v1 v2 v3 : Value) : Ma B c s b gh gr ch e dv wv (four w N v0 v1 v2 v3) := by
  unfold Ob at ho
  have ty : ∀ (k : Nat) (cs : Array Value) (t : TypeId) (fr : Nat × Nat), w.heap[k]? = some (.cells cs t fr) → t ≠ 30 → k ≠ N := by
    rintro k cs t fr hk ht rfl
    rw [ho] at hk
    injection hk with q
    injection q with _ q2
    exact ht q2.symm
  have k1 : ∀ (g : Nat) (l : List Int), Rb g l w → g ≠ N := fun g l ⟨cur, hg, _⟩ => ty g _ _ _ hg (by decide)
  have k2 : ∀ (v : Value) (n : Nat) (xs : List Value), w.ownsRow B 41 2 v n xs → ∀ g, v.ownBlock = some g → g ≠ N := by
    intro v n xs hv g hg
    rcases hv.2 with ⟨rfl, _⟩ | ⟨g', cap, cur, rfl, _, h', _⟩
    · cases hg
    · have : g' = g := by simpa [Value.ownBlock] using hg
      subst this
      exact ty _ _ _ _ h' (by decide)
  exact { h with
    blk := h.blk.keep (four_other _ _ _ _ _ _ _ (ty _ _ _ _ h.blk (by decide)))
    hp := h.hp.keep (four_other _ _ _ _ _ _ _ (k1 _ _ h.hp))
    rg := h.rg.keep (four_other _ _ _ _ _ _ _ (k1 _ _ h.rg))
    rd := rowKeep h.rd fun g hg => four_other _ _ _ _ _ _ _ (k2 _ _ _ h.rd g hg)
    wr := rowKeep h.wr fun g hg => four_other _ _ _ _ _ _ _ (k2 _ _ _ h.wr g hg) }
theorem own_as' {w : World} {B : Nat} {v : Value} {l : List (Int × Int)} (h : w.ownsRow B 41 2 v l.length (pairs l)) : As w.heap.size w v l := own_as h (by
  rcases h.2 with ⟨_, e⟩ | ⟨g, cap, cur, _, _, _, h1, h2, _⟩
  · omega
  · omega)
theorem Ma.held {B : Nat} {c : Cf} {s : St} {b gh gr ch : Nat} {e : Int} {dv wv : Value} {w : World} (h : Ma B c s b gh gr ch e dv wv w) : Held ⟨e, s.r, s.rd, s.wr, s.h, 0⟩ (.slice (some ⟨gr, 0, none⟩) s.r.length s.r.length) dv wv (.slice (some ⟨gh, 0, none⟩) s.h.length ch) w :=
  ⟨h.rg.ls (Nat.le_refl _) (by have := h.rm; unfold maxLen; omega), own_as' h.rd, own_as' h.wr, h.hp.ls h.hc h.cm⟩
theorem held_b {B : Nat} {c : Cf} {s : St} {b gh gr ch : Nat} {e : Int} {dv wv : Value} {w : World} (h : Ma B c s b gh gr ch e dv wv w) {g n nr ca : Nat} {H : List Int} (hr : Rb g H w) (k1 : H.length ≤ ca) (k2 : ca ≤ maxLen) (hnr : s.r.length = nr) (hn : H.length = n) : Held ⟨e, s.r, s.rd, s.wr, H, 0⟩ (.slice (some ⟨gr, 0, none⟩) nr nr) dv wv (.slice (some ⟨g, 0, none⟩) n ca) w := by
  subst hnr; subst hn
  exact ⟨h.held.r, h.held.d, h.held.t, hr.ls k1 k2⟩
theorem held_a {B : Nat} {c : Cf} {s : St} {b gh gr ch : Nat} {e : Int} {dv wv : Value} {w : World} (h : Ma B c s b gh gr ch e dv wv w) {e' : Int} {rv' dv' wv' : Value} {N : Nat} (ho : Ob e' rv' dv' wv' N w) {g n nr ca : Nat} {H : List Int} (hr : Rb g H w) (k1 : H.length ≤ ca) (k2 : ca ≤ maxLen) (hnr : s.r.length = nr) (hn : H.length = n) (v0 v1 v2 v3 : Value) : Held ⟨e, s.r, s.rd, s.wr, H, 0⟩ (.slice (some ⟨gr, 0, none⟩) nr nr) dv wv (.slice (some ⟨g, 0, none⟩) n ca) (four w N v0 v1 v2 v3) := by
  refine held_b (h.out ho v0 v1 v2 v3) (hr.keep (four_other _ _ _ _ _ _ _ ?_)) k1 k2 hnr hn
  rintro rfl
  obtain ⟨cur, hg, _⟩ := hr
  unfold Ob at ho
  rw [ho] at hg
  injection hg with q
  injection q with _ q2
  exact absurd q2 (by decide)
/-- The machine that Run has made. -/
theorem ma_made {w W : World} {c : Cf} {H : List Int} {b gh gr ch q : Nat} (hM : HasM b W) (hg : Rb gh H W) (hr : Rb gr (List.replicate q 0) W) (hq : c.g = q) (q8 : q ≤ 8) (ne : gh ≠ gr) (h1 : w.heap.size ≤ b) (h2 : w.heap.size ≤ gh) (h3 : w.heap.size ≤ gr) (h4 : H.length ≤ ch) (h5 : ch ≤ maxLen) (n : Nat) (hn : H.length = n) :
    Ma w.heap.size c (st0 c H) b gh gr ch 0 (.slice none 0 0) (.slice none 0 0) (setM W b [.int .i64 c.r, .int .i64 c.o, .int .i64 c.s, .int .i64 c.d, .int .i64 c.t, .int .i64 c.l, .int .i64 c.g, .int .i64 c.k, .int .i64 c.u, .int .i64 c.e, .int .i64 c.i, .int .i64 c.p, .slice (some ⟨gh, 0, none⟩) n ch, .int .i64 0, .slice (some ⟨gr, 0, none⟩) q q, .slice none 0 0, .slice none 0 0]) := by
  have e : c.g.toNat = q := by omega
  subst hn
  have n1 : gh ≠ b := by
    rintro rfl
    unfold HasM at hM
    obtain ⟨_, hg, _⟩ := hg
    rw [hM] at hg; cases hg
  have n2 : gr ≠ b := by
    rintro rfl
    unfold HasM at hM
    obtain ⟨_, hr, _⟩ := hr
    rw [hM] at hr; cases hr
  refine ⟨?_, hg.keep (setM_other _ _ _ _ n1), ?_, ⟨rfl, .inl ⟨rfl, rfl⟩⟩, ⟨rfl, .inl ⟨rfl, rfl⟩⟩, ne, (fun k hk => by cases hk), h1, h2, h3, h4, h5, ?_⟩
  · unfold Mb
    rw [setM_at hM]
    simp [st0, e]
  · unfold st0
    rw [e]
    exact hr.keep (setM_other _ _ _ _ n2)
  · simp [st0, e, q8]
theorem rb_made (w : World) (q b : Nat) (h : b = w.heap.size) : Rb b (List.replicate q 0) (w.alloc (.cells (madeCells #[.int .i64 0] q) 3)) := by
  subst h
  refine ⟨_, heap_alloc_new w _, ?_⟩
  rw [toList_madeCells_one]
  simp [vals]
theorem Rb.next {g : Nat} {l : List Int} {w w' : World} (h : Rb g l w) (hb : Below w.heap.size w w') : Rb g l w' := h.keep (hb.block _ h.lt)
theorem Rb.far {g : Nat} {l : List Int} {w : World} (h : Rb g l w) (o : Obj) : Rb g l (w.alloc o) := h.next (below_new w o)
theorem Rb.drew {g : Nat} {l : List Int} {w : World} (h : Rb g l w) : Rb g l w.drew := h
theorem HasM.drew {b : Nat} {w : World} (h : HasM b w) : HasM b w.drew := h
set_option maxRecDepth 100000 in
set_option maxHeartbeats 4000000 in
theorem run_any (c : Cf) (H : List Int) (hv : Value) (ps : List In) (pv : Value) (w : World) (hH : Ls w.heap.size w hv H) (hp : Ps w.heap.size w pv ps) :
    Calls Try.prog 11 #[cv c, hv, pv] w (Ran (runD c H ps) w) := by
  obtain ⟨n, hn⟩ : ∃ n, H.length = n := ⟨_, rfl⟩
  have hH0 := hide hH
  obtain ⟨a, cap, rfl, h1, h2, _, _⟩ := ls_len hH
  rw [hn] at h1 hH0 ⊢
  have hmax : maxLen = 9223372036854775807 := rfl
  have hx := bx_new c w
  have b1 := below_new w (.cells #[.int .i64 c.r, .int .i64 c.o, .int .i64 c.s, .int .i64 c.d, .int .i64 c.t, .int .i64 c.l, .int .i64 c.g, .int .i64 c.k, .int .i64 c.u, .int .i64 c.e, .int .i64 c.i, .int .i64 c.p] 23)
  have b2 := below_then b1 (below_new _ (.cells #[.int .i64 0, .slice none 0 0, .slice none 0 0, .slice none 0 0] 30))
  have hx2 := hx.next (below_new _ (.cells #[.int .i64 0, .slice none 0 0, .slice none 0 0, .slice none 0 0] 30))
  have ho : Ob 0 (.slice none 0 0) (.slice none 0 0) (.slice none 0 0) (w.heap.size + 1) ((w.alloc (.cells #[.int .i64 c.r, .int .i64 c.o, .int .i64 c.s, .int .i64 c.d, .int .i64 c.t, .int .i64 c.l, .int .i64 c.g, .int .i64 c.k, .int .i64 c.u, .int .i64 c.e, .int .i64 c.i, .int .i64 c.p] 23)).alloc (.cells #[.int .i64 0, .slice none 0 0, .slice none 0 0, .slice none 0 0] 30)) := by
    have := heap_alloc_new (w.alloc (.cells #[.int .i64 c.r, .int .i64 c.o, .int .i64 c.s, .int .i64 c.d, .int .i64 c.t, .int .i64 c.l, .int .i64 c.g, .int .i64 c.k, .int .i64 c.u, .int .i64 c.e, .int .i64 c.i, .int .i64 c.p] 23)) (.cells #[.int .i64 0, .slice none 0 0, .slice none 0 0, .slice none 0 0] 30)
    rw [World.size_alloc] at this
    exact this
  have kC := progCheck_any c ps pv _ (hp.next b2)
  unfold checkD at kC
  replace hp := hide hp
  replace hn := hide hn
  replace hx := hide hx2
  replace b2 := hide b2
  replace ho := hide ho
  clear hH b1 hx2
  unfold cv at kC ⊢
  cases hc : chB c ps
  · rw [hc, if_neg Bool.false_ne_true] at kC
    have r : Hid (runD c H ps = ⟨0, [], [], [], [], 2⟩) := hide (by unfold runD; rw [hc, if_neg Bool.false_ne_true])
    go_enter Try.func11, Try.ntmps11
    go_wp2_with fail
    refine kC.mono ?_
    rintro e w1 ⟨rfl, hb1⟩
    have ho1 := (unhide ho).next hb1
    obtain ⟨o0, o1, o2, o3⟩ := ho1.cells
    have f0 := ho1.free 0
    have f1 := ho1.free 1
    have f2 := ho1.free 2
    have f3 := ho1.free 3
    have g1 := hide (below_then (unhide b2) hb1)
    have gF := hide (four_below (unhide g1) (N := w.heap.size + 1) (by omega) (.int .i64 0) (.slice none 0 0) (.slice none 0 0) (.slice none 0 0))
    unfold four at gF
    clear hb1 kC ho1
    go_wp2
    (try simp only [Exit.inBlock, Exit.then]); refine bodyPost_ret (v := .tuple #[ov 0 (.slice none 0 0) (.slice none 0 0) (.slice none 0 0), .slice none 0 0, .int .i64 2]) ?_ rfl ⟨_, _, _, _, by rw [unhide r], by rw [unhide r]; exact held_none _ _, unhide gF⟩
    rw [results_cell_two rfl]
    unfold ov
    go_simp
  · rw [hc, if_pos rfl] at kC
    obtain ⟨hok, hn60, hall⟩ := ch_iff hc
    have hw1 := nw_in (okB_hp hok)
    have hwd : wordsD c = nw c := by unfold wordsD; rw [hok, if_pos rfl]
    have hg8 := okB_regs hok
    replace hwd := hide hwd
    replace hall := hide hall
    by_cases hl : (n : Int) = wordsD c
    · have e1 : ((n : Int) == wordsD c) = true := by simpa using hl
      have n0 : 0 < n := by have := unhide hwd; omega
      have n4 : n ≤ 4096 := by have := unhide hwd; omega
      obtain ⟨R, hR⟩ : ∃ R, playD c ps ps.length 0 (st0 c H) = R := ⟨_, rfl⟩
      have r : Hid (runD c H ps = endD H R) := hide (by unfold runD; rw [hc, if_pos rfl, unhide hn, if_pos hl, hR])
      replace hR := hide hR
      obtain ⟨q, hq⟩ : ∃ q : Nat, c.g = q := ⟨c.g.toNat, by omega⟩
      have q8 : q ≤ 8 := by omega
      replace hq := hide hq
      replace hg8 := hide hg8
      replace hok := hide hok
      clear hw1
      go_enter Try.func11, Try.ntmps11
      go_wp2_with fail
      refine kC.mono ?_
      rintro e w1 ⟨rfl, hb1⟩
      obtain ⟨z0, z1, z2, z3, z4, z5, z6, z7, z8, z9, z10, z11⟩ := ((unhide hx).next hb1).cells
      have hx1 := hide ((unhide hx).next hb1)
      have ho1 := hide ((unhide ho).next hb1)
      have g1 := hide (below_then (unhide b2) hb1)
      have kW := words_any c w1
      unfold cv at kW
      clear hb1 kC
      go_wp2_with fail
      refine kW.mono ?_
      rintro e w2 ⟨rfl, hb2⟩
      have ho2 := (unhide ho1).next hb2
      have hx2 := (unhide hx1).next hb2
      have g2 := below_then (unhide g1) hb2
      have lx := hx2.lt
      have lo := ho2.lt
      clear hb2 kW z0 z1 z2 z3 z4 z5 z6 z7 z8 z9 z10 z11 hx1 ho1 g1
      go_upto_region 6 with fail
      go_cut [10] from 9 (fun t wc => ∃ b gh gr ch, t = .pointer (some ⟨b, 0, none⟩) ∧ Below w.heap.size w wc ∧ Ob 0 (.slice none 0 0) (.slice none 0 0) (.slice none 0 0) (w.heap.size + 1) wc ∧ Ma w.heap.size c (st0 c H) b gh gr ch 0 (.slice none 0 0) (.slice none 0 0) wc)
      case first =>
        obtain ⟨z0, z1, z2, z3, z4, z5, z6, z7, z8, z9, z10, z11⟩ := hx2.cells
        have hmk : ∀ w, (Instr.makeSlice 24 (.int .i64 c.g) (.int .i64 c.g)).run Try.prog w = .ok (.slice (some ⟨w.heap.size, 0, none⟩) q q) (w.alloc (.cells (madeCells #[.int .i64 0] q) 3)) := by
          rw [unhide hq]
          exact run_make_row' (P := Try.prog) 24 3 (.int .i64 0) 8 Try.underlying24 elInt.inf rfl .i64 .i64 q (by omega) (by omega)
        have heq := mySt_eq
        have hrun : ∀ (w : World) (b : Nat) (a1 a2 : Option Addr) (n1 c1 n2 c2 : Nat), HasM b w → (mySt ⟨b, 0, none⟩ [.int .i64 c.r, .int .i64 c.o, .int .i64 c.s, .int .i64 c.d, .int .i64 c.t, .int .i64 c.l, .int .i64 c.g, .int .i64 c.k, .int .i64 c.u, .int .i64 c.e, .int .i64 c.i, .int .i64 c.p, .slice a1 n1 c1, .int .i64 0, .slice a2 n2 c2, .slice none 0 0, .slice none 0 0]).run Try.prog w = .ok () (setM w b [.int .i64 c.r, .int .i64 c.o, .int .i64 c.s, .int .i64 c.d, .int .i64 c.t, .int .i64 c.l, .int .i64 c.g, .int .i64 c.k, .int .i64 c.u, .int .i64 c.e, .int .i64 c.i, .int .i64 c.p, .slice a1 n1 c1, .int .i64 0, .slice a2 n2 c2, .slice none 0 0, .slice none 0 0]) := fun w b a1 a2 n1 c1 n2 c2 h => mySt_run h c a1 a2 n1 c1 n2 c2
        have hA : ∀ (X : World) (b : Nat), b = X.heap.size → HasM b (X.alloc (.cells #[.int .i64 0, .int .i64 0, .int .i64 0, .int .i64 0, .int .i64 0, .int .i64 0, .int .i64 0, .int .i64 0, .int .i64 0, .int .i64 0, .int .i64 0, .int .i64 0, .slice none 0 0, .int .i64 0, .slice none 0 0, .slice none 0 0, .slice none 0 0] 50)) := fun X b h => hasM_at h
        have hF : ∀ (X : World) (o : Obj) (b : Nat), b = X.heap.size → HasM b ((X.alloc (.cells #[.int .i64 0, .int .i64 0, .int .i64 0, .int .i64 0, .int .i64 0, .int .i64 0, .int .i64 0, .int .i64 0, .int .i64 0, .int .i64 0, .int .i64 0, .int .i64 0, .slice none 0 0, .int .i64 0, .slice none 0 0, .slice none 0 0, .slice none 0 0] 50)).alloc o) := fun X o b h => (hasM_at h).far o
        go_region_held3 (fun wz => wz.cell? ⟨w.heap.size, 0, none⟩ = some (.int .i64 c.r) ∧ wz.cell? ⟨w.heap.size, 1, none⟩ = some (.int .i64 c.o) ∧ wz.cell? ⟨w.heap.size, 2, none⟩ = some (.int .i64 c.s) ∧ wz.cell? ⟨w.heap.size, 3, none⟩ = some (.int .i64 c.d) ∧ wz.cell? ⟨w.heap.size, 4, none⟩ = some (.int .i64 c.t) ∧ wz.cell? ⟨w.heap.size, 5, none⟩ = some (.int .i64 c.l) ∧ wz.cell? ⟨w.heap.size, 6, none⟩ = some (.int .i64 c.g) ∧ wz.cell? ⟨w.heap.size, 7, none⟩ = some (.int .i64 c.k) ∧ wz.cell? ⟨w.heap.size, 8, none⟩ = some (.int .i64 c.u) ∧ wz.cell? ⟨w.heap.size, 9, none⟩ = some (.int .i64 c.e) ∧ wz.cell? ⟨w.heap.size, 10, none⟩ = some (.int .i64 c.i) ∧ wz.cell? ⟨w.heap.size, 11, none⟩ = some (.int .i64 c.p)) (first | with_reducible exact ⟨z0, z1, z2, z3, z4, z5, z6, z7, z8, z9, z10, z11⟩ | with_reducible exact ⟨y0, y1, y2, y3, y4, y5, y6, y7, y8, y9, y10, y11⟩ | (with_reducible exact (conf_setM (by omega) (hx2.next q3) _).cells) | (with_reducible exact (conf_setM (by omega) ((hx2.next q3).next (below_new _ _)) _).cells) | (with_reducible exact (conf_setM (by omega) (((hx2.next q3).next (below_new _ _)).next (below_new _ _)) _).cells) | (with_reducible exact ((hx2.next q3).next (below_new _ _)).cells) | (with_reducible exact (((hx2.next q3).next (below_new _ _)).next (below_new _ _)).cells) | (with_reducible exact (Bx.drew (hx2.next (below_new _ _))).cells) | (with_reducible exact (Bx.drew ((hx2.next (below_new _ _)).next (below_new _ _))).cells) | go_keep)
          (first
            | (go_at_call 19; refine Calls.mono (clone_any _ H _ (Ls.next (unhide hH0) (by go_grown)) (by have := unhide hn; omega) (by have := unhide hn; omega)) ?_; rintro e w3 ⟨a3, c3, rfl, hb3, hown3⟩; have q3 : Below w2.heap.size w2 w3 := Below.trans (by go_grown) (hb3.mono (by go_size)); have s3 := q3.size; obtain ⟨y0, y1, y2, y3, y4, y5, y6, y7, y8, y9, y10, y11⟩ := (hx2.next q3).cells; first | (have hm3 : HasM w2.heap.size w3 := HasM.next (by first | with_reducible exact (hasM_at rfl).drew | with_reducible exact ((hasM_at rfl).far _).drew) hb3; have hm4 := fun o => hm3.far o) | (have hm3 : HasM (w2.heap.size + 1) w3 := HasM.next (by with_reducible exact (hasM_at (by rw [World.size_alloc])).drew) hb3) | skip))
        all_goals
          obtain ⟨g, rfl, hr3, hgB, k1, k2⟩ := own_rb hown3 (by have := unhide hn; omega)
          have lg := hr3.lt
          clear y0 y1 y2 y3 y4 y5 y6 y7 y8 y9 y10 y11 hmk heq hrun hA hF hown3
          simp only [World.size_drew, World.size_alloc] at hgB
        · go_wp2
          go_meet
          case rel => exact ⟨w3.heap.size + 1, g, w3.heap.size, c3, rfl, setM_below (below_then (below_then (below_then g2 q3) (below_new _ _)) (below_new _ _)) (by omega) _ 0, (setM_other _ _ _ _ (by omega)).trans (((ho2.next q3).next (below_new _ _)).next (below_new _ _)), ma_made (hasM_at (by rw [World.size_alloc])) ((hr3.far _).far _) ((rb_made w3 q w3.heap.size rfl).far _) (unhide hq) q8 (by omega) (by omega) (by omega) (by omega) k1 k2 _ rfl⟩
        · go_wp2
          go_meet
          case rel => exact ⟨w3.heap.size, g, w3.heap.size + 1, c3, rfl, setM_below (below_then (below_then (below_then g2 q3) (below_new _ _)) (below_new _ _)) (by omega) _ 0, (setM_other _ _ _ _ (by omega)).trans (((ho2.next q3).next (below_new _ _)).next (below_new _ _)), ma_made ((hasM_at rfl).far _) ((hr3.far _).far _) (rb_made _ q _ (by rw [World.size_alloc])) (unhide hq) q8 (by omega) (by omega) (by omega) (by omega) k1 k2 _ rfl⟩
        · go_wp2
          go_meet
          case rel => exact ⟨w3.heap.size, g, w2.heap.size, c3, rfl, setM_below (below_then (below_then g2 q3) (below_new _ _)) (by omega) _ 0, (setM_other _ _ _ _ (by omega)).trans ((ho2.next q3).next (below_new _ _)), ma_made (hasM_at rfl) (hr3.far _) (((rb_made w2 q w2.heap.size rfl).drew.next hb3).far _) (unhide hq) q8 (by omega) (by omega) (by omega) (by omega) k1 k2 _ rfl⟩
        · go_wp2
          go_meet
          case rel => exact ⟨w2.heap.size + 1, g, w2.heap.size, c3, rfl, setM_below (below_then g2 q3) (by omega) _ 0, (setM_other _ _ _ _ (by omega)).trans (ho2.next q3), ma_made hm3 hr3 ((((rb_made w2 q w2.heap.size rfl).far _).drew).next hb3) (unhide hq) q8 (by omega) (by omega) (by omega) (by omega) k1 k2 _ rfl⟩
        · go_wp2
          go_meet
          case rel => exact ⟨w2.heap.size, g, w3.heap.size, c3, rfl, setM_below (below_then (below_then g2 q3) (below_new _ _)) (by omega) _ 0, (setM_other _ _ _ _ (by omega)).trans ((ho2.next q3).next (below_new _ _)), ma_made (hm4 _) (hr3.far _) (rb_made w3 q _ rfl) (unhide hq) q8 (by omega) (by omega) (by omega) (by omega) k1 k2 _ rfl⟩
        · go_wp2
          go_meet
          case rel => exact ⟨w2.heap.size, g, w2.heap.size + 1, c3, rfl, setM_below (below_then g2 q3) (by omega) _ 0, (setM_other _ _ _ _ (by omega)).trans (ho2.next q3), ma_made hm3 hr3 (((rb_made _ q (w2.heap.size + 1) (by rw [World.size_alloc])).drew).next hb3) (unhide hq) q8 (by omega) (by omega) (by omega) (by omega) k1 k2 _ rfl⟩
      obtain ⟨b, gh, gr, ch, rfl, gB, ho3, hM⟩ := hcut
      clear ho2 hx2 g2 lx lo
      have hW : Wf c (st0 c H) := ⟨unhide hok, by show ((H.length : Nat) : Int) = _; rw [unhide hn]; exact hl, by show (((List.replicate c.g.toNat (0 : Int)).length : Nat) : Int) = _; rw [List.length_replicate]; have := unhide hg8; omega⟩
      have kP := play_any hM hW ps pv ((unhide hp).later gB) (unhide hall) hn60 rfl rfl
      rw [unhide hR] at kP
      obtain ⟨s, E⟩ := R
      replace ho3 := hide ho3
      replace gB := hide gB
      clear hM hW
      go_wp2_with fail
      refine kP.mono ?_
      rintro e w4 ⟨dv, wv, rfl, hM4, b4, t4⟩
      have ho4 : Ob 0 (.slice none 0 0) (.slice none 0 0) (.slice none 0 0) (w.heap.size + 1) w4 := (t4 _ _ 30 _ (.inr rfl) (unhide ho3)).trans (unhide ho3)
      have g4 := (unhide gB).trans b4
      have x13 := hM4.blk.c13
      have f13 := hM4.blk.free 13
      have bo : b ≠ w.heap.size + 1 := by
        rintro rfl
        have q1 := hM4.blk
        unfold Mb at q1
        unfold Ob at ho4
        rw [q1] at ho4
        injection ho4 with q2
        injection q2 with _ q3
        exact absurd q3 (by decide)
      have hM5 := hM4.setEnd E
      have ho5 : Ob 0 (.slice none 0 0) (.slice none 0 0) (.slice none 0 0) (w.heap.size + 1) (w4.setCell ⟨b, 13, none⟩ (.int .i64 E)) := (set_other _ _ _ _ _ (Ne.symm bo)).trans ho4
      have g5 := g4.setCell (p := ⟨b, 13, none⟩) hM4.bB (.int .i64 E)
      have s4 := g4.size
      obtain ⟨da, dl, dc, rfl⟩ : ∃ a l c, dv = .slice a l c := by
        rcases hM5.rd.2 with ⟨e, _⟩ | ⟨g, cap, cur, e, _⟩
        · exact ⟨_, _, _, e⟩
        · exact ⟨_, _, _, e⟩
      obtain ⟨wa, wl, wc, rfl⟩ : ∃ a l c, wv = .slice a l c := by
        rcases hM5.wr.2 with ⟨e, _⟩ | ⟨g, cap, cur, e, _⟩
        · exact ⟨_, _, _, e⟩
        · exact ⟨_, _, _, e⟩
      obtain ⟨o0, o1, o2, o3⟩ := ho5.cells
      have f0 := ho5.free 0
      have f1 := ho5.free 1
      have f2 := ho5.free 2
      have f3 := ho5.free 3
      have y12 := hM5.blk.c12
      have y13 := hM5.blk.c13
      have y14 := hM5.blk.c14
      have y15 := hM5.blk.c15
      have y16 := hM5.blk.c16
      replace hM5 := hide hM5
      have ho5' := hide ho5
      replace g5 := hide g5
      clear hM4 b4 t4 ho4 g4 ho3 kP
      have lE := (unhide ho5').lt
      by_cases eE : E = 1
      · subst eE
        have F := hide ((unhide hM5).out (unhide ho5') (.int .i64 1) (.slice (some ⟨gr, 0, none⟩) s.r.length s.r.length) (.slice da dl dc) (.slice wa wl wc))
        have gF := hide (four_below (unhide g5) (N := w.heap.size + 1) (by omega) (.int .i64 1) (.slice (some ⟨gr, 0, none⟩) s.r.length s.r.length) (.slice da dl dc) (.slice wa wl wc))
        have r2 : Hid (runD c H ps = ⟨1, s.r, s.rd, s.wr, s.h, 0⟩) := hide (by rw [unhide r]; rfl)
        obtain ⟨nh, hnh⟩ : ∃ nh, s.h.length = nh := ⟨_, rfl⟩
        obtain ⟨nr, hnr⟩ : ∃ nr, s.r.length = nr := ⟨_, rfl⟩
        rw [hnh] at y12
        rw [hnr] at y14 gF F
        have HD : Hid (Held ⟨1, s.r, s.rd, s.wr, s.h, 0⟩ (.slice (some ⟨gr, 0, none⟩) nr nr) (.slice da dl dc) (.slice wa wl wc) (.slice (some ⟨gh, 0, none⟩) nh ch) (four (w4.setCell ⟨b, 13, none⟩ (.int .i64 1)) (w.heap.size + 1) (.int .i64 1) (.slice (some ⟨gr, 0, none⟩) nr nr) (.slice da dl dc) (.slice wa wl wc)).drew) := by
          have q := (unhide F).drew.held
          rw [hnr, hnh] at q
          exact hide q
        replace gF := hide (unhide gF).drew
        replace hnh := hide hnh
        replace hnr := hide hnr
        unfold four at gF HD
        clear ho5 F
        go_wp2_with fail
        go_region
        all_goals
          go_wp2
          (try simp only [Exit.inBlock, Exit.then]); refine bodyPost_ret (v := .tuple #[ov 1 (.slice (some ⟨gr, 0, none⟩) nr nr) (.slice da dl dc) (.slice wa wl wc), .slice (some ⟨gh, 0, none⟩) nh ch, .int .i64 0]) ?_ rfl ⟨_, _, _, _, by rw [unhide r2], by rw [unhide r2]; exact unhide HD, unhide gF⟩
          rw [results_cell_two rfl]
          unfold ov
          go_simp
      · have r2 : Hid (runD c H ps = ⟨E, s.r, s.rd, s.wr, H, 0⟩) := hide (by rw [unhide r]; unfold endD; rw [if_neg eE])
        have eb : (E == 1) = false := by simpa using eE
        obtain ⟨nr, hnr⟩ : ∃ nr, s.r.length = nr := ⟨_, rfl⟩
        have F := hide ((unhide hM5).out (unhide ho5') (.int .i64 E) (.slice (some ⟨gr, 0, none⟩) nr nr) (.slice da dl dc) (.slice wa wl wc)).drew
        rw [hnr] at y14
        have g5d := (unhide g5).drew
        have g5f := (four_below (unhide g5) (N := w.heap.size + 1) (by omega) (.int .i64 E) (.slice (some ⟨gr, 0, none⟩) nr nr) (.slice da dl dc) (.slice wa wl wc)).drew
        unfold four at F g5f
        replace hnr := hide hnr
        clear ho5 eE
        go_wp2_with fail
        go_region_held3 (fun wz => wz.cell? ⟨b, 13, none⟩ = some (.int .i64 E) ∧ wz.cell? ⟨b, 14, none⟩ = some (.slice (some ⟨gr, 0, none⟩) nr nr) ∧ wz.cell? ⟨b, 15, none⟩ = some (.slice da dl dc) ∧ wz.cell? ⟨b, 16, none⟩ = some (.slice wa wl wc)) (first | with_reducible exact ⟨y13, y14, y15, y16⟩ | with_reducible exact ⟨v13, v14, v15, v16⟩ | with_reducible exact ⟨u13, u14, u15, u16⟩ | go_keep)
          (first
            | (go_at_call 19; refine Calls.mono (clone_any _ H _ (Ls.next (unhide hH0) (by first | with_reducible exact g5d | with_reducible exact g5f)) (by have := unhide hn; omega) (by have := unhide hn; omega)) ?_; rintro e w5 ⟨a5, c5, rfl, hb5, hown5⟩; obtain ⟨g, rfl, hr5, _, k1, k2⟩ := own_rb hown5 (by have := unhide hn; omega); rw [unhide hn]; first | (have hM6 := (unhide hM5).drew.next hb5; have ho6 := Ob.next (w := (w4.setCell ⟨b, 13, none⟩ (.int .i64 E)).drew) (unhide ho5') hb5; have D := hide (held_a hM6 ho6 hr5 k1 k2 (unhide hnr) (unhide hn) (.int .i64 E) (.slice (some ⟨gr, 0, none⟩) nr nr) (.slice da dl dc) (.slice wa wl wc)); have G := hide (four_below (below_then g5d hb5) (N := w.heap.size + 1) (by omega) (.int .i64 E) (.slice (some ⟨gr, 0, none⟩) nr nr) (.slice da dl dc) (.slice wa wl wc)); unfold four at D G; obtain ⟨p0, p1, p2, p3⟩ := ho6.cells; have q0 := ho6.free 0; have q1 := ho6.free 1; have q2 := ho6.free 2; have q3 := ho6.free 3; have v13 := hM6.blk.c13; have v14 := hM6.blk.c14; have v15 := hM6.blk.c15; have v16 := hM6.blk.c16; rw [unhide hnr] at v14; have hM7 := hM6.out ho6 (.int .i64 E) (.slice (some ⟨gr, 0, none⟩) nr nr) (.slice da dl dc) (.slice wa wl wc); unfold four at hM7; have u13 := hM7.blk.c13; have u14 := hM7.blk.c14; have u15 := hM7.blk.c15; have u16 := hM7.blk.c16; rw [unhide hnr] at u14; clear hM6 hM7 ho6 hr5 hown5 hb5) | (have hM6 := (unhide F).next hb5; have D := hide (held_b hM6 hr5 k1 k2 (unhide hnr) (unhide hn)); have G := hide (below_then g5f hb5); have v13 := hM6.blk.c13; have v14 := hM6.blk.c14; have v15 := hM6.blk.c15; have v16 := hM6.blk.c16; rw [unhide hnr] at v14; clear hM6 hr5 hown5 hb5)))
        all_goals
          go_wp2
          (try simp only [Exit.inBlock, Exit.then]); refine bodyPost_ret (v := .tuple #[ov E (.slice (some ⟨gr, 0, none⟩) nr nr) (.slice da dl dc) (.slice wa wl wc), .slice (some ⟨g, 0, none⟩) n c5, .int .i64 0]) ?_ rfl ⟨_, _, _, _, by rw [unhide r2], by rw [unhide r2]; exact unhide D, unhide G⟩
          rw [results_cell_two rfl]
          unfold ov
          go_simp
    · have e1 : ((n : Int) == wordsD c) = false := by simpa using hl
      have r : Hid (runD c H ps = ⟨0, [], [], [], [], 1⟩) := hide (by unfold runD; rw [hc, if_pos rfl, unhide hn, if_neg hl])
      go_enter Try.func11, Try.ntmps11
      go_wp2_with fail
      refine kC.mono ?_
      rintro e w1 ⟨rfl, hb1⟩
      obtain ⟨z0, z1, z2, z3, z4, z5, z6, z7, z8, z9, z10, z11⟩ := ((unhide hx).next hb1).cells
      have ho1 := hide ((unhide ho).next hb1)
      have g1 := hide (below_then (unhide b2) hb1)
      have kW := words_any c w1
      unfold cv at kW
      clear hb1 kC
      go_wp2_with fail
      refine kW.mono ?_
      rintro e w2 ⟨rfl, hb2⟩
      have ho2 := (unhide ho1).next hb2
      obtain ⟨o0, o1, o2, o3⟩ := ho2.cells
      have f0 := ho2.free 0
      have f1 := ho2.free 1
      have f2 := ho2.free 2
      have f3 := ho2.free 3
      have g2 := hide (below_then (unhide g1) hb2)
      have gF := hide (four_below (unhide g2) (N := w.heap.size + 1) (by omega) (.int .i64 0) (.slice none 0 0) (.slice none 0 0) (.slice none 0 0))
      unfold four at gF
      clear hb2 kW ho2 z0 z1 z2 z3 z4 z5 z6 z7 z8 z9 z10 z11
      go_wp2
      (try simp only [Exit.inBlock, Exit.then]); refine bodyPost_ret (v := .tuple #[ov 0 (.slice none 0 0) (.slice none 0 0) (.slice none 0 0), .slice none 0 0, .int .i64 1]) ?_ rfl ⟨_, _, _, _, by rw [unhide r], by rw [unhide r]; exact held_none _ _, unhide gF⟩
      rw [results_cell_two rfl]
      unfold ov
      go_simp
end Go.Proofs.Ytdhfpfkcbcgnaaa
