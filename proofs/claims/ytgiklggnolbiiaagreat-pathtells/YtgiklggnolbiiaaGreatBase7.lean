/- Texts of this claim, put together in their order. -/
import Derived.BigQuiet
import Derived.Deep.RegionHeldLaw
import Derived.Deep.Cut
import Derived.Deep.CutRange
import Derived.Test.YtgiklggnolbiiaaGreatBase1
import Derived.Test.YtgiklggnolbiiaaGreatBase2
import Derived.Test.YtgiklggnolbiiaaGreatBase3
import Derived.Test.YtgiklggnolbiiaaGreatBase4
import Derived.Test.YtgiklggnolbiiaaGreatBase5
import Derived.Test.YtgiklggnolbiiaaGreatBase6
/- The edges of one node. -/
namespace Go.Proofs.YtgiklggnolbiiaaGreat
open Go.RowKit
variable {B b : Nat} {H Q : List En}

/-- Those that x waits for, each with x ahead. -/
def edge1 (H Q : List En) (x : En) : List En := (blocksD x.1 H Q).map (fun t => (x.1, t))
/-- For each one that waits whom it waits for. -/
def edgeL (H Q : List En) : List En := Q.flatMap (edge1 H Q)
theorem flat_take (f : En → List En) (l : List En) (t : Nat) (h : t < l.length) : (l.take (t + 1)).flatMap f = (l.take t).flatMap f ++ f (l.getD t (0, 0)) := by
  rw [List.take_succ_eq_append_getElem h, List.flatMap_append]
  simp [List.getD, h]
theorem map_take (a : Int) (l : List Int) (j : Nat) (h : j < l.length) : ((l.take (j + 1)).map (fun t => ((a, t) : En))) = (l.take j).map (fun t => ((a, t) : En)) ++ [(a, l.getD j 0)] := by
  rw [List.take_succ_eq_append_getElem h, List.map_append]
  simp [List.getD, h]
theorem Is.elem' {B : Nat} {a : Option Addr} {n c : Nat} {l : List Int} {w : World} (h : Is B (.slice a n c) l w) {i : Nat} (hi : i < l.length) : ∃ g o, a = some ⟨g, o, none⟩ ∧ w.cell? ⟨g, o + i, none⟩ = some (.int .i64 (l.getD i 0)) ∧ g < w.heap.size := by
  obtain ⟨a', c', e, sg⟩ := h.rd
  injection e with e1 e2 e3
  subst e1 e3
  obtain ⟨g, o, rfl, d⟩ := seg_at sg hi
  exact ⟨g, o, rfl, d, World.block_lt_of_cell? _ _ d⟩
/-- All cells stay but edges. -/
structure Cw (W W' : World) : Prop where
  same : ∀ (k : Nat) (cur : Array Value) (t : TypeId) (f : Nat × Nat), W.heap[k]? = some (.cells cur t f) → t ≠ 87 → W'.heap[k]? = some (.cells cur t f)
  size : W.heap.size ≤ W'.heap.size
namespace Cw
variable {W W' W'' : World}
theorem refl (W : World) : Cw W W := ⟨fun _ _ _ _ h _ => h, Nat.le_refl _⟩
theorem trans (h : Cw W W') (k : Cw W' W'') : Cw W W'' := ⟨fun j c t f hj ht => k.same j c t f (h.same j c t f hj ht) ht, Nat.le_trans h.size k.size⟩
theorem of (h : Below W.heap.size W W') : Cw W W' := ⟨fun _ _ _ _ hj _ => (h.block _ (heap_lt hj)).trans hj, h.size⟩
theorem row {B : Nat} {v : Value} {l : List En} (h : Pr 87 B v l W) (g : W.grownBy W' v.ownBlock) : Cw W W' := ⟨fun k cur t f hk ht => (g.block k (heap_lt hk) (fun e => by
    obtain ⟨c, hc⟩ := h.ty k e.symm
    rw [hk] at hc
    cases hc
    exact ht rfl)).trans hk, g.size⟩
theorem es {B : Nat} {v : Value} {l : List En} (k : Cw W W') (h : Es B v l W) : Es B v l W' := h.keep fun g hg => by
  obtain ⟨cur, hc⟩ := h.ty g hg
  rw [k.same g _ _ _ hc (by decide), hc]
theorem is {B : Nat} {v : Value} {l : List Int} (k : Cw W W') (h : Is B v l W) : Is B v l W' := h.keep fun g hg => by
  obtain ⟨cur, hc⟩ := h.ty g hg
  rw [k.same g _ _ _ hc (by decide), hc]
theorem la {B b : Nat} {H Q : List En} {hv qv : Value} (k : Cw W W') (h : La B H Q b hv qv W) : La B H Q b hv qv W' := ⟨k.same _ _ _ _ h.blk (by decide), k.es h.hr, k.es h.qr, h.dq, h.bB, h.srt⟩
theorem ln {B b : Nat} {H Q : List En} (k : Cw W W') (h : Ln B H Q b W) : Ln B H Q b W' := by
  obtain ⟨hv, qv, l⟩ := h
  exact ⟨hv, qv, k.la l⟩
theorem tb {B n : Nat} {most : Int} {T : Nat → Lv} {b rb : Nat} {lb : Nat → Nat} {hv qv : Nat → Value} (k : Cw W W') (h : Tb B n most T b rb lb hv qv W) : Tb B n most T b rb lb hv qv W' :=
  ⟨k.same _ _ _ _ h.blk (by decide), ⟨_, k.same _ _ _ _ h.row.choose_spec.1 (by decide), h.row.choose_spec.2⟩, ⟨fun i hi => k.la (h.ls.la i hi), h.ls.inj, h.ls.apart⟩, h.bB, h.rB⟩
end Cw
theorem pr_below {B0 : Nat} {v : Value} {l : List En} {w0 w w' : World} (h : Below B0 w0 w) (p : Pr 87 B0 v l w) (g : w.grownBy w' v.ownBlock) (hB : B0 ≤ w.heap.size) : Below B0 w0 w' := h.trans (grown_below g hB (fun k hk => (p.lt k hk).1))
set_option maxRecDepth 100000 in
set_option maxHeartbeats 4000000 in
theorem edges_r (w : World) (h : Ln B H Q b w) (hn : H.length + Q.length ≤ 400) :
    Calls Tryz.prog 48 #[.agg #[.pointer (some ⟨b, 0, none⟩)]] w fun e w' => ∃ v, e = .returned v ∧ Pr 87 w.heap.size v (edgeL H Q) w' ∧ Below w.heap.size w w' ∧ (edgeL H Q).length ≤ 160000 := by
  have H1 := hide (h.next (below_new w (.cells #[.pointer (some ⟨b, 0, none⟩)] 78)))
  clear h
  go_enter Tryz.func48, Tryz.ntmps48
  go_wp2_with fail
  refine (queue_ln _ (unhide H1) (by omega)).mono ?_
  rintro e w2 ⟨v2, rfl, E2, b2⟩
  have H3 := hide ((unhide H1).next b2)
  have CB : Hid (w2.heap[w.heap.size]? = some (.cells #[.pointer (some ⟨b, 0, none⟩)] 78 (0, 0))) := (b2.block _ (by simp)).trans (heap_alloc_new w _)
  replace b2 := hide (below_then (below_new w _) b2)
  obtain ⟨a2, n2, c2, rfl, hn2⟩ := slice_form' E2
  replace E2 := hide E2
  have hn9 : n2 ≤ 400 := by omega
  replace hn2 := hide hn2
  go_wp2_with fail
  go_loopw [3, 12] (fun s3 s12 wr => ∃ (t c : Nat) (ag : Option Addr) (cg : Nat), t ≤ n2 ∧ c ≤ t * 400 ∧ s3 = .slice ag c cg ∧ s12 = .int .i64 t ∧ Hid (((Q.take t).flatMap (edge1 H Q)).length = c) ∧ Hid (Pr 87 w.heap.size (.slice ag c cg) ((Q.take t).flatMap (edge1 H Q)) wr) ∧ Hid (Cw w2 wr) ∧ Hid (Below w.heap.size w wr)) (fun _ s12 _ => n2 - (intOf s12).toNat)
  case atStart => exact ⟨0, 0, none, 0, Nat.zero_le _, Nat.zero_le _, rfl, rfl, rfl, Pr.nil _ _ _, Cw.refl _, unhide b2⟩
  case round =>
    obtain ⟨t, c, ag, cg, ht, hct, rfl, rfl, hl, P3, k3, b3⟩ := hrel
    by_cases hlt : t < n2
    · have hlt2 : t < Q.length := by have := unhide hn2; omega
      obtain ⟨g, rfl, r⟩ : ∃ g, a2 = some ⟨g, 0, none⟩ ∧ Rb g c2 Q wr := by
        rcases (unhide k3).es (unhide E2) with ⟨_, e⟩ | ⟨g, cap', e, _, r⟩
        · rw [e] at hlt2; simp at hlt2
        · injection e with e1 _ e2
          subst e1 e2
          exact ⟨g, rfl, r⟩
      obtain ⟨x, hx⟩ : ∃ x, x = Q.getD t (0, 0) := ⟨_, rfl⟩
      have d1 : wr.cell? ⟨g, t * 2, none⟩ = some (.int .i64 x.1) := by rw [hx]; exact r.fst hlt2
      have d2 : wr.cell? ⟨g, t * 2 + 1, none⟩ = some (.int .i64 x.2) := by rw [hx]; exact r.snd hlt2
      obtain ⟨W1, hW1⟩ : ∃ W1, W1 = wr.alloc (.cells #[.int .i64 x.1, .int .i64 x.2] 92) := ⟨_, rfl⟩
      have BW : Below wr.heap.size wr W1 := by rw [hW1]; exact below_new wr _
      have X1 : W1.heap[wr.heap.size]? = some (.cells #[.int .i64 x.1, .int .i64 x.2] 92 (0, 0)) := by rw [hW1]; exact heap_alloc_new wr _
      have H4 := hide (((unhide k3).ln (unhide H3)).next BW)
      have cb1 := (BW.block _ (heap_lt ((unhide k3).same _ _ _ _ (unhide CB) (by decide)))).trans ((unhide k3).same _ _ _ _ (unhide CB) (by decide))
      have cb0 : W1.cell? ⟨w.heap.size, 0, none⟩ = some (.pointer (some ⟨b, 0, none⟩)) := by simp [World.cell?, cb1]
      have cb : (wr.alloc (.cells #[.int .i64 x.1, .int .i64 x.2] 92)).cell? ⟨w.heap.size, 0, none⟩ = some (.pointer (some ⟨b, 0, none⟩)) := by rw [← hW1]; exact cb0
      obtain ⟨bl, hbl⟩ : ∃ bl, bl = blocksD x.1 H Q := ⟨_, rfl⟩
      have hbl9 : bl.length ≤ 400 := by have := blocks_len (H := H) (Q := Q) x.1; rw [hbl]; omega
      have hstep : Hid ((Q.take (t + 1)).flatMap (edge1 H Q) = (Q.take t).flatMap (edge1 H Q) ++ bl.map (fun z => ((x.1, z) : En))) := by
        show _ = _
        rw [flat_take _ _ _ hlt2, ← hx, hbl]; rfl
      have hct9 : c ≤ 160000 := by omega
      generalize (Q.take t).flatMap (edge1 H Q) = L0 at hl P3 hstep
      replace hbl := hide hbl
      replace hx := hide hx
      clear r
      go_wp2_with fail
      refine (blocks_ln _ (by rw [← hW1]; exact unhide H4) (by omega) x.1 (unhide hbl).symm).mono ?_
      rw [← hW1]
      rintro e w5 ⟨v5, rfl, I5, b5⟩
      have x5 := (b5.block _ (heap_lt X1)).trans X1
      have bw5 := below_then BW b5
      have P5 := hide ((unhide P3).next bw5)
      obtain ⟨a5, c5, rfl⟩ := I5.form
      replace I5 := hide I5
      have b6 := hide (below_then (unhide b3) bw5)
      have k6 := hide ((unhide k3).trans (Cw.of bw5))
      have Y1 := hide x5
      replace hW1 := hide hW1
      clear cb cb0 cb1 d1 d2 X1 x5 bw5 BW b5
      go_wp2_with fail
      go_loopw [3, 22] (fun s3 s22 wq => ∃ (j c3 : Nat) (ag : Option Addr) (cg : Nat) (wz : World), j ≤ bl.length ∧ c3 ≤ c + j ∧ s3 = .slice ag c3 cg ∧ s22 = .int .i64 j ∧ wz = wq ∧ Hid ((L0 ++ (bl.take j).map (fun z => ((x.1, z) : En))).length = c3) ∧ Hid (Pr 87 w.heap.size (.slice ag c3 cg) (L0 ++ (bl.take j).map (fun z => ((x.1, z) : En))) wz) ∧ Hid (Cw w5 wz) ∧ Hid (Below w.heap.size w wz)) (fun _ s22 _ => bl.length - (intOf s22).toNat)
      case atStart => exact ⟨0, c, ag, cg, _, Nat.zero_le _, Nat.le_refl _, rfl, rfl, rfl, by simpa [Hid] using unhide hl, by simpa [Hid] using unhide P5, Cw.refl _, unhide b6⟩
      case round =>
        obtain ⟨j, c3, ag3, cg3, wq, hj, hc3, rfl, rfl, hwz, hl3, P6, k7, b7⟩ := hrel
        subst hwz
        by_cases hlj : j < bl.length
        · obtain ⟨gg, o, rfl, e1, _⟩ := ((unhide k7).is (unhide I5)).elem' hlj
          obtain ⟨z, hz⟩ : ∃ z, z = bl.getD j 0 := ⟨_, rfl⟩
          rw [← hz] at e1
          have y3 := (unhide k7).same _ _ _ _ (unhide Y1) (by decide)
          have y2 : wq.cell? ⟨wr.heap.size, 0, none⟩ = some (.int .i64 x.1) := by simp [World.cell?, y3]
          have hm := hide (map_take x.1 bl j hlj)
          rw [← hz] at hm
          have hsz : Hid (w.heap.size ≤ wq.heap.size) := (unhide b7).size
          have hc9 : c3 < 10000000 := by omega
          replace hz := hide hz
          clear y3
          go_wp2_with (at_builtin; refine wpList_pair 87 52 Tryz.underlying52 inf69 wq rfl (.tmp 26) (.tmp 31) rfl w.heap.size ag3 c3 cg3 _ ((x.1, z) : En) _ rfl rfl rfl (unhide hl3) (unhide P6) (unhide hsz) hc9 ?_; intro g7 cap7 w7 a1 a2; replace a1 := hide a1; replace a2 := hide a2)
          go_roundw
          case rel =>
            refine ⟨j + 1, c3 + 1, some ⟨g7, 0, none⟩, cap7, _, by omega, by omega, rfl, by go_num, rfl, ?_, ?_, ?_, ?_⟩
            · show _ = _
              rw [unhide hm, ← List.append_assoc, List.length_append, unhide hl3]; rfl
            · show Pr _ _ _ _ _
              rw [unhide hm, ← List.append_assoc]
              exact unhide a1
            · exact (unhide k7).trans (Cw.row (unhide P6) (unhide a2))
            · exact pr_below (unhide b7) (unhide P6) (unhide a2) (unhide b7).size
          case measure => simp [intOf]; omega
        · obtain rfl : j = bl.length := by omega
          have e1 : Hid (L0 ++ (bl.take bl.length).map (fun z => ((x.1, z) : En)) = (Q.take (t + 1)).flatMap (edge1 H Q)) := by
            show _ = _
            rw [List.take_length, unhide hstep]
          rw [unhide e1] at hl3 P6
          go_wp2
          go_roundw
          case rel => exact ⟨t + 1, c3, ag3, cg3, by omega, by omega, rfl, by go_num, unhide hl3, unhide P6, (unhide k6).trans (unhide k7), unhide b7⟩
          case measure => simp [intOf]; omega
    · obtain rfl : t = n2 := by omega
      have e1 : Hid ((Q.take t).flatMap (edge1 H Q) = edgeL H Q) := by
        show _ = _
        rw [List.take_of_length_le (by have := unhide hn2; omega)]; rfl
      rw [unhide e1] at hl P3
      have hle : Hid ((edgeL H Q).length ≤ 160000) := by have := unhide hl; show _ ≤ _; omega
      go_wp2
      go_ret
      exact ⟨_, rfl, unhide P3, unhide b3, unhide hle⟩
end Go.Proofs.YtgiklggnolbiiaaGreat

/- The reference's Sorted, carried over; appends of entries inside a region of open order. -/
namespace Go.Proofs.YtgiklggnolbiiaaGreat
open Go.RowKit

/-- Rising, each once. -/
def Up (l : List Int) : Prop := l.Pairwise (· < ·)
theorem up_lt {l : List Int} (h : Up l) {i j : Nat} (hij : i < j) (hj : j < l.length) : l.getD i 0 < l.getD j 0 := by
  have := List.pairwise_iff_getElem.1 h i j (by omega) hj hij
  simpa [List.getD, hj, show i < l.length by omega] using this
theorem mem_at {l : List Int} {x : Int} (h : x ∈ l) : ∃ i, i < l.length ∧ l.getD i 0 = x := by
  obtain ⟨j, hj, e⟩ := List.getElem_of_mem h
  exact ⟨j, hj, by simp [List.getD, hj, e]⟩
theorem at_mem {l : List Int} {i : Nat} (h : i < l.length) : l.getD i 0 ∈ l := by
  rw [show l.getD i 0 = l[i] by simp [List.getD, h]]
  exact List.getElem_mem h
/-- Two rising lists of the same numbers are one. -/
theorem up_ext : ∀ (l m : List Int), Up l → Up m → (∀ x, x ∈ l ↔ x ∈ m) → l = m
  | [], [], _, _, _ => rfl
  | [], b :: m, _, _, h => absurd ((h b).2 (List.mem_cons_self ..)) (by simp)
  | a :: l, [], _, _, h => absurd ((h a).1 (List.mem_cons_self ..)) (by simp)
  | a :: l, b :: m, hl, hm, h => by
    have hl' := List.pairwise_cons.1 hl
    have hm' := List.pairwise_cons.1 hm
    have e : a = b := by
      rcases List.mem_cons.1 ((h a).1 (List.mem_cons_self ..)) with h1 | h1
      · exact h1
      · rcases List.mem_cons.1 ((h b).2 (List.mem_cons_self ..)) with h2 | h2
        · exact h2.symm
        · have := hl'.1 _ h2; have := hm'.1 _ h1; omega
    subst e
    rw [up_ext l m hl'.2 hm'.2 fun x => ?_]
    constructor
    · intro hx
      rcases List.mem_cons.1 ((h x).1 (List.mem_cons_of_mem _ hx)) with h1 | h1
      · have := hl'.1 _ hx; omega
      · exact h1
    · intro hx
      rcases List.mem_cons.1 ((h x).2 (List.mem_cons_of_mem _ hx)) with h1 | h1
      · have := hm'.1 _ hx; omega
      · exact h1
theorem canon_congr {l m : List Int} (h : ∀ x, x ∈ l ↔ x ∈ m) : canon l = canon m :=
  up_ext _ _ (canon_facts l).2 (canon_facts m).2 fun x => by rw [(canon_facts l).1, (canon_facts m).1, h]
theorem hasB_false {x : Int} {l : List Int} (h : x ∉ l) : hasB x l = false :=
  has_no x l fun _ hj e => h (e ▸ at_mem hj)
theorem hasB_dec (x : Int) (l : List Int) : hasB x l = decide (x ∈ l) := by
  by_cases h : x ∈ l
  · obtain ⟨i, hi, e⟩ := mem_at h
    rw [has_yes x l i hi e.symm]
    simp [h]
  · rw [hasB_false h]
    simp [h]
set_option maxRecDepth 100000 in
theorem has_any (n : Int) {v : Value} {l : List Int} (w : World) (hr : Rd w v l) (hm : l.length ≤ 100000) :
    Calls Tryz.prog 95 #[v, .int .i64 n] w fun e w' => e = .returned (.bool (hasB n l)) ∧ w' = w := by
  obtain ⟨a, cap, rfl, hs⟩ := hr
  have Hs := hide hs
  clear hs
  go_enter Tryz.func95, Tryz.ntmps95
  go_wp2
  go_loop [5] (fun i => ∃ k : Nat, k ≤ l.length ∧ i = .int .i64 k ∧ Hid (∀ j, j < k → n ≠ l.getD j 0)) (fun i => l.length - (intOf i).toNat)
  case atStart => exact ⟨0, Nat.zero_le _, rfl, fun j hj => by omega⟩
  case round =>
    obtain ⟨k, hk, rfl, hno⟩ := hrel
    by_cases hlt : k < l.length
    · obtain ⟨b, off, rfl, hcell⟩ := seg_at (unhide Hs) hlt
      obtain ⟨x, hx⟩ : ∃ x, x = l.getD k 0 := ⟨_, rfl⟩
      rw [← hx] at hcell
      replace hx := hide hx
      by_cases he : x = n
      · have e1 : Hid (hasB n l = true) := has_yes n l k hlt (by rw [← unhide hx, he])
        have hb : (x == n) = true := beq_iff_eq.2 he
        clear he
        go_wp2
        go_ret
        exact ⟨by rw [unhide e1]; rfl, rfl⟩
      · have hb : (x == n) = false := beq_eq_false_iff_ne.2 he
        have He : Hid (n ≠ x) := fun e => he e.symm
        clear he
        go_wp2
        go_round
        case rel => exact ⟨k + 1, by omega, by go_num, fun j hj => by
          rcases (show j < k ∨ j = k by omega) with h | rfl
          · exact unhide hno j h
          · rw [← unhide hx]; exact unhide He⟩
        case measure => simp [intOf]; omega
    · have e1 : Hid (hasB n l = false) := has_no n l (fun j hj => unhide hno j (by omega))
      go_wp2
      go_ret
      exact ⟨by rw [unhide e1]; rfl, rfl⟩
theorem below_dnew (w : World) (o : Obj) : Below w.heap.size w (w.drew.alloc o) := (Below.refl _ _).drew.alloc (Nat.le_refl _) _
theorem heap_d2a (w : World) (e o : Array Value) (t u : TypeId) : ((w.drew.alloc (.cells e t)).alloc (.cells o u)).heap[w.heap.size + 1]? = some (.cells o u (0, 0)) := by
  have h := heap_alloc_new (w.drew.alloc (.cells e t)) (.cells o u)
  rw [show (w.drew.alloc (.cells e t)).heap.size = w.heap.size + 1 by simp] at h
  exact h
theorem heap_d2b (w : World) (e o : Array Value) (t u : TypeId) : ((w.drew.alloc (.cells o u)).alloc (.cells e t)).heap[w.heap.size]? = some (.cells o u (0, 0)) := by
  have h := heap_alloc_new w.drew (.cells o u)
  exact ((below_new (w.drew.alloc (.cells o u)) (.cells e t)).block _ (heap_lt h)).trans h
theorem heap_dnew (w : World) (o : Array Value) (t : TypeId) : (w.drew.alloc (.cells o t)).heap[w.heap.size]? = some (.cells o t (0, 0)) := heap_alloc_new w.drew _
/-- The slice v is read: the pairs l. -/
def Re (w : World) (v : Value) (l : List En) : Prop := ∃ a cap, v = .slice a l.length cap ∧ (l.length = 0 ∨ ∃ b off, a = some ⟨b, off, none⟩ ∧ ∀ i, i < l.length →
  w.cell? ⟨b, off + i * 2, none⟩ = some (.int .i64 (l.getD i (0, 0)).1) ∧ w.cell? ⟨b, off + i * 2 + 1, none⟩ = some (.int .i64 (l.getD i (0, 0)).2))
theorem Re.form {w : World} {v : Value} {l : List En} (h : Re w v l) : ∃ a cap, v = .slice a l.length cap := by
  obtain ⟨a, cap, e, _⟩ := h
  exact ⟨a, cap, e⟩
theorem Re.at {w : World} {a : Option Addr} {n cap : Nat} {l : List En} (h : Re w (.slice a n cap) l) {i : Nat} (hi : i < l.length) : ∃ b off, a = some ⟨b, off, none⟩ ∧ b < w.heap.size ∧
    w.cell? ⟨b, off + i * 2, none⟩ = some (.int .i64 (l.getD i (0, 0)).1) ∧ w.cell? ⟨b, off + i * 2 + 1, none⟩ = some (.int .i64 (l.getD i (0, 0)).2) := by
  obtain ⟨a', cap', e, h⟩ := h
  injection e with e1 e2 e3
  subst e1
  rcases h with h | ⟨b, off, e, h⟩
  · omega
  · exact ⟨b, off, e, World.block_lt_of_cell? _ _ (h i hi).1, h i hi⟩
theorem Re.next {w w' : World} {v : Value} {l : List En} (h : Re w v l) (k : Below w.heap.size w w') : Re w' v l := by
  obtain ⟨a, cap, e, h⟩ := h
  refine ⟨a, cap, e, ?_⟩
  rcases h with h | ⟨b, off, e, h⟩
  · exact .inl h
  · refine .inr ⟨b, off, e, fun i hi => ?_⟩
    obtain ⟨h1, h2⟩ := h i hi
    have hb := World.block_lt_of_cell? _ _ h1
    exact ⟨(k.cell (p := ⟨b, off + i * 2, none⟩) hb).trans h1, (k.cell (p := ⟨b, off + i * 2 + 1, none⟩) hb).trans h2⟩
theorem re_nil (w : World) (a : Option Addr) (cap : Nat) : Re w (.slice a 0 cap) [] := ⟨a, cap, rfl, .inl rfl⟩
theorem Pr.re {t : TypeId} {B : Nat} {v : Value} {l : List En} {w : World} (h : Pr t B v l w) : Re w v l := by
  obtain ⟨a, cap, rfl⟩ := h.form
  refine ⟨a, cap, rfl, ?_⟩
  rcases Nat.eq_zero_or_pos l.length with e | e
  · exact .inl e
  · obtain ⟨g, e1, _⟩ := h.elem (i := 0) e
    refine .inr ⟨g, 0, e1, fun i hi => ?_⟩
    obtain ⟨g', e2, h1, h2, _⟩ := h.elem hi
    rw [e1] at e2
    injection e2 with e2
    injection e2 with e2
    subst e2
    rw [Nat.zero_add]
    exact ⟨h1, h2⟩
set_option maxRecDepth 100000 in
/-- Edges more, behind the others, out of a block that is known whole. -/
theorem step_new {w : World} {ops : Array Oper} {o : Oper} {a : Act} {K : Act → World → Prop} {Q : Exit → Act → World → Prop} {E : Prop} (hgd : o.guard = none) (s x : Operand)
    (ho : o.op = .call { callee := .builtin .append, args := #[s, x], argTypes := #[58, 58] }) (base : Nat) (v : Value) (l m : List En) (q r : Nat) (hs : a.eval s = v) (hown : Pr 92 base v l w) (N : Nat)
    (hx : a.eval x = .slice (some ⟨N, 0, none⟩) q q) (hN : w.heap[N]? = some (.cells (pairs m).toArray 92 (0, 0))) (hq : m.length = q) (hr : l.length + q = r) (hm : 0 < q) (hb : base ≤ w.heap.size) (hn : r < 10000000)
    (h : ∀ g cap w', Pr 92 base (.slice (some ⟨g, 0, none⟩) r cap) (l ++ m) w' → w.grownBy w' v.ownBlock → K (a.put o.dst (.slice (some ⟨g, 0, none⟩) r cap)) w') :
    if Region.wanted o (yielded ops a.tmps) = true then Oper.wp Tryz.prog o a w K Q else E := by
  subst hq hr
  obtain ⟨i3, hi3, hz0, hz1, hz2⟩ := info_parts inf63
  refine step_append_lies w hgd s x 58 ho base 92 i3 _ 2 16 Tryz.underlying58 hi3 hz0 hz1 hz2 rfl (by decide) v l.length _ hs hown ⟨N, 0, none⟩ _ _ (pairs m) hx (pairs_len m) (World.news_of_block hN) (pairs_one m) hm (by unfold maxLen; omega) (by omega) hb _ rfl ?_
  intro g cap w' a1 a2 _ _
  refine h g cap w' ?_ a2
  unfold Pr
  rw [List.length_append, pairs_app]
  exact a1
/-- The cells of a slice of edges that is read. -/
theorem re_news {w : World} {b off n c : Nat} {l : List En} (h : Re w (.slice (some ⟨b, off, none⟩) n c) l) : ∀ j u, (pairs l)[j]? = some u → w.cell? ((⟨b, off, none⟩ : Addr).add j) = some u := by
  intro j u hj
  have hjl : j < (pairs l).length := by
    rcases Nat.lt_or_ge j (pairs l).length with k | k
    · exact k
    · rw [List.getElem?_eq_none k] at hj; cases hj
  rw [pairs_len] at hjl
  obtain ⟨b', off', e, _, d1, d2⟩ := h.at (i := j / 2) (by omega)
  injection e with e
  have e1 : b = b' := by injection e
  have e2 : off = off' := by injection e
  subst e1 e2
  rw [addr_add]
  rcases Nat.mod_two_eq_zero_or_one j with k | k
  · have ej : j = j / 2 * 2 := by omega
    rw [ej, pairs_fst l _ (by omega)] at hj
    rw [ej, d1]
    exact hj
  · have ej : j = j / 2 * 2 + 1 := by omega
    rw [ej, pairs_snd l _ (by omega)] at hj
    rw [ej, ← Nat.add_assoc, d2]
    exact hj
set_option maxRecDepth 100000 in
/-- A slice of edges, behind the others. -/
theorem run_app_re (w : World) (ty : TypeId) (base : Nat) (v : Value) (l : List En) (hown : Pr 92 base v l w) (va : Option Addr) (n c : Nat) (m : List En) (hr : Re w (.slice va n c) m) (hnil : va = none → c = 0)
    (hn : l.length + m.length ≤ 10000) (hb : base ≤ w.heap.size) :
    ∃ v' w', (Builtin.append_ #[58, 58] ty #[v, .slice va n c]).run Tryz.prog w = .ok v' w' ∧ Pr 92 base v' (l ++ m) w' ∧ w.grownBy w' v.ownBlock := by
  obtain ⟨i3, hi3, hz0, hz1, hz2⟩ := info_parts inf63
  have en : n = m.length := by
    obtain ⟨a, cap, e⟩ := hr.form
    injection e
  subst en
  cases va with
  | none =>
    obtain rfl := hnil rfl
    have hm0 : m.length = 0 := by
      obtain ⟨a, cap, e, h | ⟨b, off, h, _⟩⟩ := hr
      · exact h
      · injection e with e1 _ _
        rw [h] at e1; cases e1
    obtain rfl : m = [] := List.eq_nil_of_length_eq_zero hm0
    have hr := run_append_owned_none (P := Tryz.prog) (w := w) base 58 ty 92 i3 2 Tryz.underlying58 hi3 v l.length _ hown
    exact ⟨v, w, hr, by rw [List.append_nil]; exact hown, ⟨rfl, rfl, rfl, Nat.le_refl _, fun _ _ _ => rfl⟩⟩
  | some ad =>
    have hnews : ∀ j u, (pairs m)[j]? = some u → w.cell? (ad.add j) = some u := by
      obtain ⟨a, cap, e, h | ⟨b, off, h, _⟩⟩ := id hr
      · obtain rfl : m = [] := List.eq_nil_of_length_eq_zero h
        intro j u hj
        simp [pairs] at hj
      · injection e with e1 _ _
        rw [h] at e1
        injection e1 with e1
        subst e1
        exact re_news hr
    obtain ⟨v', w', hr, h2, h3, _⟩ := run_append_own (P := Tryz.prog) w base 58 ty 92 i3 _ 2 16 Tryz.underlying58 hi3 hz0 hz1 hz2 rfl (by decide) v l.length _ hown ad m.length c _ (pairs_len m) hnews (pairs_one m) (by unfold maxLen; omega) (by omega) hb
    refine ⟨v', w', hr, ?_, h3⟩
    unfold Pr
    rw [List.length_append, pairs_app]
    exact h2
theorem step_app_re {w : World} {ops : Array Oper} {o : Oper} {a : Act} {K : Act → World → Prop} {Q : Exit → Act → World → Prop} {E : Prop} (hgd : o.guard = none) (s x : Operand)
    (ho : o.op = .call { callee := .builtin .append, args := #[s, x], argTypes := #[58, 58] }) (base : Nat) (v : Value) (l m : List En) (hs : a.eval s = v) (hown : Pr 92 base v l w) (va : Option Addr) (n c : Nat)
    (hx : a.eval x = .slice va n c) (hr : Re w (.slice va n c) m) (hnil : va = none → c = 0) (hn : l.length + m.length ≤ 10000) (hb : base ≤ w.heap.size)
    (h : ∀ v' w', Pr 92 base v' (l ++ m) w' → w.grownBy w' v.ownBlock → K (a.put o.dst v') w') :
    if Region.wanted o (yielded ops a.tmps) = true then Oper.wp Tryz.prog o a w K Q else E := by
  have hw : Region.wanted o (yielded ops a.tmps) = true := by simp [Region.wanted, hgd]
  rw [if_pos hw]
  obtain ⟨v', w', e, h2, h3⟩ := run_app_re w o.type base v l hown va n c m hr hnil hn hb
  unfold Oper.wp execOp
  simp only [ho, resolve, invoke, builtin, Sem.run_bind, Sem.run_pure, Result.andThen_ok, List.map_toArray, List.map_cons, List.map_nil, hs, hx, e]
  exact h v' w' h2 h3
theorem pr_lit (w : World) : Pr 92 w.heap.size (.slice (some ⟨w.heap.size, 0, none⟩) 0 0) [] (w.alloc (.cells #[] 92)) := World.ownsRow_lit w #[] 0 (Nat.le_refl _) (Nat.zero_le _) rfl
theorem pr_lit2 (w : World) (z : Array Value) (t : TypeId) : Pr 92 w.heap.size (.slice (some ⟨w.heap.size + 1, 0, none⟩) 0 0) [] ((w.drew.alloc (.cells z t)).alloc (.cells #[] 92)) := by
  have h := (pr_lit (w.drew.alloc (.cells z t))).down (B' := (w.drew.alloc (.cells z t)).heap.size) (B := w.heap.size) (below_dnew w _).size
  rw [show (w.drew.alloc (.cells z t)).heap.size = w.heap.size + 1 by simp] at h
  exact h
/-- A slice of edges behind an empty slice literal; w0 is the world ahead of the region. -/
theorem step_app0 (w0 : World) {w : World} {ops : Array Oper} {o : Oper} {a : Act} {K : Act → World → Prop} {Q : Exit → Act → World → Prop} {E : Prop} (hgd : o.guard = none) (dst : Option Nat) (hdst : o.dst = dst) (s x : Operand)
    (ho : o.op = .call { callee := .builtin .append, args := #[s, x], argTypes := #[58, 58] }) (m : List En) (N : Nat) (hs : a.eval s = .slice (some ⟨N, 0, none⟩) 0 0) (hw0 : Below w0.heap.size w0 w) (hown : Pr 92 w0.heap.size (.slice (some ⟨N, 0, none⟩) 0 0) [] w) (va : Option Addr) (n c : Nat)
    (hx : a.eval x = .slice va n c) (hr : Re w0 (.slice va n c) m) (hnil : va = none → c = 0) (hn : m.length ≤ 10000)
    (h : ∀ v' w', Pr 92 w0.heap.size v' m w' → Below w0.heap.size w0 w' → (∀ k o, w.heap[k]? = some o → k ≠ N → w'.heap[k]? = some o) → K (a.put dst v') w') :
    if Region.wanted o (yielded ops a.tmps) = true then Oper.wp Tryz.prog o a w K Q else E := by
  subst hdst
  refine step_app_re hgd s x ho w0.heap.size _ [] m hs hown va n c hx (hr.next hw0) hnil (by simpa using hn) hw0.size ?_
  intro v' w' a1 a2
  rw [List.nil_append] at a1
  refine h v' w' a1 (hw0.trans (grown_below a2 hw0.size fun g hg => ?_)) fun k o hk hne => ?_
  · exact (hown.lt g hg).1
  · refine (a2.block k (heap_lt hk) ?_).trans hk
    intro e
    apply hne
    have : some k = some N := e
    injection this
theorem step_new0 (w0 : World) {w : World} {ops : Array Oper} {o : Oper} {a : Act} {K : Act → World → Prop} {Q : Exit → Act → World → Prop} {E : Prop} (hgd : o.guard = none) (dst : Option Nat) (hdst : o.dst = dst) (s x : Operand)
    (ho : o.op = .call { callee := .builtin .append, args := #[s, x], argTypes := #[58, 58] }) (v : Value) (l m : List En) (q r : Nat) (hs : a.eval s = v) (hw0 : Below w0.heap.size w0 w) (hown : Pr 92 w0.heap.size v l w) (N : Nat)
    (hx : a.eval x = .slice (some ⟨N, 0, none⟩) q q) (hN : w.heap[N]? = some (.cells (pairs m).toArray 92 (0, 0))) (hq : m.length = q) (hr : l.length + q = r) (hm : 0 < q) (hn : r < 10000000)
    (h : ∀ g cap w', Pr 92 w0.heap.size (.slice (some ⟨g, 0, none⟩) r cap) (l ++ m) w' → Below w0.heap.size w0 w' → K (a.put dst (.slice (some ⟨g, 0, none⟩) r cap)) w') :
    if Region.wanted o (yielded ops a.tmps) = true then Oper.wp Tryz.prog o a w K Q else E := by
  subst hdst
  refine step_new hgd s x ho w0.heap.size v l m q r hs hown N hx hN hq hr hm hw0.size hn ?_
  intro g cap w' a1 a2
  exact h g cap w' a1 (hw0.trans (grown_below a2 hw0.size fun g hg => (hown.lt g hg).1))
theorem canon_in {L : List Int} {x : Int} (h : x ∈ canon L) : canon (L ++ [x]) = canon L := by
  have hx : x ∈ L := ((canon_facts _).1 _).1 h
  refine canon_congr fun y => ?_
  rw [List.mem_append, List.mem_singleton]
  exact ⟨fun k => k.elim id (fun e => e ▸ hx), .inl⟩
theorem canon_out {L C : List Int} {x : Int} {k : Nat} (hC : C = canon L) (h1 : ∀ j, j < k → C.getD j 0 < x) (h2 : ∀ j, k ≤ j → j < C.length → x < C.getD j 0) (hk : k ≤ C.length) : canon (L ++ [x]) = C.take k ++ [x] ++ C.drop k := by
  have hu : Up C := by rw [hC]; exact (canon_facts L).2
  have t1 : ∀ y ∈ C.take k, y < x := fun y hy => by
    obtain ⟨j, hj, e⟩ := mem_at hy
    rw [List.length_take] at hj
    have := h1 j (by omega)
    rw [← e, List.getD_eq_getElem?_getD, List.getElem?_take_of_lt (by omega), ← List.getD_eq_getElem?_getD]
    exact this
  have t2 : ∀ y ∈ C.drop k, x < y := fun y hy => by
    obtain ⟨j, hj, e⟩ := mem_at hy
    rw [List.length_drop] at hj
    have := h2 (k + j) (by omega) (by omega)
    rw [← e, List.getD_eq_getElem?_getD, List.getElem?_drop, ← List.getD_eq_getElem?_getD]
    exact this
  refine up_ext _ _ (canon_facts _).2 ?_ fun y => ?_
  · unfold Up
    rw [List.pairwise_append, List.pairwise_append]
    refine ⟨⟨hu.sublist (List.take_sublist _ _), List.pairwise_singleton _ _, fun a ha b hb => by rw [List.mem_singleton.1 hb]; exact t1 a ha⟩, hu.sublist (List.drop_sublist _ _), fun a ha b hb => ?_⟩
    rcases List.mem_append.1 ha with h | h
    · have := t1 a h; have := t2 b hb; omega
    · rw [List.mem_singleton.1 h]; exact t2 b hb
  · have hy : y ∈ C ↔ y ∈ C.take k ∨ y ∈ C.drop k := by rw [← List.mem_append, List.take_append_drop]
    rw [(canon_facts _).1, List.mem_append, List.mem_append, List.mem_append, List.mem_singleton, ← (canon_facts L).1, ← hC, hy]
    constructor
    · rintro ((h | h) | h)
      · exact .inl (.inl h)
      · exact .inr h
      · exact .inl (.inr h)
    · rintro ((h | h) | h)
      · exact .inl (.inl h)
      · exact .inr h
      · exact .inl (.inr h)
theorem is_lit (w : World) : Is w.heap.size (.slice (some ⟨w.heap.size, 0, none⟩) 0 0) [] (w.alloc (.cells #[] 3)) := World.ownsRow_lit w #[] 0 (Nat.le_refl _) (Nat.zero_le _) rfl
theorem is_lit2 (w : World) (z : Array Value) (t : TypeId) : Is w.heap.size (.slice (some ⟨w.heap.size + 1, 0, none⟩) 0 0) [] ((w.drew.alloc (.cells z t)).alloc (.cells #[] 3)) := by
  have h := (is_lit (w.drew.alloc (.cells z t))).down (B' := (w.drew.alloc (.cells z t)).heap.size) (B := w.heap.size) (below_dnew w _).size
  rw [show (w.drew.alloc (.cells z t)).heap.size = w.heap.size + 1 by simp] at h
  exact h
theorem seg_one {w : World} {N : Nat} {z : Int} (h : w.heap[N]? = some (.cells #[.int .i64 z] 3 (0, 0))) : SegK .i64 w (some ⟨N, 0, none⟩) 1 [z] :=
  ⟨rfl, .inr ⟨N, 0, rfl, fun i hi => by
    have : i = 0 := by have : i < 1 := hi; omega
    subst this
    simp [World.cell?, h]⟩⟩
/-- A part of a slice. -/
theorem seg_take {w : World} {a : Option Addr} {n : Nat} {l : List Int} (h : SegK .i64 w a n l) (k : Nat) (hk : k ≤ n) : SegK .i64 w a k (l.take k) := by
  refine ⟨by rw [List.length_take, h.1]; omega, ?_⟩
  rcases h.2 with e | ⟨b, off, e, hc⟩
  · exact .inl (by omega)
  · refine .inr ⟨b, off, e, fun i hi => ?_⟩
    rw [hc i (by omega), List.getD_eq_getElem?_getD, List.getD_eq_getElem?_getD, List.getElem?_take_of_lt hi]
theorem seg_drop {w : World} {b off n : Nat} {l : List Int} (h : SegK .i64 w (some ⟨b, off, none⟩) n l) (k : Nat) (hk : k ≤ n) : SegK .i64 w (some ⟨b, off + k, none⟩) (n - k) (l.drop k) := by
  refine ⟨by rw [List.length_drop, h.1], ?_⟩
  rcases h.2 with e | ⟨b', off', e, hc⟩
  · exact .inl (by omega)
  · injection e with e
    have e1 : b = b' := by injection e
    have e2 : off = off' := by injection e
    subst e1 e2
    refine .inr ⟨b, off + k, rfl, fun i hi => ?_⟩
    rw [Nat.add_assoc, hc (k + i) (by omega), List.getD_eq_getElem?_getD, List.getD_eq_getElem?_getD, List.getElem?_drop]
set_option maxRecDepth 100000 in
/-- Numbers more, behind the others; w0 is the world ahead of the region. -/
theorem istep (w0 : World) {w : World} {ops : Array Oper} {o : Oper} {a : Act} {K : Act → World → Prop} {Q : Exit → Act → World → Prop} {E : Prop} (hgd : o.guard = none) (dst : Option Nat) (hdst : o.dst = dst) (s x : Operand)
    (ho : o.op = .call { callee := .builtin .append, args := #[s, x], argTypes := #[36, 36] }) (v : Value) (k : List Int) (hs : a.eval s = v) (hw0 : Below w0.heap.size w0 w) (hown : Is w0.heap.size v k w) (va : Option Addr) (n c : Nat) (l : List Int)
    (hx : a.eval x = .slice va n c) (hr : SegK .i64 w va n l) (hnil : va = none → c = 0) (hn : k.length + n ≤ 2000)
    (h : ∀ v' w', Is w0.heap.size v' (k ++ l) w' → Below w0.heap.size w0 w' → (∀ j o, w.heap[j]? = some o → v.ownBlock ≠ some j → w'.heap[j]? = some o) → K (a.put dst v') w') :
    if Region.wanted o (yielded ops a.tmps) = true then Oper.wp Tryz.prog o a w K Q else E := by
  subst hdst
  have hw : Region.wanted o (yielded ops a.tmps) = true := by simp [Region.wanted, hgd]
  rw [if_pos hw]
  obtain ⟨i0, hi, hz0, hz1, hz2⟩ := info_parts inf3
  obtain ⟨v', w', e, h2, h3⟩ := run_append_seg w o.type w0.heap.size i0 hi hz0 hz1 hz2 v k.length k hown va n c l hr hnil hn hw0.size
  unfold Oper.wp execOp
  simp only [ho, resolve, invoke, builtin, Sem.run_bind, Sem.run_pure, Result.andThen_ok, List.map_toArray, List.map_cons, List.map_nil, hs, hx, e]
  refine h v' w' ?_ (hw0.trans (grown_below h3 hw0.size fun g hg => (hown.lt g hg).1)) fun j o hj hne => (h3.block j (heap_lt hj) (fun e => hne e.symm)).trans hj
  unfold Is
  rw [List.length_append, hr.1]
  exact h2
/-- Numbers behind an empty slice literal. -/
theorem istep0 (w0 : World) {w : World} {ops : Array Oper} {o : Oper} {a : Act} {K : Act → World → Prop} {Q : Exit → Act → World → Prop} {E : Prop} (hgd : o.guard = none) (dst : Option Nat) (hdst : o.dst = dst) (s x : Operand)
    (ho : o.op = .call { callee := .builtin .append, args := #[s, x], argTypes := #[36, 36] }) (N : Nat) (hs : a.eval s = .slice (some ⟨N, 0, none⟩) 0 0) (hw0 : Below w0.heap.size w0 w) (hown : Is w0.heap.size (.slice (some ⟨N, 0, none⟩) 0 0) [] w) (va : Option Addr) (n c : Nat) (l : List Int)
    (hx : a.eval x = .slice va n c) (hr : SegK .i64 w va n l) (hnil : va = none → c = 0) (hn : n ≤ 2000)
    (h : ∀ v' w', Is w0.heap.size v' l w' → Below w0.heap.size w0 w' → (∀ j o, w.heap[j]? = some o → j ≠ N → w'.heap[j]? = some o) → K (a.put dst v') w') :
    if Region.wanted o (yielded ops a.tmps) = true then Oper.wp Tryz.prog o a w K Q else E := by
  refine istep w0 hgd dst hdst s x ho _ [] hs hw0 hown va n c l hx hr hnil (by show 0 + n ≤ _; omega) ?_
  intro v' w' a1 a2 a3
  refine h v' w' (by rw [List.nil_append] at a1; exact a1) a2 fun j o hj hne => a3 j o hj fun e => ?_
  have : some N = some j := e
  injection this with this
  exact hne this.symm
theorem below_drewN (w : World) (n : Nat) : Below w.heap.size w (w.drewN n) := ⟨rfl, rfl, rfl, Nat.le_refl _, fun _ _ => rfl⟩
set_option maxRecDepth 100000 in
set_option maxHeartbeats 4000000 in
theorem rsorted_any (w : World) {v : Value} {l : List Int} (h : Rd w v l) (hn : l.length ≤ 900) :
    Calls Tryz.prog 53 #[v] w fun e w' => ∃ v', e = .returned v' ∧ Is w.heap.size v' (canon l) w' ∧ Below w.heap.size w w' := by
  obtain ⟨a, cap, rfl, hs⟩ := h
  obtain ⟨n0, hn0⟩ : ∃ n0, n0 = l.length := ⟨_, rfl⟩
  rw [← hn0] at hs hn ⊢
  replace hs := hide hs
  replace hn0 := hide hn0
  go_enter Tryz.func53, Tryz.ntmps53
  go_wp2
  go_loopw [3, 4] (fun s3 s4 wr => ∃ (t k : Nat) (C : List Int) (ag : Option Addr) (cg : Nat), t ≤ n0 ∧ k ≤ t ∧ s3 = .slice ag k cg ∧ s4 = .int .i64 t ∧ Hid (C.length = k) ∧ Hid (C = canon (l.take t)) ∧ Hid (Is w.heap.size (.slice ag k cg) C wr) ∧ Hid (Below w.heap.size w wr)) (fun _ s4 _ => n0 - (intOf s4).toNat)
  case atStart => exact ⟨0, 0, [], none, 0, Nat.zero_le _, Nat.le_refl _, rfl, rfl, rfl, (canon_nil (by simp)).symm, is_nil _ _, Below.refl _ _⟩
  case round =>
    obtain ⟨t, k, C, ag, cg, ht, hk, rfl, rfl, hCk, hC, I3, b3⟩ := hrel
    by_cases hlt : t < n0
    · have sl := (unhide hs).later (unhide b3)
      obtain ⟨gl, ol, rfl, d1⟩ := sl.at hlt
      obtain ⟨x, hx⟩ : ∃ x, x = l.getD t 0 := ⟨_, rfl⟩
      rw [← hx] at d1
      have tk : Hid (l.take (t + 1) = l.take t ++ [x]) := by
        have h1 : t < l.length := by rw [← unhide hn0]; exact hlt
        show _ = _
        rw [List.take_succ_eq_append_getElem h1, hx]
        simp [List.getD, h1]
      have C1 := hide (has_any x wr (unhide I3).rd (by rw [unhide hCk]; omega))
      replace hx := hide hx
      by_cases hm : x ∈ C
      · rw [hasB_dec, decide_eq_true hm] at C1
        have hC2 : Hid (C = canon (l.take (t + 1))) := by
          show _ = _
          rw [unhide tk, canon_in (by rw [← unhide hC]; exact hm)]
          exact unhide hC
        clear hm sl
        go_wp2_with fail
        refine (unhide C1).mono ?_
        rintro e w5 ⟨rfl, rfl⟩
        clear C1
        go_wp2
        go_roundw
        case rel => exact ⟨t + 1, k, C, ag, cg, by omega, by omega, rfl, by go_num, unhide hCk, unhide hC2, unhide I3, unhide b3⟩
        case measure => simp [intOf] <;> omega
      · rw [hasB_dec, decide_eq_false hm] at C1
        have hm' := hide hm
        clear hm sl
        go_wp2_with fail
        refine (unhide C1).mono ?_
        rintro e w5 ⟨rfl, rfl⟩
        clear C1
        have hup : Hid (Up C) := by rw [unhide hC]; exact (canon_facts _).2
        go_wp2
        go_loopw [5] (fun s5 wr => ∃ p : Nat, p ≤ k ∧ s5 = .int .i64 p ∧ Hid (∀ j, p ≤ j → j < k → x < C.getD j 0) ∧ Hid (Below w5.heap.size w5 wr)) (fun s5 _ => (intOf s5).toNat)
        case atStart => exact ⟨k, Nat.le_refl _, rfl, fun j h1 h2 => by omega, Below.refl _ _⟩
        case round =>
          obtain ⟨p, hp, rfl, hab, b6⟩ := hrel
          have e1 := ((unhide b6).cell (p := ⟨gl, ol + t, none⟩) (World.block_lt_of_cell? _ _ d1)).trans d1
          have I6 := hide ((unhide I3).next (unhide b6))
          obtain ⟨bb, hbb⟩ : ∃ bb, bb = (decide (0 < p) && decide (x < C.getD (p - 1) 0)) := ⟨_, rfl⟩
          clear d1
          go_upto_region 7 with fail
          go_cut [33] from 20 to 35 (fun t33 wc => t33 = .bool bb ∧ Hid (Below wr.heap.size wr wc))
          case first =>
            cases p with
            | zero =>
              have hb0 : bb = false := by rw [hbb]; rfl
              subst hb0
              clear hbb hab
              go_wp2_with fail
              go_quiet (fail)
              all_goals
                go_wp2_with fail
                go_meet
                case rel => exact ⟨rfl, below_drewN wr _⟩
            | succ q =>
              obtain ⟨g, o, rfl, f1, _⟩ := (unhide I6).elem' (i := q) (by rw [unhide hCk]; omega)
              obtain ⟨y, hy⟩ : ∃ y, y = C.getD q 0 := ⟨_, rfl⟩
              rw [← hy] at f1
              have hb0 : bb = decide (x < y) := by rw [hbb, show q + 1 - 1 = q from rfl, ← hy, decide_eq_true (show 0 < q + 1 by omega), Bool.true_and]
              have e9 : ((q + 1 : Nat) : Int) - 1 = (q : Int) := by omega
              have e8 : IntKind.i64.wrap ((q : Int) + 1 - 1) = (q : Int) := by rw [IntKind.wrap_i64]; omega
              have e7 : q < k := by omega
              have q0 : decide ((0 : Int) < ((q + 1 : Nat) : Int)) = true := decide_eq_true (by omega)
              replace hy := hide hy
              subst hb0
              clear hbb hab
              go_wp2_with fail
              go_quiet (fail)
              all_goals
                go_wp2_with fail
                go_meet
                case rel => exact ⟨rfl, below_drewN wr _⟩
          case rest =>
            obtain ⟨rfl, b7⟩ := hcut
            cases hb : bb with
            | true =>
              rw [hb] at hbb
              cases p with
              | zero => cases hbb
              | succ q =>
                rw [show q + 1 - 1 = q from rfl, decide_eq_true (show 0 < q + 1 by omega), Bool.true_and] at hbb
                have hq : x < C.getD q 0 := of_decide_eq_true hbb.symm
                have hab2 : Hid (∀ j, q ≤ j → j < k → x < C.getD j 0) := fun j h1 h2 => by
                  rcases (show j = q ∨ q + 1 ≤ j by omega) with rfl | h3
                  · exact hq
                  · exact unhide hab j h3 h2
                have b8 := hide (below_then (unhide b6) (unhide b7))
                have e8 : IntKind.i64.wrap (((q + 1 : Nat) : Int) - 1) = (q : Int) := by rw [IntKind.wrap_i64]; omega
                have e7 : ((q + 1 : Nat) : Int) - 1 = (q : Int) := by omega
                clear hbb hq hb hab
                go_wp2
                go_roundw
                case rel => exact ⟨q, by omega, by first | go_num | (rw [e7]), unhide hab2, unhide b8⟩
                case measure => simp [intOf] <;> omega
            | false =>
              rw [hb] at hbb
              have lo : ∀ j, j < p → C.getD j 0 < x := fun j hj => by
                have h1 : ¬ x < C.getD (p - 1) 0 := by
                  rw [decide_eq_true (show 0 < p by omega), Bool.true_and] at hbb
                  exact of_decide_eq_false hbb.symm
                have h2 : C.getD (p - 1) 0 ≠ x := fun e => unhide hm' (by rw [← e]; exact at_mem (by rw [unhide hCk]; omega))
                rcases (show j = p - 1 ∨ j < p - 1 by omega) with rfl | h3
                · omega
                · have := up_lt (unhide hup) h3 (by rw [unhide hCk]; omega)
                  omega
              have fin : Hid (C.take p ++ [x] ++ C.drop p = canon (l.take (t + 1))) := by
                show _ = _
                rw [unhide tk]
                exact (canon_out (unhide hC) lo (fun j h1 h2 => unhide hab j h1 (by rw [← unhide hCk]; exact h2)) (by rw [unhide hCk]; exact hp)).symm
              have finl : Hid ((canon (l.take (t + 1))).length = k + 1) := by
                show _ = _
                rw [← unhide fin, List.length_append, List.length_append, List.length_take, List.length_drop, unhide hCk]
                simp; omega
              have bw := hide ((unhide b3).trans ((below_then (unhide b6) (unhide b7)).mono (unhide b3).size))
              have d2 := ((unhide b7).cell (p := ⟨gl, ol + t, none⟩) (World.block_lt_of_cell? _ _ e1)).trans e1
              have hS : Hid (∀ W', Below wc.heap.size wc W' → W'.cell? ⟨gl, ol + t, none⟩ = some (.int .i64 x)) := fun W' b => (b.cell (p := ⟨gl, ol + t, none⟩) (World.block_lt_of_cell? _ _ d2)).trans d2
              have I7 := (unhide I6).next (unhide b7)
              have z1 : Hid (p ≤ 2000) := by show _ ≤ _; omega
              have z2 : Hid ((C.take p).length + 1 ≤ 2000) := by show _ ≤ _; rw [List.length_take]; omega
              have z3 : Hid ((C.take p ++ [x]).length + (k - p) ≤ 2000) := by show _ ≤ _; rw [List.length_append, List.length_take]; simp; omega
              have cl := unhide hCk
              clear hbb lo hab b6 b3 e1 hb hC
              rcases I7.2 with ⟨e, ek⟩ | ⟨g, cap2, cur, e, hBg, hgb, y1, y2, y3, hcc⟩
              · have k0 : k = 0 := by rw [← cl]; exact ek
                have p0 : p = 0 := by omega
                have c0 : C = [] := List.eq_nil_of_length_eq_zero ek
                injection e with e1 _ e3
                subst k0 p0 c0 e1 e3
                have sA := hide (seg_nil wc none)
                have nA : Hid ((none : Option Addr) = none → 0 = 0) := fun _ => rfl
                have z4 : Hid (([] ++ [x] : List Int).length + 0 ≤ 2000) := by show 1 ≤ 2000; omega
                clear I7 cl ek z3
                have z3 := z4
                have fin2 : Hid (([] : List Int) ++ [x] ++ [] = canon (l.take (t + 1))) := unhide fin
                clear z4 fin
                have fin := fin2
                clear fin2
                go_wp2_with fail
                go_region_held_law (fun wz => wz.cell? ⟨gl, ol + t, none⟩ = some (.int .i64 x)) (exact unhide hS _ (by repeat (first | exact unhide ba3 | exact unhide ba2 | exact unhide ba1 | exact Below.refl _ _ | refine Below.drew ?_ | refine below_add ?_ _)))
                  (first
                    | (refine istep0 wc rfl (some 40) rfl (.tmp 36) (.tmp 39) rfl _ rfl (by repeat (first | exact unhide ba3 | exact unhide ba2 | exact unhide ba1 | exact Below.refl _ _ | refine Below.drew ?_ | refine below_add ?_ _)) (by first | exact is_lit wc.drew | exact (is_lit wc.drew).next (below_new _ _) | exact is_lit2 wc _ _) _ _ _ [] rfl ((unhide sA).later (by repeat (first | exact unhide ba3 | exact unhide ba2 | exact unhide ba1 | exact Below.refl _ _ | refine Below.drew ?_ | refine below_add ?_ _))) (unhide nA) (unhide z1) ?_; intro v9 w9 x1 ba1 kp1; replace x1 := hide x1; replace ba1 := hide ba1; replace kp1 := hide kp1)
                    | (refine istep wc rfl (some 46) rfl (.tmp 40) (.tmp 45) rfl _ [] rfl (by repeat (first | exact unhide ba3 | exact unhide ba2 | exact unhide ba1 | exact Below.refl _ _ | refine Below.drew ?_ | refine below_add ?_ _)) (by first | exact (is_lit wc.drew).next (below_new _ _) | exact is_lit2 wc _ _) _ _ _ [x] rfl (by first | exact seg_one (heap_d2a wc _ _ _ _) | exact seg_one (heap_d2b wc _ _ _ _)) (fun h => by cases h) (unhide z3) ?_; intro v10 w10 x2 ba2 kp2; replace x2 := hide x2; replace ba2 := hide ba2; clear kp2)
                    | (refine istep wc rfl (some 46) rfl (.tmp 40) (.tmp 45) rfl v9 _ rfl (by repeat (first | exact unhide ba3 | exact unhide ba2 | exact unhide ba1 | exact Below.refl _ _ | refine Below.drew ?_ | refine below_add ?_ _)) (by first | exact unhide x1 | exact (unhide x1).next (below_new _ _)) _ _ _ [x] rfl (by first | exact seg_one (heap_alloc_new w9 _) | exact seg_one (unhide kp1 _ _ (heap_d2a wc _ _ _ _) (by omega)) | exact seg_one (unhide kp1 _ _ (heap_d2b wc _ _ _ _) (by omega))) (fun h => by cases h) (unhide z2) ?_; intro v10 w10 x2 ba2 kp2; replace x2 := hide x2; replace ba2 := hide ba2; clear kp2)
                    | (refine istep wc rfl (some 50) rfl (.tmp 46) (.tmp 49) rfl v10 _ rfl (by repeat (first | exact unhide ba3 | exact unhide ba2 | exact unhide ba1 | exact Below.refl _ _ | refine Below.drew ?_ | refine below_add ?_ _)) (unhide x2) _ _ _ [] rfl (by first | exact seg_nil _ _ | (simp only [Nat.sub_self]; exact seg_nil _ _)) (by first | exact fun _ => rfl | exact fun h => by cases h) (unhide z3) ?_; intro v11 w11 x3 ba3 kp3; replace x3 := hide x3; replace ba3 := hide ba3; clear kp3))
                all_goals
                  have f1 := unhide x3
                  rw [unhide fin] at f1
                  obtain ⟨a11, c11, rfl⟩ := f1.form
                  rw [unhide finl] at f1 ⊢
                  have f2 := hide (f1.down (unhide bw).size)
                  have f3 := hide ((unhide bw).trans ((unhide ba3).mono (unhide bw).size))
                  clear f1 x2 x3 ba2 ba3
                  go_wp2
                  go_roundw
                  case rel => exact ⟨t + 1, 0 + 1, canon (l.take (t + 1)), a11, c11, by omega, by omega, rfl, by go_num, unhide finl, rfl, unhide f2, unhide f3⟩
                  case measure => simp [intOf] <;> omega
              · have sg : SegK .i64 wc (some ⟨g, 0, none⟩) k C := by
                  obtain ⟨a', c', e', s'⟩ := I7.rd
                  rw [e] at e'
                  injection e' with e1 e2 e3
                  subst e1
                  rw [cl] at s'
                  exact s'
                have hkc : k ≤ cap2 := by rw [← cl]; first | exact y1 | exact y2 | exact y3 | omega
                rw [cl] at e
                injection e with e1 _ e3
                subst e1 e3
                have sA := hide (seg_take sg p hp)
                have nA : Hid (some (⟨g, 0, none⟩ : Addr) = none → cg = 0) := fun h => by cases h
                have pc : p ≤ cg := by omega
                rcases Nat.lt_or_ge p k with hpc | hpc
                · have sB := hide (seg_drop sg p hp)
                  have nB : Hid (some (⟨g, 0 + p, none⟩ : Addr) = none → cg - p = 0) := fun h => by cases h
                  rw [Nat.zero_add] at sB nB
                  have q9 : ¬ cg = p := by omega
                  have q8 : p < cg := by omega
                  clear sg I7 y1 y2 y3 hcc hgb hBg hkc pc hpc
                  go_wp2_with fail
                  go_region_held_law (fun wz => wz.cell? ⟨gl, ol + t, none⟩ = some (.int .i64 x)) (exact unhide hS _ (by repeat (first | exact unhide ba3 | exact unhide ba2 | exact unhide ba1 | exact Below.refl _ _ | refine Below.drew ?_ | refine below_add ?_ _)))
                    (first
                      | (refine istep0 wc rfl (some 40) rfl (.tmp 36) (.tmp 39) rfl _ rfl (by repeat (first | exact unhide ba3 | exact unhide ba2 | exact unhide ba1 | exact Below.refl _ _ | refine Below.drew ?_ | refine below_add ?_ _)) (by first | exact is_lit wc.drew | exact (is_lit wc.drew).next (below_new _ _) | exact is_lit2 wc _ _) _ _ _ (C.take p) rfl ((unhide sA).later (by repeat (first | exact unhide ba3 | exact unhide ba2 | exact unhide ba1 | exact Below.refl _ _ | refine Below.drew ?_ | refine below_add ?_ _))) (unhide nA) (unhide z1) ?_; intro v9 w9 x1 ba1 kp1; replace x1 := hide x1; replace ba1 := hide ba1; replace kp1 := hide kp1)
                      | (refine istep wc rfl (some 46) rfl (.tmp 40) (.tmp 45) rfl v9 _ rfl (by repeat (first | exact unhide ba3 | exact unhide ba2 | exact unhide ba1 | exact Below.refl _ _ | refine Below.drew ?_ | refine below_add ?_ _)) (by first | exact unhide x1 | exact (unhide x1).next (below_new _ _)) _ _ _ [x] rfl (by first | exact seg_one (heap_alloc_new w9 _) | exact seg_one (unhide kp1 _ _ (heap_d2a wc _ _ _ _) (by omega)) | exact seg_one (unhide kp1 _ _ (heap_d2b wc _ _ _ _) (by omega))) (fun h => by cases h) (unhide z2) ?_; intro v10 w10 x2 ba2 kp2; replace x2 := hide x2; replace ba2 := hide ba2; clear kp2)
                      | (refine istep wc rfl (some 50) rfl (.tmp 46) (.tmp 49) rfl v10 _ rfl (by repeat (first | exact unhide ba3 | exact unhide ba2 | exact unhide ba1 | exact Below.refl _ _ | refine Below.drew ?_ | refine below_add ?_ _)) (unhide x2) _ _ _ (C.drop p) rfl ((unhide sB).later (by repeat (first | exact unhide ba3 | exact unhide ba2 | exact unhide ba1 | exact Below.refl _ _ | refine Below.drew ?_ | refine below_add ?_ _))) (unhide nB) (unhide z3) ?_; intro v11 w11 x3 ba3 kp3; replace x3 := hide x3; replace ba3 := hide ba3; clear kp3))
                  all_goals
                    have f1 := unhide x3
                    rw [unhide fin] at f1
                    obtain ⟨a11, c11, rfl⟩ := f1.form
                    rw [unhide finl] at f1 ⊢
                    have f2 := hide (f1.down (unhide bw).size)
                    have f3 := hide ((unhide bw).trans ((unhide ba3).mono (unhide bw).size))
                    clear f1 x1 x2 x3 ba1 ba2 ba3 kp1
                    go_wp2
                    go_roundw
                    case rel => exact ⟨t + 1, k + 1, canon (l.take (t + 1)), a11, c11, by omega, by omega, rfl, by go_num, unhide finl, rfl, unhide f2, unhide f3⟩
                    case measure => simp [intOf] <;> omega
                · have hpk : p = k := by omega
                  have d0 : C.drop p = [] := List.drop_eq_nil_of_le (by omega)
                  rw [d0] at fin
                  subst hpk
                  have z4 : Hid ((C.take p ++ [x]).length + 0 ≤ 2000) := by have := unhide z3; show _ ≤ _; omega
                  clear z3
                  have z3 := z4
                  clear z4 sg I7 y1 y2 y3 hcc hgb hBg d0 hkc hpc cl
                  by_cases q9 : cg = p
                  · have q7 := q9.symm
                    subst q7
                    go_wp2_with fail
                    go_region_held_law (fun wz => wz.cell? ⟨gl, ol + t, none⟩ = some (.int .i64 x)) (exact unhide hS _ (by repeat (first | exact unhide ba3 | exact unhide ba2 | exact unhide ba1 | exact Below.refl _ _ | refine Below.drew ?_ | refine below_add ?_ _)))
                      (first
                        | (refine istep0 wc rfl (some 40) rfl (.tmp 36) (.tmp 39) rfl _ rfl (by repeat (first | exact unhide ba3 | exact unhide ba2 | exact unhide ba1 | exact Below.refl _ _ | refine Below.drew ?_ | refine below_add ?_ _)) (by first | exact is_lit wc.drew | exact (is_lit wc.drew).next (below_new _ _) | exact is_lit2 wc _ _) _ _ _ (C.take p) rfl ((unhide sA).later (by repeat (first | exact unhide ba3 | exact unhide ba2 | exact unhide ba1 | exact Below.refl _ _ | refine Below.drew ?_ | refine below_add ?_ _))) (unhide nA) (unhide z1) ?_; intro v9 w9 x1 ba1 kp1; replace x1 := hide x1; replace ba1 := hide ba1; replace kp1 := hide kp1)
                        | (refine istep wc rfl (some 46) rfl (.tmp 40) (.tmp 45) rfl v9 _ rfl (by repeat (first | exact unhide ba3 | exact unhide ba2 | exact unhide ba1 | exact Below.refl _ _ | refine Below.drew ?_ | refine below_add ?_ _)) (by first | exact unhide x1 | exact (unhide x1).next (below_new _ _)) _ _ _ [x] rfl (by first | exact seg_one (heap_alloc_new w9 _) | exact seg_one (unhide kp1 _ _ (heap_d2a wc _ _ _ _) (by omega)) | exact seg_one (unhide kp1 _ _ (heap_d2b wc _ _ _ _) (by omega))) (fun h => by cases h) (unhide z2) ?_; intro v10 w10 x2 ba2 kp2; replace x2 := hide x2; replace ba2 := hide ba2; clear kp2)
                        | (refine istep wc rfl (some 50) rfl (.tmp 46) (.tmp 49) rfl v10 _ rfl (by repeat (first | exact unhide ba3 | exact unhide ba2 | exact unhide ba1 | exact Below.refl _ _ | refine Below.drew ?_ | refine below_add ?_ _)) (unhide x2) _ _ _ [] rfl (by first | exact seg_nil _ _ | (simp only [Nat.sub_self]; exact seg_nil _ _)) (by first | exact fun _ => rfl | exact fun h => by cases h) (unhide z3) ?_; intro v11 w11 x3 ba3 kp3; replace x3 := hide x3; replace ba3 := hide ba3; clear kp3))
                    all_goals
                      have f1 := unhide x3
                      rw [unhide fin] at f1
                      obtain ⟨a11, c11, rfl⟩ := f1.form
                      rw [unhide finl] at f1 ⊢
                      have f2 := hide (f1.down (unhide bw).size)
                      have f3 := hide ((unhide bw).trans ((unhide ba3).mono (unhide bw).size))
                      clear f1 x1 x2 x3 ba1 ba2 ba3 kp1
                      go_wp2
                      go_roundw
                      case rel => exact ⟨t + 1, p + 1, canon (l.take (t + 1)), a11, c11, by omega, by omega, rfl, by go_num, unhide finl, rfl, unhide f2, unhide f3⟩
                      case measure => simp [intOf] <;> omega
                  · have q8 : p < cg := by omega
                    go_wp2_with fail
                    go_region_held_law (fun wz => wz.cell? ⟨gl, ol + t, none⟩ = some (.int .i64 x)) (exact unhide hS _ (by repeat (first | exact unhide ba3 | exact unhide ba2 | exact unhide ba1 | exact Below.refl _ _ | refine Below.drew ?_ | refine below_add ?_ _)))
                      (first
                        | (refine istep0 wc rfl (some 40) rfl (.tmp 36) (.tmp 39) rfl _ rfl (by repeat (first | exact unhide ba3 | exact unhide ba2 | exact unhide ba1 | exact Below.refl _ _ | refine Below.drew ?_ | refine below_add ?_ _)) (by first | exact is_lit wc.drew | exact (is_lit wc.drew).next (below_new _ _) | exact is_lit2 wc _ _) _ _ _ (C.take p) rfl ((unhide sA).later (by repeat (first | exact unhide ba3 | exact unhide ba2 | exact unhide ba1 | exact Below.refl _ _ | refine Below.drew ?_ | refine below_add ?_ _))) (unhide nA) (unhide z1) ?_; intro v9 w9 x1 ba1 kp1; replace x1 := hide x1; replace ba1 := hide ba1; replace kp1 := hide kp1)
                        | (refine istep wc rfl (some 46) rfl (.tmp 40) (.tmp 45) rfl v9 _ rfl (by repeat (first | exact unhide ba3 | exact unhide ba2 | exact unhide ba1 | exact Below.refl _ _ | refine Below.drew ?_ | refine below_add ?_ _)) (by first | exact unhide x1 | exact (unhide x1).next (below_new _ _)) _ _ _ [x] rfl (by first | exact seg_one (heap_alloc_new w9 _) | exact seg_one (unhide kp1 _ _ (heap_d2a wc _ _ _ _) (by omega)) | exact seg_one (unhide kp1 _ _ (heap_d2b wc _ _ _ _) (by omega))) (fun h => by cases h) (unhide z2) ?_; intro v10 w10 x2 ba2 kp2; replace x2 := hide x2; replace ba2 := hide ba2; clear kp2)
                        | (refine istep wc rfl (some 50) rfl (.tmp 46) (.tmp 49) rfl v10 _ rfl (by repeat (first | exact unhide ba3 | exact unhide ba2 | exact unhide ba1 | exact Below.refl _ _ | refine Below.drew ?_ | refine below_add ?_ _)) (unhide x2) _ _ _ [] rfl (by first | exact seg_nil _ _ | (simp only [Nat.sub_self]; exact seg_nil _ _)) (by first | exact fun _ => rfl | exact fun h => by cases h) (unhide z3) ?_; intro v11 w11 x3 ba3 kp3; replace x3 := hide x3; replace ba3 := hide ba3; clear kp3))
                    all_goals
                      have f1 := unhide x3
                      rw [unhide fin] at f1
                      obtain ⟨a11, c11, rfl⟩ := f1.form
                      rw [unhide finl] at f1 ⊢
                      have f2 := hide (f1.down (unhide bw).size)
                      have f3 := hide ((unhide bw).trans ((unhide ba3).mono (unhide bw).size))
                      clear f1 x1 x2 x3 ba1 ba2 ba3 kp1
                      go_wp2
                      go_roundw
                      case rel => exact ⟨t + 1, p + 1, canon (l.take (t + 1)), a11, c11, by omega, by omega, rfl, by go_num, unhide finl, rfl, unhide f2, unhide f3⟩
                      case measure => simp [intOf] <;> omega
    · obtain rfl : t = n0 := by omega
      have e9 : l.take t = l := by rw [unhide hn0]; exact List.take_length
      rw [e9] at hC
      have I9 := unhide I3
      rw [unhide hC] at I9
      replace I9 := hide I9
      clear e9
      go_wp2
      go_ret
      exact ⟨_, rfl, unhide I9, unhide b3⟩
end Go.Proofs.YtgiklggnolbiiaaGreat

/- The reference's lane, plainly: what its Ask and Leave come to is what the program's do. -/
namespace Go.Proofs.YtgiklggnolbiiaaGreat
open Go.RowKit
variable {H Q : List En}

theorem look_ne {k : Int} {H : List En} (hm : ∀ x ∈ H, md x.2) : (lookD k H != 0) = hasD k H := by
  cases e : hasD k H
  · rw [look_no e]; rfl
  · have : lookD k H ≠ 0 := fun e2 => by rw [(look_zero hm).1 e2] at e; cases e
    simp [this]
theorem look_eq {k : Int} {H : List En} (hm : ∀ x ∈ H, md x.2) : (lookD k H == 0) = !hasD k H := by
  rw [← look_ne hm]
  simp [bne]
/-- Where those that hold something stand ahead, they are as many in all as there stand ahead. -/
theorem cnv_conv (hm : ∀ x ∈ H, md x.2) : ∀ {Q : List En}, Ahead H Q → cnvD H Q = convD H Q
  | [], _ => rfl
  | q :: r, h => by
    obtain ⟨h1, h2⟩ := List.pairwise_cons.1 h
    have ih := cnv_conv hm h2
    unfold convD cnvD
    rw [List.filter_cons, look_ne hm, look_eq hm]
    cases e : hasD q.1 H
    · have h3 : r.filter (fun y => lookD y.1 H != 0) = [] := by
        rw [List.filter_eq_nil_iff]
        intro y hy
        rw [look_ne hm]
        intro e2
        rw [h1 y hy e2] at e
        cases e
      simp [h3]
    · have e3 : (r.filter (fun y => lookD y.1 H != 0)).length = convD H r := ih
      simp [e3]
/-- What the reference's Ask answers, and those that hold and wait behind it. -/
def raskD (who m : Int) (H Q : List En) : Int × List En × List En :=
  if okD who m Q then
    let held := lookD who H
    let y : En := (who, goal held m)
    if held ≠ 0 ∧ y.2 = held then (1, H, Q)
    else
      let n := if held = 0 then Q.length else cnvD H Q
      if n = 0 ∧ fitsL y H = true then (1, putD y H, Q) else (2, H, Q.take n ++ y :: Q.drop n)
  else (0, H, Q)
theorem goal_nz {m : Int} (hk : knownB m = true) (h0 : (m == 0) = false) : goal 0 m ≠ 0 := by
  obtain ⟨j, rfl⟩ := six hk
  have key : ∀ j : Fin 6, ((j.val : Int) == 0) = false → goal 0 (j.val : Int) ≠ 0 := by decide +kernel
  exact key j h0
theorem rask_eq (who m : Int) (h : Fine H Q) : raskD who m H Q = askD who m H Q := by
  unfold raskD askD
  cases hk : okD who m Q
  · rfl
  · rw [if_pos rfl, if_pos rfl]
    obtain ⟨⟨h1, h2⟩, h3⟩ : (knownB m = true ∧ (m == 0) = false) ∧ (lookD who Q == 0) = true := by
      unfold okD at hk
      simpa using hk
    have hc := cnv_conv h.ok.hm h.ahead
    rw [hc]
    dsimp only
    have g0 : lookD who H = 0 → goal (lookD who H) m ≠ 0 := fun e => by rw [e]; exact goal_nz h1 h2
    generalize goal (lookD who H) m = g at g0 ⊢
    generalize lookD who H = d at g0 ⊢
    by_cases e0 : d = 0
    · have g1 := g0 e0
      subst e0
      by_cases e1 : Q.length = 0
      · obtain rfl := List.eq_nil_of_length_eq_zero e1
        cases fitsL (who, g) H <;> simp [passD, waitD, g1]
      · simp [passD, waitD, g1, e1]
    · by_cases e1 : g = d
      · simp [e0, e1]
      · by_cases e2 : convD H Q = 0
        · cases fitsL (who, g) H <;> simp [passD, waitD, e0, e1, e2]
        · simp [passD, waitD, e0, e1, e2]
/-- What the reference's Leave answers, and those that hold and wait behind it: let in one by one. -/
def rgrantD (H : List En) : List En → List Int × List En × List En
  | [] => ([], H, [])
  | x :: r => if fitsL x H then (x.1 :: (rgrantD (putD x H) r).1, (rgrantD (putD x H) r).2) else ([], H, x :: r)
theorem rgrant_eq : ∀ (Q H : List En), rgrantD H Q = ((Q.take (grantD H Q).1).map (·.1), (grantD H Q).2, Q.drop (grantD H Q).1)
  | [], H => rfl
  | x :: r, H => by
    unfold rgrantD
    cases e : fitsL x H
    · rw [grant_stop e]; rfl
    · rw [grant_cons e, rgrant_eq r (putD x H)]; rfl
def rleaveD (who : Int) (H Q : List En) : List Int × List En × List En := rgrantD (fltD who H) (fltD who Q)
theorem rleave_eq (who : Int) (hs : Srt H) (hq : Once Q) : rleaveD who H Q = leaveD who H Q := by
  unfold rleaveD leaveD
  rw [flt_once (srt_once hs), flt_once hq, rgrant_eq]
end Go.Proofs.YtgiklggnolbiiaaGreat
