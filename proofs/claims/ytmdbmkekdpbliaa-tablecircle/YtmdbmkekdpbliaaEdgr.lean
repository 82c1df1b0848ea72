/- The edges of one node. -/
import Derived.Test.YtmdbmkekdpbliaaDropa
import Derived.Test.YtmdbmkekdpbliaaEdga
namespace Go.Proofs.Ytmdbmkekdpbliaa
open Go.RowKit
variable {B b : Nat} {H Q : List En}

/-- Those that x waits for, each with x ahead. -/
def edge1 (H Q : List En) (x : En) : List En := (blocksD x.1 H Q).map (fun t => (x.1, t))
/-- For each one that waits whom it waits for. -/
def edgeL (H Q : List En) : List En := Q.flatMap (edge1 H Q)
theorem flat_take (f : En → List En) (l : List En) (t : Nat) (h : t < l.length) : (l.take (t + 1)).flatMap f = (l.take t).flatMap f ++ f (l.getD t (0, 0)) := by
  rw [List.take_succ_eq_append_getElem h, List.flatMap_append]
  simp [List.getD, h]
theorem map_take (a : Int) (l : List Int) (j : Nat) (h : j < l.length) : ((l.take (j + 1)).map (fun t => ((a, t) : En))) = (l.take j).map (fun t => ((a, t) : En)) ++ [(a, l.getD j 0)] := by
  rw [List.take_succ_eq_append_getElem h, List.map_append]
  simp [List.getD, h]
theorem Is.elem' {B : Nat} {a : Option Addr} {n c : Nat} {l : List Int} {w : World} (h : Is B (.slice a n c) l w) {i : Nat} (hi : i < l.length) : ∃ g o, a = some ⟨g, o, none⟩ ∧ w.cell? ⟨g, o + i, none⟩ = some (.int .i64 (l.getD i 0)) ∧ g < w.heap.size := by
  obtain ⟨a', c', e, sg⟩ := h.rd
  injection e with e1 e2 e3
  subst e1 e3
  obtain ⟨g, o, rfl, d⟩ := seg_at sg hi
  exact ⟨g, o, rfl, d, World.block_lt_of_cell? _ _ d⟩
/-- All cells stay but edges. -/
structure Cw (W W' : World) : Prop where
  same : ∀ (k : Nat) (cur : Array Value) (t : TypeId) (f : Nat × Nat), W.heap[k]? = some (.cells cur t f) → t ≠ 69 → W'.heap[k]? = some (.cells cur t f)
  size : W.heap.size ≤ W'.heap.size
namespace Cw
variable {W W' W'' : World}
theorem refl (W : World) : Cw W W := ⟨fun _ _ _ _ h _ => h, Nat.le_refl _⟩
theorem trans (h : Cw W W') (k : Cw W' W'') : Cw W W'' := ⟨fun j c t f hj ht => k.same j c t f (h.same j c t f hj ht) ht, Nat.le_trans h.size k.size⟩
theorem of (h : Below W.heap.size W W') : Cw W W' := ⟨fun _ _ _ _ hj _ => (h.block _ (heap_lt hj)).trans hj, h.size⟩
theorem row {B : Nat} {v : Value} {l : List En} (h : Pr 69 B v l W) (g : W.grownBy W' v.ownBlock) : Cw W W' := ⟨fun k cur t f hk ht => (g.block k (heap_lt hk) (fun e => by
    obtain ⟨c, hc⟩ := h.ty k e.symm
    rw [hk] at hc
    cases hc
    exact ht rfl)).trans hk, g.size⟩
theorem es {B : Nat} {v : Value} {l : List En} (k : Cw W W') (h : Es B v l W) : Es B v l W' := h.keep fun g hg => by
  obtain ⟨cur, hc⟩ := h.ty g hg
  rw [k.same g _ _ _ hc (by decide), hc]
theorem is {B : Nat} {v : Value} {l : List Int} (k : Cw W W') (h : Is B v l W) : Is B v l W' := h.keep fun g hg => by
  obtain ⟨cur, hc⟩ := h.ty g hg
  rw [k.same g _ _ _ hc (by decide), hc]
theorem la {B b : Nat} {H Q : List En} {hv qv : Value} (k : Cw W W') (h : La B H Q b hv qv W) : La B H Q b hv qv W' := ⟨k.same _ _ _ _ h.blk (by decide), k.es h.hr, k.es h.qr, h.dq, h.bB, h.srt⟩
theorem ln {B b : Nat} {H Q : List En} (k : Cw W W') (h : Ln B H Q b W) : Ln B H Q b W' := by
  obtain ⟨hv, qv, l⟩ := h
  exact ⟨hv, qv, k.la l⟩
theorem tb {B n : Nat} {most : Int} {T : Nat → Lv} {b rb : Nat} {lb : Nat → Nat} {hv qv : Nat → Value} (k : Cw W W') (h : Tb B n most T b rb lb hv qv W) : Tb B n most T b rb lb hv qv W' :=
  ⟨k.same _ _ _ _ h.blk (by decide), ⟨_, k.same _ _ _ _ h.row.choose_spec.1 (by decide), h.row.choose_spec.2⟩, ⟨fun i hi => k.la (h.ls.la i hi), h.ls.inj, h.ls.apart⟩, h.bB, h.rB⟩
end Cw
theorem pr_below {B0 : Nat} {v : Value} {l : List En} {w0 w w' : World} (h : Below B0 w0 w) (p : Pr 69 B0 v l w) (g : w.grownBy w' v.ownBlock) (hB : B0 ≤ w.heap.size) : Below B0 w0 w' := h.trans (grown_below g hB (fun k hk => (p.lt k hk).1))
set_option maxRecDepth 100000 in
set_option maxHeartbeats 4000000 in
theorem edges_r (w : World) (h : Ln B H Q b w) (hn : H.length + Q.length ≤ 400) :
    Calls Try.prog 69 #[.agg #[.pointer (some ⟨b, 0, none⟩)]] w fun e w' => ∃ v, e = .returned v ∧ Pr 69 w.heap.size v (edgeL H Q) w' ∧ Below w.heap.size w w' ∧ (edgeL H Q).length ≤ 160000 := by
  have H1 := hide (h.next (below_new w (.cells #[.pointer (some ⟨b, 0, none⟩)] 95)))
  clear h
  go_enter Try.func69, Try.ntmps69
  go_wp2_with fail
  refine (queue_ln _ (unhide H1) (by omega)).mono ?_
  rintro e w2 ⟨v2, rfl, E2, b2⟩
  have H3 := hide ((unhide H1).next b2)
  have CB : Hid (w2.heap[w.heap.size]? = some (.cells #[.pointer (some ⟨b, 0, none⟩)] 95 (0, 0))) := (b2.block _ (by simp)).trans (heap_alloc_new w _)
  replace b2 := hide (below_then (below_new w _) b2)
  obtain ⟨a2, n2, c2, rfl, hn2⟩ := slice_form' E2
  replace E2 := hide E2
  have hn9 : n2 ≤ 400 := by omega
  replace hn2 := hide hn2
  go_wp2_with fail
  go_loopw [3, 12] (fun s3 s12 wr => ∃ (t c : Nat) (ag : Option Addr) (cg : Nat), t ≤ n2 ∧ c ≤ t * 400 ∧ s3 = .slice ag c cg ∧ s12 = .int .i64 t ∧ Hid (((Q.take t).flatMap (edge1 H Q)).length = c) ∧ Hid (Pr 69 w.heap.size (.slice ag c cg) ((Q.take t).flatMap (edge1 H Q)) wr) ∧ Hid (Cw w2 wr) ∧ Hid (Below w.heap.size w wr)) (fun _ s12 _ => n2 - (intOf s12).toNat)
  case atStart => exact ⟨0, 0, none, 0, Nat.zero_le _, Nat.zero_le _, rfl, rfl, rfl, Pr.nil _ _ _, Cw.refl _, unhide b2⟩
  case round =>
    obtain ⟨t, c, ag, cg, ht, hct, rfl, rfl, hl, P3, k3, b3⟩ := hrel
    by_cases hlt : t < n2
    · have hlt2 : t < Q.length := by have := unhide hn2; omega
      obtain ⟨g, rfl, r⟩ : ∃ g, a2 = some ⟨g, 0, none⟩ ∧ Rb g c2 Q wr := by
        rcases (unhide k3).es (unhide E2) with ⟨_, e⟩ | ⟨g, cap', e, _, r⟩
        · rw [e] at hlt2; simp at hlt2
        · injection e with e1 _ e2
          subst e1 e2
          exact ⟨g, rfl, r⟩
      obtain ⟨x, hx⟩ : ∃ x, x = Q.getD t (0, 0) := ⟨_, rfl⟩
      have d1 : wr.cell? ⟨g, t * 2, none⟩ = some (.int .i64 x.1) := by rw [hx]; exact r.fst hlt2
      have d2 : wr.cell? ⟨g, t * 2 + 1, none⟩ = some (.int .i64 x.2) := by rw [hx]; exact r.snd hlt2
      obtain ⟨W1, hW1⟩ : ∃ W1, W1 = wr.alloc (.cells #[.int .i64 x.1, .int .i64 x.2] 41) := ⟨_, rfl⟩
      have BW : Below wr.heap.size wr W1 := by rw [hW1]; exact below_new wr _
      have X1 : W1.heap[wr.heap.size]? = some (.cells #[.int .i64 x.1, .int .i64 x.2] 41 (0, 0)) := by rw [hW1]; exact heap_alloc_new wr _
      have H4 := hide (((unhide k3).ln (unhide H3)).next BW)
      have cb1 := (BW.block _ (heap_lt ((unhide k3).same _ _ _ _ (unhide CB) (by decide)))).trans ((unhide k3).same _ _ _ _ (unhide CB) (by decide))
      have cb0 : W1.cell? ⟨w.heap.size, 0, none⟩ = some (.pointer (some ⟨b, 0, none⟩)) := by simp [World.cell?, cb1]
      have cb : (wr.alloc (.cells #[.int .i64 x.1, .int .i64 x.2] 41)).cell? ⟨w.heap.size, 0, none⟩ = some (.pointer (some ⟨b, 0, none⟩)) := by rw [← hW1]; exact cb0
      obtain ⟨bl, hbl⟩ : ∃ bl, bl = blocksD x.1 H Q := ⟨_, rfl⟩
      have hbl9 : bl.length ≤ 400 := by have := blocks_len (H := H) (Q := Q) x.1; rw [hbl]; omega
      have hstep : Hid ((Q.take (t + 1)).flatMap (edge1 H Q) = (Q.take t).flatMap (edge1 H Q) ++ bl.map (fun z => ((x.1, z) : En))) := by
        show _ = _
        rw [flat_take _ _ _ hlt2, ← hx, hbl]; rfl
      have hct9 : c ≤ 160000 := by omega
      generalize (Q.take t).flatMap (edge1 H Q) = L0 at hl P3 hstep
      replace hbl := hide hbl
      replace hx := hide hx
      clear r
      go_wp2_with fail
      refine (blocks_ln _ (by rw [← hW1]; exact unhide H4) (by omega) x.1 (unhide hbl).symm).mono ?_
      rw [← hW1]
      rintro e w5 ⟨v5, rfl, I5, b5⟩
      have x5 := (b5.block _ (heap_lt X1)).trans X1
      have bw5 := below_then BW b5
      have P5 := hide ((unhide P3).next bw5)
      obtain ⟨a5, c5, rfl⟩ := I5.form
      replace I5 := hide I5
      have b6 := hide (below_then (unhide b3) bw5)
      have k6 := hide ((unhide k3).trans (Cw.of bw5))
      have Y1 := hide x5
      replace hW1 := hide hW1
      clear cb cb0 cb1 d1 d2 X1 x5 bw5 BW b5
      go_wp2_with fail
      go_loopw [3, 22] (fun s3 s22 wq => ∃ (j c3 : Nat) (ag : Option Addr) (cg : Nat) (wz : World), j ≤ bl.length ∧ c3 ≤ c + j ∧ s3 = .slice ag c3 cg ∧ s22 = .int .i64 j ∧ wz = wq ∧ Hid ((L0 ++ (bl.take j).map (fun z => ((x.1, z) : En))).length = c3) ∧ Hid (Pr 69 w.heap.size (.slice ag c3 cg) (L0 ++ (bl.take j).map (fun z => ((x.1, z) : En))) wz) ∧ Hid (Cw w5 wz) ∧ Hid (Below w.heap.size w wz)) (fun _ s22 _ => bl.length - (intOf s22).toNat)
      case atStart => exact ⟨0, c, ag, cg, _, Nat.zero_le _, Nat.le_refl _, rfl, rfl, rfl, by simpa [Hid] using unhide hl, by simpa [Hid] using unhide P5, Cw.refl _, unhide b6⟩
      case round =>
        obtain ⟨j, c3, ag3, cg3, wq, hj, hc3, rfl, rfl, hwz, hl3, P6, k7, b7⟩ := hrel
        subst hwz
        by_cases hlj : j < bl.length
        · obtain ⟨gg, o, rfl, e1, _⟩ := ((unhide k7).is (unhide I5)).elem' hlj
          obtain ⟨z, hz⟩ : ∃ z, z = bl.getD j 0 := ⟨_, rfl⟩
          rw [← hz] at e1
          have y3 := (unhide k7).same _ _ _ _ (unhide Y1) (by decide)
          have y2 : wq.cell? ⟨wr.heap.size, 0, none⟩ = some (.int .i64 x.1) := by simp [World.cell?, y3]
          have hm := hide (map_take x.1 bl j hlj)
          rw [← hz] at hm
          have hsz : Hid (w.heap.size ≤ wq.heap.size) := (unhide b7).size
          have hc9 : c3 < 10000000 := by omega
          replace hz := hide hz
          clear y3
          go_wp2_with (at_builtin; refine wpList_pair 69 66 Try.underlying66 inf69 wq rfl (.tmp 26) (.tmp 31) rfl w.heap.size ag3 c3 cg3 _ ((x.1, z) : En) _ rfl rfl rfl (unhide hl3) (unhide P6) (unhide hsz) hc9 ?_; intro g7 cap7 w7 a1 a2; replace a1 := hide a1; replace a2 := hide a2)
          go_roundw
          case rel =>
            refine ⟨j + 1, c3 + 1, some ⟨g7, 0, none⟩, cap7, _, by omega, by omega, rfl, by go_num, rfl, ?_, ?_, ?_, ?_⟩
            · show _ = _
              rw [unhide hm, ← List.append_assoc, List.length_append, unhide hl3]; rfl
            · show Pr _ _ _ _ _
              rw [unhide hm, ← List.append_assoc]
              exact unhide a1
            · exact (unhide k7).trans (Cw.row (unhide P6) (unhide a2))
            · exact pr_below (unhide b7) (unhide P6) (unhide a2) (unhide b7).size
          case measure => simp [intOf]; omega
        · obtain rfl : j = bl.length := by omega
          have e1 : Hid (L0 ++ (bl.take bl.length).map (fun z => ((x.1, z) : En)) = (Q.take (t + 1)).flatMap (edge1 H Q)) := by
            show _ = _
            rw [List.take_length, unhide hstep]
          rw [unhide e1] at hl3 P6
          go_wp2
          go_roundw
          case rel => exact ⟨t + 1, c3, ag3, cg3, by omega, by omega, rfl, by go_num, unhide hl3, unhide P6, (unhide k6).trans (unhide k7), unhide b7⟩
          case measure => simp [intOf]; omega
    · obtain rfl : t = n2 := by omega
      have e1 : Hid ((Q.take t).flatMap (edge1 H Q) = edgeL H Q) := by
        show _ = _
        rw [List.take_of_length_le (by have := unhide hn2; omega)]; rfl
      rw [unhide e1] at hl P3
      have hle : Hid ((edgeL H Q).length ≤ 160000) := by have := unhide hl; show _ ≤ _; omega
      go_wp2
      go_ret
      exact ⟨_, rfl, unhide P3, unhide b3, unhide hle⟩
end Go.Proofs.Ytmdbmkekdpbliaa
