/- Texts of this claim, put together in their order. -/
import Derived.Test.YtdhpahopfmcdkaaOfTabledrops1
import Derived.Test.YtdhpahopfmcdkaaOfTabledrops2
import Derived.Test.YtdhpahopfmcdkaaOfTabledrops3
import Derived.Test.YtdhpahopfmcdkaaOfTabledrops4
import Derived.Test.YtdhpahopfmcdkaaOfTabledrops5
import Derived.Test.YtdhpahopfmcdkaaOfTabledrops6
import Derived.Test.YtdhpahopfmcdkaaOfTabledrops7
/- Drop: its loop over slices.Backward. -/
namespace Go.Proofs.Ytdhpahopfmcdkaa
open Go.RowKit Go.Shelf
variable {X : Nat → Prop}

attribute [local go_sem] Oper.semAt_some

/-- Between two rounds: pre has come; the box of who is P, that of the answer G; the answer's own row lies at or above M. -/
def Dr (X : Nat → Prop) (B N : Nat) (most : Int) (T : Nat → Lv) (b rb : Nat) (lb : Nat → Nat) (who : Int) (w0 : World) (P G M : Nat) (pre : List { x : Nat // x < N }) (W : World) : Prop :=
  (∃ hv qv gv, (Tb B N most (dropD who T (pre.map (·.1))).2 b rb lb hv qv W ∧ Fn X N P lb hv qv) ∧ W.heap[G]? = some (.cells #[gv] 34 (0, 0)) ∧ Is M gv (dropD who T (pre.map (·.1))).1 W ∧ W.heap[P]? = some (.cells #[.int .i64 who] 3 (0, 0)) ∧
    Gd N 1000 (dropD who T (pre.map (·.1))).2 ∧ (dropD who T (pre.map (·.1))).1.length ≤ pre.length * 1000 ∧ P < M ∧ M ≤ W.heap.size ∧ Kr X w0 W) ∧ Below B w0 W
theorem dr_own {B N : Nat} {most : Int} {T : Nat → Lv} {b rb : Nat} {lb : Nat → Nat} {who : Int} {w0 : World} {P G M B0 : Nat} (h0 : B ≤ w0.heap.size) (h1 : B ≤ B0) : OwnFrom B0 (Dr X B N most T b rb lb who w0 P G M) :=
  fun pre W W' row hs hg hr => by
    obtain ⟨⟨hv, qv, gv, h1', h2, h3, h4, h5, h6, h7, h8, h9⟩, hB⟩ := hs
    have k := cz_own hg hr
    exact ⟨⟨hv, qv, gv, ⟨h1'.1.cz k, h1'.2⟩, k _ _ _ _ h2, h3.cz k, k _ _ _ _ h4, h5, h6, h7, Nat.le_trans h8 hg.size, fun j c t hj ht => k _ _ _ _ (h9 j c t hj ht)⟩, ownFrom_below (β := Unit) h0 h1 () W W' row hB hg hr⟩
theorem dr_next {B N : Nat} {most : Int} {T : Nat → Lv} {b rb : Nat} {lb : Nat → Nat} {who : Int} {w0 : World} {P G M : Nat} {pre : List { x : Nat // x < N }} {W W' : World} (h : Dr X B N most T b rb lb who w0 P G M pre W) (k : Below W.heap.size W W') (hB : B ≤ w0.heap.size) : Dr X B N most T b rb lb who w0 P G M pre W' := by
  obtain ⟨⟨hv, qv, gv, h1, h2, h3, h4, h5, h6, h7, h8, h9⟩, hb⟩ := h
  exact ⟨⟨hv, qv, gv, ⟨h1.1.next k, h1.2⟩, (k.block _ (heap_lt h2)).trans h2, h3.next k, (k.block _ (heap_lt h4)).trans h4, h5, h6, h7, Nat.le_trans h8 k.size, kr_t h9 (below_kr k)⟩, bt hb k (Nat.le_trans hB hb.size)⟩
/-- The loop's variable lies in a box of its own. -/
def Axr (N : Nat) (lb : Nat → Nat) (a0 : Nat → Nat → Act) (x : { x : Nat // x < N }) (a' : Act) (W : World) : Prop := ∃ R, W.heap[R]? = some (.cells #[.pointer (some ⟨lb x.1, 0, none⟩)] 107 (0, 0)) ∧ a' = a0 R x.1
theorem drop_end (who : Int) (T : Nat → Lv) (N : Nat) (ys : List { x : Nat // x < N }) (h : ys.map (·.1) = dn N 0) : dropD who T (ys.map (·.1)) = dropD who T (dn N 0) := by rw [h]
set_option maxRecDepth 100000 in
set_option maxHeartbeats 4000000 in
theorem drop_t {B N : Nat} {most : Int} {T : Nat → Lv} {b rb : Nat} {lb : Nat → Nat} {hv qv : Nat → Value} (w : World) (h : Tb B N most T b rb lb hv qv w) (hgd : Gd N 1000 T) (hN : N ≤ 10000) (who : Int) (hX : Fn X N w.heap.size lb hv qv) :
    Calls Try.prog 30 #[.pointer (some ⟨b, 0, none⟩), .int .i64 who] w fun e w' => ∃ gv hv' qv' M, e = .returned gv ∧ w.heap.size ≤ M ∧ Is M gv (dropD who T (dn N 0)).1 w' ∧ Tb B N most (dropD who T (dn N 0)).2 b rb lb hv' qv' w' ∧ Below B w w' ∧ Kr X w w' ∧ Fn X N w.heap.size lb hv' qv' := by
  refine (callsIn_wide (n := 4)).1 ?_
  have HT := hide h
  obtain ⟨W1, hW1⟩ : ∃ W1, W1 = (w.alloc (.cells #[.int .i64 who] 3)).alloc (.cells #[.slice none 0 0] 34) := ⟨_, rfl⟩
  have bW : Below w.heap.size w W1 := by rw [hW1]; exact below_add (below_new w _) _
  have c0 : ((w.alloc (.cells #[.int .i64 who] 3)).alloc (.cells #[.slice none 0 0] 34)).cell? ⟨b, 0, none⟩ = some (.slice (some ⟨rb, 0, none⟩) N N) := by rw [← hW1]; exact (h.next bW).c0
  clear h
  refine callsIn_of_wp_marks Try.func30 rfl trivial ?_ rfl
  simp only [Try.ntmps30, List.size_toArray, List.length_cons, List.length_nil, Nat.reduceAdd, Nat.reduceSub, Array.replicate_succ, Array.replicate_zero, List.push_toArray, List.append_toArray, List.nil_append, List.cons_append]
  gi_wp2_with (refine ⟨trivial, ?_⟩; gi_at_call 75; refine (back_in Fence.wide (4 - 1) trivial rfl _ _ _ _).mono ?_; rintro e w' ⟨rfl, rfl⟩)
  have hT := unhide HT
  obtain ⟨P, hP⟩ : ∃ P, P = w.heap.size := ⟨_, rfl⟩
  have hlow : B ≤ w.heap.size := hT.low
  obtain ⟨W2, hW2⟩ : ∃ W2, W2 = ((w.alloc (.cells #[.int .i64 who] 3)).alloc (.cells #[.slice none 0 0] 34)).alloc (.cells #[.slice (some ⟨rb, 0, none⟩) N N] 53) := ⟨_, rfl⟩
  have b2 : Below w.heap.size w W2 := by rw [hW2]; exact below_add (below_add (below_new w _) _) _
  have o1 : W2.heap[P]? = some (.cells #[.int .i64 who] 3 (0, 0)) := by
    rw [hW2, hP]
    exact ((below_add (below_new (w.alloc (.cells #[.int .i64 who] 3)) _) _).block _ (by simp)).trans (heap_alloc_new w _)
  have o2 : W2.heap[P + 1]? = some (.cells #[.slice none 0 0] 34 (0, 0)) := by
    rw [hW2, hP]
    have := heap_alloc_new (w.alloc (.cells #[.int .i64 who] 3)) (.cells #[.slice none 0 0] 34)
    rw [World.size_alloc] at this
    exact ((below_new _ _).block _ (by simp)).trans this
  have o3 : W2.heap[P + 1 + 1]? = some (.cells #[.slice (some ⟨rb, 0, none⟩) N N] 53 (0, 0)) := by
    rw [hW2, hP]
    have := heap_alloc_new ((w.alloc (.cells #[.int .i64 who] 3)).alloc (.cells #[.slice none 0 0] 34)) (.cells #[.slice (some ⟨rb, 0, none⟩) N N] 53)
    rw [World.size_alloc, World.size_alloc] at this
    exact this
  have osz : W2.heap.size = P + 3 := by rw [hW2, hP]; simp
  have T2 := hT.next b2
  rw [← hW2, ← hP]
  have I0 : Dr X B N most T b rb lb who w P (P + 1) W2.heap.size [] W2 := ⟨⟨hv, qv, .slice none 0 0, ⟨T2, by rw [hP]; exact hX⟩, o2, is_nil _ _, o1, hgd, by simp [dropD], by omega, Nat.le_refl _, below_kr b2⟩, b2.mono hlow⟩
  have hB2 : B ≤ W2.heap.size := Nat.le_trans hlow b2.size
  have hBG : B ≤ P + 1 := by omega
  replace hP := hide hP
  replace hW2 := hide hW2
  replace hW1 := hide hW1
  clear c0 bW
  refine wpIn_rangeFunc_ownH (α := { x : Nat // x < N }) rfl (by omega) (gf := 107) (lb := #[.pointer (some ⟨P + 1 + 1, 0, none⟩)]) rfl trivial (enters_of Try.func107 (by kernel_rfl) rfl)
    (back_stops (X := X) Fence.wide (4 - 1) trivial rfl (by omega) (P + 1 + 1) rb N lb hN W2 o3 T2.row) (kr_t (X := X)) (fun W l o o' _ h1 h2 _ => kr_b W l o o' h1 h2) (Below.refl _ _) (fun _ => rfl)
    (Dr X B N most T b rb lb who w P (P + 1) W2.heap.size) (fun _ _ _ => False) (dr_own hlow hB2) (fun _ _ _ _ _ hs _ _ => hs) I0
    (Axr N lb (fun R x => { tmps := #[.pointer (some ⟨b, 0, none⟩), .int .i64 who, undef, .pointer (some ⟨P, 0, none⟩), .slice none 0 0, .pointer (some ⟨P + 1, 0, none⟩), undef, .pointer (some ⟨R, 0, none⟩), .pointer (some ⟨b, 0, none⟩), .pointer (some ⟨b, 0, none⟩), .pointer (some ⟨b, 0, none⟩), .pointer (some ⟨b, 0, none⟩), .slice (some ⟨rb, 0, none⟩) N N, .func (.func 107) #[] #[.pointer (some ⟨P + 1 + 1, 0, none⟩)], .int .i64 (x : Int), .agg #[.pointer (some ⟨lb x, 0, none⟩)], undef, undef, undef, undef, undef, undef, undef, undef, undef, undef], defers := [] }))
    (fun x a' _ W W' row hs hg hr => by
      obtain ⟨R, h1, h2⟩ := hs
      exact ⟨R, cz_own hg hr _ _ _ _ h1, h2⟩) ?assign ?body ?done ?stop
  case assign =>
    rintro l pre x W K hI hK
    have hnx := dr_next hI (below_new W (.cells #[.pointer (some ⟨lb x.1, 0, none⟩)] 107)) hlow
    gi_wp2
    exact hK _ _ ((KeepsOthers.alloc _ _).from _) (kr_alloc _ _) hnx ⟨W.heap.size, heap_alloc_new W _, rfl⟩
  case body =>
    rintro l pre ⟨k, hk⟩ a' W hl hrec ⟨⟨hv1, qv1, gv, t1, g1, i1, p1, G1, l1, hPM, hMW, hKr⟩, hB⟩ ⟨R, hR, rfl⟩ hlt
    have hsn : dropD who T ((pre ++ [(⟨k, hk⟩ : { x : Nat // x < N })]).map (·.1)) = dropS who (dropD who T (pre.map (·.1))) k := by rw [List.map_append]; exact drop_snoc _ _ _ _
    have hpl : (pre ++ [(⟨k, hk⟩ : { x : Nat // x < N })]).length = pre.length + 1 := by simp
    obtain ⟨s, hs⟩ : ∃ s, s = dropD who T (pre.map (·.1)) := ⟨_, rfl⟩
    rw [← hs] at hsn t1 i1 G1 l1
    replace hs := hide hs
    have la := t1.1.ls.la k hk
    have hsum := G1.sum k hk
    have cR : W.cell? ⟨R, 0, none⟩ = some (.pointer (some ⟨lb k, 0, none⟩)) := by simp [World.cell?, hR]
    have cP : W.cell? ⟨P, 0, none⟩ = some (.int .i64 who) := by simp [World.cell?, p1]
    have Gd2 := gd_drop (who := who) hk la.srt G1
    have Ln2 := drop_len (who := who) (s := s) hk G1
    have cH := hide (has_r (x := s.2 k) W ⟨_, _, la⟩ (by omega) (by omega) who rfl)
    cases hh : hasL who (s.2 k)
    · have e1 : dropS who s k = s := by unfold dropS; rw [hh]; rfl
      rw [hh] at cH
      gi_wp2_with (refine ⟨trivial, ?_⟩; gi_at_call 76; refine (CallsIn.inRound l (callsIn_wide.2 (unhide cH))).mono ?_; rintro e w5 ⟨rfl, b5⟩)
      refine ⟨(below_others b5).from _, below_kr b5, ⟨hv1, qv1, gv, ?_, (b5.block _ (heap_lt g1)).trans g1, ?_, (b5.block _ (heap_lt p1)).trans p1, ?_, ?_, hPM, Nat.le_trans hMW b5.size, kr_t hKr (below_kr b5)⟩, bt hB b5 (Nat.le_trans hlow hB.size)⟩
      · rw [hsn, e1]; exact ⟨t1.1.next b5, t1.2⟩
      · rw [hsn, e1]; exact i1.next b5
      · rw [hsn, e1]; exact G1
      · rw [hsn, e1, hpl]; omega
    · obtain ⟨x, hx⟩ : ∃ x, x = leaveD who (s.2 k).1 (s.2 k).2 := ⟨_, rfl⟩
      have e1 : dropS who s k = (s.1 ++ x.1, upd s.2 k x.2) := by unfold dropS; rw [hh, hx]; rfl
      have hxl : x.1.length ≤ 1000 := by
        have := leave_few (who := who) (H := (s.2 k).1) (Q := (s.2 k).2)
        rw [← hx] at this
        omega
      rw [hh] at cH
      replace hx := hide hx
      have key := hide (fun (w5 : World) (b5 : Below W.heap.size W w5) => leave_any w5 ((t1.1.next b5).ls.la k hk) (by omega) who)
      have rnd := hide (fun (w5 : World) (b5 : Below W.heap.size W w5) (gl hv' qv' : Value) (w6 : World) => drop_round (gl := gl) (hv' := hv') (qv' := qv') (l := x.1) (x := x.2) (w6 := w6) (t1.1.next b5) ((b5.block _ (heap_lt g1)).trans g1) (i1.next b5) ((b5.block _ (heap_lt p1)).trans p1) hPM (Nat.le_trans hMW b5.size) t1.2 (Nat.lt_succ_self P) hk)
      have fin : Hid (∀ (V : World) (_ : Below W.heap.size W V) (v' : Value) (w8 : World) (hv2 qv2 : Nat → Value), KeepsOthers V w8 → Kr X V w8 → (Tb B N most (upd s.2 k x.2) b rb lb hv2 qv2 w8 ∧ Fn X N P lb hv2 qv2) → w8.heap[P + 1]? = some (.cells #[v'] 34 (0, 0)) → Is W2.heap.size v' (s.1 ++ x.1) w8 →
          w8.heap[P]? = some (.cells #[.int .i64 who] 3 (0, 0)) → V.heap.size ≤ w8.heap.size → (B ≤ P + 1 → Below B V w8) → KeepsFrom W2.heap.size W w8 ∧ Kr X W w8 ∧ Dr X B N most T b rb lb who w P (P + 1) W2.heap.size (pre ++ [⟨k, hk⟩]) w8) := by
        intro V bV v' w8 hv2 qv2 f1 f2 f3 f4 f5 f6 f7 f8
        refine ⟨((below_others bV).trans f1).from _, kr_t (below_kr bV) f2, ⟨hv2, qv2, v', ?_, f4, ?_, f6, ?_, ?_, hPM, Nat.le_trans hMW (Nat.le_trans bV.size f7), kr_t hKr (kr_t (below_kr bV) f2)⟩, ?_⟩
        · rw [hsn, e1]; exact f3
        · rw [hsn, e1]; exact f5
        · rw [hsn]; exact Gd2
        · rw [hsn, hpl]; omega
        · exact (bt hB bV (Nat.le_trans hlow hB.size)).trans (f8 hBG)
      have HR := hide hR
      have HG := hide g1
      have HP1 := hide p1
      have hls : s.1.length + x.1.length ≤ 100000000 := by omega
      replace e1 := hide e1
      gi_wp2_with (refine ⟨trivial, ?_⟩; gi_at_call 76; refine (CallsIn.inRound l (callsIn_wide.2 (unhide cH))).mono ?_; rintro e w5 ⟨rfl, b5⟩)
      have r5 := (b5.block _ (heap_lt (unhide HR))).trans (unhide HR)
      have g5 := (b5.block _ (heap_lt (unhide HG))).trans (unhide HG)
      have p5 := (b5.block _ (heap_lt (unhide HP1))).trans (unhide HP1)
      have k1 : w5.cell? ⟨R, 0, none⟩ = some (.pointer (some ⟨lb k, 0, none⟩)) := by simp [World.cell?, r5]
      have k2 : w5.cell? ⟨P, 0, none⟩ = some (.int .i64 who) := by simp [World.cell?, p5]
      have k3 : w5.cell? ⟨P + 1, 0, none⟩ = some gv := by simp [World.cell?, g5]
      have b5d : Below W.heap.size W w5.drew := b5.drew
      replace b5d := hide b5d
      clear r5 g5 p5
      have hmx : Try.prog.follows .mixedOrders = true := by kernel_rfl
      refine wpIn_region_any hmx ?_
      change wpAnyIn _ _ _ _ _ _ _ _ _ (World.drew _)
      refine wpAnyIn_ready (rs := [0, 1, 3]) (by kernel_rfl) (by simp) ?_
      refine AllReadyIn.cons rfl (fun K hK => ?_) ?_
      · go_simp
        refine hK _ _ ?_
        clear hK K
        refine wpAnyIn_ready (rs := [1, 3]) (by kernel_rfl) (by simp) ?_
        refine AllReadyIn.cons rfl (fun K hK => ?_) ?_
        · go_simp
          refine hK _ _ ?_
          clear hK K
          refine wpAnyIn_ready (rs := [2, 3]) (by kernel_rfl) (by simp) ?_
          refine AllReadyIn.cons rfl (fun K hK => ?_) ?_
          · go_simp
            refine hK _ _ ?_
            clear hK K
            refine wpAnyIn_ready (rs := [3]) (by kernel_rfl) (by simp) ?_
            refine AllReadyIn.cons rfl (fun K hK => ?_) ?_
            · go_simp
              refine hK _ _ ?_
              clear hK K
              refine wpAnyIn_ready (rs := [4]) (by kernel_rfl) (by simp) ?_
              refine AllReadyIn.cons rfl (fun K hK => ?_) ?_
              · go_simp
                gi_wp2_with (refine ⟨trivial, ?_⟩; gi_at_call 15; refine (CallsIn.inRound l (callsIn_wide.2 (unhide key _ (unhide b5d)))).mono ?_; rintro e w6 ⟨gl, hv', qv', rfl, I6, L6, M6⟩)
                rw [← unhide hx] at I6 L6
                obtain ⟨q1, v', w7, happ, q2, q3, f1, f2, f3, f4, f5, f6, f7, f8⟩ := unhide rnd _ (unhide b5d) gl hv' qv' w6 I6 L6 M6 hls hB2
                clear I6 L6 M6
                obtain ⟨a9, n9, c9, rfl⟩ : ∃ a n c, v' = Value.slice a n c := (by obtain ⟨a, c, e⟩ := f5.form; exact ⟨a, _, c, e⟩)
                replace f1 := hide f1
                replace f2 := hide f2
                replace f3 := hide f3
                replace f4 := hide f4
                replace f5 := hide f5
                replace f6 := hide f6
                replace f7 := hide f7
                replace f8 := hide f8
                refine wpAnyIn_ready (rs := [5]) (by kernel_rfl) (by simp) ?_
                refine AllReadyIn.cons rfl (fun K hK => ?_) ?_
                · refine stepIn_app rfl (.tmp 19) (.tmp 23) rfl rfl rfl happ ?_
                  refine hK _ _ ?_
                  clear hK K
                  refine wpAnyIn_ready (rs := [6]) (by kernel_rfl) (by simp) ?_
                  refine AllReadyIn.cons rfl (fun K hK => ?_) ?_
                  · go_simp
                    refine hK _ _ ?_
                    clear hK K
                    refine wpAnyIn_done (by kernel_rfl) ?_ _
                    exact unhide fin _ (unhide b5d) _ _ _ _ (unhide f1) (unhide f2) (unhide f3) (unhide f4) (unhide f5) (unhide f6) (unhide f7) (unhide f8)
                  exact AllReadyIn.nil
                exact AllReadyIn.nil
              exact AllReadyIn.nil
            exact AllReadyIn.nil
          refine AllReadyIn.cons rfl (fun K hK => ?_) ?_
          · go_simp
            refine hK _ _ ?_
            clear hK K
            refine wpAnyIn_ready (rs := [2]) (by kernel_rfl) (by simp) ?_
            refine AllReadyIn.cons rfl (fun K hK => ?_) ?_
            · go_simp
              refine hK _ _ ?_
              clear hK K
              refine wpAnyIn_ready (rs := [4]) (by kernel_rfl) (by simp) ?_
              refine AllReadyIn.cons rfl (fun K hK => ?_) ?_
              · go_simp
                gi_wp2_with (refine ⟨trivial, ?_⟩; gi_at_call 15; refine (CallsIn.inRound l (callsIn_wide.2 (unhide key _ (unhide b5d)))).mono ?_; rintro e w6 ⟨gl, hv', qv', rfl, I6, L6, M6⟩)
                rw [← unhide hx] at I6 L6
                obtain ⟨q1, v', w7, happ, q2, q3, f1, f2, f3, f4, f5, f6, f7, f8⟩ := unhide rnd _ (unhide b5d) gl hv' qv' w6 I6 L6 M6 hls hB2
                clear I6 L6 M6
                obtain ⟨a9, n9, c9, rfl⟩ : ∃ a n c, v' = Value.slice a n c := (by obtain ⟨a, c, e⟩ := f5.form; exact ⟨a, _, c, e⟩)
                replace f1 := hide f1
                replace f2 := hide f2
                replace f3 := hide f3
                replace f4 := hide f4
                replace f5 := hide f5
                replace f6 := hide f6
                replace f7 := hide f7
                replace f8 := hide f8
                refine wpAnyIn_ready (rs := [5]) (by kernel_rfl) (by simp) ?_
                refine AllReadyIn.cons rfl (fun K hK => ?_) ?_
                · refine stepIn_app rfl (.tmp 19) (.tmp 23) rfl rfl rfl happ ?_
                  refine hK _ _ ?_
                  clear hK K
                  refine wpAnyIn_ready (rs := [6]) (by kernel_rfl) (by simp) ?_
                  refine AllReadyIn.cons rfl (fun K hK => ?_) ?_
                  · go_simp
                    refine hK _ _ ?_
                    clear hK K
                    refine wpAnyIn_done (by kernel_rfl) ?_ _
                    exact unhide fin _ (unhide b5d) _ _ _ _ (unhide f1) (unhide f2) (unhide f3) (unhide f4) (unhide f5) (unhide f6) (unhide f7) (unhide f8)
                  exact AllReadyIn.nil
                exact AllReadyIn.nil
              exact AllReadyIn.nil
            exact AllReadyIn.nil
          exact AllReadyIn.nil
        refine AllReadyIn.cons rfl (fun K hK => ?_) ?_
        · go_simp
          refine hK _ _ ?_
          clear hK K
          refine wpAnyIn_ready (rs := [1]) (by kernel_rfl) (by simp) ?_
          refine AllReadyIn.cons rfl (fun K hK => ?_) ?_
          · go_simp
            refine hK _ _ ?_
            clear hK K
            refine wpAnyIn_ready (rs := [2]) (by kernel_rfl) (by simp) ?_
            refine AllReadyIn.cons rfl (fun K hK => ?_) ?_
            · go_simp
              refine hK _ _ ?_
              clear hK K
              refine wpAnyIn_ready (rs := [4]) (by kernel_rfl) (by simp) ?_
              refine AllReadyIn.cons rfl (fun K hK => ?_) ?_
              · go_simp
                gi_wp2_with (refine ⟨trivial, ?_⟩; gi_at_call 15; refine (CallsIn.inRound l (callsIn_wide.2 (unhide key _ (unhide b5d)))).mono ?_; rintro e w6 ⟨gl, hv', qv', rfl, I6, L6, M6⟩)
                rw [← unhide hx] at I6 L6
                obtain ⟨q1, v', w7, happ, q2, q3, f1, f2, f3, f4, f5, f6, f7, f8⟩ := unhide rnd _ (unhide b5d) gl hv' qv' w6 I6 L6 M6 hls hB2
                clear I6 L6 M6
                obtain ⟨a9, n9, c9, rfl⟩ : ∃ a n c, v' = Value.slice a n c := (by obtain ⟨a, c, e⟩ := f5.form; exact ⟨a, _, c, e⟩)
                replace f1 := hide f1
                replace f2 := hide f2
                replace f3 := hide f3
                replace f4 := hide f4
                replace f5 := hide f5
                replace f6 := hide f6
                replace f7 := hide f7
                replace f8 := hide f8
                refine wpAnyIn_ready (rs := [5]) (by kernel_rfl) (by simp) ?_
                refine AllReadyIn.cons rfl (fun K hK => ?_) ?_
                · refine stepIn_app rfl (.tmp 19) (.tmp 23) rfl rfl rfl happ ?_
                  refine hK _ _ ?_
                  clear hK K
                  refine wpAnyIn_ready (rs := [6]) (by kernel_rfl) (by simp) ?_
                  refine AllReadyIn.cons rfl (fun K hK => ?_) ?_
                  · go_simp
                    refine hK _ _ ?_
                    clear hK K
                    refine wpAnyIn_done (by kernel_rfl) ?_ _
                    exact unhide fin _ (unhide b5d) _ _ _ _ (unhide f1) (unhide f2) (unhide f3) (unhide f4) (unhide f5) (unhide f6) (unhide f7) (unhide f8)
                  exact AllReadyIn.nil
                exact AllReadyIn.nil
              exact AllReadyIn.nil
            exact AllReadyIn.nil
          exact AllReadyIn.nil
        exact AllReadyIn.nil
      refine AllReadyIn.cons rfl (fun K hK => ?_) ?_
      · go_simp
        refine hK _ _ ?_
        clear hK K
        refine wpAnyIn_ready (rs := [0, 2, 3]) (by kernel_rfl) (by simp) ?_
        refine AllReadyIn.cons rfl (fun K hK => ?_) ?_
        · go_simp
          refine hK _ _ ?_
          clear hK K
          refine wpAnyIn_ready (rs := [2, 3]) (by kernel_rfl) (by simp) ?_
          refine AllReadyIn.cons rfl (fun K hK => ?_) ?_
          · go_simp
            refine hK _ _ ?_
            clear hK K
            refine wpAnyIn_ready (rs := [3]) (by kernel_rfl) (by simp) ?_
            refine AllReadyIn.cons rfl (fun K hK => ?_) ?_
            · go_simp
              refine hK _ _ ?_
              clear hK K
              refine wpAnyIn_ready (rs := [4]) (by kernel_rfl) (by simp) ?_
              refine AllReadyIn.cons rfl (fun K hK => ?_) ?_
              · go_simp
                gi_wp2_with (refine ⟨trivial, ?_⟩; gi_at_call 15; refine (CallsIn.inRound l (callsIn_wide.2 (unhide key _ (unhide b5d)))).mono ?_; rintro e w6 ⟨gl, hv', qv', rfl, I6, L6, M6⟩)
                rw [← unhide hx] at I6 L6
                obtain ⟨q1, v', w7, happ, q2, q3, f1, f2, f3, f4, f5, f6, f7, f8⟩ := unhide rnd _ (unhide b5d) gl hv' qv' w6 I6 L6 M6 hls hB2
                clear I6 L6 M6
                obtain ⟨a9, n9, c9, rfl⟩ : ∃ a n c, v' = Value.slice a n c := (by obtain ⟨a, c, e⟩ := f5.form; exact ⟨a, _, c, e⟩)
                replace f1 := hide f1
                replace f2 := hide f2
                replace f3 := hide f3
                replace f4 := hide f4
                replace f5 := hide f5
                replace f6 := hide f6
                replace f7 := hide f7
                replace f8 := hide f8
                refine wpAnyIn_ready (rs := [5]) (by kernel_rfl) (by simp) ?_
                refine AllReadyIn.cons rfl (fun K hK => ?_) ?_
                · refine stepIn_app rfl (.tmp 19) (.tmp 23) rfl rfl rfl happ ?_
                  refine hK _ _ ?_
                  clear hK K
                  refine wpAnyIn_ready (rs := [6]) (by kernel_rfl) (by simp) ?_
                  refine AllReadyIn.cons rfl (fun K hK => ?_) ?_
                  · go_simp
                    refine hK _ _ ?_
                    clear hK K
                    refine wpAnyIn_done (by kernel_rfl) ?_ _
                    exact unhide fin _ (unhide b5d) _ _ _ _ (unhide f1) (unhide f2) (unhide f3) (unhide f4) (unhide f5) (unhide f6) (unhide f7) (unhide f8)
                  exact AllReadyIn.nil
                exact AllReadyIn.nil
              exact AllReadyIn.nil
            exact AllReadyIn.nil
          refine AllReadyIn.cons rfl (fun K hK => ?_) ?_
          · go_simp
            refine hK _ _ ?_
            clear hK K
            refine wpAnyIn_ready (rs := [2]) (by kernel_rfl) (by simp) ?_
            refine AllReadyIn.cons rfl (fun K hK => ?_) ?_
            · go_simp
              refine hK _ _ ?_
              clear hK K
              refine wpAnyIn_ready (rs := [4]) (by kernel_rfl) (by simp) ?_
              refine AllReadyIn.cons rfl (fun K hK => ?_) ?_
              · go_simp
                gi_wp2_with (refine ⟨trivial, ?_⟩; gi_at_call 15; refine (CallsIn.inRound l (callsIn_wide.2 (unhide key _ (unhide b5d)))).mono ?_; rintro e w6 ⟨gl, hv', qv', rfl, I6, L6, M6⟩)
                rw [← unhide hx] at I6 L6
                obtain ⟨q1, v', w7, happ, q2, q3, f1, f2, f3, f4, f5, f6, f7, f8⟩ := unhide rnd _ (unhide b5d) gl hv' qv' w6 I6 L6 M6 hls hB2
                clear I6 L6 M6
                obtain ⟨a9, n9, c9, rfl⟩ : ∃ a n c, v' = Value.slice a n c := (by obtain ⟨a, c, e⟩ := f5.form; exact ⟨a, _, c, e⟩)
                replace f1 := hide f1
                replace f2 := hide f2
                replace f3 := hide f3
                replace f4 := hide f4
                replace f5 := hide f5
                replace f6 := hide f6
                replace f7 := hide f7
                replace f8 := hide f8
                refine wpAnyIn_ready (rs := [5]) (by kernel_rfl) (by simp) ?_
                refine AllReadyIn.cons rfl (fun K hK => ?_) ?_
                · refine stepIn_app rfl (.tmp 19) (.tmp 23) rfl rfl rfl happ ?_
                  refine hK _ _ ?_
                  clear hK K
                  refine wpAnyIn_ready (rs := [6]) (by kernel_rfl) (by simp) ?_
                  refine AllReadyIn.cons rfl (fun K hK => ?_) ?_
                  · go_simp
                    refine hK _ _ ?_
                    clear hK K
                    refine wpAnyIn_done (by kernel_rfl) ?_ _
                    exact unhide fin _ (unhide b5d) _ _ _ _ (unhide f1) (unhide f2) (unhide f3) (unhide f4) (unhide f5) (unhide f6) (unhide f7) (unhide f8)
                  exact AllReadyIn.nil
                exact AllReadyIn.nil
              exact AllReadyIn.nil
            exact AllReadyIn.nil
          exact AllReadyIn.nil
        refine AllReadyIn.cons rfl (fun K hK => ?_) ?_
        · go_simp
          refine hK _ _ ?_
          clear hK K
          refine wpAnyIn_ready (rs := [0, 3]) (by kernel_rfl) (by simp) ?_
          refine AllReadyIn.cons rfl (fun K hK => ?_) ?_
          · go_simp
            refine hK _ _ ?_
            clear hK K
            refine wpAnyIn_ready (rs := [3]) (by kernel_rfl) (by simp) ?_
            refine AllReadyIn.cons rfl (fun K hK => ?_) ?_
            · go_simp
              refine hK _ _ ?_
              clear hK K
              refine wpAnyIn_ready (rs := [4]) (by kernel_rfl) (by simp) ?_
              refine AllReadyIn.cons rfl (fun K hK => ?_) ?_
              · go_simp
                gi_wp2_with (refine ⟨trivial, ?_⟩; gi_at_call 15; refine (CallsIn.inRound l (callsIn_wide.2 (unhide key _ (unhide b5d)))).mono ?_; rintro e w6 ⟨gl, hv', qv', rfl, I6, L6, M6⟩)
                rw [← unhide hx] at I6 L6
                obtain ⟨q1, v', w7, happ, q2, q3, f1, f2, f3, f4, f5, f6, f7, f8⟩ := unhide rnd _ (unhide b5d) gl hv' qv' w6 I6 L6 M6 hls hB2
                clear I6 L6 M6
                obtain ⟨a9, n9, c9, rfl⟩ : ∃ a n c, v' = Value.slice a n c := (by obtain ⟨a, c, e⟩ := f5.form; exact ⟨a, _, c, e⟩)
                replace f1 := hide f1
                replace f2 := hide f2
                replace f3 := hide f3
                replace f4 := hide f4
                replace f5 := hide f5
                replace f6 := hide f6
                replace f7 := hide f7
                replace f8 := hide f8
                refine wpAnyIn_ready (rs := [5]) (by kernel_rfl) (by simp) ?_
                refine AllReadyIn.cons rfl (fun K hK => ?_) ?_
                · refine stepIn_app rfl (.tmp 19) (.tmp 23) rfl rfl rfl happ ?_
                  refine hK _ _ ?_
                  clear hK K
                  refine wpAnyIn_ready (rs := [6]) (by kernel_rfl) (by simp) ?_
                  refine AllReadyIn.cons rfl (fun K hK => ?_) ?_
                  · go_simp
                    refine hK _ _ ?_
                    clear hK K
                    refine wpAnyIn_done (by kernel_rfl) ?_ _
                    exact unhide fin _ (unhide b5d) _ _ _ _ (unhide f1) (unhide f2) (unhide f3) (unhide f4) (unhide f5) (unhide f6) (unhide f7) (unhide f8)
                  exact AllReadyIn.nil
                exact AllReadyIn.nil
              exact AllReadyIn.nil
            exact AllReadyIn.nil
          refine AllReadyIn.cons rfl (fun K hK => ?_) ?_
          · go_simp
            refine hK _ _ ?_
            clear hK K
            refine wpAnyIn_ready (rs := [0, 4]) (by kernel_rfl) (by simp) ?_
            refine AllReadyIn.cons rfl (fun K hK => ?_) ?_
            · go_simp
              refine hK _ _ ?_
              clear hK K
              refine wpAnyIn_ready (rs := [4]) (by kernel_rfl) (by simp) ?_
              refine AllReadyIn.cons rfl (fun K hK => ?_) ?_
              · go_simp
                gi_wp2_with (refine ⟨trivial, ?_⟩; gi_at_call 15; refine (CallsIn.inRound l (callsIn_wide.2 (unhide key _ (unhide b5d)))).mono ?_; rintro e w6 ⟨gl, hv', qv', rfl, I6, L6, M6⟩)
                rw [← unhide hx] at I6 L6
                obtain ⟨q1, v', w7, happ, q2, q3, f1, f2, f3, f4, f5, f6, f7, f8⟩ := unhide rnd _ (unhide b5d) gl hv' qv' w6 I6 L6 M6 hls hB2
                clear I6 L6 M6
                obtain ⟨a9, n9, c9, rfl⟩ : ∃ a n c, v' = Value.slice a n c := (by obtain ⟨a, c, e⟩ := f5.form; exact ⟨a, _, c, e⟩)
                replace f1 := hide f1
                replace f2 := hide f2
                replace f3 := hide f3
                replace f4 := hide f4
                replace f5 := hide f5
                replace f6 := hide f6
                replace f7 := hide f7
                replace f8 := hide f8
                refine wpAnyIn_ready (rs := [5]) (by kernel_rfl) (by simp) ?_
                refine AllReadyIn.cons rfl (fun K hK => ?_) ?_
                · refine stepIn_app rfl (.tmp 19) (.tmp 23) rfl rfl rfl happ ?_
                  refine hK _ _ ?_
                  clear hK K
                  refine wpAnyIn_ready (rs := [6]) (by kernel_rfl) (by simp) ?_
                  refine AllReadyIn.cons rfl (fun K hK => ?_) ?_
                  · go_simp
                    refine hK _ _ ?_
                    clear hK K
                    refine wpAnyIn_done (by kernel_rfl) ?_ _
                    exact unhide fin _ (unhide b5d) _ _ _ _ (unhide f1) (unhide f2) (unhide f3) (unhide f4) (unhide f5) (unhide f6) (unhide f7) (unhide f8)
                  exact AllReadyIn.nil
                exact AllReadyIn.nil
              exact AllReadyIn.nil
            refine AllReadyIn.cons rfl (fun K hK => ?_) ?_
            · go_simp
              gi_wp2_with (refine ⟨trivial, ?_⟩; gi_at_call 15; refine (CallsIn.inRound l (callsIn_wide.2 (unhide key _ (unhide b5d)))).mono ?_; rintro e w6 ⟨gl, hv', qv', rfl, I6, L6, M6⟩)
              rw [← unhide hx] at I6 L6
              obtain ⟨q1, v', w7, happ, q2, q3, f1, f2, f3, f4, f5, f6, f7, f8⟩ := unhide rnd _ (unhide b5d) gl hv' qv' w6 I6 L6 M6 hls hB2
              clear I6 L6 M6
              obtain ⟨a9, n9, c9, rfl⟩ : ∃ a n c, v' = Value.slice a n c := (by obtain ⟨a, c, e⟩ := f5.form; exact ⟨a, _, c, e⟩)
              replace f1 := hide f1
              replace f2 := hide f2
              replace f3 := hide f3
              replace f4 := hide f4
              replace f5 := hide f5
              replace f6 := hide f6
              replace f7 := hide f7
              replace f8 := hide f8
              refine wpAnyIn_ready (rs := [0]) (by kernel_rfl) (by simp) ?_
              refine AllReadyIn.cons rfl (fun K hK => ?_) ?_
              · go_simp
                refine hK _ _ ?_
                clear hK K
                refine wpAnyIn_ready (rs := [5]) (by kernel_rfl) (by simp) ?_
                refine AllReadyIn.cons rfl (fun K hK => ?_) ?_
                · refine stepIn_app rfl (.tmp 19) (.tmp 23) rfl rfl rfl happ ?_
                  refine hK _ _ ?_
                  clear hK K
                  refine wpAnyIn_ready (rs := [6]) (by kernel_rfl) (by simp) ?_
                  refine AllReadyIn.cons rfl (fun K hK => ?_) ?_
                  · go_simp
                    refine hK _ _ ?_
                    clear hK K
                    refine wpAnyIn_done (by kernel_rfl) ?_ _
                    exact unhide fin _ (unhide b5d) _ _ _ _ (unhide f1) (unhide f2) (unhide f3) (unhide f4) (unhide f5) (unhide f6) (unhide f7) (unhide f8)
                  exact AllReadyIn.nil
                exact AllReadyIn.nil
              exact AllReadyIn.nil
            exact AllReadyIn.nil
          exact AllReadyIn.nil
        refine AllReadyIn.cons rfl (fun K hK => ?_) ?_
        · go_simp
          refine hK _ _ ?_
          clear hK K
          refine wpAnyIn_ready (rs := [0, 2]) (by kernel_rfl) (by simp) ?_
          refine AllReadyIn.cons rfl (fun K hK => ?_) ?_
          · go_simp
            refine hK _ _ ?_
            clear hK K
            refine wpAnyIn_ready (rs := [2]) (by kernel_rfl) (by simp) ?_
            refine AllReadyIn.cons rfl (fun K hK => ?_) ?_
            · go_simp
              refine hK _ _ ?_
              clear hK K
              refine wpAnyIn_ready (rs := [4]) (by kernel_rfl) (by simp) ?_
              refine AllReadyIn.cons rfl (fun K hK => ?_) ?_
              · go_simp
                gi_wp2_with (refine ⟨trivial, ?_⟩; gi_at_call 15; refine (CallsIn.inRound l (callsIn_wide.2 (unhide key _ (unhide b5d)))).mono ?_; rintro e w6 ⟨gl, hv', qv', rfl, I6, L6, M6⟩)
                rw [← unhide hx] at I6 L6
                obtain ⟨q1, v', w7, happ, q2, q3, f1, f2, f3, f4, f5, f6, f7, f8⟩ := unhide rnd _ (unhide b5d) gl hv' qv' w6 I6 L6 M6 hls hB2
                clear I6 L6 M6
                obtain ⟨a9, n9, c9, rfl⟩ : ∃ a n c, v' = Value.slice a n c := (by obtain ⟨a, c, e⟩ := f5.form; exact ⟨a, _, c, e⟩)
                replace f1 := hide f1
                replace f2 := hide f2
                replace f3 := hide f3
                replace f4 := hide f4
                replace f5 := hide f5
                replace f6 := hide f6
                replace f7 := hide f7
                replace f8 := hide f8
                refine wpAnyIn_ready (rs := [5]) (by kernel_rfl) (by simp) ?_
                refine AllReadyIn.cons rfl (fun K hK => ?_) ?_
                · refine stepIn_app rfl (.tmp 19) (.tmp 23) rfl rfl rfl happ ?_
                  refine hK _ _ ?_
                  clear hK K
                  refine wpAnyIn_ready (rs := [6]) (by kernel_rfl) (by simp) ?_
                  refine AllReadyIn.cons rfl (fun K hK => ?_) ?_
                  · go_simp
                    refine hK _ _ ?_
                    clear hK K
                    refine wpAnyIn_done (by kernel_rfl) ?_ _
                    exact unhide fin _ (unhide b5d) _ _ _ _ (unhide f1) (unhide f2) (unhide f3) (unhide f4) (unhide f5) (unhide f6) (unhide f7) (unhide f8)
                  exact AllReadyIn.nil
                exact AllReadyIn.nil
              exact AllReadyIn.nil
            exact AllReadyIn.nil
          refine AllReadyIn.cons rfl (fun K hK => ?_) ?_
          · go_simp
            refine hK _ _ ?_
            clear hK K
            refine wpAnyIn_ready (rs := [0, 4]) (by kernel_rfl) (by simp) ?_
            refine AllReadyIn.cons rfl (fun K hK => ?_) ?_
            · go_simp
              refine hK _ _ ?_
              clear hK K
              refine wpAnyIn_ready (rs := [4]) (by kernel_rfl) (by simp) ?_
              refine AllReadyIn.cons rfl (fun K hK => ?_) ?_
              · go_simp
                gi_wp2_with (refine ⟨trivial, ?_⟩; gi_at_call 15; refine (CallsIn.inRound l (callsIn_wide.2 (unhide key _ (unhide b5d)))).mono ?_; rintro e w6 ⟨gl, hv', qv', rfl, I6, L6, M6⟩)
                rw [← unhide hx] at I6 L6
                obtain ⟨q1, v', w7, happ, q2, q3, f1, f2, f3, f4, f5, f6, f7, f8⟩ := unhide rnd _ (unhide b5d) gl hv' qv' w6 I6 L6 M6 hls hB2
                clear I6 L6 M6
                obtain ⟨a9, n9, c9, rfl⟩ : ∃ a n c, v' = Value.slice a n c := (by obtain ⟨a, c, e⟩ := f5.form; exact ⟨a, _, c, e⟩)
                replace f1 := hide f1
                replace f2 := hide f2
                replace f3 := hide f3
                replace f4 := hide f4
                replace f5 := hide f5
                replace f6 := hide f6
                replace f7 := hide f7
                replace f8 := hide f8
                refine wpAnyIn_ready (rs := [5]) (by kernel_rfl) (by simp) ?_
                refine AllReadyIn.cons rfl (fun K hK => ?_) ?_
                · refine stepIn_app rfl (.tmp 19) (.tmp 23) rfl rfl rfl happ ?_
                  refine hK _ _ ?_
                  clear hK K
                  refine wpAnyIn_ready (rs := [6]) (by kernel_rfl) (by simp) ?_
                  refine AllReadyIn.cons rfl (fun K hK => ?_) ?_
                  · go_simp
                    refine hK _ _ ?_
                    clear hK K
                    refine wpAnyIn_done (by kernel_rfl) ?_ _
                    exact unhide fin _ (unhide b5d) _ _ _ _ (unhide f1) (unhide f2) (unhide f3) (unhide f4) (unhide f5) (unhide f6) (unhide f7) (unhide f8)
                  exact AllReadyIn.nil
                exact AllReadyIn.nil
              exact AllReadyIn.nil
            refine AllReadyIn.cons rfl (fun K hK => ?_) ?_
            · go_simp
              gi_wp2_with (refine ⟨trivial, ?_⟩; gi_at_call 15; refine (CallsIn.inRound l (callsIn_wide.2 (unhide key _ (unhide b5d)))).mono ?_; rintro e w6 ⟨gl, hv', qv', rfl, I6, L6, M6⟩)
              rw [← unhide hx] at I6 L6
              obtain ⟨q1, v', w7, happ, q2, q3, f1, f2, f3, f4, f5, f6, f7, f8⟩ := unhide rnd _ (unhide b5d) gl hv' qv' w6 I6 L6 M6 hls hB2
              clear I6 L6 M6
              obtain ⟨a9, n9, c9, rfl⟩ : ∃ a n c, v' = Value.slice a n c := (by obtain ⟨a, c, e⟩ := f5.form; exact ⟨a, _, c, e⟩)
              replace f1 := hide f1
              replace f2 := hide f2
              replace f3 := hide f3
              replace f4 := hide f4
              replace f5 := hide f5
              replace f6 := hide f6
              replace f7 := hide f7
              replace f8 := hide f8
              refine wpAnyIn_ready (rs := [0]) (by kernel_rfl) (by simp) ?_
              refine AllReadyIn.cons rfl (fun K hK => ?_) ?_
              · go_simp
                refine hK _ _ ?_
                clear hK K
                refine wpAnyIn_ready (rs := [5]) (by kernel_rfl) (by simp) ?_
                refine AllReadyIn.cons rfl (fun K hK => ?_) ?_
                · refine stepIn_app rfl (.tmp 19) (.tmp 23) rfl rfl rfl happ ?_
                  refine hK _ _ ?_
                  clear hK K
                  refine wpAnyIn_ready (rs := [6]) (by kernel_rfl) (by simp) ?_
                  refine AllReadyIn.cons rfl (fun K hK => ?_) ?_
                  · go_simp
                    refine hK _ _ ?_
                    clear hK K
                    refine wpAnyIn_done (by kernel_rfl) ?_ _
                    exact unhide fin _ (unhide b5d) _ _ _ _ (unhide f1) (unhide f2) (unhide f3) (unhide f4) (unhide f5) (unhide f6) (unhide f7) (unhide f8)
                  exact AllReadyIn.nil
                exact AllReadyIn.nil
              exact AllReadyIn.nil
            exact AllReadyIn.nil
          exact AllReadyIn.nil
        exact AllReadyIn.nil
      refine AllReadyIn.cons rfl (fun K hK => ?_) ?_
      · go_simp
        refine hK _ _ ?_
        clear hK K
        refine wpAnyIn_ready (rs := [0, 1]) (by kernel_rfl) (by simp) ?_
        refine AllReadyIn.cons rfl (fun K hK => ?_) ?_
        · go_simp
          refine hK _ _ ?_
          clear hK K
          refine wpAnyIn_ready (rs := [1]) (by kernel_rfl) (by simp) ?_
          refine AllReadyIn.cons rfl (fun K hK => ?_) ?_
          · go_simp
            refine hK _ _ ?_
            clear hK K
            refine wpAnyIn_ready (rs := [2]) (by kernel_rfl) (by simp) ?_
            refine AllReadyIn.cons rfl (fun K hK => ?_) ?_
            · go_simp
              refine hK _ _ ?_
              clear hK K
              refine wpAnyIn_ready (rs := [4]) (by kernel_rfl) (by simp) ?_
              refine AllReadyIn.cons rfl (fun K hK => ?_) ?_
              · go_simp
                gi_wp2_with (refine ⟨trivial, ?_⟩; gi_at_call 15; refine (CallsIn.inRound l (callsIn_wide.2 (unhide key _ (unhide b5d)))).mono ?_; rintro e w6 ⟨gl, hv', qv', rfl, I6, L6, M6⟩)
                rw [← unhide hx] at I6 L6
                obtain ⟨q1, v', w7, happ, q2, q3, f1, f2, f3, f4, f5, f6, f7, f8⟩ := unhide rnd _ (unhide b5d) gl hv' qv' w6 I6 L6 M6 hls hB2
                clear I6 L6 M6
                obtain ⟨a9, n9, c9, rfl⟩ : ∃ a n c, v' = Value.slice a n c := (by obtain ⟨a, c, e⟩ := f5.form; exact ⟨a, _, c, e⟩)
                replace f1 := hide f1
                replace f2 := hide f2
                replace f3 := hide f3
                replace f4 := hide f4
                replace f5 := hide f5
                replace f6 := hide f6
                replace f7 := hide f7
                replace f8 := hide f8
                refine wpAnyIn_ready (rs := [5]) (by kernel_rfl) (by simp) ?_
                refine AllReadyIn.cons rfl (fun K hK => ?_) ?_
                · refine stepIn_app rfl (.tmp 19) (.tmp 23) rfl rfl rfl happ ?_
                  refine hK _ _ ?_
                  clear hK K
                  refine wpAnyIn_ready (rs := [6]) (by kernel_rfl) (by simp) ?_
                  refine AllReadyIn.cons rfl (fun K hK => ?_) ?_
                  · go_simp
                    refine hK _ _ ?_
                    clear hK K
                    refine wpAnyIn_done (by kernel_rfl) ?_ _
                    exact unhide fin _ (unhide b5d) _ _ _ _ (unhide f1) (unhide f2) (unhide f3) (unhide f4) (unhide f5) (unhide f6) (unhide f7) (unhide f8)
                  exact AllReadyIn.nil
                exact AllReadyIn.nil
              exact AllReadyIn.nil
            exact AllReadyIn.nil
          exact AllReadyIn.nil
        refine AllReadyIn.cons rfl (fun K hK => ?_) ?_
        · go_simp
          refine hK _ _ ?_
          clear hK K
          refine wpAnyIn_ready (rs := [0, 2]) (by kernel_rfl) (by simp) ?_
          refine AllReadyIn.cons rfl (fun K hK => ?_) ?_
          · go_simp
            refine hK _ _ ?_
            clear hK K
            refine wpAnyIn_ready (rs := [2]) (by kernel_rfl) (by simp) ?_
            refine AllReadyIn.cons rfl (fun K hK => ?_) ?_
            · go_simp
              refine hK _ _ ?_
              clear hK K
              refine wpAnyIn_ready (rs := [4]) (by kernel_rfl) (by simp) ?_
              refine AllReadyIn.cons rfl (fun K hK => ?_) ?_
              · go_simp
                gi_wp2_with (refine ⟨trivial, ?_⟩; gi_at_call 15; refine (CallsIn.inRound l (callsIn_wide.2 (unhide key _ (unhide b5d)))).mono ?_; rintro e w6 ⟨gl, hv', qv', rfl, I6, L6, M6⟩)
                rw [← unhide hx] at I6 L6
                obtain ⟨q1, v', w7, happ, q2, q3, f1, f2, f3, f4, f5, f6, f7, f8⟩ := unhide rnd _ (unhide b5d) gl hv' qv' w6 I6 L6 M6 hls hB2
                clear I6 L6 M6
                obtain ⟨a9, n9, c9, rfl⟩ : ∃ a n c, v' = Value.slice a n c := (by obtain ⟨a, c, e⟩ := f5.form; exact ⟨a, _, c, e⟩)
                replace f1 := hide f1
                replace f2 := hide f2
                replace f3 := hide f3
                replace f4 := hide f4
                replace f5 := hide f5
                replace f6 := hide f6
                replace f7 := hide f7
                replace f8 := hide f8
                refine wpAnyIn_ready (rs := [5]) (by kernel_rfl) (by simp) ?_
                refine AllReadyIn.cons rfl (fun K hK => ?_) ?_
                · refine stepIn_app rfl (.tmp 19) (.tmp 23) rfl rfl rfl happ ?_
                  refine hK _ _ ?_
                  clear hK K
                  refine wpAnyIn_ready (rs := [6]) (by kernel_rfl) (by simp) ?_
                  refine AllReadyIn.cons rfl (fun K hK => ?_) ?_
                  · go_simp
                    refine hK _ _ ?_
                    clear hK K
                    refine wpAnyIn_done (by kernel_rfl) ?_ _
                    exact unhide fin _ (unhide b5d) _ _ _ _ (unhide f1) (unhide f2) (unhide f3) (unhide f4) (unhide f5) (unhide f6) (unhide f7) (unhide f8)
                  exact AllReadyIn.nil
                exact AllReadyIn.nil
              exact AllReadyIn.nil
            exact AllReadyIn.nil
          refine AllReadyIn.cons rfl (fun K hK => ?_) ?_
          · go_simp
            refine hK _ _ ?_
            clear hK K
            refine wpAnyIn_ready (rs := [0, 4]) (by kernel_rfl) (by simp) ?_
            refine AllReadyIn.cons rfl (fun K hK => ?_) ?_
            · go_simp
              refine hK _ _ ?_
              clear hK K
              refine wpAnyIn_ready (rs := [4]) (by kernel_rfl) (by simp) ?_
              refine AllReadyIn.cons rfl (fun K hK => ?_) ?_
              · go_simp
                gi_wp2_with (refine ⟨trivial, ?_⟩; gi_at_call 15; refine (CallsIn.inRound l (callsIn_wide.2 (unhide key _ (unhide b5d)))).mono ?_; rintro e w6 ⟨gl, hv', qv', rfl, I6, L6, M6⟩)
                rw [← unhide hx] at I6 L6
                obtain ⟨q1, v', w7, happ, q2, q3, f1, f2, f3, f4, f5, f6, f7, f8⟩ := unhide rnd _ (unhide b5d) gl hv' qv' w6 I6 L6 M6 hls hB2
                clear I6 L6 M6
                obtain ⟨a9, n9, c9, rfl⟩ : ∃ a n c, v' = Value.slice a n c := (by obtain ⟨a, c, e⟩ := f5.form; exact ⟨a, _, c, e⟩)
                replace f1 := hide f1
                replace f2 := hide f2
                replace f3 := hide f3
                replace f4 := hide f4
                replace f5 := hide f5
                replace f6 := hide f6
                replace f7 := hide f7
                replace f8 := hide f8
                refine wpAnyIn_ready (rs := [5]) (by kernel_rfl) (by simp) ?_
                refine AllReadyIn.cons rfl (fun K hK => ?_) ?_
                · refine stepIn_app rfl (.tmp 19) (.tmp 23) rfl rfl rfl happ ?_
                  refine hK _ _ ?_
                  clear hK K
                  refine wpAnyIn_ready (rs := [6]) (by kernel_rfl) (by simp) ?_
                  refine AllReadyIn.cons rfl (fun K hK => ?_) ?_
                  · go_simp
                    refine hK _ _ ?_
                    clear hK K
                    refine wpAnyIn_done (by kernel_rfl) ?_ _
                    exact unhide fin _ (unhide b5d) _ _ _ _ (unhide f1) (unhide f2) (unhide f3) (unhide f4) (unhide f5) (unhide f6) (unhide f7) (unhide f8)
                  exact AllReadyIn.nil
                exact AllReadyIn.nil
              exact AllReadyIn.nil
            refine AllReadyIn.cons rfl (fun K hK => ?_) ?_
            · go_simp
              gi_wp2_with (refine ⟨trivial, ?_⟩; gi_at_call 15; refine (CallsIn.inRound l (callsIn_wide.2 (unhide key _ (unhide b5d)))).mono ?_; rintro e w6 ⟨gl, hv', qv', rfl, I6, L6, M6⟩)
              rw [← unhide hx] at I6 L6
              obtain ⟨q1, v', w7, happ, q2, q3, f1, f2, f3, f4, f5, f6, f7, f8⟩ := unhide rnd _ (unhide b5d) gl hv' qv' w6 I6 L6 M6 hls hB2
              clear I6 L6 M6
              obtain ⟨a9, n9, c9, rfl⟩ : ∃ a n c, v' = Value.slice a n c := (by obtain ⟨a, c, e⟩ := f5.form; exact ⟨a, _, c, e⟩)
              replace f1 := hide f1
              replace f2 := hide f2
              replace f3 := hide f3
              replace f4 := hide f4
              replace f5 := hide f5
              replace f6 := hide f6
              replace f7 := hide f7
              replace f8 := hide f8
              refine wpAnyIn_ready (rs := [0]) (by kernel_rfl) (by simp) ?_
              refine AllReadyIn.cons rfl (fun K hK => ?_) ?_
              · go_simp
                refine hK _ _ ?_
                clear hK K
                refine wpAnyIn_ready (rs := [5]) (by kernel_rfl) (by simp) ?_
                refine AllReadyIn.cons rfl (fun K hK => ?_) ?_
                · refine stepIn_app rfl (.tmp 19) (.tmp 23) rfl rfl rfl happ ?_
                  refine hK _ _ ?_
                  clear hK K
                  refine wpAnyIn_ready (rs := [6]) (by kernel_rfl) (by simp) ?_
                  refine AllReadyIn.cons rfl (fun K hK => ?_) ?_
                  · go_simp
                    refine hK _ _ ?_
                    clear hK K
                    refine wpAnyIn_done (by kernel_rfl) ?_ _
                    exact unhide fin _ (unhide b5d) _ _ _ _ (unhide f1) (unhide f2) (unhide f3) (unhide f4) (unhide f5) (unhide f6) (unhide f7) (unhide f8)
                  exact AllReadyIn.nil
                exact AllReadyIn.nil
              exact AllReadyIn.nil
            exact AllReadyIn.nil
          exact AllReadyIn.nil
        exact AllReadyIn.nil
      exact AllReadyIn.nil
  case done =>
    rintro D ys W hD hys ⟨⟨hv1, qv1, gv, t1, g1, i1, p1, G1, l1, hPM, hMW, hKr⟩, hB⟩ hK
    rw [hys] at t1 i1
    have c1 : W.cell? ⟨P + 1, 0, none⟩ = some gv := by simp [World.cell?, g1]
    gi_wp2
    refine ⟨by simp, .inl ⟨_, _, rfl, run_takeDeferred hK, ?_⟩⟩
    have hcz := cz_own (B := 0) (grownBy_putObj' W D (.deferred none)) (fun r e => by cases e; exact ⟨Nat.zero_le _, _, hK, rfl⟩)
    refine ⟨_, results_tmp rfl _ _ _, gv, hv1, qv1, W2.heap.size, rfl, ?_, i1.cz hcz, t1.1.cz hcz, ?_, fun j c t hj ht => hcz _ _ _ _ (hKr j c t hj ht), by have h9 := t1.2; rw [unhide hP] at h9; exact h9⟩
    · rw [osz]; have := unhide hP; omega
    · exact hB.trans (belowK_b (w := w) hlow W D _ _ (by have := unhide hP; omega) hK rfl rfl)
  case stop =>
    rintro D c pre W hD _ h _
    exact h.elim
end Go.Proofs.Ytdhpahopfmcdkaa

/- Edges of a table. -/
namespace Go.Proofs.Ytdhpahopfmcdkaa
open Go.RowKit

/-- Pairs behind pairs: append of a row that may be nil. -/
theorem app_pr {M M' : Nat} {u v : Value} {l m : List En} {w : World} (ty : TypeId) (hu : Pr 68 M u l w) (hv : Pr 68 M' v m w) (hM : M ≤ w.heap.size) (hl : l.length + m.length ≤ 100000000) :
    ∃ v' w', (Builtin.append_ #[65, 65] ty #[u, v]).run Try.prog w = .ok v' w' ∧ Pr 68 M v' (l ++ m) w' ∧ w.grownBy w' u.ownBlock := by
  obtain ⟨i0, hi, hz0, hz1, hz2⟩ := info_parts inf69
  have up : ∀ v' w', w'.ownsRow M 68 2 v' (l.length + m.length) (pairs l ++ pairs m) → Pr 68 M v' (l ++ m) w' := fun v' w' h => by
    unfold Pr
    rw [List.length_append, pairs_app]
    exact h
  rcases hv.2 with ⟨rfl, h0⟩ | ⟨g, cap, cur, rfl, hB, hg, h2, h3, h4, h5⟩
  · obtain rfl : m = [] := List.eq_nil_of_length_eq_zero h0
    have hr := run_append_owned_none (P := Try.prog) (w := w) M 65 ty 68 i0 2 Try.underlying65 hi u l.length _ hu
    exact ⟨u, w, hr, by rw [List.append_nil]; exact hu, ⟨rfl, rfl, rfl, Nat.le_refl _, fun _ _ _ => rfl⟩⟩
  · have hnews : ∀ j x, (pairs m)[j]? = some x → w.cell? ((⟨g, 0, none⟩ : Addr).add j) = some x := fun j x hj => by
      have hjl : j < m.length * 2 := by have := (List.getElem?_eq_some_iff.1 hj).1; rwa [pairs_len] at this
      rw [Addr.add_lit, Nat.zero_add, ← hj, ← h5, List.getElem?_take_of_lt hjl]
      simp [World.cell?, hg]
    obtain ⟨v', w', hr, o2, o3, _⟩ := run_append_own (P := Try.prog) w M 65 ty 68 i0 _ 2 16 Try.underlying65 hi hz0 hz1 hz2 rfl (by decide) u l.length _ hu ⟨g, 0, none⟩ m.length cap (pairs m) (pairs_len m) hnews (pairs_one m) (by unfold maxLen; omega) (by omega) hM
    exact ⟨v', w', hr, up v' w' o2, o3⟩
theorem wpList_appE {w w' : World} {ops : Array Oper} {rest : List Oper} {o : Oper} {a : Act} {Q : Exit → Act → World → Prop} {u v v' : Value} (hgd : o.guard = none) (s x : Operand)
    (ho : o.op = .call { callee := .builtin .append, args := #[s, x], argTypes := #[65, 65] }) (hs : a.eval s = u) (hx : a.eval x = v) (hr : (Builtin.append_ #[65, 65] o.type #[u, v]).run Try.prog w = .ok v' w')
    (h : wpList Try.prog ops Q rest (a.put o.dst v') w') : wpList Try.prog ops Q (o :: rest) a w :=
  wpList_plain hgd fun K hK => by
    unfold Oper.wp execOp
    simp only [ho, resolve, invoke, builtin, Sem.run_bind, Sem.run_pure, Result.andThen_ok, List.map_toArray, List.map_cons, List.map_nil, hs, hx, hr]
    exact hK _ _ h
/-- The edges of the first m nodes, node by node. -/
def rawE (T : Nat → Lv) : Nat → List En
  | 0 => []
  | m + 1 => rawE T m ++ edgeL (T m).1 (T m).2
theorem rawE_mem {T : Nat → Lv} {p : En} : ∀ n, p ∈ rawE T n ↔ ∃ i, i < n ∧ p ∈ edgeL (T i).1 (T i).2
  | 0 => by simp [rawE]
  | n + 1 => by
    unfold rawE
    rw [List.mem_append, rawE_mem n]
    constructor
    · rintro (⟨i, h1, h2⟩ | h)
      · exact ⟨i, by omega, h2⟩
      · exact ⟨n, by omega, h⟩
    · rintro ⟨i, h1, h2⟩
      rcases (show i < n ∨ i = n by omega) with h | rfl
      · exact .inl ⟨i, h, h2⟩
      · exact .inr h2
/-- All edges: by From, then To. -/
def edgesD (T : Nat → Lv) (n : Nat) : List En := srtE (rawE T n)
variable {B n : Nat} {most : Int} {T : Nat → Lv} {b rb : Nat} {lb : Nat → Nat} {hv qv : Nat → Value}
set_option maxRecDepth 100000 in
set_option maxHeartbeats 4000000 in
theorem edges_t (w : World) (h : Tb B n most T b rb lb hv qv w) (hs : ∀ i, i < n → (T i).1.length + (T i).2.length ≤ 400) (hn : n ≤ 600) :
    Calls Try.prog 36 #[.pointer (some ⟨b, 0, none⟩)] w fun e w' => ∃ v, e = .returned v ∧ Pr 68 w.heap.size v (edgesD T n) w' ∧ Below w.heap.size w w' := by
  have c0 := h.c0
  have HT := hide h
  clear h
  go_enter Try.func36, Try.ntmps36
  go_wp2_with fail
  clear c0
  go_loopw [3, 11] (fun s3 s11 wr => ∃ (t c : Nat) (ag : Option Addr) (cg : Nat), t ≤ n ∧ c ≤ t * 160000 ∧ s3 = .slice ag c cg ∧ s11 = .int .i64 t ∧ Hid ((rawE T t).length = c) ∧ Hid (Pr 68 w.heap.size (.slice ag c cg) (rawE T t) wr) ∧ Hid (Cw w wr) ∧ Hid (Below w.heap.size w wr)) (fun _ s11 _ => n - (intOf s11).toNat)
  case atStart => exact ⟨0, 0, none, 0, Nat.zero_le _, Nat.zero_le _, rfl, rfl, rfl, Pr.nil _ _ _, Cw.refl _, Below.refl _ _⟩
  case round =>
    obtain ⟨t, c, ag, cg, ht, hct, rfl, rfl, hl, P3, k3, b3⟩ := hrel
    by_cases hlt : t < n
    · have T3 := (unhide k3).tb (unhide HT)
      have d1 := T3.at_ hlt
      have L4 := hide (show Ln _ _ _ _ _ from ⟨_, _, (T3.ls.la t hlt).next (below_new wr (.cells #[.pointer (some ⟨lb t, 0, none⟩)] 107))⟩)
      have hsum := hide (hs t hlt)
      have hstep : Hid (rawE T (t + 1) = rawE T t ++ edgeL (T t).1 (T t).2) := rfl
      generalize rawE T t = L0 at hl P3 hstep
      clear T3
      go_wp2_with fail
      refine (edges_r _ (unhide L4) (unhide hsum)).mono ?_
      rintro e w5 ⟨v5, rfl, P5, b5, hle⟩
      have bw := below_then (below_new wr _) b5
      have P4 := (unhide P3).next bw
      obtain ⟨v6, w6, happ, P6, g6⟩ := app_pr 65 P4 P5 (Nat.le_trans (unhide b3).size bw.size) (by have := unhide hl; omega)
      obtain ⟨a6, n6, c6, hn6, rfl⟩ : ∃ a n c, (L0 ++ edgeL (T t).1 (T t).2).length = n ∧ v6 = .slice a n c := by
        obtain ⟨a, c, e⟩ := P6.form
        exact ⟨a, _, c, rfl, e⟩
      have hc6 : n6 ≤ c + 160000 := by rw [← hn6, List.length_append, unhide hl]; omega
      have k6 := hide ((unhide k3).trans ((Cw.of bw).trans (Cw.row P4 g6)))
      have b6 := hide ((below_then (unhide b3) bw).trans (grown_below g6 (Nat.le_trans (unhide b3).size bw.size) (fun j hj => (P4.lt j hj).1)))
      obtain ⟨a5, n5, c5, rfl⟩ : ∃ a n c, v5 = .slice a n c := by
        obtain ⟨a, c, e⟩ := P5.form
        exact ⟨a, _, c, e⟩
      replace P6 := hide P6
      replace hn6 := hide hn6
      clear d1 b5 bw P4 g6 P5 hle
      go_wp2_with (at_builtin; refine wpList_appE rfl (.tmp 15) (.tmp 17) rfl rfl rfl happ ?_; clear happ)
      go_roundw
      case rel => exact ⟨t + 1, n6, a6, c6, by omega, by omega, rfl, by go_num, by rw [unhide hstep]; exact unhide hn6, by rw [unhide hstep]; exact unhide P6, unhide k6, unhide b6⟩
      case measure => simp [intOf]; omega
    · obtain rfl : t = n := by omega
      have C := hide (sortE_any wr (unhide P3) (by have := unhide hl; omega))
      go_wp2_with fail
      refine (unhide C).mono ?_
      rintro e w5 ⟨rfl, P5, g5⟩
      have b5 := hide ((unhide b3).trans (grown_below g5 (unhide b3).size (fun j hj => ((unhide P3).lt j hj).1)))
      replace P5 := hide P5
      clear g5
      go_wp2
      go_ret
      exact ⟨_, rfl, unhide P5, unhide b5⟩
theorem edges_n (w : World) (h : Tn B n most T b w) (hs : ∀ i, i < n → (T i).1.length + (T i).2.length ≤ 400) (hn : n ≤ 600) {l : List En} (hl : edgesD T n = l) :
    Calls Try.prog 36 #[.pointer (some ⟨b, 0, none⟩)] w fun e w' => ∃ v, e = .returned v ∧ Pr 68 w.heap.size v l w' ∧ Below w.heap.size w w' := by
  subst hl
  obtain ⟨rb, lb, hv, qv, t⟩ := h
  exact edges_t w t hs hn
theorem drop_n (w : World) (h : Tn B n most T b w) (hg : Gd n 1000 T) (hn : n ≤ 10000) (who : Int) {r : List Int × (Nat → Lv)} (hr : dropD who T (dn n 0) = r) :
    Calls Try.prog 30 #[.pointer (some ⟨b, 0, none⟩), .int .i64 who] w fun e w' => ∃ gv, e = .returned gv ∧ Is w.heap.size gv r.1 w' ∧ Tn B n most r.2 b w' ∧ Below B w w' := by
  subst hr
  obtain ⟨rb, lb, hv, qv, t⟩ := h
  refine (drop_t (X := fun _ => False) w t hg hn who (fun _ h => h.elim)).mono ?_
  rintro e w' ⟨gv, hv', qv', M, h1, h2, h3, h4, h5⟩
  exact ⟨gv, h1, h3.down h2, ⟨_, _, _, _, h4⟩, h5.1⟩
theorem drop_k (w : World) (h : Tn B n most T b w) (hg : Gd n 1000 T) (hn : n ≤ 10000) (who : Int) {r : List Int × (Nat → Lv)} (hr : dropD who T (dn n 0) = r) :
    Calls Try.prog 30 #[.pointer (some ⟨b, 0, none⟩), .int .i64 who] w fun e w' => ∃ gv, e = .returned gv ∧ Tn B n most r.2 b w' ∧ Below B w w' ∧ Kr (fun _ => False) w w' := by
  subst hr
  obtain ⟨rb, lb, hv, qv, t⟩ := h
  refine (drop_t (X := fun _ => False) w t hg hn who (fun _ h => h.elim)).mono ?_
  rintro e w' ⟨gv, hv', qv', M, h1, h2, h3, h4, h5⟩
  exact ⟨gv, h1, ⟨_, _, _, _, h4⟩, h5.1, h5.2.1⟩
end Go.Proofs.Ytdhpahopfmcdkaa
