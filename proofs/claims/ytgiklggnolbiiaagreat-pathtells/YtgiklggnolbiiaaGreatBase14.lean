/- Texts of this claim, put together in their order. -/
import Derived.Test.YtgiklggnolbiiaaGreatBase1
import Derived.Test.YtgiklggnolbiiaaGreatBase2
import Derived.Test.YtgiklggnolbiiaaGreatBase3
import Derived.Test.YtgiklggnolbiiaaGreatBase4
import Derived.Test.YtgiklggnolbiiaaGreatBase5
import Derived.Test.YtgiklggnolbiiaaGreatBase6
import Derived.Test.YtgiklggnolbiiaaGreatBase7
import Derived.Test.YtgiklggnolbiiaaGreatBase8
import Derived.Test.YtgiklggnolbiiaaGreatBase9
import Derived.Test.YtgiklggnolbiiaaGreatBase10
import Derived.Test.YtgiklggnolbiiaaGreatBase11
import Derived.Test.YtgiklggnolbiiaaGreatBase12
import Derived.Test.YtgiklggnolbiiaaGreatBase13
/- Drop: its loop over slices.Backward. -/
namespace Go.Proofs.YtgiklggnolbiiaaGreat
open Go.RowKit Go.Shelf
variable {X : Nat → Prop}

attribute [local go_sem] Oper.semAt_some

/-- Between two rounds: pre has come; the box of who is P, that of the answer G; the answer's own row lies at or above M. -/
def Dr (X : Nat → Prop) (B N : Nat) (most : Int) (T : Nat → Lv) (b rb : Nat) (lb : Nat → Nat) (who : Int) (w0 : World) (P G M : Nat) (pre : List { x : Nat // x < N }) (W : World) : Prop :=
  (∃ hv qv gv, (Tb B N most (dropD who T (pre.map (·.1))).2 b rb lb hv qv W ∧ Fn X N P lb hv qv) ∧ W.heap[G]? = some (.cells #[gv] 36 (0, 0)) ∧ Is M gv (dropD who T (pre.map (·.1))).1 W ∧ W.heap[P]? = some (.cells #[.int .i64 who] 3 (0, 0)) ∧
    Gd N 1000 (dropD who T (pre.map (·.1))).2 ∧ (dropD who T (pre.map (·.1))).1.length ≤ pre.length * 1000 ∧ P < M ∧ M ≤ W.heap.size ∧ Kr X w0 W) ∧ Below B w0 W
theorem dr_own {B N : Nat} {most : Int} {T : Nat → Lv} {b rb : Nat} {lb : Nat → Nat} {who : Int} {w0 : World} {P G M B0 : Nat} (h0 : B ≤ w0.heap.size) (h1 : B ≤ B0) : OwnFrom B0 (Dr X B N most T b rb lb who w0 P G M) :=
  fun pre W W' row hs hg hr => by
    obtain ⟨⟨hv, qv, gv, h1', h2, h3, h4, h5, h6, h7, h8, h9⟩, hB⟩ := hs
    have k := cz_own hg hr
    exact ⟨⟨hv, qv, gv, ⟨h1'.1.cz k, h1'.2⟩, k _ _ _ _ h2, h3.cz k, k _ _ _ _ h4, h5, h6, h7, Nat.le_trans h8 hg.size, fun j c t hj ht => k _ _ _ _ (h9 j c t hj ht)⟩, ownFrom_below (β := Unit) h0 h1 () W W' row hB hg hr⟩
theorem dr_next {B N : Nat} {most : Int} {T : Nat → Lv} {b rb : Nat} {lb : Nat → Nat} {who : Int} {w0 : World} {P G M : Nat} {pre : List { x : Nat // x < N }} {W W' : World} (h : Dr X B N most T b rb lb who w0 P G M pre W) (k : Below W.heap.size W W') (hB : B ≤ w0.heap.size) : Dr X B N most T b rb lb who w0 P G M pre W' := by
  obtain ⟨⟨hv, qv, gv, h1, h2, h3, h4, h5, h6, h7, h8, h9⟩, hb⟩ := h
  exact ⟨⟨hv, qv, gv, ⟨h1.1.next k, h1.2⟩, (k.block _ (heap_lt h2)).trans h2, h3.next k, (k.block _ (heap_lt h4)).trans h4, h5, h6, h7, Nat.le_trans h8 k.size, kr_t h9 (below_kr k)⟩, bt hb k (Nat.le_trans hB hb.size)⟩
/-- The loop's variable lies in a box of its own. -/
def Axr (N : Nat) (lb : Nat → Nat) (a0 : Nat → Nat → Act) (x : { x : Nat // x < N }) (a' : Act) (W : World) : Prop := ∃ R, W.heap[R]? = some (.cells #[.pointer (some ⟨lb x.1, 0, none⟩)] 78 (0, 0)) ∧ a' = a0 R x.1
theorem drop_end (who : Int) (T : Nat → Lv) (N : Nat) (ys : List { x : Nat // x < N }) (h : ys.map (·.1) = dn N 0) : dropD who T (ys.map (·.1)) = dropD who T (dn N 0) := by rw [h]
set_option maxRecDepth 100000 in
set_option maxHeartbeats 4000000 in
theorem drop_t {B N : Nat} {most : Int} {T : Nat → Lv} {b rb : Nat} {lb : Nat → Nat} {hv qv : Nat → Value} (w : World) (h : Tb B N most T b rb lb hv qv w) (hgd : Gd N 1000 T) (hN : N ≤ 10000) (who : Int) (hX : Fn X N w.heap.size lb hv qv) :
    Calls Tryz.prog 11 #[.pointer (some ⟨b, 0, none⟩), .int .i64 who] w fun e w' => ∃ gv hv' qv' M, e = .returned gv ∧ w.heap.size ≤ M ∧ Is M gv (dropD who T (dn N 0)).1 w' ∧ Tb B N most (dropD who T (dn N 0)).2 b rb lb hv' qv' w' ∧ Below B w w' ∧ Kr X w w' ∧ Fn X N w.heap.size lb hv' qv' := by
  refine (callsIn_wide (n := 4)).1 ?_
  have HT := hide h
  obtain ⟨W1, hW1⟩ : ∃ W1, W1 = (w.alloc (.cells #[.int .i64 who] 3)).alloc (.cells #[.slice none 0 0] 36) := ⟨_, rfl⟩
  have bW : Below w.heap.size w W1 := by rw [hW1]; exact below_add (below_new w _) _
  have c0 : ((w.alloc (.cells #[.int .i64 who] 3)).alloc (.cells #[.slice none 0 0] 36)).cell? ⟨b, 0, none⟩ = some (.slice (some ⟨rb, 0, none⟩) N N) := by rw [← hW1]; exact (h.next bW).c0
  clear h
  refine callsIn_of_wp_marks Tryz.func11 rfl trivial ?_ rfl
  simp only [Tryz.ntmps11, List.size_toArray, List.length_cons, List.length_nil, Nat.reduceAdd, Nat.reduceSub, Array.replicate_succ, Array.replicate_zero, List.push_toArray, List.append_toArray, List.nil_append, List.cons_append]
  gi_wp2_with (refine ⟨trivial, ?_⟩; gi_at_call 40; refine (back_in Fence.wide (4 - 1) trivial rfl _ _ _ _).mono ?_; rintro e w' ⟨rfl, rfl⟩)
  have hT := unhide HT
  obtain ⟨P, hP⟩ : ∃ P, P = w.heap.size := ⟨_, rfl⟩
  have hlow : B ≤ w.heap.size := hT.low
  obtain ⟨W2, hW2⟩ : ∃ W2, W2 = ((w.alloc (.cells #[.int .i64 who] 3)).alloc (.cells #[.slice none 0 0] 36)).alloc (.cells #[.slice (some ⟨rb, 0, none⟩) N N] 42) := ⟨_, rfl⟩
  have b2 : Below w.heap.size w W2 := by rw [hW2]; exact below_add (below_add (below_new w _) _) _
  have o1 : W2.heap[P]? = some (.cells #[.int .i64 who] 3 (0, 0)) := by
    rw [hW2, hP]
    exact ((below_add (below_new (w.alloc (.cells #[.int .i64 who] 3)) _) _).block _ (by simp)).trans (heap_alloc_new w _)
  have o2 : W2.heap[P + 1]? = some (.cells #[.slice none 0 0] 36 (0, 0)) := by
    rw [hW2, hP]
    have := heap_alloc_new (w.alloc (.cells #[.int .i64 who] 3)) (.cells #[.slice none 0 0] 36)
    rw [World.size_alloc] at this
    exact ((below_new _ _).block _ (by simp)).trans this
  have o3 : W2.heap[P + 1 + 1]? = some (.cells #[.slice (some ⟨rb, 0, none⟩) N N] 42 (0, 0)) := by
    rw [hW2, hP]
    have := heap_alloc_new ((w.alloc (.cells #[.int .i64 who] 3)).alloc (.cells #[.slice none 0 0] 36)) (.cells #[.slice (some ⟨rb, 0, none⟩) N N] 42)
    rw [World.size_alloc, World.size_alloc] at this
    exact this
  have osz : W2.heap.size = P + 3 := by rw [hW2, hP]; simp
  have T2 := hT.next b2
  rw [← hW2, ← hP]
  have I0 : Dr X B N most T b rb lb who w P (P + 1) W2.heap.size [] W2 := ⟨⟨hv, qv, .slice none 0 0, ⟨T2, by rw [hP]; exact hX⟩, o2, is_nil _ _, o1, hgd, by simp [dropD], by omega, Nat.le_refl _, below_kr b2⟩, b2.mono hlow⟩
  have hB2 : B ≤ W2.heap.size := Nat.le_trans hlow b2.size
  have hBG : B ≤ P + 1 := by omega
  replace hP := hide hP
  replace hW2 := hide hW2
  replace hW1 := hide hW1
  clear c0 bW
  refine wpIn_rangeFunc_ownH (α := { x : Nat // x < N }) rfl (by omega) (gf := 85) (lb := #[.pointer (some ⟨P + 1 + 1, 0, none⟩)]) rfl trivial (enters_of Tryz.func85 (by kernel_rfl) rfl)
    (back_stops (X := X) Fence.wide (4 - 1) trivial rfl (by omega) (P + 1 + 1) rb N lb hN W2 o3 T2.row) (kr_t (X := X)) (fun W l o o' _ h1 h2 _ => kr_b W l o o' h1 h2) (Below.refl _ _) (fun _ => rfl)
    (Dr X B N most T b rb lb who w P (P + 1) W2.heap.size) (fun _ _ _ => False) (dr_own hlow hB2) (fun _ _ _ _ _ hs _ _ => hs) I0
    (Axr N lb (fun R x => { tmps := #[.pointer (some ⟨b, 0, none⟩), .int .i64 who, undef, .pointer (some ⟨P, 0, none⟩), .slice none 0 0, .pointer (some ⟨P + 1, 0, none⟩), undef, .pointer (some ⟨R, 0, none⟩), .pointer (some ⟨b, 0, none⟩), .pointer (some ⟨b, 0, none⟩), .pointer (some ⟨b, 0, none⟩), .pointer (some ⟨b, 0, none⟩), .slice (some ⟨rb, 0, none⟩) N N, .func (.func 85) #[] #[.pointer (some ⟨P + 1 + 1, 0, none⟩)], .int .i64 (x : Int), .agg #[.pointer (some ⟨lb x, 0, none⟩)], undef, undef, undef, undef, undef, undef, undef, undef, undef, undef], defers := [] }))
    (fun x a' _ W W' row hs hg hr => by
      obtain ⟨R, h1, h2⟩ := hs
      exact ⟨R, cz_own hg hr _ _ _ _ h1, h2⟩) ?assign ?body ?done ?stop
  case assign =>
    rintro l pre x W K hI hK
    have hnx := dr_next hI (below_new W (.cells #[.pointer (some ⟨lb x.1, 0, none⟩)] 78)) hlow
    gi_wp2
    exact hK _ _ ((KeepsOthers.alloc _ _).from _) (kr_alloc _ _) hnx ⟨W.heap.size, heap_alloc_new W _, rfl⟩
  case body =>
    rintro l pre ⟨k, hk⟩ a' W hl hrec ⟨⟨hv1, qv1, gv, t1, g1, i1, p1, G1, l1, hPM, hMW, hKr⟩, hB⟩ ⟨R, hR, rfl⟩ hlt
    have hsn : dropD who T ((pre ++ [(⟨k, hk⟩ : { x : Nat // x < N })]).map (·.1)) = dropS who (dropD who T (pre.map (·.1))) k := by rw [List.map_append]; exact drop_snoc _ _ _ _
    have hpl : (pre ++ [(⟨k, hk⟩ : { x : Nat // x < N })]).length = pre.length + 1 := by simp
    obtain ⟨s, hs⟩ : ∃ s, s = dropD who T (pre.map (·.1)) := ⟨_, rfl⟩
    rw [← hs] at hsn t1 i1 G1 l1
    replace hs := hide hs
    have la := t1.1.ls.la k hk
    have hsum := G1.sum k hk
    have cR : W.cell? ⟨R, 0, none⟩ = some (.pointer (some ⟨lb k, 0, none⟩)) := by simp [World.cell?, hR]
    have cP : W.cell? ⟨P, 0, none⟩ = some (.int .i64 who) := by simp [World.cell?, p1]
    have Gd2 := gd_drop (who := who) hk la.srt G1
    have Ln2 := drop_len (who := who) (s := s) hk G1
    have cH := hide (has_r (x := s.2 k) W ⟨_, _, la⟩ (by omega) (by omega) who rfl)
    cases hh : hasL who (s.2 k)
    · have e1 : dropS who s k = s := by unfold dropS; rw [hh]; rfl
      rw [hh] at cH
      gi_wp2_with (refine ⟨trivial, ?_⟩; gi_at_call 41; refine (CallsIn.inRound l (callsIn_wide.2 (unhide cH))).mono ?_; rintro e w5 ⟨rfl, b5⟩)
      refine ⟨(below_others b5).from _, below_kr b5, ⟨hv1, qv1, gv, ?_, (b5.block _ (heap_lt g1)).trans g1, ?_, (b5.block _ (heap_lt p1)).trans p1, ?_, ?_, hPM, Nat.le_trans hMW b5.size, kr_t hKr (below_kr b5)⟩, bt hB b5 (Nat.le_trans hlow hB.size)⟩
      · rw [hsn, e1]; exact ⟨t1.1.next b5, t1.2⟩
      · rw [hsn, e1]; exact i1.next b5
      · rw [hsn, e1]; exact G1
      · rw [hsn, e1, hpl]; omega
    · obtain ⟨x, hx⟩ : ∃ x, x = leaveD who (s.2 k).1 (s.2 k).2 := ⟨_, rfl⟩
      have e1 : dropS who s k = (s.1 ++ x.1, upd s.2 k x.2) := by unfold dropS; rw [hh, hx]; rfl
      have hxl : x.1.length ≤ 1000 := by
        have := leave_few (who := who) (H := (s.2 k).1) (Q := (s.2 k).2)
        rw [← hx] at this
        omega
      rw [hh] at cH
      replace hx := hide hx
      have key := hide (fun (w5 : World) (b5 : Below W.heap.size W w5) => leave_any w5 ((t1.1.next b5).ls.la k hk) (by omega) who)
      have rnd := hide (fun (w5 : World) (b5 : Below W.heap.size W w5) (gl hv' qv' : Value) (w6 : World) => drop_round (gl := gl) (hv' := hv') (qv' := qv') (l := x.1) (x := x.2) (w6 := w6) (t1.1.next b5) ((b5.block _ (heap_lt g1)).trans g1) (i1.next b5) ((b5.block _ (heap_lt p1)).trans p1) hPM (Nat.le_trans hMW b5.size) t1.2 (Nat.lt_succ_self P) hk)
      have fin : Hid (∀ (V : World) (_ : Below W.heap.size W V) (v' : Value) (w8 : World) (hv2 qv2 : Nat → Value), KeepsOthers V w8 → Kr X V w8 → (Tb B N most (upd s.2 k x.2) b rb lb hv2 qv2 w8 ∧ Fn X N P lb hv2 qv2) → w8.heap[P + 1]? = some (.cells #[v'] 36 (0, 0)) → Is W2.heap.size v' (s.1 ++ x.1) w8 →
          w8.heap[P]? = some (.cells #[.int .i64 who] 3 (0, 0)) → V.heap.size ≤ w8.heap.size → (B ≤ P + 1 → Below B V w8) → KeepsFrom W2.heap.size W w8 ∧ Kr X W w8 ∧ Dr X B N most T b rb lb who w P (P + 1) W2.heap.size (pre ++ [⟨k, hk⟩]) w8) := by
        intro V bV v' w8 hv2 qv2 f1 f2 f3 f4 f5 f6 f7 f8
        refine ⟨((below_others bV).trans f1).from _, kr_t (below_kr bV) f2, ⟨hv2, qv2, v', ?_, f4, ?_, f6, ?_, ?_, hPM, Nat.le_trans hMW (Nat.le_trans bV.size f7), kr_t hKr (kr_t (below_kr bV) f2)⟩, ?_⟩
        · rw [hsn, e1]; exact f3
        · rw [hsn, e1]; exact f5
        · rw [hsn]; exact Gd2
        · rw [hsn, hpl]; omega
        · exact (bt hB bV (Nat.le_trans hlow hB.size)).trans (f8 hBG)
      have HR := hide hR
      have HG := hide g1
      have HP1 := hide p1
      have hls : s.1.length + x.1.length ≤ 100000000 := by omega
      replace e1 := hide e1
      gi_wp2_with (refine ⟨trivial, ?_⟩; gi_at_call 41; refine (CallsIn.inRound l (callsIn_wide.2 (unhide cH))).mono ?_; rintro e w5 ⟨rfl, b5⟩)
      have r5 := (b5.block _ (heap_lt (unhide HR))).trans (unhide HR)
      have g5 := (b5.block _ (heap_lt (unhide HG))).trans (unhide HG)
      have p5 := (b5.block _ (heap_lt (unhide HP1))).trans (unhide HP1)
      have k1 : w5.cell? ⟨R, 0, none⟩ = some (.pointer (some ⟨lb k, 0, none⟩)) := by simp [World.cell?, r5]
      have k2 : w5.cell? ⟨P, 0, none⟩ = some (.int .i64 who) := by simp [World.cell?, p5]
      have k3 : w5.cell? ⟨P + 1, 0, none⟩ = some gv := by simp [World.cell?, g5]
      have b5d : Below W.heap.size W w5.drew := b5.drew
      replace b5d := hide b5d
      clear r5 g5 p5
      have hmx : Tryz.prog.follows .mixedOrders = true := by kernel_rfl
      refine wpIn_region_any hmx ?_
      change wpAnyIn _ _ _ _ _ _ _ _ _ (World.drew _)
      refine wpAnyIn_ready (rs := [0, 1, 3]) (by kernel_rfl) (by simp) ?_
      refine AllReadyIn.cons rfl (fun K hK => ?_) ?_
      · go_simp
        refine hK _ _ ?_
        clear hK K
        refine wpAnyIn_ready (rs := [1, 3]) (by kernel_rfl) (by simp) ?_
        refine AllReadyIn.cons rfl (fun K hK => ?_) ?_
        · go_simp
          refine hK _ _ ?_
          clear hK K
          refine wpAnyIn_ready (rs := [2, 3]) (by kernel_rfl) (by simp) ?_
          refine AllReadyIn.cons rfl (fun K hK => ?_) ?_
          · go_simp
            refine hK _ _ ?_
            clear hK K
            refine wpAnyIn_ready (rs := [3]) (by kernel_rfl) (by simp) ?_
            refine AllReadyIn.cons rfl (fun K hK => ?_) ?_
            · go_simp
              refine hK _ _ ?_
              clear hK K
              refine wpAnyIn_ready (rs := [4]) (by kernel_rfl) (by simp) ?_
              refine AllReadyIn.cons rfl (fun K hK => ?_) ?_
              · go_simp
                gi_wp2_with (refine ⟨trivial, ?_⟩; gi_at_call 42; refine (CallsIn.inRound l (callsIn_wide.2 (unhide key _ (unhide b5d)))).mono ?_; rintro e w6 ⟨gl, hv', qv', rfl, I6, L6, M6⟩)
                rw [← unhide hx] at I6 L6
                obtain ⟨q1, v', w7, happ, q2, q3, f1, f2, f3, f4, f5, f6, f7, f8⟩ := unhide rnd _ (unhide b5d) gl hv' qv' w6 I6 L6 M6 hls hB2
                clear I6 L6 M6
                obtain ⟨a9, n9, c9, rfl⟩ : ∃ a n c, v' = Value.slice a n c := (by obtain ⟨a, c, e⟩ := f5.form; exact ⟨a, _, c, e⟩)
                replace f1 := hide f1
                replace f2 := hide f2
                replace f3 := hide f3
                replace f4 := hide f4
                replace f5 := hide f5
                replace f6 := hide f6
                replace f7 := hide f7
                replace f8 := hide f8
                refine wpAnyIn_ready (rs := [5]) (by kernel_rfl) (by simp) ?_
                refine AllReadyIn.cons rfl (fun K hK => ?_) ?_
                · refine stepIn_app rfl (.tmp 19) (.tmp 23) rfl rfl rfl happ ?_
                  refine hK _ _ ?_
                  clear hK K
                  refine wpAnyIn_ready (rs := [6]) (by kernel_rfl) (by simp) ?_
                  refine AllReadyIn.cons rfl (fun K hK => ?_) ?_
                  · go_simp
                    refine hK _ _ ?_
                    clear hK K
                    refine wpAnyIn_done (by kernel_rfl) ?_ _
                    exact unhide fin _ (unhide b5d) _ _ _ _ (unhide f1) (unhide f2) (unhide f3) (unhide f4) (unhide f5) (unhide f6) (unhide f7) (unhide f8)
                  exact AllReadyIn.nil
                exact AllReadyIn.nil
              exact AllReadyIn.nil
            exact AllReadyIn.nil
          refine AllReadyIn.cons rfl (fun K hK => ?_) ?_
          · go_simp
            refine hK _ _ ?_
            clear hK K
            refine wpAnyIn_ready (rs := [2]) (by kernel_rfl) (by simp) ?_
            refine AllReadyIn.cons rfl (fun K hK => ?_) ?_
            · go_simp
              refine hK _ _ ?_
              clear hK K
              refine wpAnyIn_ready (rs := [4]) (by kernel_rfl) (by simp) ?_
              refine AllReadyIn.cons rfl (fun K hK => ?_) ?_
              · go_simp
                gi_wp2_with (refine ⟨trivial, ?_⟩; gi_at_call 42; refine (CallsIn.inRound l (callsIn_wide.2 (unhide key _ (unhide b5d)))).mono ?_; rintro e w6 ⟨gl, hv', qv', rfl, I6, L6, M6⟩)
                rw [← unhide hx] at I6 L6
                obtain ⟨q1, v', w7, happ, q2, q3, f1, f2, f3, f4, f5, f6, f7, f8⟩ := unhide rnd _ (unhide b5d) gl hv' qv' w6 I6 L6 M6 hls hB2
                clear I6 L6 M6
                obtain ⟨a9, n9, c9, rfl⟩ : ∃ a n c, v' = Value.slice a n c := (by obtain ⟨a, c, e⟩ := f5.form; exact ⟨a, _, c, e⟩)
                replace f1 := hide f1
                replace f2 := hide f2
                replace f3 := hide f3
                replace f4 := hide f4
                replace f5 := hide f5
                replace f6 := hide f6
                replace f7 := hide f7
                replace f8 := hide f8
                refine wpAnyIn_ready (rs := [5]) (by kernel_rfl) (by simp) ?_
                refine AllReadyIn.cons rfl (fun K hK => ?_) ?_
                · refine stepIn_app rfl (.tmp 19) (.tmp 23) rfl rfl rfl happ ?_
                  refine hK _ _ ?_
                  clear hK K
                  refine wpAnyIn_ready (rs := [6]) (by kernel_rfl) (by simp) ?_
                  refine AllReadyIn.cons rfl (fun K hK => ?_) ?_
                  · go_simp
                    refine hK _ _ ?_
                    clear hK K
                    refine wpAnyIn_done (by kernel_rfl) ?_ _
                    exact unhide fin _ (unhide b5d) _ _ _ _ (unhide f1) (unhide f2) (unhide f3) (unhide f4) (unhide f5) (unhide f6) (unhide f7) (unhide f8)
                  exact AllReadyIn.nil
                exact AllReadyIn.nil
              exact AllReadyIn.nil
            exact AllReadyIn.nil
          exact AllReadyIn.nil
        refine AllReadyIn.cons rfl (fun K hK => ?_) ?_
        · go_simp
          refine hK _ _ ?_
          clear hK K
          refine wpAnyIn_ready (rs := [1]) (by kernel_rfl) (by simp) ?_
          refine AllReadyIn.cons rfl (fun K hK => ?_) ?_
          · go_simp
            refine hK _ _ ?_
            clear hK K
            refine wpAnyIn_ready (rs := [2]) (by kernel_rfl) (by simp) ?_
            refine AllReadyIn.cons rfl (fun K hK => ?_) ?_
            · go_simp
              refine hK _ _ ?_
              clear hK K
              refine wpAnyIn_ready (rs := [4]) (by kernel_rfl) (by simp) ?_
              refine AllReadyIn.cons rfl (fun K hK => ?_) ?_
              · go_simp
                gi_wp2_with (refine ⟨trivial, ?_⟩; gi_at_call 42; refine (CallsIn.inRound l (callsIn_wide.2 (unhide key _ (unhide b5d)))).mono ?_; rintro e w6 ⟨gl, hv', qv', rfl, I6, L6, M6⟩)
                rw [← unhide hx] at I6 L6
                obtain ⟨q1, v', w7, happ, q2, q3, f1, f2, f3, f4, f5, f6, f7, f8⟩ := unhide rnd _ (unhide b5d) gl hv' qv' w6 I6 L6 M6 hls hB2
                clear I6 L6 M6
                obtain ⟨a9, n9, c9, rfl⟩ : ∃ a n c, v' = Value.slice a n c := (by obtain ⟨a, c, e⟩ := f5.form; exact ⟨a, _, c, e⟩)
                replace f1 := hide f1
                replace f2 := hide f2
                replace f3 := hide f3
                replace f4 := hide f4
                replace f5 := hide f5
                replace f6 := hide f6
                replace f7 := hide f7
                replace f8 := hide f8
                refine wpAnyIn_ready (rs := [5]) (by kernel_rfl) (by simp) ?_
                refine AllReadyIn.cons rfl (fun K hK => ?_) ?_
                · refine stepIn_app rfl (.tmp 19) (.tmp 23) rfl rfl rfl happ ?_
                  refine hK _ _ ?_
                  clear hK K
                  refine wpAnyIn_ready (rs := [6]) (by kernel_rfl) (by simp) ?_
                  refine AllReadyIn.cons rfl (fun K hK => ?_) ?_
                  · go_simp
                    refine hK _ _ ?_
                    clear hK K
                    refine wpAnyIn_done (by kernel_rfl) ?_ _
                    exact unhide fin _ (unhide b5d) _ _ _ _ (unhide f1) (unhide f2) (unhide f3) (unhide f4) (unhide f5) (unhide f6) (unhide f7) (unhide f8)
                  exact AllReadyIn.nil
                exact AllReadyIn.nil
              exact AllReadyIn.nil
            exact AllReadyIn.nil
          exact AllReadyIn.nil
        exact AllReadyIn.nil
      refine AllReadyIn.cons rfl (fun K hK => ?_) ?_
      · go_simp
        refine hK _ _ ?_
        clear hK K
        refine wpAnyIn_ready (rs := [0, 2, 3]) (by kernel_rfl) (by simp) ?_
        refine AllReadyIn.cons rfl (fun K hK => ?_) ?_
        · go_simp
          refine hK _ _ ?_
          clear hK K
          refine wpAnyIn_ready (rs := [2, 3]) (by kernel_rfl) (by simp) ?_
          refine AllReadyIn.cons rfl (fun K hK => ?_) ?_
          · go_simp
            refine hK _ _ ?_
            clear hK K
            refine wpAnyIn_ready (rs := [3]) (by kernel_rfl) (by simp) ?_
            refine AllReadyIn.cons rfl (fun K hK => ?_) ?_
            · go_simp
              refine hK _ _ ?_
              clear hK K
              refine wpAnyIn_ready (rs := [4]) (by kernel_rfl) (by simp) ?_
              refine AllReadyIn.cons rfl (fun K hK => ?_) ?_
              · go_simp
                gi_wp2_with (refine ⟨trivial, ?_⟩; gi_at_call 42; refine (CallsIn.inRound l (callsIn_wide.2 (unhide key _ (unhide b5d)))).mono ?_; rintro e w6 ⟨gl, hv', qv', rfl, I6, L6, M6⟩)
                rw [← unhide hx] at I6 L6
                obtain ⟨q1, v', w7, happ, q2, q3, f1, f2, f3, f4, f5, f6, f7, f8⟩ := unhide rnd _ (unhide b5d) gl hv' qv' w6 I6 L6 M6 hls hB2
                clear I6 L6 M6
                obtain ⟨a9, n9, c9, rfl⟩ : ∃ a n c, v' = Value.slice a n c := (by obtain ⟨a, c, e⟩ := f5.form; exact ⟨a, _, c, e⟩)
                replace f1 := hide f1
                replace f2 := hide f2
                replace f3 := hide f3
                replace f4 := hide f4
                replace f5 := hide f5
                replace f6 := hide f6
                replace f7 := hide f7
                replace f8 := hide f8
                refine wpAnyIn_ready (rs := [5]) (by kernel_rfl) (by simp) ?_
                refine AllReadyIn.cons rfl (fun K hK => ?_) ?_
                · refine stepIn_app rfl (.tmp 19) (.tmp 23) rfl rfl rfl happ ?_
                  refine hK _ _ ?_
                  clear hK K
                  refine wpAnyIn_ready (rs := [6]) (by kernel_rfl) (by simp) ?_
                  refine AllReadyIn.cons rfl (fun K hK => ?_) ?_
                  · go_simp
                    refine hK _ _ ?_
                    clear hK K
                    refine wpAnyIn_done (by kernel_rfl) ?_ _
                    exact unhide fin _ (unhide b5d) _ _ _ _ (unhide f1) (unhide f2) (unhide f3) (unhide f4) (unhide f5) (unhide f6) (unhide f7) (unhide f8)
                  exact AllReadyIn.nil
                exact AllReadyIn.nil
              exact AllReadyIn.nil
            exact AllReadyIn.nil
          refine AllReadyIn.cons rfl (fun K hK => ?_) ?_
          · go_simp
            refine hK _ _ ?_
            clear hK K
            refine wpAnyIn_ready (rs := [2]) (by kernel_rfl) (by simp) ?_
            refine AllReadyIn.cons rfl (fun K hK => ?_) ?_
            · go_simp
              refine hK _ _ ?_
              clear hK K
              refine wpAnyIn_ready (rs := [4]) (by kernel_rfl) (by simp) ?_
              refine AllReadyIn.cons rfl (fun K hK => ?_) ?_
              · go_simp
                gi_wp2_with (refine ⟨trivial, ?_⟩; gi_at_call 42; refine (CallsIn.inRound l (callsIn_wide.2 (unhide key _ (unhide b5d)))).mono ?_; rintro e w6 ⟨gl, hv', qv', rfl, I6, L6, M6⟩)
                rw [← unhide hx] at I6 L6
                obtain ⟨q1, v', w7, happ, q2, q3, f1, f2, f3, f4, f5, f6, f7, f8⟩ := unhide rnd _ (unhide b5d) gl hv' qv' w6 I6 L6 M6 hls hB2
                clear I6 L6 M6
                obtain ⟨a9, n9, c9, rfl⟩ : ∃ a n c, v' = Value.slice a n c := (by obtain ⟨a, c, e⟩ := f5.form; exact ⟨a, _, c, e⟩)
                replace f1 := hide f1
                replace f2 := hide f2
                replace f3 := hide f3
                replace f4 := hide f4
                replace f5 := hide f5
                replace f6 := hide f6
                replace f7 := hide f7
                replace f8 := hide f8
                refine wpAnyIn_ready (rs := [5]) (by kernel_rfl) (by simp) ?_
                refine AllReadyIn.cons rfl (fun K hK => ?_) ?_
                · refine stepIn_app rfl (.tmp 19) (.tmp 23) rfl rfl rfl happ ?_
                  refine hK _ _ ?_
                  clear hK K
                  refine wpAnyIn_ready (rs := [6]) (by kernel_rfl) (by simp) ?_
                  refine AllReadyIn.cons rfl (fun K hK => ?_) ?_
                  · go_simp
                    refine hK _ _ ?_
                    clear hK K
                    refine wpAnyIn_done (by kernel_rfl) ?_ _
                    exact unhide fin _ (unhide b5d) _ _ _ _ (unhide f1) (unhide f2) (unhide f3) (unhide f4) (unhide f5) (unhide f6) (unhide f7) (unhide f8)
                  exact AllReadyIn.nil
                exact AllReadyIn.nil
              exact AllReadyIn.nil
            exact AllReadyIn.nil
          exact AllReadyIn.nil
        refine AllReadyIn.cons rfl (fun K hK => ?_) ?_
        · go_simp
          refine hK _ _ ?_
          clear hK K
          refine wpAnyIn_ready (rs := [0, 3]) (by kernel_rfl) (by simp) ?_
          refine AllReadyIn.cons rfl (fun K hK => ?_) ?_
          · go_simp
            refine hK _ _ ?_
            clear hK K
            refine wpAnyIn_ready (rs := [3]) (by kernel_rfl) (by simp) ?_
            refine AllReadyIn.cons rfl (fun K hK => ?_) ?_
            · go_simp
              refine hK _ _ ?_
              clear hK K
              refine wpAnyIn_ready (rs := [4]) (by kernel_rfl) (by simp) ?_
              refine AllReadyIn.cons rfl (fun K hK => ?_) ?_
              · go_simp
                gi_wp2_with (refine ⟨trivial, ?_⟩; gi_at_call 42; refine (CallsIn.inRound l (callsIn_wide.2 (unhide key _ (unhide b5d)))).mono ?_; rintro e w6 ⟨gl, hv', qv', rfl, I6, L6, M6⟩)
                rw [← unhide hx] at I6 L6
                obtain ⟨q1, v', w7, happ, q2, q3, f1, f2, f3, f4, f5, f6, f7, f8⟩ := unhide rnd _ (unhide b5d) gl hv' qv' w6 I6 L6 M6 hls hB2
                clear I6 L6 M6
                obtain ⟨a9, n9, c9, rfl⟩ : ∃ a n c, v' = Value.slice a n c := (by obtain ⟨a, c, e⟩ := f5.form; exact ⟨a, _, c, e⟩)
                replace f1 := hide f1
                replace f2 := hide f2
                replace f3 := hide f3
                replace f4 := hide f4
                replace f5 := hide f5
                replace f6 := hide f6
                replace f7 := hide f7
                replace f8 := hide f8
                refine wpAnyIn_ready (rs := [5]) (by kernel_rfl) (by simp) ?_
                refine AllReadyIn.cons rfl (fun K hK => ?_) ?_
                · refine stepIn_app rfl (.tmp 19) (.tmp 23) rfl rfl rfl happ ?_
                  refine hK _ _ ?_
                  clear hK K
                  refine wpAnyIn_ready (rs := [6]) (by kernel_rfl) (by simp) ?_
                  refine AllReadyIn.cons rfl (fun K hK => ?_) ?_
                  · go_simp
                    refine hK _ _ ?_
                    clear hK K
                    refine wpAnyIn_done (by kernel_rfl) ?_ _
                    exact unhide fin _ (unhide b5d) _ _ _ _ (unhide f1) (unhide f2) (unhide f3) (unhide f4) (unhide f5) (unhide f6) (unhide f7) (unhide f8)
                  exact AllReadyIn.nil
                exact AllReadyIn.nil
              exact AllReadyIn.nil
            exact AllReadyIn.nil
          refine AllReadyIn.cons rfl (fun K hK => ?_) ?_
          · go_simp
            refine hK _ _ ?_
            clear hK K
            refine wpAnyIn_ready (rs := [0, 4]) (by kernel_rfl) (by simp) ?_
            refine AllReadyIn.cons rfl (fun K hK => ?_) ?_
            · go_simp
              refine hK _ _ ?_
              clear hK K
              refine wpAnyIn_ready (rs := [4]) (by kernel_rfl) (by simp) ?_
              refine AllReadyIn.cons rfl (fun K hK => ?_) ?_
              · go_simp
                gi_wp2_with (refine ⟨trivial, ?_⟩; gi_at_call 42; refine (CallsIn.inRound l (callsIn_wide.2 (unhide key _ (unhide b5d)))).mono ?_; rintro e w6 ⟨gl, hv', qv', rfl, I6, L6, M6⟩)
                rw [← unhide hx] at I6 L6
                obtain ⟨q1, v', w7, happ, q2, q3, f1, f2, f3, f4, f5, f6, f7, f8⟩ := unhide rnd _ (unhide b5d) gl hv' qv' w6 I6 L6 M6 hls hB2
                clear I6 L6 M6
                obtain ⟨a9, n9, c9, rfl⟩ : ∃ a n c, v' = Value.slice a n c := (by obtain ⟨a, c, e⟩ := f5.form; exact ⟨a, _, c, e⟩)
                replace f1 := hide f1
                replace f2 := hide f2
                replace f3 := hide f3
                replace f4 := hide f4
                replace f5 := hide f5
                replace f6 := hide f6
                replace f7 := hide f7
                replace f8 := hide f8
                refine wpAnyIn_ready (rs := [5]) (by kernel_rfl) (by simp) ?_
                refine AllReadyIn.cons rfl (fun K hK => ?_) ?_
                · refine stepIn_app rfl (.tmp 19) (.tmp 23) rfl rfl rfl happ ?_
                  refine hK _ _ ?_
                  clear hK K
                  refine wpAnyIn_ready (rs := [6]) (by kernel_rfl) (by simp) ?_
                  refine AllReadyIn.cons rfl (fun K hK => ?_) ?_
                  · go_simp
                    refine hK _ _ ?_
                    clear hK K
                    refine wpAnyIn_done (by kernel_rfl) ?_ _
                    exact unhide fin _ (unhide b5d) _ _ _ _ (unhide f1) (unhide f2) (unhide f3) (unhide f4) (unhide f5) (unhide f6) (unhide f7) (unhide f8)
                  exact AllReadyIn.nil
                exact AllReadyIn.nil
              exact AllReadyIn.nil
            refine AllReadyIn.cons rfl (fun K hK => ?_) ?_
            · go_simp
              gi_wp2_with (refine ⟨trivial, ?_⟩; gi_at_call 42; refine (CallsIn.inRound l (callsIn_wide.2 (unhide key _ (unhide b5d)))).mono ?_; rintro e w6 ⟨gl, hv', qv', rfl, I6, L6, M6⟩)
              rw [← unhide hx] at I6 L6
              obtain ⟨q1, v', w7, happ, q2, q3, f1, f2, f3, f4, f5, f6, f7, f8⟩ := unhide rnd _ (unhide b5d) gl hv' qv' w6 I6 L6 M6 hls hB2
              clear I6 L6 M6
              obtain ⟨a9, n9, c9, rfl⟩ : ∃ a n c, v' = Value.slice a n c := (by obtain ⟨a, c, e⟩ := f5.form; exact ⟨a, _, c, e⟩)
              replace f1 := hide f1
              replace f2 := hide f2
              replace f3 := hide f3
              replace f4 := hide f4
              replace f5 := hide f5
              replace f6 := hide f6
              replace f7 := hide f7
              replace f8 := hide f8
              refine wpAnyIn_ready (rs := [0]) (by kernel_rfl) (by simp) ?_
              refine AllReadyIn.cons rfl (fun K hK => ?_) ?_
              · go_simp
                refine hK _ _ ?_
                clear hK K
                refine wpAnyIn_ready (rs := [5]) (by kernel_rfl) (by simp) ?_
                refine AllReadyIn.cons rfl (fun K hK => ?_) ?_
                · refine stepIn_app rfl (.tmp 19) (.tmp 23) rfl rfl rfl happ ?_
                  refine hK _ _ ?_
                  clear hK K
                  refine wpAnyIn_ready (rs := [6]) (by kernel_rfl) (by simp) ?_
                  refine AllReadyIn.cons rfl (fun K hK => ?_) ?_
                  · go_simp
                    refine hK _ _ ?_
                    clear hK K
                    refine wpAnyIn_done (by kernel_rfl) ?_ _
                    exact unhide fin _ (unhide b5d) _ _ _ _ (unhide f1) (unhide f2) (unhide f3) (unhide f4) (unhide f5) (unhide f6) (unhide f7) (unhide f8)
                  exact AllReadyIn.nil
                exact AllReadyIn.nil
              exact AllReadyIn.nil
            exact AllReadyIn.nil
          exact AllReadyIn.nil
        refine AllReadyIn.cons rfl (fun K hK => ?_) ?_
        · go_simp
          refine hK _ _ ?_
          clear hK K
          refine wpAnyIn_ready (rs := [0, 2]) (by kernel_rfl) (by simp) ?_
          refine AllReadyIn.cons rfl (fun K hK => ?_) ?_
          · go_simp
            refine hK _ _ ?_
            clear hK K
            refine wpAnyIn_ready (rs := [2]) (by kernel_rfl) (by simp) ?_
            refine AllReadyIn.cons rfl (fun K hK => ?_) ?_
            · go_simp
              refine hK _ _ ?_
              clear hK K
              refine wpAnyIn_ready (rs := [4]) (by kernel_rfl) (by simp) ?_
              refine AllReadyIn.cons rfl (fun K hK => ?_) ?_
              · go_simp
                gi_wp2_with (refine ⟨trivial, ?_⟩; gi_at_call 42; refine (CallsIn.inRound l (callsIn_wide.2 (unhide key _ (unhide b5d)))).mono ?_; rintro e w6 ⟨gl, hv', qv', rfl, I6, L6, M6⟩)
                rw [← unhide hx] at I6 L6
                obtain ⟨q1, v', w7, happ, q2, q3, f1, f2, f3, f4, f5, f6, f7, f8⟩ := unhide rnd _ (unhide b5d) gl hv' qv' w6 I6 L6 M6 hls hB2
                clear I6 L6 M6
                obtain ⟨a9, n9, c9, rfl⟩ : ∃ a n c, v' = Value.slice a n c := (by obtain ⟨a, c, e⟩ := f5.form; exact ⟨a, _, c, e⟩)
                replace f1 := hide f1
                replace f2 := hide f2
                replace f3 := hide f3
                replace f4 := hide f4
                replace f5 := hide f5
                replace f6 := hide f6
                replace f7 := hide f7
                replace f8 := hide f8
                refine wpAnyIn_ready (rs := [5]) (by kernel_rfl) (by simp) ?_
                refine AllReadyIn.cons rfl (fun K hK => ?_) ?_
                · refine stepIn_app rfl (.tmp 19) (.tmp 23) rfl rfl rfl happ ?_
                  refine hK _ _ ?_
                  clear hK K
                  refine wpAnyIn_ready (rs := [6]) (by kernel_rfl) (by simp) ?_
                  refine AllReadyIn.cons rfl (fun K hK => ?_) ?_
                  · go_simp
                    refine hK _ _ ?_
                    clear hK K
                    refine wpAnyIn_done (by kernel_rfl) ?_ _
                    exact unhide fin _ (unhide b5d) _ _ _ _ (unhide f1) (unhide f2) (unhide f3) (unhide f4) (unhide f5) (unhide f6) (unhide f7) (unhide f8)
                  exact AllReadyIn.nil
                exact AllReadyIn.nil
              exact AllReadyIn.nil
            exact AllReadyIn.nil
          refine AllReadyIn.cons rfl (fun K hK => ?_) ?_
          · go_simp
            refine hK _ _ ?_
            clear hK K
            refine wpAnyIn_ready (rs := [0, 4]) (by kernel_rfl) (by simp) ?_
            refine AllReadyIn.cons rfl (fun K hK => ?_) ?_
            · go_simp
              refine hK _ _ ?_
              clear hK K
              refine wpAnyIn_ready (rs := [4]) (by kernel_rfl) (by simp) ?_
              refine AllReadyIn.cons rfl (fun K hK => ?_) ?_
              · go_simp
                gi_wp2_with (refine ⟨trivial, ?_⟩; gi_at_call 42; refine (CallsIn.inRound l (callsIn_wide.2 (unhide key _ (unhide b5d)))).mono ?_; rintro e w6 ⟨gl, hv', qv', rfl, I6, L6, M6⟩)
                rw [← unhide hx] at I6 L6
                obtain ⟨q1, v', w7, happ, q2, q3, f1, f2, f3, f4, f5, f6, f7, f8⟩ := unhide rnd _ (unhide b5d) gl hv' qv' w6 I6 L6 M6 hls hB2
                clear I6 L6 M6
                obtain ⟨a9, n9, c9, rfl⟩ : ∃ a n c, v' = Value.slice a n c := (by obtain ⟨a, c, e⟩ := f5.form; exact ⟨a, _, c, e⟩)
                replace f1 := hide f1
                replace f2 := hide f2
                replace f3 := hide f3
                replace f4 := hide f4
                replace f5 := hide f5
                replace f6 := hide f6
                replace f7 := hide f7
                replace f8 := hide f8
                refine wpAnyIn_ready (rs := [5]) (by kernel_rfl) (by simp) ?_
                refine AllReadyIn.cons rfl (fun K hK => ?_) ?_
                · refine stepIn_app rfl (.tmp 19) (.tmp 23) rfl rfl rfl happ ?_
                  refine hK _ _ ?_
                  clear hK K
                  refine wpAnyIn_ready (rs := [6]) (by kernel_rfl) (by simp) ?_
                  refine AllReadyIn.cons rfl (fun K hK => ?_) ?_
                  · go_simp
                    refine hK _ _ ?_
                    clear hK K
                    refine wpAnyIn_done (by kernel_rfl) ?_ _
                    exact unhide fin _ (unhide b5d) _ _ _ _ (unhide f1) (unhide f2) (unhide f3) (unhide f4) (unhide f5) (unhide f6) (unhide f7) (unhide f8)
                  exact AllReadyIn.nil
                exact AllReadyIn.nil
              exact AllReadyIn.nil
            refine AllReadyIn.cons rfl (fun K hK => ?_) ?_
            · go_simp
              gi_wp2_with (refine ⟨trivial, ?_⟩; gi_at_call 42; refine (CallsIn.inRound l (callsIn_wide.2 (unhide key _ (unhide b5d)))).mono ?_; rintro e w6 ⟨gl, hv', qv', rfl, I6, L6, M6⟩)
              rw [← unhide hx] at I6 L6
              obtain ⟨q1, v', w7, happ, q2, q3, f1, f2, f3, f4, f5, f6, f7, f8⟩ := unhide rnd _ (unhide b5d) gl hv' qv' w6 I6 L6 M6 hls hB2
              clear I6 L6 M6
              obtain ⟨a9, n9, c9, rfl⟩ : ∃ a n c, v' = Value.slice a n c := (by obtain ⟨a, c, e⟩ := f5.form; exact ⟨a, _, c, e⟩)
              replace f1 := hide f1
              replace f2 := hide f2
              replace f3 := hide f3
              replace f4 := hide f4
              replace f5 := hide f5
              replace f6 := hide f6
              replace f7 := hide f7
              replace f8 := hide f8
              refine wpAnyIn_ready (rs := [0]) (by kernel_rfl) (by simp) ?_
              refine AllReadyIn.cons rfl (fun K hK => ?_) ?_
              · go_simp
                refine hK _ _ ?_
                clear hK K
                refine wpAnyIn_ready (rs := [5]) (by kernel_rfl) (by simp) ?_
                refine AllReadyIn.cons rfl (fun K hK => ?_) ?_
                · refine stepIn_app rfl (.tmp 19) (.tmp 23) rfl rfl rfl happ ?_
                  refine hK _ _ ?_
                  clear hK K
                  refine wpAnyIn_ready (rs := [6]) (by kernel_rfl) (by simp) ?_
                  refine AllReadyIn.cons rfl (fun K hK => ?_) ?_
                  · go_simp
                    refine hK _ _ ?_
                    clear hK K
                    refine wpAnyIn_done (by kernel_rfl) ?_ _
                    exact unhide fin _ (unhide b5d) _ _ _ _ (unhide f1) (unhide f2) (unhide f3) (unhide f4) (unhide f5) (unhide f6) (unhide f7) (unhide f8)
                  exact AllReadyIn.nil
                exact AllReadyIn.nil
              exact AllReadyIn.nil
            exact AllReadyIn.nil
          exact AllReadyIn.nil
        exact AllReadyIn.nil
      refine AllReadyIn.cons rfl (fun K hK => ?_) ?_
      · go_simp
        refine hK _ _ ?_
        clear hK K
        refine wpAnyIn_ready (rs := [0, 1]) (by kernel_rfl) (by simp) ?_
        refine AllReadyIn.cons rfl (fun K hK => ?_) ?_
        · go_simp
          refine hK _ _ ?_
          clear hK K
          refine wpAnyIn_ready (rs := [1]) (by kernel_rfl) (by simp) ?_
          refine AllReadyIn.cons rfl (fun K hK => ?_) ?_
          · go_simp
            refine hK _ _ ?_
            clear hK K
            refine wpAnyIn_ready (rs := [2]) (by kernel_rfl) (by simp) ?_
            refine AllReadyIn.cons rfl (fun K hK => ?_) ?_
            · go_simp
              refine hK _ _ ?_
              clear hK K
              refine wpAnyIn_ready (rs := [4]) (by kernel_rfl) (by simp) ?_
              refine AllReadyIn.cons rfl (fun K hK => ?_) ?_
              · go_simp
                gi_wp2_with (refine ⟨trivial, ?_⟩; gi_at_call 42; refine (CallsIn.inRound l (callsIn_wide.2 (unhide key _ (unhide b5d)))).mono ?_; rintro e w6 ⟨gl, hv', qv', rfl, I6, L6, M6⟩)
                rw [← unhide hx] at I6 L6
                obtain ⟨q1, v', w7, happ, q2, q3, f1, f2, f3, f4, f5, f6, f7, f8⟩ := unhide rnd _ (unhide b5d) gl hv' qv' w6 I6 L6 M6 hls hB2
                clear I6 L6 M6
                obtain ⟨a9, n9, c9, rfl⟩ : ∃ a n c, v' = Value.slice a n c := (by obtain ⟨a, c, e⟩ := f5.form; exact ⟨a, _, c, e⟩)
                replace f1 := hide f1
                replace f2 := hide f2
                replace f3 := hide f3
                replace f4 := hide f4
                replace f5 := hide f5
                replace f6 := hide f6
                replace f7 := hide f7
                replace f8 := hide f8
                refine wpAnyIn_ready (rs := [5]) (by kernel_rfl) (by simp) ?_
                refine AllReadyIn.cons rfl (fun K hK => ?_) ?_
                · refine stepIn_app rfl (.tmp 19) (.tmp 23) rfl rfl rfl happ ?_
                  refine hK _ _ ?_
                  clear hK K
                  refine wpAnyIn_ready (rs := [6]) (by kernel_rfl) (by simp) ?_
                  refine AllReadyIn.cons rfl (fun K hK => ?_) ?_
                  · go_simp
                    refine hK _ _ ?_
                    clear hK K
                    refine wpAnyIn_done (by kernel_rfl) ?_ _
                    exact unhide fin _ (unhide b5d) _ _ _ _ (unhide f1) (unhide f2) (unhide f3) (unhide f4) (unhide f5) (unhide f6) (unhide f7) (unhide f8)
                  exact AllReadyIn.nil
                exact AllReadyIn.nil
              exact AllReadyIn.nil
            exact AllReadyIn.nil
          exact AllReadyIn.nil
        refine AllReadyIn.cons rfl (fun K hK => ?_) ?_
        · go_simp
          refine hK _ _ ?_
          clear hK K
          refine wpAnyIn_ready (rs := [0, 2]) (by kernel_rfl) (by simp) ?_
          refine AllReadyIn.cons rfl (fun K hK => ?_) ?_
          · go_simp
            refine hK _ _ ?_
            clear hK K
            refine wpAnyIn_ready (rs := [2]) (by kernel_rfl) (by simp) ?_
            refine AllReadyIn.cons rfl (fun K hK => ?_) ?_
            · go_simp
              refine hK _ _ ?_
              clear hK K
              refine wpAnyIn_ready (rs := [4]) (by kernel_rfl) (by simp) ?_
              refine AllReadyIn.cons rfl (fun K hK => ?_) ?_
              · go_simp
                gi_wp2_with (refine ⟨trivial, ?_⟩; gi_at_call 42; refine (CallsIn.inRound l (callsIn_wide.2 (unhide key _ (unhide b5d)))).mono ?_; rintro e w6 ⟨gl, hv', qv', rfl, I6, L6, M6⟩)
                rw [← unhide hx] at I6 L6
                obtain ⟨q1, v', w7, happ, q2, q3, f1, f2, f3, f4, f5, f6, f7, f8⟩ := unhide rnd _ (unhide b5d) gl hv' qv' w6 I6 L6 M6 hls hB2
                clear I6 L6 M6
                obtain ⟨a9, n9, c9, rfl⟩ : ∃ a n c, v' = Value.slice a n c := (by obtain ⟨a, c, e⟩ := f5.form; exact ⟨a, _, c, e⟩)
                replace f1 := hide f1
                replace f2 := hide f2
                replace f3 := hide f3
                replace f4 := hide f4
                replace f5 := hide f5
                replace f6 := hide f6
                replace f7 := hide f7
                replace f8 := hide f8
                refine wpAnyIn_ready (rs := [5]) (by kernel_rfl) (by simp) ?_
                refine AllReadyIn.cons rfl (fun K hK => ?_) ?_
                · refine stepIn_app rfl (.tmp 19) (.tmp 23) rfl rfl rfl happ ?_
                  refine hK _ _ ?_
                  clear hK K
                  refine wpAnyIn_ready (rs := [6]) (by kernel_rfl) (by simp) ?_
                  refine AllReadyIn.cons rfl (fun K hK => ?_) ?_
                  · go_simp
                    refine hK _ _ ?_
                    clear hK K
                    refine wpAnyIn_done (by kernel_rfl) ?_ _
                    exact unhide fin _ (unhide b5d) _ _ _ _ (unhide f1) (unhide f2) (unhide f3) (unhide f4) (unhide f5) (unhide f6) (unhide f7) (unhide f8)
                  exact AllReadyIn.nil
                exact AllReadyIn.nil
              exact AllReadyIn.nil
            exact AllReadyIn.nil
          refine AllReadyIn.cons rfl (fun K hK => ?_) ?_
          · go_simp
            refine hK _ _ ?_
            clear hK K
            refine wpAnyIn_ready (rs := [0, 4]) (by kernel_rfl) (by simp) ?_
            refine AllReadyIn.cons rfl (fun K hK => ?_) ?_
            · go_simp
              refine hK _ _ ?_
              clear hK K
              refine wpAnyIn_ready (rs := [4]) (by kernel_rfl) (by simp) ?_
              refine AllReadyIn.cons rfl (fun K hK => ?_) ?_
              · go_simp
                gi_wp2_with (refine ⟨trivial, ?_⟩; gi_at_call 42; refine (CallsIn.inRound l (callsIn_wide.2 (unhide key _ (unhide b5d)))).mono ?_; rintro e w6 ⟨gl, hv', qv', rfl, I6, L6, M6⟩)
                rw [← unhide hx] at I6 L6
                obtain ⟨q1, v', w7, happ, q2, q3, f1, f2, f3, f4, f5, f6, f7, f8⟩ := unhide rnd _ (unhide b5d) gl hv' qv' w6 I6 L6 M6 hls hB2
                clear I6 L6 M6
                obtain ⟨a9, n9, c9, rfl⟩ : ∃ a n c, v' = Value.slice a n c := (by obtain ⟨a, c, e⟩ := f5.form; exact ⟨a, _, c, e⟩)
                replace f1 := hide f1
                replace f2 := hide f2
                replace f3 := hide f3
                replace f4 := hide f4
                replace f5 := hide f5
                replace f6 := hide f6
                replace f7 := hide f7
                replace f8 := hide f8
                refine wpAnyIn_ready (rs := [5]) (by kernel_rfl) (by simp) ?_
                refine AllReadyIn.cons rfl (fun K hK => ?_) ?_
                · refine stepIn_app rfl (.tmp 19) (.tmp 23) rfl rfl rfl happ ?_
                  refine hK _ _ ?_
                  clear hK K
                  refine wpAnyIn_ready (rs := [6]) (by kernel_rfl) (by simp) ?_
                  refine AllReadyIn.cons rfl (fun K hK => ?_) ?_
                  · go_simp
                    refine hK _ _ ?_
                    clear hK K
                    refine wpAnyIn_done (by kernel_rfl) ?_ _
                    exact unhide fin _ (unhide b5d) _ _ _ _ (unhide f1) (unhide f2) (unhide f3) (unhide f4) (unhide f5) (unhide f6) (unhide f7) (unhide f8)
                  exact AllReadyIn.nil
                exact AllReadyIn.nil
              exact AllReadyIn.nil
            refine AllReadyIn.cons rfl (fun K hK => ?_) ?_
            · go_simp
              gi_wp2_with (refine ⟨trivial, ?_⟩; gi_at_call 42; refine (CallsIn.inRound l (callsIn_wide.2 (unhide key _ (unhide b5d)))).mono ?_; rintro e w6 ⟨gl, hv', qv', rfl, I6, L6, M6⟩)
              rw [← unhide hx] at I6 L6
              obtain ⟨q1, v', w7, happ, q2, q3, f1, f2, f3, f4, f5, f6, f7, f8⟩ := unhide rnd _ (unhide b5d) gl hv' qv' w6 I6 L6 M6 hls hB2
              clear I6 L6 M6
              obtain ⟨a9, n9, c9, rfl⟩ : ∃ a n c, v' = Value.slice a n c := (by obtain ⟨a, c, e⟩ := f5.form; exact ⟨a, _, c, e⟩)
              replace f1 := hide f1
              replace f2 := hide f2
              replace f3 := hide f3
              replace f4 := hide f4
              replace f5 := hide f5
              replace f6 := hide f6
              replace f7 := hide f7
              replace f8 := hide f8
              refine wpAnyIn_ready (rs := [0]) (by kernel_rfl) (by simp) ?_
              refine AllReadyIn.cons rfl (fun K hK => ?_) ?_
              · go_simp
                refine hK _ _ ?_
                clear hK K
                refine wpAnyIn_ready (rs := [5]) (by kernel_rfl) (by simp) ?_
                refine AllReadyIn.cons rfl (fun K hK => ?_) ?_
                · refine stepIn_app rfl (.tmp 19) (.tmp 23) rfl rfl rfl happ ?_
                  refine hK _ _ ?_
                  clear hK K
                  refine wpAnyIn_ready (rs := [6]) (by kernel_rfl) (by simp) ?_
                  refine AllReadyIn.cons rfl (fun K hK => ?_) ?_
                  · go_simp
                    refine hK _ _ ?_
                    clear hK K
                    refine wpAnyIn_done (by kernel_rfl) ?_ _
                    exact unhide fin _ (unhide b5d) _ _ _ _ (unhide f1) (unhide f2) (unhide f3) (unhide f4) (unhide f5) (unhide f6) (unhide f7) (unhide f8)
                  exact AllReadyIn.nil
                exact AllReadyIn.nil
              exact AllReadyIn.nil
            exact AllReadyIn.nil
          exact AllReadyIn.nil
        exact AllReadyIn.nil
      exact AllReadyIn.nil
  case done =>
    rintro D ys W hD hys ⟨⟨hv1, qv1, gv, t1, g1, i1, p1, G1, l1, hPM, hMW, hKr⟩, hB⟩ hK
    rw [hys] at t1 i1
    have c1 : W.cell? ⟨P + 1, 0, none⟩ = some gv := by simp [World.cell?, g1]
    gi_wp2
    refine ⟨by simp, .inl ⟨_, _, rfl, run_takeDeferred hK, ?_⟩⟩
    have hcz := cz_own (B := 0) (grownBy_putObj' W D (.deferred none)) (fun r e => by cases e; exact ⟨Nat.zero_le _, _, hK, rfl⟩)
    refine ⟨_, results_tmp rfl _ _ _, gv, hv1, qv1, W2.heap.size, rfl, ?_, i1.cz hcz, t1.1.cz hcz, ?_, fun j c t hj ht => hcz _ _ _ _ (hKr j c t hj ht), by have h9 := t1.2; rw [unhide hP] at h9; exact h9⟩
    · rw [osz]; have := unhide hP; omega
    · exact hB.trans (belowK_b (w := w) hlow W D _ _ (by have := unhide hP; omega) hK rfl rfl)
  case stop =>
    rintro D c pre W hD _ h _
    exact h.elim
end Go.Proofs.YtgiklggnolbiiaaGreat

/- The reference's table in memory; what only reads it. -/
namespace Go.Proofs.YtgiklggnolbiiaaGreat
open Go.RowKit

/-- The reference's table in block b: n lanes, the row of their pointers in block rb, with room for c. -/
structure Rt (B n : Nat) (most : Int) (T : Nat → Lv) (b rb c : Nat) (lb : Nat → Nat) (hv qv : Nat → Value) (w : World) : Prop where
  blk : w.heap[b]? = some (.cells #[.int .i64 most, .slice (some ⟨rb, 0, none⟩) n c] 65 (0, 0))
  row : ∃ cur, w.heap[rb]? = some (.cells cur 62 (0, 0)) ∧ ∀ i, i < n → cur[i]? = some (.pointer (some ⟨lb i, 0, none⟩))
  lr : ∀ i, i < n → Lr B (T i).1 (T i).2 (lb i) (hv i) (qv i) w
  dq : ∀ i, i < n → Dq (hv i) (qv i)
  srt : ∀ i, i < n → Srt (T i).1
  inj : ∀ i j, i < n → j < n → lb i = lb j → i = j
  apart : ∀ i j, i < n → j < n → i ≠ j → ∀ k, (hv i).ownBlock = some k ∨ (qv i).ownBlock = some k → (hv j).ownBlock ≠ some k ∧ (qv j).ownBlock ≠ some k
  bB : B ≤ b
  rB : B ≤ rb
theorem Lr.keep {B b : Nat} {H Q : List En} {hv qv : Value} {w w' : World} (h : Lr B H Q b hv qv w) (k1 : w'.heap[b]? = w.heap[b]?) (k2 : ∀ k, hv.ownBlock = some k → w'.heap[k]? = w.heap[k]?) (k3 : ∀ k, qv.ownBlock = some k → w'.heap[k]? = w.heap[k]?) : Lr B H Q b hv qv w' :=
  ⟨k1.trans h.blk, h.hr.keep k2, h.qr.keep k3, h.bB⟩
theorem La.keep {B b : Nat} {H Q : List En} {hv qv : Value} {w w' : World} (h : La B H Q b hv qv w) (k1 : w'.heap[b]? = w.heap[b]?) (k2 : ∀ k, hv.ownBlock = some k → w'.heap[k]? = w.heap[k]?) (k3 : ∀ k, qv.ownBlock = some k → w'.heap[k]? = w.heap[k]?) : La B H Q b hv qv w' :=
  ⟨k1.trans h.blk, h.hr.keep k2, h.qr.keep k3, h.dq, h.bB, h.srt⟩
namespace Rt
variable {B n : Nat} {most : Int} {T : Nat → Lv} {b rb c : Nat} {lb : Nat → Nat} {hv qv : Nat → Value} {w w' : World}
theorem lt (h : Rt B n most T b rb c lb hv qv w) : b < w.heap.size := heap_lt h.blk
theorem rlt (h : Rt B n most T b rb c lb hv qv w) : rb < w.heap.size := heap_lt h.row.choose_spec.1
theorem low (h : Rt B n most T b rb c lb hv qv w) : B ≤ w.heap.size := Nat.le_of_lt (Nat.lt_of_le_of_lt h.bB h.lt)
theorem next (h : Rt B n most T b rb c lb hv qv w) (k : Below w.heap.size w w') : Rt B n most T b rb c lb hv qv w' :=
  ⟨(k.block b h.lt).trans h.blk, ⟨_, (k.block rb h.rlt).trans h.row.choose_spec.1, h.row.choose_spec.2⟩, fun i hi => (h.lr i hi).next k, h.dq, h.srt, h.inj, h.apart, h.bB, h.rB⟩
theorem drew (h : Rt B n most T b rb c lb hv qv w) : Rt B n most T b rb c lb hv qv w.drew := h.next ⟨rfl, rfl, rfl, Nat.le_refl _, fun _ _ => rfl⟩
theorem drewN (h : Rt B n most T b rb c lb hv qv w) (k : Nat) : Rt B n most T b rb c lb hv qv (w.drewN k) := h.next ⟨rfl, rfl, rfl, Nat.le_refl _, fun _ _ => rfl⟩
theorem c0 (h : Rt B n most T b rb c lb hv qv w) : w.cell? ⟨b, 0, none⟩ = some (.int .i64 most) := by have := h.blk; simp [World.cell?, this]
theorem c1 (h : Rt B n most T b rb c lb hv qv w) : w.cell? ⟨b, 1, none⟩ = some (.slice (some ⟨rb, 0, none⟩) n c) := by have := h.blk; simp [World.cell?, this]
theorem at_ (h : Rt B n most T b rb c lb hv qv w) {i : Nat} (hi : i < n) : w.cell? ⟨rb, i, none⟩ = some (.pointer (some ⟨lb i, 0, none⟩)) := by
  obtain ⟨cur, h1, h2⟩ := h.row
  simp [World.cell?, h1, h2 i hi]
/-- Another lane is turned: this one stays. -/
theorem other (h : Rt B n most T b rb c lb hv qv w) {i j : Nat} (hi : i < n) (hj : j < n) (hne : j ≠ i) {hv' qv' : Value} (m : Mv (lb i) (hv i) (qv i) hv' qv' w w') : Lr B (T j).1 (T j).2 (lb j) (hv j) (qv j) w' := by
  have l := h.lr j hj
  have li := h.lr i hi
  refine l.keep (m.block _ l.lt (fun e => hne (h.inj j i hj hi e)) (es_ne li.hr l.blk (by decide)) (es_ne li.qr l.blk (by decide))) (fun g hg => ?_) (fun g hg => ?_)
  · have a := h.apart j i hj hi hne g (.inl hg)
    exact m.block g (l.hr.lt g hg).2 (fun e => es_ne l.hr li.blk (by decide) (by rw [← e]; exact hg)) a.1 a.2
  · have a := h.apart j i hj hi hne g (.inr hg)
    exact m.block g (l.qr.lt g hg).2 (fun e => es_ne l.qr li.blk (by decide) (by rw [← e]; exact hg)) a.1 a.2
/-- Lane i is turned. -/
theorem step (h : Rt B n most T b rb c lb hv qv w) {i : Nat} (hi : i < n) {hv' qv' : Value} {x : Lv} (m : Mv (lb i) (hv i) (qv i) hv' qv' w w') (l : Lr B x.1 x.2 (lb i) hv' qv' w') (d : Dq hv' qv') (s : Srt x.1) :
    Rt B n most (upd T i x) b rb c lb (set1 hv i hv') (set1 qv i qv') w' := by
  have li := h.lr i hi
  have new : ∀ j, j < n → j ≠ i → ∀ k, hv'.ownBlock = some k ∨ qv'.ownBlock = some k → (hv j).ownBlock ≠ some k ∧ (qv j).ownBlock ≠ some k := fun j hj hne k hk => by
    have lj := h.lr j hj
    have far : (hv i).ownBlock = some k ∨ (qv i).ownBlock = some k ∨ w.heap.size ≤ k := by
      rcases hk with hk | hk
      · rcases m.ha k hk with e | e
        · exact .inl e
        · exact .inr (.inr e)
      · rcases m.qa k hk with e | e
        · exact .inr (.inl e)
        · exact .inr (.inr e)
    rcases far with e | e | e
    · exact h.apart i j hi hj (fun e => hne e.symm) k (.inl e)
    · exact h.apart i j hi hj (fun e => hne e.symm) k (.inr e)
    · exact ⟨fun e2 => by have := (lj.hr.lt k e2).2; omega, fun e2 => by have := (lj.qr.lt k e2).2; omega⟩
  refine ⟨li.stays m h.blk (by decide) (by decide), ⟨_, li.stays m h.row.choose_spec.1 (by decide) (by decide), h.row.choose_spec.2⟩, fun j hj => ?_, fun j hj => ?_, fun j hj => ?_, h.inj, fun j k hj hk hne g hg => ?_, h.bB, h.rB⟩
  · by_cases e : j = i
    · subst e
      rw [upd_same, set1_same, set1_same]
      exact l
    · rw [upd_other T x e, set1_other hv hv' e, set1_other qv qv' e]
      exact h.other hi hj e m
  · by_cases e : j = i
    · subst e
      rw [set1_same, set1_same]
      exact d
    · rw [set1_other hv hv' e, set1_other qv qv' e]
      exact h.dq j hj
  · by_cases e : j = i
    · subst e
      rw [upd_same]
      exact s
    · rw [upd_other T x e]
      exact h.srt j hj
  · by_cases e : j = i
    · subst e
      have e2 : k ≠ j := fun e => hne e.symm
      rw [set1_same, set1_same] at hg
      rw [set1_other hv hv' e2, set1_other qv qv' e2]
      exact new k hk e2 g hg
    · rw [set1_other hv hv' e, set1_other qv qv' e] at hg
      by_cases e2 : k = i
      · subst e2
        rw [set1_same, set1_same]
        refine ⟨fun e3 => ?_, fun e3 => ?_⟩
        · have := new j hj e g (.inl e3)
          rcases hg with hg | hg
          · exact this.1 hg
          · exact this.2 hg
        · have := new j hj e g (.inr e3)
          rcases hg with hg | hg
          · exact this.1 hg
          · exact this.2 hg
      · rw [set1_other hv hv' e2, set1_other qv qv' e2]
        exact h.apart j k hj hk hne g hg
end Rt
/-- The blocks that a table has. -/
def OwnT (n b rb : Nat) (lb : Nat → Nat) (hv qv : Nat → Value) (k : Nat) : Prop := k = b ∨ k = rb ∨ ∃ i, i < n ∧ (k = lb i ∨ (hv i).ownBlock = some k ∨ (qv i).ownBlock = some k)
/-- The cells of the blocks of X stay. -/
def Kx (X : Nat → Prop) (w w' : World) : Prop := ∀ (k : Nat) (cur : Array Value) (t : TypeId), X k → w.heap[k]? = some (.cells cur t (0, 0)) → w'.heap[k]? = some (.cells cur t (0, 0))
theorem Kx.trans {X : Nat → Prop} {w w' w'' : World} (h : Kx X w w') (k : Kx X w' w'') : Kx X w w'' := fun j c t hj hc => k j c t hj (h j c t hj hc)
theorem Kx.of {X : Nat → Prop} {w w' : World} (h : Below w.heap.size w w') : Kx X w w' := fun k _ _ _ hk => (h.block k (heap_lt hk)).trans hk
theorem Kx.kr {X : Nat → Prop} {w w' : World} (h : Kr X w w') : Kx X w w' := fun k c t hk hc => h k c t hc (.inr (.inr (.inr hk)))
theorem kx_eq {X : Nat → Prop} {w w' : World} (h : Kx X w w') {k : Nat} (hk : X k) {cur : Array Value} {t : TypeId} (hc : w.heap[k]? = some (.cells cur t (0, 0))) : w'.heap[k]? = w.heap[k]? := by rw [h k cur t hk hc, hc]
theorem Es.kx {X : Nat → Prop} {B : Nat} {v : Value} {l : List En} {w w' : World} (h : Es B v l w) (k : Kx X w w') (hX : ∀ g, v.ownBlock = some g → X g) : Es B v l w' := h.keep fun g hg => by
  obtain ⟨cur, hc⟩ := h.ty g hg
  exact kx_eq k (hX g hg) hc
theorem Rt.kx {X : Nat → Prop} {B n : Nat} {most : Int} {T : Nat → Lv} {b rb c : Nat} {lb : Nat → Nat} {hv qv : Nat → Value} {w w' : World} (h : Rt B n most T b rb c lb hv qv w) (k : Kx X w w') (hX : ∀ j, OwnT n b rb lb hv qv j → X j) : Rt B n most T b rb c lb hv qv w' :=
  ⟨k _ _ _ (hX _ (.inl rfl)) h.blk, ⟨_, k _ _ _ (hX _ (.inr (.inl rfl))) h.row.choose_spec.1, h.row.choose_spec.2⟩,
   fun i hi => ⟨k _ _ _ (hX _ (.inr (.inr ⟨i, hi, .inl rfl⟩))) (h.lr i hi).blk, (h.lr i hi).hr.kx k fun g hg => hX g (.inr (.inr ⟨i, hi, .inr (.inl hg)⟩)), (h.lr i hi).qr.kx k fun g hg => hX g (.inr (.inr ⟨i, hi, .inr (.inr hg)⟩)), (h.lr i hi).bB⟩,
   h.dq, h.srt, h.inj, h.apart, h.bB, h.rB⟩
theorem Tb.kx {X : Nat → Prop} {B n : Nat} {most : Int} {T : Nat → Lv} {b rb : Nat} {lb : Nat → Nat} {hv qv : Nat → Value} {w w' : World} (h : Tb B n most T b rb lb hv qv w) (k : Kx X w w') (hX : ∀ j, OwnT n b rb lb hv qv j → X j) : Tb B n most T b rb lb hv qv w' :=
  ⟨k _ _ _ (hX _ (.inl rfl)) h.blk, ⟨_, k _ _ _ (hX _ (.inr (.inl rfl))) h.row.choose_spec.1, h.row.choose_spec.2⟩,
   ⟨fun i hi => ⟨k _ _ _ (hX _ (.inr (.inr ⟨i, hi, .inl rfl⟩))) (h.ls.la i hi).blk, (h.ls.la i hi).hr.kx k fun g hg => hX g (.inr (.inr ⟨i, hi, .inr (.inl hg)⟩)), (h.ls.la i hi).qr.kx k fun g hg => hX g (.inr (.inr ⟨i, hi, .inr (.inr hg)⟩)), (h.ls.la i hi).dq, (h.ls.la i hi).bB, (h.ls.la i hi).srt⟩,
    h.ls.inj, h.ls.apart⟩, h.bB, h.rB⟩
/-- X lies ahead, and is none of a table's lanes': so it stays where a lane is turned. -/
theorem Mv.kx {X : Nat → Prop} {n P : Nat} {lb : Nat → Nat} {hv qv : Nat → Value} {w w' : World} {i : Nat} (hi : i < n) {hv' qv' : Value} (m : Mv (lb i) (hv i) (qv i) hv' qv' w w') (hX : Fn X n P lb hv qv) : Kx X w w' := fun k c t hk hc => by
  obtain ⟨_, h2⟩ := hX k hk
  obtain ⟨e1, e2, e3⟩ := h2 i hi
  exact (m.block k (heap_lt hc) e1 e2 e3).trans hc
theorem Fn.step {X : Nat → Prop} {n P : Nat} {lb : Nat → Nat} {hv qv : Nat → Value} {w w' : World} {i : Nat} {hv' qv' : Value} (hX : Fn X n P lb hv qv) (hi : i < n) (m : Mv (lb i) (hv i) (qv i) hv' qv' w w') (hP : P ≤ w.heap.size) : Fn X n P lb (set1 hv i hv') (set1 qv i qv') := fun j hj => by
  obtain ⟨h1, h2⟩ := hX j hj
  refine ⟨h1, fun k hk => ?_⟩
  by_cases e : k = i
  · subst e
    rw [set1_same, set1_same]
    refine ⟨(h2 k hk).1, fun e2 => ?_, fun e2 => ?_⟩
    · rcases m.ha j e2 with h | h
      · exact (h2 k hk).2.1 h
      · omega
    · rcases m.qa j e2 with h | h
      · exact (h2 k hk).2.2 h
      · omega
  · rw [set1_other hv hv' e, set1_other qv qv' e]
    exact h2 k hk
theorem Fn.up {X : Nat → Prop} {n P P' : Nat} {lb : Nat → Nat} {hv qv : Nat → Value} (hX : Fn X n P lb hv qv) (h : P ≤ P') : Fn X n P' lb hv qv := fun j hj => ⟨Nat.lt_of_lt_of_le (hX j hj).1 h, (hX j hj).2⟩
variable {X : Nat → Prop} {B n : Nat} {most : Int} {T : Nat → Lv} {b rb c : Nat} {lb : Nat → Nat} {hv qv : Nat → Value}
set_option maxRecDepth 100000 in
/-- Ask at the program's table: what X has stays. -/
theorem ask_x (w : World) (h : Tb B n most T b rb lb hv qv w) (hf : Few n 1000 T) (hn : n ≤ 10000) (who node m : Int) (hX : Fn X n w.heap.size lb hv qv) {r : (Int × Int) × (Nat → Lv)} (hr : askT n most T who node m = r) :
    Calls Tryz.prog 8 #[.pointer (some ⟨b, 0, none⟩), .int .i64 who, .int .i64 node, .int .i64 m] w fun e w' => e = .returned (.tuple #[.int .i64 r.1.1, .int .i64 r.1.2]) ∧ (∃ hv' qv', Tb B n most r.2 b rb lb hv' qv' w' ∧ Fn X n w.heap.size lb hv' qv') ∧ Below B w w' ∧ Kx X w w' := by
  subst hr
  have HT := hide h
  have hm := hide (may_t w h hf hn who node m)
  replace hX := hide hX
  unfold askT
  by_cases h0 : errD n most T who node m = 0
  · rw [h0] at hm
    rw [if_pos h0]
    obtain ⟨p1, p2, _⟩ := err_node h0
    clear h0 h
    obtain ⟨k, rfl⟩ : ∃ k : Nat, node = (k : Int) := ⟨node.toNat, by omega⟩
    have hk : k < n := by omega
    have e2 : (k : Int).toNat = k := rfl
    rw [e2]
    clear e2
    obtain ⟨f1, f2⟩ := hf k hk
    replace f1 := hide f1
    replace f2 := hide f2
    go_enter Tryz.func8, Tryz.ntmps8
    go_wp2_with fail
    refine (unhide hm).mono ?_
    rintro e w1 ⟨rfl, b1⟩
    have T1 := (unhide HT).next b1
    have c0 := T1.c0
    have d0 := T1.at_ hk
    replace T1 := hide T1
    replace b1 := hide b1
    go_wp2_with fail
    refine (ask_any w1 ((unhide T1).ls.la k hk) (by have := unhide f1; omega) (by have := unhide f2; omega) who m).mono ?_
    rintro e w2 ⟨rfl, hv', qv', L2, M2⟩
    have T2 := hide ((unhide T1).step hk M2 L2)
    have B2 := hide (((unhide b1).mono (unhide HT).low).trans (M2.below ((unhide T1).ls.la k hk)))
    have S2 := hide ((Kx.of (X := X) (unhide b1)).trans (M2.kx hk (unhide hX)))
    have F2 := hide ((unhide hX).step hk M2 (unhide b1).size)
    clear L2 M2 c0 d0
    go_wp2
    go_ret2
    exact ⟨rfl, ⟨_, _, unhide T2, unhide F2⟩, unhide B2, unhide S2⟩
  · rw [if_neg h0]
    have h1 : (errD n most T who node m != 0) = true := by simpa using h0
    obtain ⟨x, hx⟩ : ∃ x, x = errD n most T who node m := ⟨_, rfl⟩
    rw [← hx] at hm h1 ⊢
    have h2 : x ≠ 0 := by rw [hx]; exact h0
    clear h0 h hx
    go_enter Tryz.func8, Tryz.ntmps8
    go_wp2_with fail
    refine (unhide hm).mono ?_
    rintro e w1 ⟨rfl, b1⟩
    replace b1 := hide b1
    go_wp2
    go_ret2
    exact ⟨rfl, ⟨_, _, (unhide HT).next (unhide b1), unhide hX⟩, (unhide b1).mono (unhide HT).low, Kx.of (unhide b1)⟩
end Go.Proofs.YtgiklggnolbiiaaGreat
