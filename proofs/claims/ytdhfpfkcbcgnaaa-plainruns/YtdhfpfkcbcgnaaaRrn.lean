/- Run of the reference. -/
import Derived.Test.YtdhfpfkcbcgnaaaRck
import Derived.Test.YtdhfpfkcbcgnaaaRmm
import Derived.BigRegion
namespace Go.Proofs.Ytdhfpfkcbcgnaaa
open Go.RowKit

theorem ob_four {e : Int} {rv dv wv : Value} {b : Nat} {w : World} (h : Ob e rv dv wv b w) (e' : Int) (v1 v2 v3 : Value) : Ob e' v1 v2 v3 b (four w b (.int .i64 e') v1 v2 v3) := by
  have q : ∀ (w : World) (cs : Array Value) (i : Nat) (v : Value), w.heap[b]? = some (.cells cs 30 (0, 0)) → (w.setCell ⟨b, i, none⟩ v).heap[b]? = some (.cells (cs.setIfInBounds i v) 30 (0, 0)) := by
    intro w cs i v h
    show (w.heap.modify b _)[b]? = _
    rw [Array.getElem?_modify, if_pos rfl, h]; rfl
  unfold Ob at h ⊢
  unfold four
  exact (q _ _ _ _ (q _ _ _ _ (q _ _ _ _ (q _ _ _ _ h)))).trans (by kernel_rfl)
theorem below_then' {W w' w'' : World} (h : Below W.heap.size W w') (k : Below w'.heap.size w' w'') : Below W.heap.size W w'' := h.trans (k.mono h.size)
theorem Bx.next' {c : Cf} {b : Nat} {w w' : World} (h : Bx c b w) (hb : Below w.heap.size w w') : Bx c b w' := h.next hb
theorem Ob.drew' {e : Int} {rv dv wv : Value} {b : Nat} {w : World} (h : Ob e rv dv wv b w) : Ob e rv dv wv b w.drew := h
theorem held_def {B : Nat} {s : St} {b gh gr ch : Nat} {e : Int} {dv wv : Value} {w : World} (h : Rm B s b gh gr ch e dv wv w) {q : Nat} (hq : s.r.length = q) {hv : Value} {H : List Int} (hh : Ls w.heap.size w hv H) :
    Held ⟨e, s.r, s.rd, s.wr, H, 0⟩ (.slice (some ⟨gr, 0, none⟩) q q) dv wv hv w := by
  subst hq
  exact ⟨h.held.r, h.held.d, h.held.t, hh⟩
theorem stand_kind {g : Int} {k a b d : Int} {l : List Int} {i n : Int} (h : stB g ⟨k, a, b, d, l⟩ i n = true) (h6 : ¬ k = 6) (h7 : ¬ k = 7) : k = 1 ∨ k = 2 ∨ k = 3 ∨ k = 4 ∨ k = 5 := by
  unfold stB at h
  simp only at h
  split at h
  · cases h
  · split at h
    · rename_i h1; omega
    · split at h
      · rename_i h1; omega
      · split at h
        · rename_i h1; omega
        · split at h
          · rename_i h1; omega
          · simp [h6, h7] at h
theorem stand_reg {g : Int} {k a b d : Int} {l : List Int} {i n : Int} (h : stB g ⟨k, a, b, d, l⟩ i n = true) (h5 : k = 1 ∨ k = 2 ∨ k = 3 ∨ k = 4 ∨ k = 5) : wiB g [a] = true := by
  unfold stB reB at h
  rcases h5 with rfl | rfl | rfl | rfl | rfl <;> simp at h
  · exact h.2.1
  · exact h.2.1
  · exact h.2
  · exact h.1
  · exact h.2.1
theorem stand_calc {g : Int} {a b d : Int} {l : List Int} {i n : Int} (h : stB g ⟨4, a, b, d, l⟩ i n = true) : l.length ≤ 8 ∧ ∀ y ∈ l, 0 ≤ y ∧ y < g := by
  unfold stB reB at h
  simp at h
  refine ⟨h.2.2.2.1, fun y hy => ?_⟩
  have h2 := h.2.2.2.2
  unfold wiB at h2
  have := List.all_eq_true.1 h2 y hy
  simpa using this
theorem stand_jump {g : Int} {a b d : Int} {l : List Int} {i n : Int} (h : stB g ⟨5, a, b, d, l⟩ i n = true) : i < b ∧ b ≤ n := by
  unfold stB at h
  simp at h
  exact h.2.2
theorem ob_new (w : World) (e : Int) (rv dv wv : Value) : Ob e rv dv wv w.heap.size (w.alloc (.cells #[.int .i64 e, rv, dv, wv] 30)) := heap_alloc_new w _
theorem rm_made {W : World} {B q gh ch : Nat} {H : List Int} {c : Cf} (hg : Rb gh H W) (hB : B ≤ gh) (h1 : B ≤ W.heap.size) (k1 : H.length ≤ ch) (k2 : ch ≤ maxLen) (hq : c.g = q) (q8 : q ≤ 8) :
    Rm B (st0 c H) (W.heap.size + 1) gh W.heap.size ch 1 (.slice none 0 0) (.slice none 0 0) ((W.alloc (.cells (madeCells #[.int .i64 0] q) 3)).alloc (.cells #[.int .i64 1, .slice (some ⟨W.heap.size, 0, none⟩) q q, .slice none 0 0, .slice none 0 0] 30)) := by
  have e : c.g.toNat = q := by omega
  have hr := rb_made W q W.heap.size rfl
  have lg := hg.lt
  refine ⟨?_, (hg.far _).far _, ?_, ⟨rfl, .inl ⟨rfl, rfl⟩⟩, ⟨rfl, .inl ⟨rfl, rfl⟩⟩, by omega, (fun k hk => by cases hk), by omega, hB, h1, k1, k2, ?_⟩
  · have := heap_alloc_new (W.alloc (.cells (madeCells #[.int .i64 0] q) 3)) (.cells #[.int .i64 1, .slice (some ⟨W.heap.size, 0, none⟩) q q, .slice none 0 0, .slice none 0 0] 30)
    rw [World.size_alloc] at this
    unfold Ob
    rw [this]
    simp [st0, e]
  · unfold st0
    rw [e]
    exact hr.far _
  · simp [st0, e, q8]
set_option maxRecDepth 100000 in
set_option maxHeartbeats 40000000 in
theorem rrun_any (c : Cf) (H : List Int) (hv : Value) (ps : List In) (pv : Value) (w : World) (hH : Ls w.heap.size w hv H) (hp : Ps w.heap.size w pv ps) :
    Calls Try.prog 12 #[cv c, hv, pv] w (Ran (runD c H ps) w) := by
  obtain ⟨n, hn⟩ : ∃ n, H.length = n := ⟨_, rfl⟩
  have hH0 := hide hH
  have hp0 := hide hp
  obtain ⟨a, cap, rfl, h1, h2, _, _⟩ := ls_len hH
  rw [hn] at h1 hH0 ⊢
  have hmax : maxLen = 9223372036854775807 := rfl
  have hx := bx_new c w
  have b1 := below_new w (.cells #[.int .i64 c.r, .int .i64 c.o, .int .i64 c.s, .int .i64 c.d, .int .i64 c.t, .int .i64 c.l, .int .i64 c.g, .int .i64 c.k, .int .i64 c.u, .int .i64 c.e, .int .i64 c.i, .int .i64 c.p] 23)
  have b2 := below_then b1 (below_new _ (.cells #[.int .i64 0, .slice none 0 0, .slice none 0 0, .slice none 0 0] 30))
  have hx2 := hx.next (below_new _ (.cells #[.int .i64 0, .slice none 0 0, .slice none 0 0, .slice none 0 0] 30))
  have ho : Ob 0 (.slice none 0 0) (.slice none 0 0) (.slice none 0 0) (w.heap.size + 1) ((w.alloc (.cells #[.int .i64 c.r, .int .i64 c.o, .int .i64 c.s, .int .i64 c.d, .int .i64 c.t, .int .i64 c.l, .int .i64 c.g, .int .i64 c.k, .int .i64 c.u, .int .i64 c.e, .int .i64 c.i, .int .i64 c.p] 23)).alloc (.cells #[.int .i64 0, .slice none 0 0, .slice none 0 0, .slice none 0 0] 30)) := by
    have := heap_alloc_new (w.alloc (.cells #[.int .i64 c.r, .int .i64 c.o, .int .i64 c.s, .int .i64 c.d, .int .i64 c.t, .int .i64 c.l, .int .i64 c.g, .int .i64 c.k, .int .i64 c.u, .int .i64 c.e, .int .i64 c.i, .int .i64 c.p] 23)) (.cells #[.int .i64 0, .slice none 0 0, .slice none 0 0, .slice none 0 0] 30)
    rw [World.size_alloc] at this
    exact this
  have hs0 : ((w.alloc (.cells #[.int .i64 c.r, .int .i64 c.o, .int .i64 c.s, .int .i64 c.d, .int .i64 c.t, .int .i64 c.l, .int .i64 c.g, .int .i64 c.k, .int .i64 c.u, .int .i64 c.e, .int .i64 c.i, .int .i64 c.p] 23)).alloc (.cells #[.int .i64 0, .slice none 0 0, .slice none 0 0, .slice none 0 0] 30)).heap.size = w.heap.size + 1 + 1 := by rw [World.size_alloc, World.size_alloc]
  have kC := rprogCheck_any c ps pv _ (hp.next b2)
  unfold checkD at kC
  replace hp := hide hp
  replace hn := hide hn
  replace hx := hide hx2
  replace b2 := hide b2
  replace ho := hide ho
  replace hs0 := hide hs0
  clear hH b1 hx2
  unfold cv at kC ⊢
  cases hc : chB c ps
  · rw [hc, if_neg Bool.false_ne_true] at kC
    have r : Hid (runD c H ps = ⟨0, [], [], [], [], 2⟩) := hide (by unfold runD; rw [hc, if_neg Bool.false_ne_true])
    go_enter Try.func12, Try.ntmps12
    go_wp2_with fail
    refine kC.mono ?_
    rintro e w1 ⟨rfl, hb1⟩
    have ho1 := (unhide ho).next hb1
    obtain ⟨o0, o1, o2, o3⟩ := ho1.cells
    have f0 := ho1.free 0
    have f1 := ho1.free 1
    have f2 := ho1.free 2
    have f3 := ho1.free 3
    have g1 := hide (below_then (unhide b2) hb1)
    have gF := hide (four_below (unhide g1) (N := w.heap.size + 1) (by omega) (.int .i64 0) (.slice none 0 0) (.slice none 0 0) (.slice none 0 0))
    unfold four at gF
    clear hb1 kC ho1
    go_wp2
    (try simp only [Exit.inBlock, Exit.then]); refine bodyPost_ret (v := .tuple #[ov 0 (.slice none 0 0) (.slice none 0 0) (.slice none 0 0), .slice none 0 0, .int .i64 2]) ?_ rfl ⟨_, _, _, _, by rw [unhide r], by rw [unhide r]; exact held_none _ _, unhide gF⟩
    rw [results_cell_two rfl]
    unfold ov
    go_simp
  · rw [hc, if_pos rfl] at kC
    obtain ⟨hok, hn60, hall⟩ := ch_iff hc
    have hw1 := nw_in (okB_hp hok)
    have hwd : wordsD c = nw c := by unfold wordsD; rw [hok, if_pos rfl]
    have hg8 := okB_regs hok
    replace hwd := hide hwd
    replace hall := hide hall
    by_cases hl : (n : Int) = wordsD c
    case neg =>
      have e1 : ((n : Int) == wordsD c) = false := by simpa using hl
      have r : Hid (runD c H ps = ⟨0, [], [], [], [], 1⟩) := hide (by unfold runD; rw [hc, if_pos rfl, unhide hn, if_neg hl])
      go_enter Try.func12, Try.ntmps12
      go_wp2_with fail
      refine kC.mono ?_
      rintro e w1 ⟨rfl, hb1⟩
      have hx1 := hide ((unhide hx).next hb1)
      have ho1 := hide ((unhide ho).next hb1)
      have g1 := hide (below_then (unhide b2) hb1)
      obtain ⟨z0, z1, z2, z3, z4, z5, z6, z7, z8, z9, z10, z11⟩ := (unhide hx1).cells
      have kW := rwords_any c w1
      unfold cv at kW
      clear hb1 kC
      go_wp2_with fail
      refine kW.mono ?_
      rintro e w2 ⟨rfl, hb2⟩
      have ho2 := (unhide ho1).next hb2
      obtain ⟨o0, o1, o2, o3⟩ := ho2.cells
      have f0 := ho2.free 0
      have f1 := ho2.free 1
      have f2 := ho2.free 2
      have f3 := ho2.free 3
      have g2 := hide (below_then (unhide g1) hb2)
      have gF := hide (four_below (unhide g2) (N := w.heap.size + 1) (by omega) (.int .i64 0) (.slice none 0 0) (.slice none 0 0) (.slice none 0 0))
      unfold four at gF
      clear hb2 kW ho2 z0 z1 z2 z3 z4 z5 z6 z7 z8 z9 z10 z11
      go_wp2
      (try simp only [Exit.inBlock, Exit.then]); refine bodyPost_ret (v := .tuple #[ov 0 (.slice none 0 0) (.slice none 0 0) (.slice none 0 0), .slice none 0 0, .int .i64 1]) ?_ rfl ⟨_, _, _, _, by rw [unhide r], by rw [unhide r]; exact held_none _ _, unhide gF⟩
      rw [results_cell_two rfl]
      unfold ov
      go_simp
    case pos =>
    have e1 : ((n : Int) == wordsD c) = true := by simpa using hl
    have n0 : 0 < n := by have := unhide hwd; omega
    have n4 : n ≤ 4096 := by have := unhide hwd; omega
    obtain ⟨R, hR⟩ : ∃ R, playD c ps ps.length 0 (st0 c H) = R := ⟨_, rfl⟩
    have r : Hid (runD c H ps = endD H R) := hide (by unfold runD; rw [hc, if_pos rfl, unhide hn, if_pos hl, hR])
    replace hR := hide hR
    obtain ⟨q, hq⟩ : ∃ q : Nat, c.g = q := ⟨c.g.toNat, by omega⟩
    have q8 : q ≤ 8 := by omega
    replace hq := hide hq
    replace hg8 := hide hg8
    replace hok := hide hok
    clear hw1
    obtain ⟨m, hm⟩ : ∃ m, ps.length = m := ⟨_, rfl⟩
    obtain ⟨pa, pcap, hpv, hm1, hm2, _⟩ := unhide hp0
    subst hpv
    rw [hm] at hm1 hn60 ⊢
    replace hm := hide hm
    go_enter Try.func12, Try.ntmps12
    go_wp2_with fail
    obtain ⟨W0, hW0⟩ : ∃ W, W = (w.alloc (.cells #[.int .i64 c.r, .int .i64 c.o, .int .i64 c.s, .int .i64 c.d, .int .i64 c.t, .int .i64 c.l, .int .i64 c.g, .int .i64 c.k, .int .i64 c.u, .int .i64 c.e, .int .i64 c.i, .int .i64 c.p] 23)).alloc (.cells #[.int .i64 0, .slice none 0 0, .slice none 0 0, .slice none 0 0] 30) := ⟨_, rfl⟩
    rw [← hW0] at kC hx b2 ho hs0 ⊢
    rw [unhide hm] at kC
    clear hW0
    refine kC.mono ?_
    rintro e w1 ⟨rfl, hb1⟩
    have hx1 := hide ((unhide hx).next hb1)
    obtain ⟨z0, z1, z2, z3, z4, z5, z6, z7, z8, z9, z10, z11⟩ := (unhide hx1).cells
    have kW := rwords_any c w1
    unfold cv at kW
    clear kC
    go_wp2_with fail
    refine kW.mono ?_
    rintro e w2 ⟨rfl, hb2⟩
    have g2 := below_then hb1 hb2
    have kP := copy_any _ H w2 ((unhide hH0).next ((unhide b2).trans (g2.mono (unhide b2).size))) (by have := unhide hn; omega)
    rw [unhide hn] at kP
    clear hb1 hb2 kW z0 z1 z2 z3 z4 z5 z6 z7 z8 z9 z10 z11 hx1
    go_wp2_with fail
    refine kP.mono ?_
    rintro e w3 ⟨ha, hcap, rfl, hb3, hown3⟩
    have g3 := below_then g2 hb3
    obtain ⟨gh, rfl, hr3, hgB, k1, k2⟩ := own_rb (l := H) (by rw [unhide hn]; exact hown3) (by have := unhide hn; omega)
    have hx3 := (unhide hx).next g3
    obtain ⟨z0, z1, z2, z3, z4, z5, z6, z7, z8, z9, z10, z11⟩ := hx3.cells
    have s2 := g2.size
    have s3 := g3.size
    have hmk : ∀ w, (Instr.makeSlice 24 (.int .i64 c.g) (.int .i64 c.g)).run Try.prog w = .ok (.slice (some ⟨w.heap.size, 0, none⟩) q q) (w.alloc (.cells (madeCells #[.int .i64 0] q) 3)) := by
      rw [unhide hq]
      exact run_make_row' (P := Try.prog) 24 3 (.int .i64 0) 8 Try.underlying24 elInt.inf rfl .i64 .i64 q (by omega) (by omega)
    have hM := rm_made (c := c) (W := w3) (B := W0.heap.size) hr3 (by omega) (by omega) k1 k2 (unhide hq) q8
    have gM := below_then g3 (below_then (below_new w3 (.cells (madeCells #[.int .i64 0] q) 3)) (below_new _ (.cells #[.int .i64 1, .slice (some ⟨w3.heap.size, 0, none⟩) q q, .slice none 0 0, .slice none 0 0] 30)))
    replace hM := hide hM
    replace gM := hide gM
    have W := hide (show Wf c (st0 c H) from ⟨unhide hok, by show ((H.length : Nat) : Int) = _; rw [unhide hn]; exact hl, by show (((List.replicate c.g.toNat (0 : Int)).length : Nat) : Int) = _; rw [List.length_replicate]; have := unhide hg8; omega⟩)


    clear kP hb3 g2 g3 hown3 hr3 hx3
    go_wp2_with fail
    obtain ⟨gr, hgr⟩ : ∃ gr, w3.heap.size = gr := ⟨_, rfl⟩
    obtain ⟨w4, hw4⟩ : ∃ w4, w4 = (w3.alloc (.cells (madeCells #[.int .i64 0] q) 3)).alloc (.cells #[.int .i64 1, .slice (some ⟨w3.heap.size, 0, none⟩) q q, .slice none 0 0, .slice none 0 0] 30) := ⟨_, rfl⟩
    rw [← hw4] at hM gM ⊢
    rw [hgr] at hM ⊢
    obtain ⟨bo, hbo⟩ : ∃ bo, gr + 1 = bo := ⟨_, rfl⟩
    rw [hbo] at hM ⊢
    have hlh := hide hl
    clear hw4 hgr hbo hmk s2 s3 z0 z1 z2 z3 z4 z5 z6 z7 z8 z9 z10 z11 hgB hl e1
    have hmi : (m : Int) ≤ 9223372036854775807 := by omega
    go_loopw [11] (fun i wr => ∃ (k : Nat) (s : St) (f : Nat) (dv wv : Value), k ≤ m ∧ i = .int .i64 k ∧ Below W0.heap.size W0 wr ∧ Rm W0.heap.size s bo gh gr hcap 1 dv wv wr ∧ Wf c s ∧ s.rd.length ≤ k ∧ s.wr.length ≤ k ∧ m ≤ k + f ∧ playD c ps f k s = R) (fun i _ => m - (RowKit.intOf i).toNat)
    case atStart => exact ⟨0, st0 c H, m, _, _, Nat.zero_le _, rfl, unhide gM, unhide hM, unhide W, Nat.le_refl _, Nat.le_refl _, by omega, by rw [← unhide hm]; exact unhide hR⟩
    case round =>
      obtain ⟨k, s, f, dv, wv, hk, rfl, hb, hM, hwf, hrd, hwr, hf, hr⟩ := hrel
      clear gM W hR
      by_cases hlt : k < m
      · have kd : decide ((k : Int) < (m : Int)) = true := decide_eq_true (by omega)
        have kl : (k : Int) < (m : Int) := by omega
        have G := (unhide b2).trans (hb.mono (unhide b2).size)
        obtain ⟨_, _, hv, _, _, h3'⟩ := unhide hp0
        cases hv
        rcases h3' with h0 | ⟨pb, off, rfl, hbB, hcc⟩
        · have := unhide hm; omega
        have hI := hcc k (by have := unhide hm; omega)
        have hst := unhide hall k (by have := unhide hm; omega)
        rw [unhide hm] at hst
        obtain ⟨x, hxx⟩ : ∃ x, ps.getD k z0 = x := ⟨_, rfl⟩
        rw [hxx] at hI hst
        obtain ⟨f, rfl⟩ : ∃ g, f = g + 1 := ⟨f - 1, by omega⟩
        rw [playD, if_pos (by have := unhide hm; omega), hxx] at hr
        obtain ⟨kk, xa, b, d, l⟩ := x
        obtain ⟨c0, c1, c2, c3, u, c4, hu⟩ := hI
        replace hu : Ls w.heap.size w u l := hu
        replace hu := hu.next G
        obtain ⟨ua, ul, uc, rfl⟩ : ∃ ua ul uc, u = .slice ua ul uc := by obtain ⟨ua, ul, uc, e, _⟩ := hu; exact ⟨ua, ul, uc, e⟩
        replace c0 := (G.cell hbB).trans c0
        replace c1 := (G.cell hbB).trans c1
        replace c2 := (G.cell hbB).trans c2
        replace c3 := (G.cell hbB).trans c3
        replace c4 := (G.cell hbB).trans c4
        have bA := below_new wr (.cells #[.int .i64 kk, .int .i64 xa, .int .i64 b, .int .i64 d, .slice ua ul uc] 44)
        have M1 := hM.next bA
        have hq1 : s.r.length = q := by have := hwf.r; have := unhide hq; omega
        have hn1 : s.h.length = n := by have := hwf.h; have := unhide hlh; omega
        have x1 := hide (ix_new ⟨kk, xa, b, d, l⟩ (.slice ua ul uc) wr)
        have g1 := below_then' hb bA
        have hx1 := (unhide hx).next' g1
        have u1 := hide (hu.next bA)
        have kA := raddr_any c ⟨kk, xa, b, d, l⟩ ua ul uc _ s.r _ M1.held.r
        obtain ⟨o0, o1, o2, o3⟩ := M1.blk.cells
        obtain ⟨z0, z1, z2, z3, z4, z5, z6, z7, z8, z9, z10, z11⟩ := hx1.cells
        obtain ⟨y0, y1, y2, y3, y4⟩ := (unhide x1).cells
        have M1 := hide M1
        have hx1 := hide hx1
        have g1 := hide g1
        rw [hq1] at kA o1
        unfold cv iv at kA
        replace hq1 := hide hq1
        replace hn1 := hide hn1
        replace hxx := hide hxx
        replace hcc := hide hcc
        replace hb := hide hb
        replace hr := hide hr
        clear hM hu G bA
        go_wp2_with fail
        refine kA.mono ?_
        rintro e w5 ⟨rfl, b5⟩
        have M5 := (unhide M1).next b5
        have x5 := (unhide x1).next b5
        have u5 := hide ((unhide u1).next b5)
        have g5 := hide (below_then' (unhide g1) b5)
        clear kA b5 M1 x1 u1 g1 hx1 z0 z1 z2 z3 z4 z5 z6 z7 z8 z9 z10 z11 o0 o1 o2 o3 y0 y1 y2 y3 y4 c0 c1 c2 c3 c4
        obtain ⟨da, dc, rfl⟩ := own_slice M5.rd
        obtain ⟨wa, wc, rfl⟩ := own_slice M5.wr
        obtain ⟨l2, hl2⟩ : ∃ l2, s.rd.length = l2 := ⟨_, rfl⟩
        obtain ⟨l3, hl3⟩ : ∃ l3, s.wr.length = l3 := ⟨_, rfl⟩
        rw [hl2, hl3] at M5
        obtain ⟨o0, o1, o2, o3⟩ := M5.blk.cells
        rw [unhide hq1] at o1
        obtain ⟨y0, y1, y2, y3, y4⟩ := x5.cells
        obtain ⟨ia, hia⟩ := Int.eq_ofNat_of_zero_le (addr_in (unhide hok) ⟨kk, xa, b, d, l⟩ s.r).1
        have hia2 : ia < n := by have := (addr_in (unhide hok) ⟨kk, xa, b, d, l⟩ s.r).2; have := unhide hlh; omega
        have il : (ia : Int) < (n : Int) := by omega
        rw [hia]
        obtain ⟨M, hMM⟩ : ∃ M, wr.heap.size = M := ⟨_, rfl⟩
        rw [hMM] at x5 y0 y1 y2 y3 y4 ⊢
        have hwf0 := hide hwf
        replace hst := hide hst
        have M5 := hide M5
        have x5 := hide x5
        replace hia := hide hia
        replace hl2 := hide hl2
        replace hl3 := hide hl3
        have hN : w.heap.size + 1 < W0.heap.size := by have := unhide hs0; omega
        clear hMM hwf
        have hr0 := hide (unhide hr)
        by_cases k6 : kk = 6
        · as_aux_lemma =>
          subst k6
          have hr2 := unhide hr
          rw [if_pos rfl] at hr2
          have r2 : Hid (runD c H ps = ⟨2, s.r, s.rd, s.wr, H, 0⟩) := hide (by rw [unhide r, ← hr2]; rfl)
          have f0 := (unhide M5).blk.free 0
          have M6 := (unhide M5).setEnd 2
          have g6 := (unhide g5).setCell (p := ⟨bo, 0, none⟩) (unhide M5).bB (.int .i64 2)
          clear hr2 hr y1 y2 y3 y4 o1 o2 o3
          go_upto_region 14 with fail
          obtain ⟨w6, hw6⟩ : ∃ w6, w6 = w5.setCell ⟨bo, 0, none⟩ (.int .i64 2) := ⟨_, rfl⟩
          rw [← hw6] at M6 g6 ⊢
          clear hw6 f0 o0 y0
          have o6 : Ob 0 (.slice none 0 0) (.slice none 0 0) (.slice none 0 0) (w.heap.size + 1) w6 := (g6.block _ hN).trans (unhide ho)
          obtain ⟨p0, p1, p2, p3⟩ := M6.blk.cells
          rw [unhide hq1] at p1
          have p4 : w6.drew.cell? ⟨bo, 0, none⟩ = some (.int .i64 2) := p0
          have p5 : w6.drew.cell? ⟨bo, 1, none⟩ = some (.slice (some ⟨gr, 0, none⟩) q q) := p1
          have p6 : w6.drew.cell? ⟨bo, 2, none⟩ = some (.slice da l2 dc) := p2
          have p7 : w6.drew.cell? ⟨bo, 3, none⟩ = some (.slice wa l3 wc) := p3
          obtain ⟨t0, t1, t2, t3⟩ := o6.cells
          have e0 := o6.free 0
          have e1' := o6.free 1
          have e2 := o6.free 2
          have e3 := o6.free 3
          have G6 := ((unhide b2).trans (g6.mono (unhide b2).size)).drew
          have s6 : W0.heap.size ≤ w6.drew.heap.size := M6.low
          have M7 := (M6.drew.four hN (.int .i64 2) (.slice (some ⟨gr, 0, none⟩) q q) (.slice da l2 dc) (.slice wa l3 wc))
          have o7 := hide (ob_four o6.drew' 2 (.slice (some ⟨gr, 0, none⟩) q q) (.slice da l2 dc) (.slice wa l3 wc))
          have g7 := four_below G6 (N := w.heap.size + 1) (by omega) (.int .i64 2) (.slice (some ⟨gr, 0, none⟩) q q) (.slice da l2 dc) (.slice wa l3 wc)
          have kPA := copy_any _ H w6.drew ((unhide hH0).next G6) (by have := unhide hn; omega)
          have kPB := copy_any _ H (four w6.drew (w.heap.size + 1) (.int .i64 2) (.slice (some ⟨gr, 0, none⟩) q q) (.slice da l2 dc) (.slice wa l3 wc)) ((unhide hH0).next g7) (by have := unhide hn; omega)
          rw [unhide hn] at kPA kPB
          obtain ⟨q0, q1, q2, q3⟩ := M7.blk.cells
          rw [unhide hq1] at q1
          replace M7 := hide M7
          replace g7 := hide g7
          replace M6 := hide M6
          replace g6 := hide g6
          replace o6 := hide o6
          replace G6 := hide G6
          unfold four at kPB q0 q1 q2 q3
          go_region_held3 (fun wz => wz.cell? ⟨bo, 0, none⟩ = some (.int .i64 2) ∧ wz.cell? ⟨bo, 1, none⟩ = some (.slice (some ⟨gr, 0, none⟩) q q) ∧ wz.cell? ⟨bo, 2, none⟩ = some (.slice da l2 dc) ∧ wz.cell? ⟨bo, 3, none⟩ = some (.slice wa l3 wc)) (first | with_reducible exact ⟨p0, p1, p2, p3⟩ | with_reducible exact ⟨p4, p5, p6, p7⟩ | with_reducible exact ⟨q0, q1, q2, q3⟩ | with_reducible exact ⟨v0, v1, v2, v3⟩ | with_reducible exact ⟨v4, v5, v6, v7⟩)
            (first
              | (go_at_call 17; refine Calls.mono kPA ?_; rintro e9 w7 ⟨ca, cc, rfl, b7, hown7⟩; have M8 := (unhide M6).drew.next b7; obtain ⟨v0, v1, v2, v3⟩ := M8.blk.cells; rw [unhide hq1] at v1; have o8 := (unhide o6).drew'.next b7; obtain ⟨t0', t1', t2', t3'⟩ := o8.cells; have e0' := o8.free 0; have e1'' := o8.free 1; have e2' := o8.free 2; have e3' := o8.free 3; have M9 := M8.four hN (.int .i64 2) (.slice (some ⟨gr, 0, none⟩) q q) (.slice da l2 dc) (.slice wa l3 wc); obtain ⟨v4, v5, v6, v7⟩ := M9.blk.cells; rw [unhide hq1] at v5; unfold four at v4 v5 v6 v7; have gE := hide (four_below (below_then (unhide G6) b7) (N := w.heap.size + 1) (by omega) (.int .i64 2) (.slice (some ⟨gr, 0, none⟩) q q) (.slice da l2 dc) (.slice wa l3 wc)); have hD := hide (held_def M9 (unhide hq1) (own_ls (rowKeep hown7 (fun g hg => four_other w7 (w.heap.size + 1) (.int .i64 2) (.slice (some ⟨gr, 0, none⟩) q q) (.slice da l2 dc) (.slice wa l3 wc) g (by have := (hown7.lt g hg).1; omega))))); clear M8 o8 M9)
              | (go_at_call 17; refine Calls.mono kPB ?_; rintro e9 w7 ⟨ca, cc, rfl, b7, hown7⟩; have M9 := (unhide M7).next b7; obtain ⟨v0, v1, v2, v3⟩ := M9.blk.cells; rw [unhide hq1] at v1; have o8 := (unhide o7).next b7; obtain ⟨t0', t1', t2', t3'⟩ := o8.cells; have gE := hide (below_then (unhide g7) b7); have hD := hide (held_def M9 (unhide hq1) (own_ls hown7)); clear M9 o8))
          all_goals
            go_wp2
            (try simp only [Exit.inBlock, Exit.then]); refine bodyPost_ret (v := .tuple #[ov 2 (.slice (some ⟨gr, 0, none⟩) q q) (.slice da l2 dc) (.slice wa l3 wc), .slice ca n cc, .int .i64 0]) ?_ rfl ⟨_, _, _, _, by rw [unhide r2], by rw [unhide r2]; exact unhide hD, unhide gE⟩
            rw [results_cell_two rfl]
            unfold ov
            go_simp
        by_cases k7 : kk = 7
        · as_aux_lemma =>
          subst k7
          have hr2 := unhide hr
          rw [if_neg (by decide), if_pos rfl] at hr2
          have r2 : Hid (runD c H ps = ⟨3, s.r, s.rd, s.wr, H, 0⟩) := hide (by rw [unhide r, ← hr2]; rfl)
          have f0 := (unhide M5).blk.free 0
          have M6 := (unhide M5).setEnd 3
          have g6 := (unhide g5).setCell (p := ⟨bo, 0, none⟩) (unhide M5).bB (.int .i64 3)
          clear hr2 hr y1 y2 y3 y4 o1 o2 o3
          go_upto_region 14 with fail
          obtain ⟨w6, hw6⟩ : ∃ w6, w6 = w5.setCell ⟨bo, 0, none⟩ (.int .i64 3) := ⟨_, rfl⟩
          rw [← hw6] at M6 g6 ⊢
          clear hw6 f0 o0 y0
          have o6 : Ob 0 (.slice none 0 0) (.slice none 0 0) (.slice none 0 0) (w.heap.size + 1) w6 := (g6.block _ hN).trans (unhide ho)
          obtain ⟨p0, p1, p2, p3⟩ := M6.blk.cells
          rw [unhide hq1] at p1
          have p4 : w6.drew.cell? ⟨bo, 0, none⟩ = some (.int .i64 3) := p0
          have p5 : w6.drew.cell? ⟨bo, 1, none⟩ = some (.slice (some ⟨gr, 0, none⟩) q q) := p1
          have p6 : w6.drew.cell? ⟨bo, 2, none⟩ = some (.slice da l2 dc) := p2
          have p7 : w6.drew.cell? ⟨bo, 3, none⟩ = some (.slice wa l3 wc) := p3
          obtain ⟨t0, t1, t2, t3⟩ := o6.cells
          have e0 := o6.free 0
          have e1' := o6.free 1
          have e2 := o6.free 2
          have e3 := o6.free 3
          have G6 := ((unhide b2).trans (g6.mono (unhide b2).size)).drew
          have s6 : W0.heap.size ≤ w6.drew.heap.size := M6.low
          have M7 := (M6.drew.four hN (.int .i64 3) (.slice (some ⟨gr, 0, none⟩) q q) (.slice da l2 dc) (.slice wa l3 wc))
          have o7 := hide (ob_four o6.drew' 3 (.slice (some ⟨gr, 0, none⟩) q q) (.slice da l2 dc) (.slice wa l3 wc))
          have g7 := four_below G6 (N := w.heap.size + 1) (by omega) (.int .i64 3) (.slice (some ⟨gr, 0, none⟩) q q) (.slice da l2 dc) (.slice wa l3 wc)
          have kPA := copy_any _ H w6.drew ((unhide hH0).next G6) (by have := unhide hn; omega)
          have kPB := copy_any _ H (four w6.drew (w.heap.size + 1) (.int .i64 3) (.slice (some ⟨gr, 0, none⟩) q q) (.slice da l2 dc) (.slice wa l3 wc)) ((unhide hH0).next g7) (by have := unhide hn; omega)
          rw [unhide hn] at kPA kPB
          obtain ⟨q0, q1, q2, q3⟩ := M7.blk.cells
          rw [unhide hq1] at q1
          replace M7 := hide M7
          replace g7 := hide g7
          replace M6 := hide M6
          replace g6 := hide g6
          replace o6 := hide o6
          replace G6 := hide G6
          unfold four at kPB q0 q1 q2 q3
          go_region_held3 (fun wz => wz.cell? ⟨bo, 0, none⟩ = some (.int .i64 3) ∧ wz.cell? ⟨bo, 1, none⟩ = some (.slice (some ⟨gr, 0, none⟩) q q) ∧ wz.cell? ⟨bo, 2, none⟩ = some (.slice da l2 dc) ∧ wz.cell? ⟨bo, 3, none⟩ = some (.slice wa l3 wc)) (first | with_reducible exact ⟨p0, p1, p2, p3⟩ | with_reducible exact ⟨p4, p5, p6, p7⟩ | with_reducible exact ⟨q0, q1, q2, q3⟩ | with_reducible exact ⟨v0, v1, v2, v3⟩ | with_reducible exact ⟨v4, v5, v6, v7⟩)
            (first
              | (go_at_call 17; refine Calls.mono kPA ?_; rintro e9 w7 ⟨ca, cc, rfl, b7, hown7⟩; have M8 := (unhide M6).drew.next b7; obtain ⟨v0, v1, v2, v3⟩ := M8.blk.cells; rw [unhide hq1] at v1; have o8 := (unhide o6).drew'.next b7; obtain ⟨t0', t1', t2', t3'⟩ := o8.cells; have e0' := o8.free 0; have e1'' := o8.free 1; have e2' := o8.free 2; have e3' := o8.free 3; have M9 := M8.four hN (.int .i64 3) (.slice (some ⟨gr, 0, none⟩) q q) (.slice da l2 dc) (.slice wa l3 wc); obtain ⟨v4, v5, v6, v7⟩ := M9.blk.cells; rw [unhide hq1] at v5; unfold four at v4 v5 v6 v7; have gE := hide (four_below (below_then (unhide G6) b7) (N := w.heap.size + 1) (by omega) (.int .i64 3) (.slice (some ⟨gr, 0, none⟩) q q) (.slice da l2 dc) (.slice wa l3 wc)); have hD := hide (held_def M9 (unhide hq1) (own_ls (rowKeep hown7 (fun g hg => four_other w7 (w.heap.size + 1) (.int .i64 3) (.slice (some ⟨gr, 0, none⟩) q q) (.slice da l2 dc) (.slice wa l3 wc) g (by have := (hown7.lt g hg).1; omega))))); clear M8 o8 M9)
              | (go_at_call 17; refine Calls.mono kPB ?_; rintro e9 w7 ⟨ca, cc, rfl, b7, hown7⟩; have M9 := (unhide M7).next b7; obtain ⟨v0, v1, v2, v3⟩ := M9.blk.cells; rw [unhide hq1] at v1; have o8 := (unhide o7).next b7; obtain ⟨t0', t1', t2', t3'⟩ := o8.cells; have gE := hide (below_then (unhide g7) b7); have hD := hide (held_def M9 (unhide hq1) (own_ls hown7)); clear M9 o8))
          all_goals
            go_wp2
            (try simp only [Exit.inBlock, Exit.then]); refine bodyPost_ret (v := .tuple #[ov 3 (.slice (some ⟨gr, 0, none⟩) q q) (.slice da l2 dc) (.slice wa l3 wc), .slice ca n cc, .int .i64 0]) ?_ rfl ⟨_, _, _, _, by rw [unhide r2], by rw [unhide r2]; exact unhide hD, unhide gE⟩
            rw [results_cell_two rfl]
            unfold ov
            go_simp
        have hr1 := unhide hr0
        rw [if_neg k6, if_neg k7] at hr1
        have hat := step_at (c := c) (s := s) (unhide hst) hlt
        have e1r := step_rd (c := c) (x := ⟨kk, xa, b, d, l⟩) (i := k) (s := s)
        have e1w := step_wr (c := c) (x := ⟨kk, xa, b, d, l⟩) (i := k) (s := s)
        have w2f := (unhide hwf0).step ⟨kk, xa, b, d, l⟩ k
        obtain ⟨k', s', hS⟩ : ∃ k' s', stepD c ⟨kk, xa, b, d, l⟩ k s = (s', k') := ⟨_, _, rfl⟩
        rw [hS] at hr1 hat e1r e1w w2f
        replace hr1 := hide hr1
        replace hat := hide hat
        replace e1r := hide e1r
        replace e1w := hide e1w
        replace w2f := hide w2f
        clear hr hr0
        have hk5 : kk = 1 ∨ kk = 2 ∨ kk = 3 ∨ kk = 4 ∨ kk = 5 := stand_kind (unhide hst) k6 k7
        clear k6 k7
        rcases hk5 with rfl | rfl | rfl | rfl | rfl
        · as_aux_lemma =>
          have hwi : wiB c.g [xa] = true := stand_reg (unhide hst) (by omega)
          rw [wi_one] at hwi
          simp only [Bool.and_eq_true, decide_eq_true_eq] at hwi
          obtain ⟨ja, rfl⟩ := Int.eq_ofNat_of_zero_le hwi.1
          have hja : ja < q := by have := unhide hq; omega
          have hja2 : (ja : Int) < (q : Int) := by omega
          clear hwi
          obtain ⟨v, hvv⟩ : ∃ v, s.h.getD ia 0 = v := ⟨_, rfl⟩
          have eS : stepD c ⟨1, (ja : Int), b, d, l⟩ k s = ({ readD s ia with r := s.r.set ja v }, k + 1) := by
            unfold stepD
            rw [if_pos rfl, unhide hia, Int.toNat_natCast, Int.toNat_natCast, hvv]
          rw [hS] at eS
          obtain ⟨rfl, rfl⟩ := Prod.mk.inj eS.symm
          clear eS hS
          have jr : ja < s.r.length := by rw [unhide hq1]; exact hja
          have ih : ia < s.h.length := by rw [unhide hn1]; exact hia2
          have yc := (unhide M5).hp.cell ih
          rw [hvv] at yc
          have rc := (unhide M5).rg.cell jr
          have rf := (unhide M5).rg.free ja
          have M6 := ((unhide M5).setReg jr v).drew
          have g6 := ((unhide g5).setCell (p := ⟨gr, ja, none⟩) (unhide M5).rB (.int .i64 v)).drew
          go_upto_region 16 with fail
          go_region
          all_goals
            obtain ⟨w6, hw6⟩ : ∃ w6, w6 = (w5.setCell ⟨gr, ja, none⟩ (.int .i64 v)).drew := ⟨_, rfl⟩
            rw [← hw6] at M6 g6 ⊢
            clear hw6 yc rc rf o0 o1 o2 o3 y0 y1 y2 y3 y4
            obtain ⟨i0, hi0, hz0, hz1, hz2⟩ := acc_info
            have bA := below_new w6 (.cells #[.int .i64 ia, .int .i64 v] 41)
            have H1 := (M6.next bA).drew
            obtain ⟨p0, p1, p2, p3⟩ := M6.blk.cells
            have pc := M6.hp.cell ih
            rw [hvv] at pc
            have z2 : (w6.alloc (.cells #[.int .i64 ia, .int .i64 v] 41)).cell? ⟨bo, 2, none⟩ = some (.slice da l2 dc) := H1.blk.cells.2.2.1
            have gA := hide ((unhide g6).alloc (Nat.le_trans M6.low (Nat.le_refl _)) (.cells #[.int .i64 ia, .int .i64 v] 41)).drew
            have nws : Hid (∀ j u, ([.int .i64 ia, .int .i64 v] : List Value)[j]? = some u → (w6.alloc (.cells #[.int .i64 ia, .int .i64 v] 41)).drew.cell? ((⟨w6.heap.size, 0, none⟩ : Addr).add j) = some u) := hide (acc_news w6 ia v w6.heap.size rfl)
            have hown0 := H1.rd
            rw [show (St.rd { s with r := s.r.set ja v }).length = l2 from unhide hl2] at hown0
            have lowA := H1.low
            have low6 := M6.low
            replace hown0 := hide hown0
            have H1 := hide H1
            have l60 : l2 ≤ 60 := by have := unhide hl2; omega
            replace hvv := hide hvv
            clear M6 g6 bA
            go_wp2_with fail
            go_region_law (refine step_append_lies _ (by rfl) _ _ _ (by rfl) W0.heap.size 41 i0 _ 2 16 Try.underlying28 hi0 hz0 hz1 hz2 rfl (by omega) (.slice da l2 dc) l2 _ (by rfl) (unhide hown0) _ 1 1 [.int .i64 ia, .int .i64 v] (by rfl) (by rfl) (unhide nws) (acc_one _ _) (by omega) (by omega) (by omega) (by simp; omega) _ rfl ?_; intro g cap1 w7 hown hgrow hat1 hlt1; have hb1 := (unhide H1).blk.keep (hgrow.block _ (unhide H1).blk.lt ((unhide H1).blk.neRow (unhide H1).rd)); have hr1' := (unhide H1).hp.keep (hgrow.block _ (unhide H1).hp.lt ((unhide H1).hp.neRow (unhide H1).rd)); have f1 := hb1.free 2; have x1 := hb1.cells.2.2.1; have x3 := hr1'.cell ih; rw [unhide hvv] at x3; replace hb1 := hide hb1; replace hr1' := hide hr1'; replace hown := hide hown; replace hgrow := hide hgrow; replace hat1 := hide hat1; clear hlt1)
            all_goals
              have hw := (unhide H1).addRead (p := ((ia : Int), v)) (g := g) (cap := cap1) (by rw [show (St.rd { s with r := s.r.set ja v }).length = l2 from unhide hl2]; exact unhide hown) (unhide hgrow) (unhide hat1)
              rw [show (St.rd { s with r := s.r.set ja v }).length = l2 from unhide hl2] at hw
              have gE := hide (((unhide gA).grown (unhide hgrow) lowA (fun k hk => ((unhide H1).rd.lt k hk).1)).setCell (p := ⟨bo, 2, none⟩) (unhide H1).bB (.slice (some ⟨g, 0, none⟩) (l2 + 1) cap1))
              replace hw := hide hw
              clear H1 nws hown0 z2 pc p0 p1 p2 p3 f1 x1 x3 hb1 hr1' hown hgrow hat1
              go_wp2
              go_roundw
              case rel =>
                have q1 := unhide hat
                have q2 := unhide e1r
                have q3 := unhide e1w
                exact ⟨_, _, f, .slice (some ⟨g, 0, none⟩) (l2 + 1) cap1, .slice wa l3 wc, q1.2, by go_num, unhide gE, by have q := unhide hw; unfold readD; rw [unhide hvv]; exact q, unhide w2f, Nat.le_trans q2 (by have := q1.1; show s.rd.length + 1 ≤ _; omega), Nat.le_trans q3 (by have := q1.1; show s.wr.length + 1 ≤ _; omega), by have := q1.1; omega, unhide hr1⟩
              case measure =>
                have q1 := (unhide hat).1
                have q2 := (unhide hat).2
                first | omega | (simp; omega) | (simp [RowKit.intOf]; omega)
        · as_aux_lemma =>
          have hwi : wiB c.g [xa] = true := stand_reg (unhide hst) (by omega)
          rw [wi_one] at hwi
          simp only [Bool.and_eq_true, decide_eq_true_eq] at hwi
          obtain ⟨ja, rfl⟩ := Int.eq_ofNat_of_zero_le hwi.1
          have hja : ja < q := by have := unhide hq; omega
          have hja2 : (ja : Int) < (q : Int) := by omega
          clear hwi
          obtain ⟨v, hvv⟩ : ∃ v, s.r.getD ja 0 = v := ⟨_, rfl⟩
          have eS : stepD c ⟨2, (ja : Int), b, d, l⟩ k s = (writeD s ia v, k + 1) := by
            unfold stepD
            rw [if_neg (show ¬ (2 : Int) = 1 by decide), if_pos rfl, unhide hia, Int.toNat_natCast, Int.toNat_natCast, hvv]
          rw [hS] at eS
          obtain ⟨rfl, rfl⟩ := Prod.mk.inj eS.symm
          clear eS hS
          have jr : ja < s.r.length := by rw [unhide hq1]; exact hja
          have ih : ia < s.h.length := by rw [unhide hn1]; exact hia2
          have rc := (unhide M5).rg.cell jr
          rw [hvv] at rc
          have yc := (unhide M5).hp.cell ih
          have yf := (unhide M5).hp.free ia
          have M6 := (unhide M5).setHeap ih v
          have g6 := (unhide g5).setCell (p := ⟨gh, ia, none⟩) (unhide M5).hB (.int .i64 v)
          go_upto_region 20 with fail
          obtain ⟨w6, hw6⟩ : ∃ w6, w6 = w5.setCell ⟨gh, ia, none⟩ (.int .i64 v) := ⟨_, rfl⟩
          rw [← hw6] at M6 g6 ⊢
          clear hw6 yc rc yf o0 o1 o2 o3 y0 y1 y2 y3 y4
          obtain ⟨i0, hi0, hz0, hz1, hz2⟩ := acc_info
          have bA := below_new w6 (.cells #[.int .i64 ia, .int .i64 v] 41)
          have H1 := (M6.next bA).drew
          obtain ⟨p0, p1, p2, p3⟩ := M6.blk.cells
          have ih2 : ia < (s.h.set ia v).length := by rw [List.length_set]; exact ih
          have hv2 : (s.h.set ia v).getD ia 0 = v := by simp [ih]
          have pc := M6.hp.cell (i := ia) ih2
          rw [show (St.h { s with h := s.h.set ia v }).getD ia 0 = v from hv2] at pc
          have z3 : (w6.alloc (.cells #[.int .i64 ia, .int .i64 v] 41)).cell? ⟨bo, 3, none⟩ = some (.slice wa l3 wc) := H1.blk.cells.2.2.2
          have gA := hide ((unhide g6).alloc (Nat.le_trans M6.low (Nat.le_refl _)) (.cells #[.int .i64 ia, .int .i64 v] 41)).drew
          have nws : Hid (∀ j u, ([.int .i64 ia, .int .i64 v] : List Value)[j]? = some u → (w6.alloc (.cells #[.int .i64 ia, .int .i64 v] 41)).drew.cell? ((⟨w6.heap.size, 0, none⟩ : Addr).add j) = some u) := hide (acc_news w6 ia v w6.heap.size rfl)
          have hown0 := H1.wr
          rw [show (St.wr { s with h := s.h.set ia v }).length = l3 from unhide hl3] at hown0
          have lowA := H1.low
          have low6 := M6.low
          replace hown0 := hide hown0
          have H1 := hide H1
          have l60 : l3 ≤ 60 := by have := unhide hl3; omega
          replace hvv := hide hvv
          replace hv2 := hide hv2
          clear M6 g6 bA
          go_region_law (refine step_append_lies _ (by rfl) _ _ _ (by rfl) W0.heap.size 41 i0 _ 2 16 Try.underlying28 hi0 hz0 hz1 hz2 rfl (by omega) (.slice wa l3 wc) l3 _ (by rfl) (unhide hown0) _ 1 1 [.int .i64 ia, .int .i64 v] (by rfl) (by rfl) (unhide nws) (acc_one _ _) (by omega) (by omega) (by omega) (by simp; omega) _ rfl ?_; intro g cap1 w7 hown hgrow hat1 hlt1; have hb1 := (unhide H1).blk.keep (hgrow.block _ (unhide H1).blk.lt ((unhide H1).blk.neRow (unhide H1).wr)); have hr1' := (unhide H1).hp.keep (hgrow.block _ (unhide H1).hp.lt ((unhide H1).hp.neRow (unhide H1).wr)); have f1 := hb1.free 3; have x1 := hb1.cells.2.2.2; have x3 := hr1'.cell (i := ia) ih2; rw [show (St.h { s with h := s.h.set ia v }).getD ia 0 = v from unhide hv2] at x3; replace hb1 := hide hb1; replace hr1' := hide hr1'; replace hown := hide hown; replace hgrow := hide hgrow; replace hat1 := hide hat1; clear hlt1)
          all_goals
            have hw := (unhide H1).addWrite (p := ((ia : Int), v)) (g := g) (cap := cap1) (by rw [show (St.wr { s with h := s.h.set ia v }).length = l3 from unhide hl3]; exact unhide hown) (unhide hgrow) (unhide hat1)
            rw [show (St.wr { s with h := s.h.set ia v }).length = l3 from unhide hl3] at hw
            have gE := hide (((unhide gA).grown (unhide hgrow) lowA (fun k hk => ((unhide H1).wr.lt k hk).1)).setCell (p := ⟨bo, 3, none⟩) (unhide H1).bB (.slice (some ⟨g, 0, none⟩) (l3 + 1) cap1))
            replace hw := hide hw
            clear H1 nws hown0 z3 pc p0 p1 p2 p3 f1 x1 x3 hb1 hr1' hown hgrow hat1
            go_wp2
            go_roundw
            case rel =>
              have q1 := unhide hat
              have q2 := unhide e1r
              have q3 := unhide e1w
              exact ⟨_, _, f, .slice da l2 dc, .slice (some ⟨g, 0, none⟩) (l3 + 1) cap1, q1.2, by go_num, unhide gE, unhide hw, unhide w2f, Nat.le_trans q2 (by have := q1.1; show s.rd.length + 1 ≤ _; omega), Nat.le_trans q3 (by have := q1.1; show s.wr.length + 1 ≤ _; omega), by have := q1.1; omega, unhide hr1⟩
            case measure =>
              have q1 := (unhide hat).1
              have q2 := (unhide hat).2
              first | omega | (simp; omega) | (simp [RowKit.intOf]; omega)
        · as_aux_lemma =>
          have hwi : wiB c.g [xa] = true := stand_reg (unhide hst) (by omega)
          rw [wi_one] at hwi
          simp only [Bool.and_eq_true, decide_eq_true_eq] at hwi
          obtain ⟨ja, rfl⟩ := Int.eq_ofNat_of_zero_le hwi.1
          have hja : ja < q := by have := unhide hq; omega
          have hja2 : (ja : Int) < (q : Int) := by omega
          clear hwi
          have eS : stepD c ⟨3, (ja : Int), b, d, l⟩ k s = ({ s with r := s.r.set ja b }, k + 1) := by
            unfold stepD
            rw [if_neg (show ¬ (3 : Int) = 1 by decide), if_neg (show ¬ (3 : Int) = 2 by decide), if_pos rfl]
            rfl
          rw [hS] at eS
          obtain ⟨rfl, rfl⟩ := Prod.mk.inj eS.symm
          clear eS hS
          have jr : ja < s.r.length := by rw [unhide hq1]; exact hja
          have rc := (unhide M5).rg.cell jr
          have rf := (unhide M5).rg.free ja
          have M6 := hide ((unhide M5).setReg jr b)
          have g6 := hide ((unhide g5).setCell (p := ⟨gr, ja, none⟩) (unhide M5).rB (.int .i64 b))
          go_wp2
          go_roundw
          case rel =>
            have q1 := unhide hat
            have q2 := unhide e1r
            have q3 := unhide e1w
            exact ⟨_, _, f, .slice da l2 dc, .slice wa l3 wc, q1.2, by go_num, unhide g6, unhide M6, unhide w2f, Nat.le_trans q2 (by have := q1.1; show s.rd.length + 1 ≤ _; omega), Nat.le_trans q3 (by have := q1.1; show s.wr.length + 1 ≤ _; omega), by have := q1.1; omega, unhide hr1⟩
          case measure =>
            have q1 := (unhide hat).1
            have q2 := (unhide hat).2
            first | omega | (simp; omega) | (simp [RowKit.intOf]; omega)
        · as_aux_lemma =>
          have hwi : wiB c.g [xa] = true := stand_reg (unhide hst) (by omega)
          rw [wi_one] at hwi
          simp only [Bool.and_eq_true, decide_eq_true_eq] at hwi
          obtain ⟨ja, rfl⟩ := Int.eq_ofNat_of_zero_le hwi.1
          have hja : ja < q := by have := unhide hq; omega
          have hja2 : (ja : Int) < (q : Int) := by omega
          clear hwi
          obtain ⟨hl8, hin⟩ := stand_calc (unhide hst)
          obtain ⟨v, hvv⟩ : ∃ v, (Calc.evalL b (regsD s.r l)).1 = v := ⟨_, rfl⟩
          have eS : stepD c ⟨4, (ja : Int), b, d, l⟩ k s = ({ s with r := s.r.set ja v }, k + 1) := by
            unfold stepD
            rw [if_neg (show ¬ (4 : Int) = 1 by decide), if_neg (show ¬ (4 : Int) = 2 by decide), if_neg (show ¬ (4 : Int) = 3 by decide), if_pos rfl]
            show ({ s with r := s.r.set ja (Calc.evalL b (regsD s.r l)).1 }, k + 1) = _
            rw [hvv]
          rw [hS] at eS
          obtain ⟨rfl, rfl⟩ := Prod.mk.inj eS.symm
          clear eS hS
          have jr : ja < s.r.length := by rw [unhide hq1]; exact hja
          have kG := rargs_any ⟨4, (ja : Int), b, d, l⟩ (.slice ua ul uc) _ s.r w5.drew ((unhide u5).next (Below.drew (Below.refl _ _))) (unhide M5).drew.held.r hl8 (by intro y hy; have := hin y hy; have h1 := (unhide hwf0).r; constructor <;> omega)
          rw [unhide hq1] at kG
          unfold iv at kG
          replace hvv := hide hvv
          go_upto_region 24 with fail
          go_region_held3 (fun wz => wz.cell? ⟨bo, 1, none⟩ = some (.slice (some ⟨gr, 0, none⟩) q q) ∧ wz.cell? ⟨M, 0, none⟩ = some (.int .i64 4) ∧ wz.cell? ⟨M, 1, none⟩ = some (.int .i64 (ja : Int)) ∧ wz.cell? ⟨M, 2, none⟩ = some (.int .i64 b) ∧ wz.cell? ⟨M, 3, none⟩ = some (.int .i64 d) ∧ wz.cell? ⟨M, 4, none⟩ = some (.slice ua ul uc)) (first | exact ⟨o1, y0, y1, y2, y3, y4⟩ | exact ⟨p1, r0, r1, r2, r3, r4⟩ | exact ⟨q1, s0, s1, s2, s3, s4⟩ | exact ⟨m1, t0, t1, t2, t3, t4⟩)
            (first
              | (go_at_call 25; (with_reducible refine Calls.mono kG ?_); rintro e1 w6 ⟨ga, gc, rfl, hL6, b6⟩; have M6 := (unhide M5).drew.next b6; have x6 := (unhide x5).drew.next b6; obtain ⟨_, p1, _, _⟩ := M6.blk.cells; rw [unhide hq1] at p1; obtain ⟨r0, r1, r2, r3, r4⟩ := x6.cells; have kE := revalLs_any b _ _ w6 hL6; have ev := unhide hvv; obtain ⟨tt, htt⟩ : ∃ t, (Calc.evalL b (regsD s.r l)).2 = t := ⟨_, rfl⟩; rw [show Calc.evalL b (regsD s.r (In.l ⟨4, (ja : Int), b, d, l⟩)) = Calc.evalL b (regsD s.r l) from rfl, ev, htt] at kE; have g6 := hide (below_then' (unhide g5).drew b6); replace htt := hide htt; replace M6 := hide M6; replace x6 := hide x6; clear b6 hL6 ev)
              | (go_at_call 24; (with_reducible refine Calls.mono kE ?_); rintro e1 w7 ⟨rfl, b7⟩; have M7 := (unhide M6).next b7; have x7 := (unhide x6).next b7; obtain ⟨_, q1, _, _⟩ := M7.blk.cells; rw [unhide hq1] at q1; obtain ⟨s0, s1, s2, s3, s4⟩ := x7.cells; have rc := M7.rg.cell jr; have rf := M7.rg.free ja; have M8 := M7.setReg jr v; have g7 := below_then' (unhide g6) b7; have g8 := hide (g7.setCell (p := ⟨gr, ja, none⟩) M7.rB (.int .i64 v)); have x8 : Ix ⟨4, (ja : Int), b, d, l⟩ (.slice ua ul uc) M (w7.setCell ⟨gr, ja, none⟩ (.int .i64 v)) := (set_other _ _ _ _ _ (fun e => rb44 M7.rg _ 44 _ (.inl rfl) (by rw [← e]; exact x7))).trans x7; obtain ⟨_, m1, _, _⟩ := M8.blk.cells; rw [show (St.r { s with r := s.r.set ja v }).length = q from by rw [← unhide hq1]; simp] at m1; obtain ⟨t0, t1, t2, t3, t4⟩ := x8.cells; replace M8 := hide M8; clear M7 x7 b7 g7 x8))
          all_goals skip
          go_wp2
          go_roundw
          case rel =>
            have q1 := unhide hat
            have q2 := unhide e1r
            have q3 := unhide e1w
            exact ⟨_, _, f, .slice da l2 dc, .slice wa l3 wc, q1.2, by go_num, unhide g8, unhide M8, unhide w2f, Nat.le_trans q2 (by have := q1.1; show s.rd.length + 1 ≤ _; omega), Nat.le_trans q3 (by have := q1.1; show s.wr.length + 1 ≤ _; omega), by have := q1.1; omega, unhide hr1⟩
          case measure =>
            have q1 := (unhide hat).1
            have q2 := (unhide hat).2
            first | omega | (simp; omega) | (simp [RowKit.intOf]; omega)
        · as_aux_lemma =>
          have hwi : wiB c.g [xa] = true := stand_reg (unhide hst) (by omega)
          rw [wi_one] at hwi
          simp only [Bool.and_eq_true, decide_eq_true_eq] at hwi
          obtain ⟨ja, rfl⟩ := Int.eq_ofNat_of_zero_le hwi.1
          have hja : ja < q := by have := unhide hq; omega
          have hja2 : (ja : Int) < (q : Int) := by omega
          clear hwi
          have jr : ja < s.r.length := by rw [unhide hq1]; exact hja
          obtain ⟨v, hvv⟩ : ∃ v, s.r.getD ja 0 = v := ⟨_, rfl⟩
          have rc := (unhide M5).rg.cell jr
          rw [hvv] at rc
          have hj := stand_jump (unhide hst)
          obtain ⟨jb, rfl⟩ := Int.eq_ofNat_of_zero_le (show 0 ≤ b by omega)
          by_cases v0 : v = 0
          · have eS : stepD c ⟨5, (ja : Int), (jb : Int), d, l⟩ k s = (s, k + 1) := by
              unfold stepD
              rw [if_neg (show ¬ (5 : Int) = 1 by decide), if_neg (show ¬ (5 : Int) = 2 by decide), if_neg (show ¬ (5 : Int) = 3 by decide), if_neg (show ¬ (5 : Int) = 4 by decide), if_pos rfl, if_pos (by show s.r.getD (ja : Int).toNat 0 = 0; rw [Int.toNat_natCast, hvv, v0])]
            rw [hS] at eS
            obtain ⟨rfl, rfl⟩ := Prod.mk.inj eS.symm
            clear eS hS
            replace hvv := hide hvv
            subst v0
            go_wp2
            go_roundw
            case rel =>
              have q1 := unhide hat
              have q2 := unhide e1r
              have q3 := unhide e1w
              exact ⟨_, _, f, .slice da l2 dc, .slice wa l3 wc, q1.2, by go_num, unhide g5, unhide M5, unhide w2f, Nat.le_trans q2 (by have := q1.1; show s.rd.length + 1 ≤ _; omega), Nat.le_trans q3 (by have := q1.1; show s.wr.length + 1 ≤ _; omega), by have := q1.1; omega, unhide hr1⟩
            case measure =>
              have q1 := (unhide hat).1
              have q2 := (unhide hat).2
              first | omega | (simp; omega) | (simp [RowKit.intOf]; omega)
          · have vb : (v == 0) = false := by simpa using v0
            have eS : stepD c ⟨5, (ja : Int), (jb : Int), d, l⟩ k s = (s, jb) := by
              unfold stepD
              rw [if_neg (show ¬ (5 : Int) = 1 by decide), if_neg (show ¬ (5 : Int) = 2 by decide), if_neg (show ¬ (5 : Int) = 3 by decide), if_neg (show ¬ (5 : Int) = 4 by decide), if_pos rfl, if_neg (by show ¬ s.r.getD (ja : Int).toNat 0 = 0; rw [Int.toNat_natCast, hvv]; exact v0)]
              rfl
            rw [hS] at eS
            obtain ⟨rfl, rfl⟩ := Prod.mk.inj eS.symm
            clear eS hS
            replace hvv := hide hvv
            go_wp2
            go_roundw
            case rel =>
              have q1 := unhide hat
              have q2 := unhide e1r
              have q3 := unhide e1w
              exact ⟨_, _, f, .slice da l2 dc, .slice wa l3 wc, q1.2, by go_num, unhide g5, unhide M5, unhide w2f, Nat.le_trans q2 (by have := q1.1; show s.rd.length + 1 ≤ _; omega), Nat.le_trans q3 (by have := q1.1; show s.wr.length + 1 ≤ _; omega), by have := q1.1; omega, unhide hr1⟩
            case measure =>
              have q1 := (unhide hat).1
              have q2 := (unhide hat).2
              first | omega | (simp; omega) | (simp [RowKit.intOf]; omega)
      · have kd : decide ((k : Int) < (m : Int)) = false := decide_eq_false (by omega)
        rw [play_end (by have := unhide hm; omega)] at hr
        have r2 : Hid (runD c H ps = ⟨1, s.r, s.rd, s.wr, s.h, 0⟩) := hide (by rw [unhide r, ← hr]; rfl)
        have hq1 : s.r.length = q := by have := hwf.r; have := unhide hq; omega
        have hn1 : s.h.length = n := by have := hwf.h; have := unhide hlh; omega
        obtain ⟨da, dc, rfl⟩ := own_slice hM.rd
        obtain ⟨wa, wc, rfl⟩ := own_slice hM.wr
        obtain ⟨l2, hl2⟩ : ∃ l2, s.rd.length = l2 := ⟨_, rfl⟩
        obtain ⟨l3, hl3⟩ : ∃ l3, s.wr.length = l3 := ⟨_, rfl⟩
        rw [hl2, hl3] at hM
        have hN : w.heap.size + 1 < W0.heap.size := by have := unhide hs0; omega
        have o6 : Ob 0 (.slice none 0 0) (.slice none 0 0) (.slice none 0 0) (w.heap.size + 1) wr := (hb.block _ hN).trans (unhide ho)
        obtain ⟨p0, p1, p2, p3⟩ := hM.blk.cells
        rw [hq1] at p1
        obtain ⟨t0, t1, t2, t3⟩ := o6.cells
        have e0 := o6.free 0
        have e1' := o6.free 1
        have e2 := o6.free 2
        have e3 := o6.free 3
        have G6 := (unhide b2).trans (hb.mono (unhide b2).size)
        have M7 := (hM.four hN (.int .i64 1) (.slice (some ⟨gr, 0, none⟩) q q) (.slice da l2 dc) (.slice wa l3 wc))
        have gE := hide (four_below G6 (N := w.heap.size + 1) (by omega) (.int .i64 1) (.slice (some ⟨gr, 0, none⟩) q q) (.slice da l2 dc) (.slice wa l3 wc))
        have hL := M7.held.h
        rw [hn1] at hL
        have hD := hide (held_def M7 hq1 hL)
        clear M7 hL hM hwf hr hb G6 o6 hrd hwr hf hl2 hl3 hq1 hn1
        unfold four at gE hD
        go_wp2
        (try simp only [Exit.inBlock, Exit.then]); refine bodyPost_ret (v := .tuple #[ov 1 (.slice (some ⟨gr, 0, none⟩) q q) (.slice da l2 dc) (.slice wa l3 wc), .slice (some ⟨gh, 0, none⟩) n hcap, .int .i64 0]) ?_ rfl ⟨_, _, _, _, by rw [unhide r2], by rw [unhide r2]; exact unhide hD, unhide gE⟩
        rw [results_cell_two rfl]
        unfold ov
        go_simp
end Go.Proofs.Ytdhfpfkcbcgnaaa
