/- Texts of this claim, put together in their order. -/
import Derived.Test.YtdhpahopfmcdkaaBase1
import Derived.Test.YtdhpahopfmcdkaaBase2
import Derived.Test.YtdhpahopfmcdkaaBase3
import Derived.Test.YtdhpahopfmcdkaaBase4
import Derived.Test.YtdhpahopfmcdkaaBase5
import Derived.Test.YtdhpahopfmcdkaaBase6
import Derived.Test.YtdhpahopfmcdkaaBase7
import Derived.Test.YtdhpahopfmcdkaaBase8
import Derived.Test.YtdhpahopfmcdkaaBase9
/- Next of package path; able. -/
namespace Go.Proofs.Ytdhpahopfmcdkaa
open Go.RowKit
variable {B n : Nat} {most : Int} {T : Nat → Lv} {b : Nat}

theorem results_cell_two {fn : Func} {p u v : Tmp} {ty : TypeId} (h : fn.results = #[.cell p ty, .tmp u, .tmp v]) (tmps : Array Value) (P : Program) (w : World) :
    (results fn tmps).run P w =
      ((asAddr (tmps.getD p undef)).run P w).andThen fun a w₁ => ((loadVar ty a).run P w₁).andThen fun x w₂ => .ok (.tuple #[x, tmps.getD u undef, tmps.getD v undef]) w₂ := by
  simp only [results, h]
  simp [Sem.run_bind, Result.andThen]
/-- What Next walks over: the configuration's box, the answer's block, the table. -/
structure Nx (c : Cf) (q p B n : Nat) (most : Int) (T : Nat → Lv) (b : Nat) (w0 w : World) : Prop where
  bx : Bx c q w
  pl : w.heap[p]? = some (.cells #[.int .i64 0, .int .i64 0] 50 (0, 0))
  tn : Tn B n most T b w
  bel : Below w0.heap.size w0 w
theorem Nx.next {c : Cf} {q p : Nat} {w0 w w' : World} (h : Nx c q p B n most T b w0 w) (k : Below w.heap.size w w') : Nx c q p B n most T b w0 w' :=
  ⟨h.bx.next k, (k.block p (heap_lt h.pl)).trans h.pl, h.tn.next k, below_then h.bel k⟩
/-- The answer of Next. -/
def nxV (x : (Int × Int) × Bool) (e : Int) : Value := .tuple #[.agg #[.int .i64 x.1.1, .int .i64 x.1.2], .bool x.2, .int .i64 e]
theorem set2_below {w0 w : World} {p : Nat} (h : Below w0.heap.size w0 w) (hp : w0.heap.size ≤ p) (u v : Value) : Below w0.heap.size w0 ((w.setCell ⟨p, 0, none⟩ u).setCell ⟨p, 1, none⟩ v) :=
  (h.setCell (p := ⟨p, 0, none⟩) hp u).setCell (p := ⟨p, 1, none⟩) hp v
set_option maxRecDepth 100000 in
set_option maxHeartbeats 8000000 in
theorem next_in (c : Cf) (w : World) (h : Tn B n most T b w) (hf : Few n 1000 T) (who a : Int) (write : Bool) (hok : okB c = true) (h0 : 0 ≤ a) (h1 : a < nw c) {x : (Int × Int) × Bool} (hx : nextD c n T who a write = x) :
    Calls Try.prog 41 #[cv c, .pointer (some ⟨b, 0, none⟩), .int .i64 who, .int .i64 a, .bool write] w fun e w' => e = .returned (nxV x 0) ∧ Below w.heap.size w w' := by
  unfold nextD at hx
  obtain ⟨r, hr⟩ : ∃ r, r = rD c a := ⟨_, rfl⟩
  obtain ⟨o, ho⟩ : ∃ o, o = c.r + oD c a := ⟨_, rfl⟩
  obtain ⟨s, hs⟩ : ∃ s, s = c.r + no c + sD c a := ⟨_, rfl⟩
  rw [← hr, ← ho, ← hs] at hx
  have P := hide (fun w0 : World => path_ok c a w0 hok h0 h1)
  rw [← hr, ← ho, ← hs] at P
  obtain ⟨N, hN⟩ : ∃ N, N = w.heap.size := ⟨_, rfl⟩
  obtain ⟨w1, hw1⟩ : ∃ w1, w1 = (w.alloc (.cells #[.int .i64 c.r, .int .i64 c.o, .int .i64 c.s, .int .i64 c.d, .int .i64 c.t, .int .i64 c.l, .int .i64 c.g, .int .i64 c.k, .int .i64 c.u, .int .i64 c.e, .int .i64 c.i, .int .i64 c.p] 73)).alloc (.cells #[.int .i64 0, .int .i64 0] 50) := ⟨_, rfl⟩
  have X1 : Nx c N (N + 1) B n most T b w w1 := by
    have b0 := below_new w (.cells #[.int .i64 c.r, .int .i64 c.o, .int .i64 c.s, .int .i64 c.d, .int .i64 c.t, .int .i64 c.l, .int .i64 c.g, .int .i64 c.k, .int .i64 c.u, .int .i64 c.e, .int .i64 c.i, .int .i64 c.p] 73)
    have b1 := below_new (w.alloc (.cells #[.int .i64 c.r, .int .i64 c.o, .int .i64 c.s, .int .i64 c.d, .int .i64 c.t, .int .i64 c.l, .int .i64 c.g, .int .i64 c.k, .int .i64 c.u, .int .i64 c.e, .int .i64 c.i, .int .i64 c.p] 73)) (.cells #[.int .i64 0, .int .i64 0] 50)
    rw [hw1, hN]
    refine ⟨(bx_new c w).next b1, ?_, (h.next b0).next b1, below_then b0 b1⟩
    have := heap_alloc_new (w.alloc (.cells #[.int .i64 c.r, .int .i64 c.o, .int .i64 c.s, .int .i64 c.d, .int .i64 c.t, .int .i64 c.l, .int .i64 c.g, .int .i64 c.k, .int .i64 c.u, .int .i64 c.e, .int .i64 c.i, .int .i64 c.p] 73)) (.cells #[.int .i64 0, .int .i64 0] 50)
    rw [World.size_alloc] at this
    exact this
  obtain ⟨a0, a1, a2, a3, a4, a5, a6, a7, a8, a9, a10, a11⟩ := X1.bx.cells
  have hNw : Hid (w.heap.size ≤ N + 1) := by show _ ≤ _; omega
  replace X1 := hide X1
  have HT := hide h
  clear h hr ho hs hok h0 h1
  unfold cv
  go_enter Try.func41, Try.ntmps41
  go_wp2_with fail
  rw [← hN, ← hw1]
  replace hw1 := hide hw1
  replace hN := hide hN
  refine (unhide P w1).mono ?_
  rintro e w2 ⟨rfl, b2⟩
  have X2 := hide ((unhide X1).next b2)
  clear a0 a1 a2 a3 a4 a5 a6 a7 a8 a9 a10 a11 b2
  go_wp2_with fail
  refine (wanted_any write _).mono ?_
  rintro e w3 ⟨rfl, rfl⟩
  go_wp2_with fail
  refine (intent_want write _).mono ?_
  rintro e w2 ⟨rfl, rfl⟩
  unfold nextK at hx
  cases k1 : coversB (holdT n T who r) (inD write)
  · rw [if_pos k1] at hx
    subst hx
    have K1 := hide k1
    clear k1
    go_wp2_with fail
    refine (covers_p w2 (unhide X2).tn hf who r (inD write) (unhide K1)).mono ?_
    rintro e w4 ⟨rfl, b4⟩
    have X4 := hide ((unhide X2).next b4)
    obtain ⟨y0, y1, y2, y3⟩ := lock_cells (unhide X4).pl
    have BE := hide (set2_below (unhide X4).bel (unhide hNw) (.int .i64 r) (.int .i64 (inD write)))
    clear b4
    go_wp2
    refine bodyPost_ret (v := nxV ((r, inD write), true) 0) ?_ rfl ⟨rfl, unhide BE⟩
    rw [results_cell_two rfl]
    unfold nxV
    go_simp
  rw [if_neg (by rw [k1]; decide)] at hx
  have K1 := hide k1
  clear k1
  go_wp2_with fail
  refine (covers_p w2 (unhide X2).tn hf who r (inD write) (unhide K1)).mono ?_
  rintro e w4 ⟨rfl, b4⟩
  have X4 := hide ((unhide X2).next b4)
  clear b4
  cases k2 : wholeB write (holdT n T who o)
  · rw [if_neg (by rw [k2]; decide)] at hx
    have K2 := hide k2
    clear k2
    go_wp2_with fail
    refine (whole_p w4 (unhide X4).tn hf who o write (unhide K2)).mono ?_
    rintro e w5 ⟨rfl, b5⟩
    have X5 := hide ((unhide X4).next b5)
    clear b5
    cases k3 : coversB (holdT n T who s) (wantD write)
    · cases k4 : escB c n T who o
      · rw [k3, k4, if_neg (by decide)] at hx
        replace hx := hide hx
        have K3 := hide k3
        have K4 := hide k4
        clear k3 k4
        go_wp2_with fail
        refine (covers_p w5 (unhide X5).tn hf who s (wantD write) (unhide K3)).mono ?_
        rintro e w6 ⟨rfl, b6⟩
        have X6 := hide ((unhide X5).next b6)
        clear b6
        obtain ⟨a0, a1, a2, a3, a4, a5, a6, a7, a8, a9, a10, a11⟩ := (unhide X6).bx.cells
        go_wp2_with fail
        refine (esc_p c w6 (unhide X6).tn hf who o (unhide K4)).mono ?_
        rintro e w7 ⟨rfl, b7⟩
        have X7 := hide ((unhide X6).next b7)
        clear b7 a0 a1 a2 a3 a4 a5 a6 a7 a8 a9 a10 a11
        cases k5 : coversB (holdT n T who o) (inD write)
        · replace hx := unhide hx
          rw [if_pos k5] at hx
          subst hx
          have K5 := hide k5
          clear k5
          go_wp2_with fail
          refine (covers_p w7 (unhide X7).tn hf who o (inD write) (unhide K5)).mono ?_
          rintro e w8 ⟨rfl, b8⟩
          have X8 := hide ((unhide X7).next b8)
          obtain ⟨y0, y1, y2, y3⟩ := lock_cells (unhide X8).pl
          have BE := hide (set2_below (unhide X8).bel (unhide hNw) (.int .i64 o) (.int .i64 (inD write)))
          clear b8
          go_wp2
          refine bodyPost_ret (v := nxV ((o, inD write), true) 0) ?_ rfl ⟨rfl, unhide BE⟩
          rw [results_cell_two rfl]
          unfold nxV
          go_simp
        · replace hx := unhide hx
          rw [k5, if_neg (by decide), if_pos trivial] at hx
          subst hx
          have K5 := hide k5
          clear k5
          go_wp2_with fail
          refine (covers_p w7 (unhide X7).tn hf who o (inD write) (unhide K5)).mono ?_
          rintro e w8 ⟨rfl, b8⟩
          have X8 := hide ((unhide X7).next b8)
          obtain ⟨y0, y1, y2, y3⟩ := lock_cells (unhide X8).pl
          have BE := hide (set2_below (unhide X8).bel (unhide hNw) (.int .i64 s) (.int .i64 (wantD write)))
          clear b8
          go_wp2
          refine bodyPost_ret (v := nxV ((s, wantD write), true) 0) ?_ rfl ⟨rfl, unhide BE⟩
          rw [results_cell_two rfl]
          unfold nxV
          go_simp
      · rw [k3, k4, if_pos ⟨rfl, rfl⟩] at hx
        subst hx
        have K3 := hide k3
        have K4 := hide k4
        clear k3 k4
        go_wp2_with fail
        refine (covers_p w5 (unhide X5).tn hf who s (wantD write) (unhide K3)).mono ?_
        rintro e w6 ⟨rfl, b6⟩
        have X6 := hide ((unhide X5).next b6)
        clear b6
        obtain ⟨a0, a1, a2, a3, a4, a5, a6, a7, a8, a9, a10, a11⟩ := (unhide X6).bx.cells
        go_wp2_with fail
        refine (esc_p c w6 (unhide X6).tn hf who o (unhide K4)).mono ?_
        rintro e w7 ⟨rfl, b7⟩
        have X7 := hide ((unhide X6).next b7)
        obtain ⟨y0, y1, y2, y3⟩ := lock_cells (unhide X7).pl
        have BE := hide (set2_below (unhide X7).bel (unhide hNw) (.int .i64 o) (.int .i64 (wantD write)))
        clear b7 a0 a1 a2 a3 a4 a5 a6 a7 a8 a9 a10 a11
        go_wp2
        refine bodyPost_ret (v := nxV ((o, wantD write), true) 0) ?_ rfl ⟨rfl, unhide BE⟩
        rw [results_cell_two rfl]
        unfold nxV
        go_simp
    · rw [if_neg (by rw [k3]; exact fun e => absurd e.1 (by decide))] at hx
      replace hx := hide hx
      have K3 := hide k3
      clear k3
      go_wp2_with fail
      refine (covers_p w5 (unhide X5).tn hf who s (wantD write) (unhide K3)).mono ?_
      rintro e w6 ⟨rfl, b6⟩
      have X6 := hide ((unhide X5).next b6)
      clear b6
      cases k5 : coversB (holdT n T who o) (inD write)
      · replace hx := unhide hx
        rw [if_pos k5] at hx
        subst hx
        have K5 := hide k5
        clear k5
        go_wp2_with fail
        refine (covers_p w6 (unhide X6).tn hf who o (inD write) (unhide K5)).mono ?_
        rintro e w8 ⟨rfl, b8⟩
        have X8 := hide ((unhide X6).next b8)
        obtain ⟨y0, y1, y2, y3⟩ := lock_cells (unhide X8).pl
        have BE := hide (set2_below (unhide X8).bel (unhide hNw) (.int .i64 o) (.int .i64 (inD write)))
        clear b8
        go_wp2
        refine bodyPost_ret (v := nxV ((o, inD write), true) 0) ?_ rfl ⟨rfl, unhide BE⟩
        rw [results_cell_two rfl]
        unfold nxV
        go_simp
      · replace hx := unhide hx
        rw [k5, if_neg (by decide), if_neg (by rw [unhide K3]; decide)] at hx
        subst hx
        have K5 := hide k5
        clear k5
        go_wp2_with fail
        refine (covers_p w6 (unhide X6).tn hf who o (inD write) (unhide K5)).mono ?_
        rintro e w8 ⟨rfl, b8⟩
        have X8 := hide ((unhide X6).next b8)
        obtain ⟨y0, y1, y2, y3⟩ := lock_cells (unhide X8).pl
        have BE := hide (set2_below (unhide X8).bel (unhide hNw) (.int .i64 0) (.int .i64 0))
        clear b8
        go_wp2
        refine bodyPost_ret (v := nxV ((0, 0), false) 0) ?_ rfl ⟨rfl, unhide BE⟩
        rw [results_cell_two rfl]
        unfold nxV
        go_simp
  · rw [if_pos k2] at hx
    subst hx
    have K2 := hide k2
    clear k2
    go_wp2_with fail
    refine (whole_p w4 (unhide X4).tn hf who o write (unhide K2)).mono ?_
    rintro e w5 ⟨rfl, b5⟩
    have X5 := hide ((unhide X4).next b5)
    obtain ⟨y0, y1, y2, y3⟩ := lock_cells (unhide X5).pl
    have BE := hide (set2_below (unhide X5).bel (unhide hNw) (.int .i64 0) (.int .i64 0))
    clear b5
    go_wp2
    refine bodyPost_ret (v := nxV ((0, 0), false) 0) ?_ rfl ⟨rfl, unhide BE⟩
    rw [results_cell_two rfl]
    unfold nxV
    go_simp
set_option maxRecDepth 100000 in
theorem able_in (c : Cf) (w : World) (h : Tn B n most T b w) (hf : Few n 1000 T) (who a : Int) (write : Bool) (hok : okB c = true) (h0 : 0 ≤ a) (h1 : a < nw c) {x : Bool} (hx : (nextD c n T who a write).2 = x) :
    Calls Try.prog 47 #[cv c, .pointer (some ⟨b, 0, none⟩), .int .i64 who, .int .i64 a, .bool write] w fun e w' => e = .returned (.bool !x) ∧ Below w.heap.size w w' := by
  have HT := hide h
  obtain ⟨⟨⟨y, z⟩, u⟩, hy⟩ : ∃ y, nextD c n T who a write = y := ⟨_, rfl⟩
  have hux : u = x := by rw [hy] at hx; exact hx
  subst hux
  have b0 := below_new w (.cells #[.int .i64 c.r, .int .i64 c.o, .int .i64 c.s, .int .i64 c.d, .int .i64 c.t, .int .i64 c.l, .int .i64 c.g, .int .i64 c.k, .int .i64 c.u, .int .i64 c.e, .int .i64 c.i, .int .i64 c.p] 73)
  have X := next_in c _ (h.next b0) hf who a write hok h0 h1 hy
  unfold nxV at X
  dsimp only at X
  have hxx := bx_new c w
  obtain ⟨a0, a1, a2, a3, a4, a5, a6, a7, a8, a9, a10, a11⟩ := hxx.cells
  replace X := hide X
  clear h hx hy hok h0 h1 hxx b0
  cases u
  all_goals
    unfold cv
    go_enter Try.func47, Try.ntmps47
    go_wp2_with fail
    refine (unhide X).mono ?_
    rintro e w2 ⟨rfl, b2⟩
    replace b2 := hide (below_call b2)
    go_wp2
    go_ret
    exact ⟨rfl, below_add (unhide b2) _⟩
end Go.Proofs.Ytdhpahopfmcdkaa

/- Ways of the reference's Check in which a part that is not the heap's is out of its bounds. -/
namespace Go.Proofs.Ytdhpahopfmcdkaa
open Go.RowKit

set_option maxHeartbeats 2000000 in
set_option maxRecDepth 100000 in
theorem rcheck_lo0 (c : Cf) (w : World) (h : Hp c) (u : c.t < 1) : Calls Try.prog 38 #[cv c] w fun e w' => e = .returned (.int .i64 (errOf (okB c))) ∧ Below w.heap.size w w' := by
  have h1 := h.r1
  have h2 := h.r8
  have h3 := h.o1
  have h4 := h.o8
  have h5 := h.s1
  have h6 := h.s8
  have h7 := h.d1
  have h8 := h.d8
  have EB : Hid (errOf (okB c) = 1) := by
    have e0 : inB c.t 1 64 = false := inB_no.2 (by omega)
    have eb : okB c = false := by simp [okB, heapB, roomB, e0]
    rw [eb]; rfl
  clear h
  unfold cv
  go_enter Try.func38, Try.ntmps38
  go_wp2
  go_loop [4] (fun i => ∃ k : Int, i = .int .i64 k ∧ (k = 0 ∨ k = 1 ∨ k = 2 ∨ k = 3 ∨ k = 4)) (fun i => (4 - intOf i).toNat)
  case atStart => exact ⟨0, rfl, .inl rfl⟩
  case round =>
    obtain ⟨k, rfl, hk⟩ := hrel
    rcases hk with rfl | rfl | rfl | rfl | rfl
    · go_wp2
      go_round
      case rel => exact ⟨1, rfl, by omega⟩
      case measure => simp [intOf]
    · go_wp2
      go_round
      case rel => exact ⟨2, rfl, by omega⟩
      case measure => simp [intOf]
    · go_wp2
      go_round
      case rel => exact ⟨3, rfl, by omega⟩
      case measure => simp [intOf]
    · go_wp2
      go_round
      case rel => exact ⟨4, rfl, by omega⟩
      case measure => simp [intOf]
    · clear h1 h2 h3 h4 h5 h6 h7 h8
      go_wp2
      go_ret
      exact ⟨ret_int (unhide EB).symm, (below_new _ _).alloc (by simp) _⟩

set_option maxHeartbeats 2000000 in
set_option maxRecDepth 100000 in
theorem rcheck_hi0 (c : Cf) (w : World) (h : Hp c) (t0 : 1 ≤ c.t) (u : 64 < c.t) : Calls Try.prog 38 #[cv c] w fun e w' => e = .returned (.int .i64 (errOf (okB c))) ∧ Below w.heap.size w w' := by
  have h1 := h.r1
  have h2 := h.r8
  have h3 := h.o1
  have h4 := h.o8
  have h5 := h.s1
  have h6 := h.s8
  have h7 := h.d1
  have h8 := h.d8
  have EB : Hid (errOf (okB c) = 1) := by
    have e0 : inB c.t 1 64 = false := inB_no.2 (by omega)
    have eb : okB c = false := by simp [okB, heapB, roomB, e0]
    rw [eb]; rfl
  clear h
  unfold cv
  go_enter Try.func38, Try.ntmps38
  go_wp2
  go_loop [4] (fun i => ∃ k : Int, i = .int .i64 k ∧ (k = 0 ∨ k = 1 ∨ k = 2 ∨ k = 3 ∨ k = 4)) (fun i => (4 - intOf i).toNat)
  case atStart => exact ⟨0, rfl, .inl rfl⟩
  case round =>
    obtain ⟨k, rfl, hk⟩ := hrel
    rcases hk with rfl | rfl | rfl | rfl | rfl
    · go_wp2
      go_round
      case rel => exact ⟨1, rfl, by omega⟩
      case measure => simp [intOf]
    · go_wp2
      go_round
      case rel => exact ⟨2, rfl, by omega⟩
      case measure => simp [intOf]
    · go_wp2
      go_round
      case rel => exact ⟨3, rfl, by omega⟩
      case measure => simp [intOf]
    · go_wp2
      go_round
      case rel => exact ⟨4, rfl, by omega⟩
      case measure => simp [intOf]
    · clear h1 h2 h3 h4 h5 h6 h7 h8
      go_wp2
      go_ret
      exact ⟨ret_int (unhide EB).symm, (below_new _ _).alloc (by simp) _⟩

set_option maxHeartbeats 2000000 in
set_option maxRecDepth 100000 in
theorem rcheck_lo1 (c : Cf) (w : World) (h : Hp c) (t0 : 1 ≤ c.t) (z0 : c.t ≤ 64) (u : c.l < 0) : Calls Try.prog 38 #[cv c] w fun e w' => e = .returned (.int .i64 (errOf (okB c))) ∧ Below w.heap.size w w' := by
  have h1 := h.r1
  have h2 := h.r8
  have h3 := h.o1
  have h4 := h.o8
  have h5 := h.s1
  have h6 := h.s8
  have h7 := h.d1
  have h8 := h.d8
  have EB : Hid (errOf (okB c) = 1) := by
    have e0 : inB c.l 0 48 = false := inB_no.2 (by omega)
    have eb : okB c = false := by simp [okB, heapB, roomB, e0]
    rw [eb]; rfl
  clear h
  unfold cv
  go_enter Try.func38, Try.ntmps38
  go_wp2
  go_loop [4] (fun i => ∃ k : Int, i = .int .i64 k ∧ (k = 0 ∨ k = 1 ∨ k = 2 ∨ k = 3 ∨ k = 4)) (fun i => (4 - intOf i).toNat)
  case atStart => exact ⟨0, rfl, .inl rfl⟩
  case round =>
    obtain ⟨k, rfl, hk⟩ := hrel
    rcases hk with rfl | rfl | rfl | rfl | rfl
    · go_wp2
      go_round
      case rel => exact ⟨1, rfl, by omega⟩
      case measure => simp [intOf]
    · go_wp2
      go_round
      case rel => exact ⟨2, rfl, by omega⟩
      case measure => simp [intOf]
    · go_wp2
      go_round
      case rel => exact ⟨3, rfl, by omega⟩
      case measure => simp [intOf]
    · go_wp2
      go_round
      case rel => exact ⟨4, rfl, by omega⟩
      case measure => simp [intOf]
    · clear h1 h2 h3 h4 h5 h6 h7 h8
      go_wp2
      go_ret
      exact ⟨ret_int (unhide EB).symm, (below_new _ _).alloc (by simp) _⟩

set_option maxHeartbeats 2000000 in
set_option maxRecDepth 100000 in
theorem rcheck_hi1 (c : Cf) (w : World) (h : Hp c) (t0 : 1 ≤ c.t) (z0 : c.t ≤ 64) (t1 : 0 ≤ c.l) (u : 48 < c.l) : Calls Try.prog 38 #[cv c] w fun e w' => e = .returned (.int .i64 (errOf (okB c))) ∧ Below w.heap.size w w' := by
  have h1 := h.r1
  have h2 := h.r8
  have h3 := h.o1
  have h4 := h.o8
  have h5 := h.s1
  have h6 := h.s8
  have h7 := h.d1
  have h8 := h.d8
  have EB : Hid (errOf (okB c) = 1) := by
    have e0 : inB c.l 0 48 = false := inB_no.2 (by omega)
    have eb : okB c = false := by simp [okB, heapB, roomB, e0]
    rw [eb]; rfl
  clear h
  unfold cv
  go_enter Try.func38, Try.ntmps38
  go_wp2
  go_loop [4] (fun i => ∃ k : Int, i = .int .i64 k ∧ (k = 0 ∨ k = 1 ∨ k = 2 ∨ k = 3 ∨ k = 4)) (fun i => (4 - intOf i).toNat)
  case atStart => exact ⟨0, rfl, .inl rfl⟩
  case round =>
    obtain ⟨k, rfl, hk⟩ := hrel
    rcases hk with rfl | rfl | rfl | rfl | rfl
    · go_wp2
      go_round
      case rel => exact ⟨1, rfl, by omega⟩
      case measure => simp [intOf]
    · go_wp2
      go_round
      case rel => exact ⟨2, rfl, by omega⟩
      case measure => simp [intOf]
    · go_wp2
      go_round
      case rel => exact ⟨3, rfl, by omega⟩
      case measure => simp [intOf]
    · go_wp2
      go_round
      case rel => exact ⟨4, rfl, by omega⟩
      case measure => simp [intOf]
    · clear h1 h2 h3 h4 h5 h6 h7 h8
      go_wp2
      go_ret
      exact ⟨ret_int (unhide EB).symm, (below_new _ _).alloc (by simp) _⟩

end Go.Proofs.Ytdhpahopfmcdkaa

/- Ways of the reference's Check in which a part that is not the heap's is out of its bounds. -/
namespace Go.Proofs.Ytdhpahopfmcdkaa
open Go.RowKit

set_option maxHeartbeats 2000000 in
set_option maxRecDepth 100000 in
theorem rcheck_lo2 (c : Cf) (w : World) (h : Hp c) (t0 : 1 ≤ c.t) (z0 : c.t ≤ 64) (t1 : 0 ≤ c.l) (z1 : c.l ≤ 48) (u : c.g < 1) : Calls Try.prog 38 #[cv c] w fun e w' => e = .returned (.int .i64 (errOf (okB c))) ∧ Below w.heap.size w w' := by
  have h1 := h.r1
  have h2 := h.r8
  have h3 := h.o1
  have h4 := h.o8
  have h5 := h.s1
  have h6 := h.s8
  have h7 := h.d1
  have h8 := h.d8
  have EB : Hid (errOf (okB c) = 1) := by
    have e0 : inB c.g 1 8 = false := inB_no.2 (by omega)
    have eb : okB c = false := by simp [okB, heapB, roomB, e0]
    rw [eb]; rfl
  clear h
  unfold cv
  go_enter Try.func38, Try.ntmps38
  go_wp2
  go_loop [4] (fun i => ∃ k : Int, i = .int .i64 k ∧ (k = 0 ∨ k = 1 ∨ k = 2 ∨ k = 3 ∨ k = 4)) (fun i => (4 - intOf i).toNat)
  case atStart => exact ⟨0, rfl, .inl rfl⟩
  case round =>
    obtain ⟨k, rfl, hk⟩ := hrel
    rcases hk with rfl | rfl | rfl | rfl | rfl
    · go_wp2
      go_round
      case rel => exact ⟨1, rfl, by omega⟩
      case measure => simp [intOf]
    · go_wp2
      go_round
      case rel => exact ⟨2, rfl, by omega⟩
      case measure => simp [intOf]
    · go_wp2
      go_round
      case rel => exact ⟨3, rfl, by omega⟩
      case measure => simp [intOf]
    · go_wp2
      go_round
      case rel => exact ⟨4, rfl, by omega⟩
      case measure => simp [intOf]
    · clear h1 h2 h3 h4 h5 h6 h7 h8
      go_wp2
      go_ret
      exact ⟨ret_int (unhide EB).symm, (below_new _ _).alloc (by simp) _⟩

set_option maxHeartbeats 2000000 in
set_option maxRecDepth 100000 in
theorem rcheck_hi2 (c : Cf) (w : World) (h : Hp c) (t0 : 1 ≤ c.t) (z0 : c.t ≤ 64) (t1 : 0 ≤ c.l) (z1 : c.l ≤ 48) (t2 : 1 ≤ c.g) (u : 8 < c.g) : Calls Try.prog 38 #[cv c] w fun e w' => e = .returned (.int .i64 (errOf (okB c))) ∧ Below w.heap.size w w' := by
  have h1 := h.r1
  have h2 := h.r8
  have h3 := h.o1
  have h4 := h.o8
  have h5 := h.s1
  have h6 := h.s8
  have h7 := h.d1
  have h8 := h.d8
  have EB : Hid (errOf (okB c) = 1) := by
    have e0 : inB c.g 1 8 = false := inB_no.2 (by omega)
    have eb : okB c = false := by simp [okB, heapB, roomB, e0]
    rw [eb]; rfl
  clear h
  unfold cv
  go_enter Try.func38, Try.ntmps38
  go_wp2
  go_loop [4] (fun i => ∃ k : Int, i = .int .i64 k ∧ (k = 0 ∨ k = 1 ∨ k = 2 ∨ k = 3 ∨ k = 4)) (fun i => (4 - intOf i).toNat)
  case atStart => exact ⟨0, rfl, .inl rfl⟩
  case round =>
    obtain ⟨k, rfl, hk⟩ := hrel
    rcases hk with rfl | rfl | rfl | rfl | rfl
    · go_wp2
      go_round
      case rel => exact ⟨1, rfl, by omega⟩
      case measure => simp [intOf]
    · go_wp2
      go_round
      case rel => exact ⟨2, rfl, by omega⟩
      case measure => simp [intOf]
    · go_wp2
      go_round
      case rel => exact ⟨3, rfl, by omega⟩
      case measure => simp [intOf]
    · go_wp2
      go_round
      case rel => exact ⟨4, rfl, by omega⟩
      case measure => simp [intOf]
    · clear h1 h2 h3 h4 h5 h6 h7 h8
      go_wp2
      go_ret
      exact ⟨ret_int (unhide EB).symm, (below_new _ _).alloc (by simp) _⟩

set_option maxHeartbeats 2000000 in
set_option maxRecDepth 100000 in
theorem rcheck_lo3 (c : Cf) (w : World) (h : Hp c) (t0 : 1 ≤ c.t) (z0 : c.t ≤ 64) (t1 : 0 ≤ c.l) (z1 : c.l ≤ 48) (t2 : 1 ≤ c.g) (z2 : c.g ≤ 8) (u : c.k < 1) : Calls Try.prog 38 #[cv c] w fun e w' => e = .returned (.int .i64 (errOf (okB c))) ∧ Below w.heap.size w w' := by
  have h1 := h.r1
  have h2 := h.r8
  have h3 := h.o1
  have h4 := h.o8
  have h5 := h.s1
  have h6 := h.s8
  have h7 := h.d1
  have h8 := h.d8
  have EB : Hid (errOf (okB c) = 1) := by
    have e0 : inB c.k 1 4096 = false := inB_no.2 (by omega)
    have eb : okB c = false := by simp [okB, heapB, roomB, e0]
    rw [eb]; rfl
  clear h
  unfold cv
  go_enter Try.func38, Try.ntmps38
  go_wp2
  go_loop [4] (fun i => ∃ k : Int, i = .int .i64 k ∧ (k = 0 ∨ k = 1 ∨ k = 2 ∨ k = 3 ∨ k = 4)) (fun i => (4 - intOf i).toNat)
  case atStart => exact ⟨0, rfl, .inl rfl⟩
  case round =>
    obtain ⟨k, rfl, hk⟩ := hrel
    rcases hk with rfl | rfl | rfl | rfl | rfl
    · go_wp2
      go_round
      case rel => exact ⟨1, rfl, by omega⟩
      case measure => simp [intOf]
    · go_wp2
      go_round
      case rel => exact ⟨2, rfl, by omega⟩
      case measure => simp [intOf]
    · go_wp2
      go_round
      case rel => exact ⟨3, rfl, by omega⟩
      case measure => simp [intOf]
    · go_wp2
      go_round
      case rel => exact ⟨4, rfl, by omega⟩
      case measure => simp [intOf]
    · clear h1 h2 h3 h4 h5 h6 h7 h8
      go_wp2
      go_ret
      exact ⟨ret_int (unhide EB).symm, (below_new _ _).alloc (by simp) _⟩

set_option maxHeartbeats 2000000 in
set_option maxRecDepth 100000 in
theorem rcheck_hi3 (c : Cf) (w : World) (h : Hp c) (t0 : 1 ≤ c.t) (z0 : c.t ≤ 64) (t1 : 0 ≤ c.l) (z1 : c.l ≤ 48) (t2 : 1 ≤ c.g) (z2 : c.g ≤ 8) (t3 : 1 ≤ c.k) (u : 4096 < c.k) : Calls Try.prog 38 #[cv c] w fun e w' => e = .returned (.int .i64 (errOf (okB c))) ∧ Below w.heap.size w w' := by
  have h1 := h.r1
  have h2 := h.r8
  have h3 := h.o1
  have h4 := h.o8
  have h5 := h.s1
  have h6 := h.s8
  have h7 := h.d1
  have h8 := h.d8
  have EB : Hid (errOf (okB c) = 1) := by
    have e0 : inB c.k 1 4096 = false := inB_no.2 (by omega)
    have eb : okB c = false := by simp [okB, heapB, roomB, e0]
    rw [eb]; rfl
  clear h
  unfold cv
  go_enter Try.func38, Try.ntmps38
  go_wp2
  go_loop [4] (fun i => ∃ k : Int, i = .int .i64 k ∧ (k = 0 ∨ k = 1 ∨ k = 2 ∨ k = 3 ∨ k = 4)) (fun i => (4 - intOf i).toNat)
  case atStart => exact ⟨0, rfl, .inl rfl⟩
  case round =>
    obtain ⟨k, rfl, hk⟩ := hrel
    rcases hk with rfl | rfl | rfl | rfl | rfl
    · go_wp2
      go_round
      case rel => exact ⟨1, rfl, by omega⟩
      case measure => simp [intOf]
    · go_wp2
      go_round
      case rel => exact ⟨2, rfl, by omega⟩
      case measure => simp [intOf]
    · go_wp2
      go_round
      case rel => exact ⟨3, rfl, by omega⟩
      case measure => simp [intOf]
    · go_wp2
      go_round
      case rel => exact ⟨4, rfl, by omega⟩
      case measure => simp [intOf]
    · clear h1 h2 h3 h4 h5 h6 h7 h8
      go_wp2
      go_ret
      exact ⟨ret_int (unhide EB).symm, (below_new _ _).alloc (by simp) _⟩

end Go.Proofs.Ytdhpahopfmcdkaa

/- Ways of the reference's Check in which a part that is not the heap's is out of its bounds. -/
namespace Go.Proofs.Ytdhpahopfmcdkaa
open Go.RowKit

set_option maxHeartbeats 2000000 in
set_option maxRecDepth 100000 in
theorem rcheck_lo4 (c : Cf) (w : World) (h : Hp c) (t0 : 1 ≤ c.t) (z0 : c.t ≤ 64) (t1 : 0 ≤ c.l) (z1 : c.l ≤ 48) (t2 : 1 ≤ c.g) (z2 : c.g ≤ 8) (t3 : 1 ≤ c.k) (z3 : c.k ≤ 4096) (u : c.u < 1) : Calls Try.prog 38 #[cv c] w fun e w' => e = .returned (.int .i64 (errOf (okB c))) ∧ Below w.heap.size w w' := by
  have h1 := h.r1
  have h2 := h.r8
  have h3 := h.o1
  have h4 := h.o8
  have h5 := h.s1
  have h6 := h.s8
  have h7 := h.d1
  have h8 := h.d8
  have EB : Hid (errOf (okB c) = 1) := by
    have e0 : inB c.u 1 1000 = false := inB_no.2 (by omega)
    have eb : okB c = false := by simp [okB, heapB, roomB, e0]
    rw [eb]; rfl
  clear h
  unfold cv
  go_enter Try.func38, Try.ntmps38
  go_wp2
  go_loop [4] (fun i => ∃ k : Int, i = .int .i64 k ∧ (k = 0 ∨ k = 1 ∨ k = 2 ∨ k = 3 ∨ k = 4)) (fun i => (4 - intOf i).toNat)
  case atStart => exact ⟨0, rfl, .inl rfl⟩
  case round =>
    obtain ⟨k, rfl, hk⟩ := hrel
    rcases hk with rfl | rfl | rfl | rfl | rfl
    · go_wp2
      go_round
      case rel => exact ⟨1, rfl, by omega⟩
      case measure => simp [intOf]
    · go_wp2
      go_round
      case rel => exact ⟨2, rfl, by omega⟩
      case measure => simp [intOf]
    · go_wp2
      go_round
      case rel => exact ⟨3, rfl, by omega⟩
      case measure => simp [intOf]
    · go_wp2
      go_round
      case rel => exact ⟨4, rfl, by omega⟩
      case measure => simp [intOf]
    · clear h1 h2 h3 h4 h5 h6 h7 h8
      go_wp2
      go_ret
      exact ⟨ret_int (unhide EB).symm, (below_new _ _).alloc (by simp) _⟩

set_option maxHeartbeats 2000000 in
set_option maxRecDepth 100000 in
theorem rcheck_hi4 (c : Cf) (w : World) (h : Hp c) (t0 : 1 ≤ c.t) (z0 : c.t ≤ 64) (t1 : 0 ≤ c.l) (z1 : c.l ≤ 48) (t2 : 1 ≤ c.g) (z2 : c.g ≤ 8) (t3 : 1 ≤ c.k) (z3 : c.k ≤ 4096) (t4 : 1 ≤ c.u) (u : 1000 < c.u) : Calls Try.prog 38 #[cv c] w fun e w' => e = .returned (.int .i64 (errOf (okB c))) ∧ Below w.heap.size w w' := by
  have h1 := h.r1
  have h2 := h.r8
  have h3 := h.o1
  have h4 := h.o8
  have h5 := h.s1
  have h6 := h.s8
  have h7 := h.d1
  have h8 := h.d8
  have EB : Hid (errOf (okB c) = 1) := by
    have e0 : inB c.u 1 1000 = false := inB_no.2 (by omega)
    have eb : okB c = false := by simp [okB, heapB, roomB, e0]
    rw [eb]; rfl
  clear h
  unfold cv
  go_enter Try.func38, Try.ntmps38
  go_wp2
  go_loop [4] (fun i => ∃ k : Int, i = .int .i64 k ∧ (k = 0 ∨ k = 1 ∨ k = 2 ∨ k = 3 ∨ k = 4)) (fun i => (4 - intOf i).toNat)
  case atStart => exact ⟨0, rfl, .inl rfl⟩
  case round =>
    obtain ⟨k, rfl, hk⟩ := hrel
    rcases hk with rfl | rfl | rfl | rfl | rfl
    · go_wp2
      go_round
      case rel => exact ⟨1, rfl, by omega⟩
      case measure => simp [intOf]
    · go_wp2
      go_round
      case rel => exact ⟨2, rfl, by omega⟩
      case measure => simp [intOf]
    · go_wp2
      go_round
      case rel => exact ⟨3, rfl, by omega⟩
      case measure => simp [intOf]
    · go_wp2
      go_round
      case rel => exact ⟨4, rfl, by omega⟩
      case measure => simp [intOf]
    · clear h1 h2 h3 h4 h5 h6 h7 h8
      go_wp2
      go_ret
      exact ⟨ret_int (unhide EB).symm, (below_new _ _).alloc (by simp) _⟩

set_option maxHeartbeats 2000000 in
set_option maxRecDepth 100000 in
theorem rcheck_lo5 (c : Cf) (w : World) (h : Hp c) (t0 : 1 ≤ c.t) (z0 : c.t ≤ 64) (t1 : 0 ≤ c.l) (z1 : c.l ≤ 48) (t2 : 1 ≤ c.g) (z2 : c.g ≤ 8) (t3 : 1 ≤ c.k) (z3 : c.k ≤ 4096) (t4 : 1 ≤ c.u) (z4 : c.u ≤ 1000) (u : c.e < 0) : Calls Try.prog 38 #[cv c] w fun e w' => e = .returned (.int .i64 (errOf (okB c))) ∧ Below w.heap.size w w' := by
  have h1 := h.r1
  have h2 := h.r8
  have h3 := h.o1
  have h4 := h.o8
  have h5 := h.s1
  have h6 := h.s8
  have h7 := h.d1
  have h8 := h.d8
  have EB : Hid (errOf (okB c) = 1) := by
    have e0 : inB c.e 0 64 = false := inB_no.2 (by omega)
    have eb : okB c = false := by simp [okB, heapB, roomB, e0]
    rw [eb]; rfl
  clear h
  unfold cv
  go_enter Try.func38, Try.ntmps38
  go_wp2
  go_loop [4] (fun i => ∃ k : Int, i = .int .i64 k ∧ (k = 0 ∨ k = 1 ∨ k = 2 ∨ k = 3 ∨ k = 4)) (fun i => (4 - intOf i).toNat)
  case atStart => exact ⟨0, rfl, .inl rfl⟩
  case round =>
    obtain ⟨k, rfl, hk⟩ := hrel
    rcases hk with rfl | rfl | rfl | rfl | rfl
    · go_wp2
      go_round
      case rel => exact ⟨1, rfl, by omega⟩
      case measure => simp [intOf]
    · go_wp2
      go_round
      case rel => exact ⟨2, rfl, by omega⟩
      case measure => simp [intOf]
    · go_wp2
      go_round
      case rel => exact ⟨3, rfl, by omega⟩
      case measure => simp [intOf]
    · go_wp2
      go_round
      case rel => exact ⟨4, rfl, by omega⟩
      case measure => simp [intOf]
    · clear h1 h2 h3 h4 h5 h6 h7 h8
      go_wp2
      go_ret
      exact ⟨ret_int (unhide EB).symm, (below_new _ _).alloc (by simp) _⟩

set_option maxHeartbeats 2000000 in
set_option maxRecDepth 100000 in
theorem rcheck_hi5 (c : Cf) (w : World) (h : Hp c) (t0 : 1 ≤ c.t) (z0 : c.t ≤ 64) (t1 : 0 ≤ c.l) (z1 : c.l ≤ 48) (t2 : 1 ≤ c.g) (z2 : c.g ≤ 8) (t3 : 1 ≤ c.k) (z3 : c.k ≤ 4096) (t4 : 1 ≤ c.u) (z4 : c.u ≤ 1000) (t5 : 0 ≤ c.e) (u : 64 < c.e) : Calls Try.prog 38 #[cv c] w fun e w' => e = .returned (.int .i64 (errOf (okB c))) ∧ Below w.heap.size w w' := by
  have h1 := h.r1
  have h2 := h.r8
  have h3 := h.o1
  have h4 := h.o8
  have h5 := h.s1
  have h6 := h.s8
  have h7 := h.d1
  have h8 := h.d8
  have EB : Hid (errOf (okB c) = 1) := by
    have e0 : inB c.e 0 64 = false := inB_no.2 (by omega)
    have eb : okB c = false := by simp [okB, heapB, roomB, e0]
    rw [eb]; rfl
  clear h
  unfold cv
  go_enter Try.func38, Try.ntmps38
  go_wp2
  go_loop [4] (fun i => ∃ k : Int, i = .int .i64 k ∧ (k = 0 ∨ k = 1 ∨ k = 2 ∨ k = 3 ∨ k = 4)) (fun i => (4 - intOf i).toNat)
  case atStart => exact ⟨0, rfl, .inl rfl⟩
  case round =>
    obtain ⟨k, rfl, hk⟩ := hrel
    rcases hk with rfl | rfl | rfl | rfl | rfl
    · go_wp2
      go_round
      case rel => exact ⟨1, rfl, by omega⟩
      case measure => simp [intOf]
    · go_wp2
      go_round
      case rel => exact ⟨2, rfl, by omega⟩
      case measure => simp [intOf]
    · go_wp2
      go_round
      case rel => exact ⟨3, rfl, by omega⟩
      case measure => simp [intOf]
    · go_wp2
      go_round
      case rel => exact ⟨4, rfl, by omega⟩
      case measure => simp [intOf]
    · clear h1 h2 h3 h4 h5 h6 h7 h8
      go_wp2
      go_ret
      exact ⟨ret_int (unhide EB).symm, (below_new _ _).alloc (by simp) _⟩

end Go.Proofs.Ytdhpahopfmcdkaa

/- Ways of the reference's Check in which a part that is not the heap's is out of its bounds. -/
namespace Go.Proofs.Ytdhpahopfmcdkaa
open Go.RowKit

set_option maxHeartbeats 2000000 in
set_option maxRecDepth 100000 in
theorem rcheck_lo6 (c : Cf) (w : World) (h : Hp c) (t0 : 1 ≤ c.t) (z0 : c.t ≤ 64) (t1 : 0 ≤ c.l) (z1 : c.l ≤ 48) (t2 : 1 ≤ c.g) (z2 : c.g ≤ 8) (t3 : 1 ≤ c.k) (z3 : c.k ≤ 4096) (t4 : 1 ≤ c.u) (z4 : c.u ≤ 1000) (t5 : 0 ≤ c.e) (z5 : c.e ≤ 64) (u : c.i < 1) : Calls Try.prog 38 #[cv c] w fun e w' => e = .returned (.int .i64 (errOf (okB c))) ∧ Below w.heap.size w w' := by
  have h1 := h.r1
  have h2 := h.r8
  have h3 := h.o1
  have h4 := h.o8
  have h5 := h.s1
  have h6 := h.s8
  have h7 := h.d1
  have h8 := h.d8
  have EB : Hid (errOf (okB c) = 1) := by
    have e0 : inB c.i 1 10000 = false := inB_no.2 (by omega)
    have eb : okB c = false := by simp [okB, heapB, roomB, e0]
    rw [eb]; rfl
  clear h
  unfold cv
  go_enter Try.func38, Try.ntmps38
  go_wp2
  go_loop [4] (fun i => ∃ k : Int, i = .int .i64 k ∧ (k = 0 ∨ k = 1 ∨ k = 2 ∨ k = 3 ∨ k = 4)) (fun i => (4 - intOf i).toNat)
  case atStart => exact ⟨0, rfl, .inl rfl⟩
  case round =>
    obtain ⟨k, rfl, hk⟩ := hrel
    rcases hk with rfl | rfl | rfl | rfl | rfl
    · go_wp2
      go_round
      case rel => exact ⟨1, rfl, by omega⟩
      case measure => simp [intOf]
    · go_wp2
      go_round
      case rel => exact ⟨2, rfl, by omega⟩
      case measure => simp [intOf]
    · go_wp2
      go_round
      case rel => exact ⟨3, rfl, by omega⟩
      case measure => simp [intOf]
    · go_wp2
      go_round
      case rel => exact ⟨4, rfl, by omega⟩
      case measure => simp [intOf]
    · clear h1 h2 h3 h4 h5 h6 h7 h8
      go_wp2
      go_ret
      exact ⟨ret_int (unhide EB).symm, (below_new _ _).alloc (by simp) _⟩

set_option maxHeartbeats 2000000 in
set_option maxRecDepth 100000 in
theorem rcheck_hi6 (c : Cf) (w : World) (h : Hp c) (t0 : 1 ≤ c.t) (z0 : c.t ≤ 64) (t1 : 0 ≤ c.l) (z1 : c.l ≤ 48) (t2 : 1 ≤ c.g) (z2 : c.g ≤ 8) (t3 : 1 ≤ c.k) (z3 : c.k ≤ 4096) (t4 : 1 ≤ c.u) (z4 : c.u ≤ 1000) (t5 : 0 ≤ c.e) (z5 : c.e ≤ 64) (t6 : 1 ≤ c.i) (u : 10000 < c.i) : Calls Try.prog 38 #[cv c] w fun e w' => e = .returned (.int .i64 (errOf (okB c))) ∧ Below w.heap.size w w' := by
  have h1 := h.r1
  have h2 := h.r8
  have h3 := h.o1
  have h4 := h.o8
  have h5 := h.s1
  have h6 := h.s8
  have h7 := h.d1
  have h8 := h.d8
  have EB : Hid (errOf (okB c) = 1) := by
    have e0 : inB c.i 1 10000 = false := inB_no.2 (by omega)
    have eb : okB c = false := by simp [okB, heapB, roomB, e0]
    rw [eb]; rfl
  clear h
  unfold cv
  go_enter Try.func38, Try.ntmps38
  go_wp2
  go_loop [4] (fun i => ∃ k : Int, i = .int .i64 k ∧ (k = 0 ∨ k = 1 ∨ k = 2 ∨ k = 3 ∨ k = 4)) (fun i => (4 - intOf i).toNat)
  case atStart => exact ⟨0, rfl, .inl rfl⟩
  case round =>
    obtain ⟨k, rfl, hk⟩ := hrel
    rcases hk with rfl | rfl | rfl | rfl | rfl
    · go_wp2
      go_round
      case rel => exact ⟨1, rfl, by omega⟩
      case measure => simp [intOf]
    · go_wp2
      go_round
      case rel => exact ⟨2, rfl, by omega⟩
      case measure => simp [intOf]
    · go_wp2
      go_round
      case rel => exact ⟨3, rfl, by omega⟩
      case measure => simp [intOf]
    · go_wp2
      go_round
      case rel => exact ⟨4, rfl, by omega⟩
      case measure => simp [intOf]
    · clear h1 h2 h3 h4 h5 h6 h7 h8
      go_wp2
      go_ret
      exact ⟨ret_int (unhide EB).symm, (below_new _ _).alloc (by simp) _⟩

set_option maxHeartbeats 2000000 in
set_option maxRecDepth 100000 in
theorem rcheck_lo7 (c : Cf) (w : World) (h : Hp c) (t0 : 1 ≤ c.t) (z0 : c.t ≤ 64) (t1 : 0 ≤ c.l) (z1 : c.l ≤ 48) (t2 : 1 ≤ c.g) (z2 : c.g ≤ 8) (t3 : 1 ≤ c.k) (z3 : c.k ≤ 4096) (t4 : 1 ≤ c.u) (z4 : c.u ≤ 1000) (t5 : 0 ≤ c.e) (z5 : c.e ≤ 64) (t6 : 1 ≤ c.i) (z6 : c.i ≤ 10000) (u : c.p < 0) : Calls Try.prog 38 #[cv c] w fun e w' => e = .returned (.int .i64 (errOf (okB c))) ∧ Below w.heap.size w w' := by
  have h1 := h.r1
  have h2 := h.r8
  have h3 := h.o1
  have h4 := h.o8
  have h5 := h.s1
  have h6 := h.s8
  have h7 := h.d1
  have h8 := h.d8
  have EB : Hid (errOf (okB c) = 1) := by
    have e0 : inB c.p 0 2 = false := inB_no.2 (by omega)
    have eb : okB c = false := by simp [okB, heapB, roomB, e0]
    rw [eb]; rfl
  clear h
  unfold cv
  go_enter Try.func38, Try.ntmps38
  go_wp2
  go_loop [4] (fun i => ∃ k : Int, i = .int .i64 k ∧ (k = 0 ∨ k = 1 ∨ k = 2 ∨ k = 3 ∨ k = 4)) (fun i => (4 - intOf i).toNat)
  case atStart => exact ⟨0, rfl, .inl rfl⟩
  case round =>
    obtain ⟨k, rfl, hk⟩ := hrel
    rcases hk with rfl | rfl | rfl | rfl | rfl
    · go_wp2
      go_round
      case rel => exact ⟨1, rfl, by omega⟩
      case measure => simp [intOf]
    · go_wp2
      go_round
      case rel => exact ⟨2, rfl, by omega⟩
      case measure => simp [intOf]
    · go_wp2
      go_round
      case rel => exact ⟨3, rfl, by omega⟩
      case measure => simp [intOf]
    · go_wp2
      go_round
      case rel => exact ⟨4, rfl, by omega⟩
      case measure => simp [intOf]
    · clear h1 h2 h3 h4 h5 h6 h7 h8
      go_wp2
      go_ret
      exact ⟨ret_int (unhide EB).symm, (below_new _ _).alloc (by simp) _⟩

set_option maxHeartbeats 2000000 in
set_option maxRecDepth 100000 in
theorem rcheck_hi7 (c : Cf) (w : World) (h : Hp c) (t0 : 1 ≤ c.t) (z0 : c.t ≤ 64) (t1 : 0 ≤ c.l) (z1 : c.l ≤ 48) (t2 : 1 ≤ c.g) (z2 : c.g ≤ 8) (t3 : 1 ≤ c.k) (z3 : c.k ≤ 4096) (t4 : 1 ≤ c.u) (z4 : c.u ≤ 1000) (t5 : 0 ≤ c.e) (z5 : c.e ≤ 64) (t6 : 1 ≤ c.i) (z6 : c.i ≤ 10000) (t7 : 0 ≤ c.p) (u : 2 < c.p) : Calls Try.prog 38 #[cv c] w fun e w' => e = .returned (.int .i64 (errOf (okB c))) ∧ Below w.heap.size w w' := by
  have h1 := h.r1
  have h2 := h.r8
  have h3 := h.o1
  have h4 := h.o8
  have h5 := h.s1
  have h6 := h.s8
  have h7 := h.d1
  have h8 := h.d8
  have EB : Hid (errOf (okB c) = 1) := by
    have e0 : inB c.p 0 2 = false := inB_no.2 (by omega)
    have eb : okB c = false := by simp [okB, heapB, roomB, e0]
    rw [eb]; rfl
  clear h
  unfold cv
  go_enter Try.func38, Try.ntmps38
  go_wp2
  go_loop [4] (fun i => ∃ k : Int, i = .int .i64 k ∧ (k = 0 ∨ k = 1 ∨ k = 2 ∨ k = 3 ∨ k = 4)) (fun i => (4 - intOf i).toNat)
  case atStart => exact ⟨0, rfl, .inl rfl⟩
  case round =>
    obtain ⟨k, rfl, hk⟩ := hrel
    rcases hk with rfl | rfl | rfl | rfl | rfl
    · go_wp2
      go_round
      case rel => exact ⟨1, rfl, by omega⟩
      case measure => simp [intOf]
    · go_wp2
      go_round
      case rel => exact ⟨2, rfl, by omega⟩
      case measure => simp [intOf]
    · go_wp2
      go_round
      case rel => exact ⟨3, rfl, by omega⟩
      case measure => simp [intOf]
    · go_wp2
      go_round
      case rel => exact ⟨4, rfl, by omega⟩
      case measure => simp [intOf]
    · clear h1 h2 h3 h4 h5 h6 h7 h8
      go_wp2
      go_ret
      exact ⟨ret_int (unhide EB).symm, (below_new _ _).alloc (by simp) _⟩

end Go.Proofs.Ytdhpahopfmcdkaa

/- What Check of the reference answers. -/
namespace Go.Proofs.Ytdhpahopfmcdkaa
open Go.RowKit

theorem ok_iff {c : Cf} : okB c = true ↔ (1 ≤ c.r ∧ c.r ≤ 8) ∧ (1 ≤ c.o ∧ c.o ≤ 8) ∧ (1 ≤ c.s ∧ c.s ≤ 8) ∧ (1 ≤ c.d ∧ c.d ≤ 8) ∧ (1 ≤ c.t ∧ c.t ≤ 64) ∧ (0 ≤ c.l ∧ c.l ≤ 48) ∧ (1 ≤ c.g ∧ c.g ≤ 8) ∧ (1 ≤ c.k ∧ c.k ≤ 4096) ∧ (1 ≤ c.u ∧ c.u ≤ 1000) ∧ (0 ≤ c.e ∧ c.e ≤ 64) ∧ (1 ≤ c.i ∧ c.i ≤ 10000) ∧ (0 ≤ c.p ∧ c.p ≤ 2) := by
  simp only [okB, heapB, roomB, Bool.and_eq_true, inB_iff]
  omega

set_option maxHeartbeats 2000000 in
set_option maxRecDepth 100000 in
theorem rcheck_ok (c : Cf) (w : World) (h : Hp c) (t0 : 1 ≤ c.t) (z0 : c.t ≤ 64) (t1 : 0 ≤ c.l) (z1 : c.l ≤ 48) (t2 : 1 ≤ c.g) (z2 : c.g ≤ 8) (t3 : 1 ≤ c.k) (z3 : c.k ≤ 4096) (t4 : 1 ≤ c.u) (z4 : c.u ≤ 1000) (t5 : 0 ≤ c.e) (z5 : c.e ≤ 64) (t6 : 1 ≤ c.i) (z6 : c.i ≤ 10000) (t7 : 0 ≤ c.p) (z7 : c.p ≤ 2) : Calls Try.prog 38 #[cv c] w fun e w' => e = .returned (.int .i64 (errOf (okB c))) ∧ Below w.heap.size w w' := by
  have h1 := h.r1
  have h2 := h.r8
  have h3 := h.o1
  have h4 := h.o8
  have h5 := h.s1
  have h6 := h.s8
  have h7 := h.d1
  have h8 := h.d8
  have EB : Hid (errOf (okB c) = 0) := by
    have e0 : okB c = true := by
      simp only [okB, heapB, roomB, Bool.and_eq_true, inB_iff]
      omega
    rw [e0]; rfl
  clear h
  unfold cv
  go_enter Try.func38, Try.ntmps38
  go_wp2
  go_loop [4] (fun i => ∃ k : Int, i = .int .i64 k ∧ (k = 0 ∨ k = 1 ∨ k = 2 ∨ k = 3 ∨ k = 4)) (fun i => (4 - intOf i).toNat)
  case atStart => exact ⟨0, rfl, .inl rfl⟩
  case round =>
    obtain ⟨k, rfl, hk⟩ := hrel
    rcases hk with rfl | rfl | rfl | rfl | rfl
    · go_wp2
      go_round
      case rel => exact ⟨1, rfl, by omega⟩
      case measure => simp [intOf]
    · go_wp2
      go_round
      case rel => exact ⟨2, rfl, by omega⟩
      case measure => simp [intOf]
    · go_wp2
      go_round
      case rel => exact ⟨3, rfl, by omega⟩
      case measure => simp [intOf]
    · go_wp2
      go_round
      case rel => exact ⟨4, rfl, by omega⟩
      case measure => simp [intOf]
    · clear h1 h2 h3 h4 h5 h6 h7 h8
      go_wp2
      go_ret
      exact ⟨ret_int (unhide EB).symm, (below_new _ _).alloc (by simp) _⟩

set_option maxHeartbeats 2000000 in
set_option maxRecDepth 100000 in
theorem rcheck_heap (c : Cf) (w : World) (h : ¬ Hp c) : Calls Try.prog 38 #[cv c] w fun e w' => e = .returned (.int .i64 (errOf (okB c))) ∧ Below w.heap.size w w' := by
  have EB : Hid (errOf (okB c) = 1) := by
    have eb : okB c = false := by
      cases e : okB c
      · rfl
      · exact absurd (okB_hp e) h
    rw [eb]; rfl
  have h' := hide h
  clear h
  unfold cv
  go_enter Try.func38, Try.ntmps38
  go_wp2
  go_loop [4] (fun i => ∃ k : Int, i = .int .i64 k ∧ (k = 0 ∨ (k = 1 ∧ 1 ≤ c.r ∧ c.r ≤ 8) ∨ (k = 2 ∧ 1 ≤ c.r ∧ c.r ≤ 8 ∧ 1 ≤ c.o ∧ c.o ≤ 8) ∨ (k = 3 ∧ 1 ≤ c.r ∧ c.r ≤ 8 ∧ 1 ≤ c.o ∧ c.o ≤ 8 ∧ 1 ≤ c.s ∧ c.s ≤ 8) ∨ (k = 4 ∧ 1 ≤ c.r ∧ c.r ≤ 8 ∧ 1 ≤ c.o ∧ c.o ≤ 8 ∧ 1 ≤ c.s ∧ c.s ≤ 8 ∧ 1 ≤ c.d ∧ c.d ≤ 8))) (fun i => (4 - intOf i).toNat)
  case atStart => exact ⟨0, rfl, .inl rfl⟩
  case round =>
    obtain ⟨k, rfl, hk⟩ := hrel
    rcases hk with rfl | ⟨rfl, p0, q0⟩ | ⟨rfl, p0, q0, p1, q1⟩ | ⟨rfl, p0, q0, p1, q1, p2, q2⟩ | ⟨rfl, p0, q0, p1, q1, p2, q2, p3, q3⟩
    · by_cases u : c.r < 1
      · go_wp2
        go_ret
        exact ⟨ret_int (unhide EB).symm, (below_new _ _).alloc (by simp) _⟩
      · have u1 : 1 ≤ c.r := by omega
        by_cases v : 8 < c.r
        · go_wp2
          go_ret
          exact ⟨ret_int (unhide EB).symm, (below_new _ _).alloc (by simp) _⟩
        · have v1 : c.r ≤ 8 := by omega
          go_wp2
          go_round
          case rel => exact ⟨1, rfl, .inr (.inl ⟨rfl, u1, v1⟩)⟩
          case measure => simp [intOf]
    · by_cases u : c.o < 1
      · go_wp2
        go_ret
        exact ⟨ret_int (unhide EB).symm, (below_new _ _).alloc (by simp) _⟩
      · have u1 : 1 ≤ c.o := by omega
        by_cases v : 8 < c.o
        · go_wp2
          go_ret
          exact ⟨ret_int (unhide EB).symm, (below_new _ _).alloc (by simp) _⟩
        · have v1 : c.o ≤ 8 := by omega
          go_wp2
          go_round
          case rel => exact ⟨2, rfl, .inr (.inr (.inl ⟨rfl, p0, q0, u1, v1⟩))⟩
          case measure => simp [intOf]
    · by_cases u : c.s < 1
      · go_wp2
        go_ret
        exact ⟨ret_int (unhide EB).symm, (below_new _ _).alloc (by simp) _⟩
      · have u1 : 1 ≤ c.s := by omega
        by_cases v : 8 < c.s
        · go_wp2
          go_ret
          exact ⟨ret_int (unhide EB).symm, (below_new _ _).alloc (by simp) _⟩
        · have v1 : c.s ≤ 8 := by omega
          go_wp2
          go_round
          case rel => exact ⟨3, rfl, .inr (.inr (.inr (.inl ⟨rfl, p0, q0, p1, q1, u1, v1⟩)))⟩
          case measure => simp [intOf]
    · by_cases u : c.d < 1
      · go_wp2
        go_ret
        exact ⟨ret_int (unhide EB).symm, (below_new _ _).alloc (by simp) _⟩
      · have u1 : 1 ≤ c.d := by omega
        by_cases v : 8 < c.d
        · go_wp2
          go_ret
          exact ⟨ret_int (unhide EB).symm, (below_new _ _).alloc (by simp) _⟩
        · have v1 : c.d ≤ 8 := by omega
          go_wp2
          go_round
          case rel => exact ⟨4, rfl, .inr (.inr (.inr (.inr (⟨rfl, p0, q0, p1, q1, p2, q2, u1, v1⟩))))⟩
          case measure => simp [intOf]
    · exact absurd ⟨p0, q0, p1, q1, p2, q2, p3, q3⟩ (unhide h')

theorem rcheck_any (c : Cf) (w : World) : Calls Try.prog 38 #[cv c] w fun e w' => e = .returned (.int .i64 (errOf (okB c))) ∧ Below w.heap.size w w' := by
  by_cases h : Hp c
  · by_cases u : c.t < 1
    · exact rcheck_lo0 c w h  u
    · have t0 : 1 ≤ c.t := by omega
      by_cases u' : 64 < c.t
      · exact rcheck_hi0 c w h  t0 u'
      · have z0 : c.t ≤ 64 := by omega
        clear u u'
        by_cases u : c.l < 0
        · exact rcheck_lo1 c w h t0 z0 u
        · have t1 : 0 ≤ c.l := by omega
          by_cases u' : 48 < c.l
          · exact rcheck_hi1 c w h t0 z0 t1 u'
          · have z1 : c.l ≤ 48 := by omega
            clear u u'
            by_cases u : c.g < 1
            · exact rcheck_lo2 c w h t0 z0 t1 z1 u
            · have t2 : 1 ≤ c.g := by omega
              by_cases u' : 8 < c.g
              · exact rcheck_hi2 c w h t0 z0 t1 z1 t2 u'
              · have z2 : c.g ≤ 8 := by omega
                clear u u'
                by_cases u : c.k < 1
                · exact rcheck_lo3 c w h t0 z0 t1 z1 t2 z2 u
                · have t3 : 1 ≤ c.k := by omega
                  by_cases u' : 4096 < c.k
                  · exact rcheck_hi3 c w h t0 z0 t1 z1 t2 z2 t3 u'
                  · have z3 : c.k ≤ 4096 := by omega
                    clear u u'
                    by_cases u : c.u < 1
                    · exact rcheck_lo4 c w h t0 z0 t1 z1 t2 z2 t3 z3 u
                    · have t4 : 1 ≤ c.u := by omega
                      by_cases u' : 1000 < c.u
                      · exact rcheck_hi4 c w h t0 z0 t1 z1 t2 z2 t3 z3 t4 u'
                      · have z4 : c.u ≤ 1000 := by omega
                        clear u u'
                        by_cases u : c.e < 0
                        · exact rcheck_lo5 c w h t0 z0 t1 z1 t2 z2 t3 z3 t4 z4 u
                        · have t5 : 0 ≤ c.e := by omega
                          by_cases u' : 64 < c.e
                          · exact rcheck_hi5 c w h t0 z0 t1 z1 t2 z2 t3 z3 t4 z4 t5 u'
                          · have z5 : c.e ≤ 64 := by omega
                            clear u u'
                            by_cases u : c.i < 1
                            · exact rcheck_lo6 c w h t0 z0 t1 z1 t2 z2 t3 z3 t4 z4 t5 z5 u
                            · have t6 : 1 ≤ c.i := by omega
                              by_cases u' : 10000 < c.i
                              · exact rcheck_hi6 c w h t0 z0 t1 z1 t2 z2 t3 z3 t4 z4 t5 z5 t6 u'
                              · have z6 : c.i ≤ 10000 := by omega
                                clear u u'
                                by_cases u : c.p < 0
                                · exact rcheck_lo7 c w h t0 z0 t1 z1 t2 z2 t3 z3 t4 z4 t5 z5 t6 z6 u
                                · have t7 : 0 ≤ c.p := by omega
                                  by_cases u' : 2 < c.p
                                  · exact rcheck_hi7 c w h t0 z0 t1 z1 t2 z2 t3 z3 t4 z4 t5 z5 t6 z6 t7 u'
                                  · have z7 : c.p ≤ 2 := by omega
                                    clear u u'
                                    exact rcheck_ok c w h t0 z0 t1 z1 t2 z2 t3 z3 t4 z4 t5 z5 t6 z6 t7 z7
  · exact rcheck_heap c w h

end Go.Proofs.Ytdhpahopfmcdkaa

/- What the reference's Words, Nodes, Size, Level, Parent, Latch, Path answer: the same as the code's. -/
namespace Go.Proofs.Ytdhpahopfmcdkaa
open Go.RowKit

set_option maxRecDepth 100000 in
theorem rstripes_any (c : Cf) (w : World) (h : Hp c) : Calls Try.prog 92 #[cv c] w fun e w' => e = .returned (.int .i64 (ns c)) ∧ Below w.heap.size w w' := by
  have e1 : IntKind.i64.wrap (no c * c.s) = ns c := kin (by have := ns_in h; unfold ns at this; omega) (by have := ns_in h; unfold ns at this; omega)
  unfold cv
  go_enter Try.func92, Try.ntmps92
  go_wp2_with fail
  have hx := bx_new c w
  have hl := below_new w (.cells #[.int .i64 c.r, .int .i64 c.o, .int .i64 c.s, .int .i64 c.d, .int .i64 c.t, .int .i64 c.l, .int .i64 c.g, .int .i64 c.k, .int .i64 c.u, .int .i64 c.e, .int .i64 c.i, .int .i64 c.p] 73)
  go_region_held3 (fun wz => wz.cell? ⟨w.heap.size, 0, none⟩ = some (.int .i64 c.r) ∧ wz.cell? ⟨w.heap.size, 1, none⟩ = some (.int .i64 c.o) ∧ wz.cell? ⟨w.heap.size, 2, none⟩ = some (.int .i64 c.s) ∧ wz.cell? ⟨w.heap.size, 3, none⟩ = some (.int .i64 c.d) ∧ wz.cell? ⟨w.heap.size, 4, none⟩ = some (.int .i64 c.t) ∧ wz.cell? ⟨w.heap.size, 5, none⟩ = some (.int .i64 c.l) ∧ wz.cell? ⟨w.heap.size, 6, none⟩ = some (.int .i64 c.g) ∧ wz.cell? ⟨w.heap.size, 7, none⟩ = some (.int .i64 c.k) ∧ wz.cell? ⟨w.heap.size, 8, none⟩ = some (.int .i64 c.u) ∧ wz.cell? ⟨w.heap.size, 9, none⟩ = some (.int .i64 c.e) ∧ wz.cell? ⟨w.heap.size, 10, none⟩ = some (.int .i64 c.i) ∧ wz.cell? ⟨w.heap.size, 11, none⟩ = some (.int .i64 c.p)) (first | exact hx3.cells | exact hx2.cells | exact hx1.cells | exact hx.drew.cells)
    (first
      | (go_at_call 115; refine (robjects_any c _ h).mono ?_; rintro e wz ⟨rfl, hbz⟩; first | (have hx3 := hx2.next hbz; have hl3 := below_then hl2 hbz) | (have hx2 := hx1.next hbz; have hl2 := below_then hl1 hbz) | (have hx1 := hx.drew.next hbz; have hl1 := below_then hl.drew hbz)))
  go_wp2
  go_ret
  exact ⟨rfl, hl1⟩

set_option maxRecDepth 100000 in
theorem rwords_any (c : Cf) (w : World) : Calls Try.prog 48 #[cv c] w fun e w' => e = .returned (.int .i64 (wordsD c)) ∧ Below w.heap.size w w' := by
  cases h : okB c
  · have eb : wordsD c = 0 := by simp [wordsD, h]
    rw [eb]
    have H := hide h
    clear eb h
    unfold cv
    go_enter Try.func48, Try.ntmps48
    go_wp2_with fail
    refine (rcheck_any c _).mono ?_
    rw [unhide H, errOf_f]
    rintro e w1 ⟨rfl, hb⟩
    go_wp2
    go_ret
    exact ⟨rfl, below_call hb⟩
  · have eb : wordsD c = nw c := by simp [wordsD, h]
    rw [eb]
    have hp := okB_hp h
    have H := hide h
    clear eb h
    have e1 : IntKind.i64.wrap (ns c * c.d) = nw c := kin (by have := nw_in hp; unfold nw at this; omega) (by have := nw_in hp; unfold nw at this; omega)
    unfold cv
    go_enter Try.func48, Try.ntmps48
    go_wp2_with fail
    refine (rcheck_any c _).mono ?_
    rw [unhide H, errOf_t]
    rintro e w1 ⟨rfl, hb⟩
    have hx := (bx_new c w).next hb
    have hl := below_call hb
    obtain ⟨a0, a1, a2, a3, a4, a5, a6, a7, a8, a9, a10, a11⟩ := hx.cells
    go_wp2_with fail
    go_region_held3 (fun wz => wz.cell? ⟨w.heap.size, 0, none⟩ = some (.int .i64 c.r) ∧ wz.cell? ⟨w.heap.size, 1, none⟩ = some (.int .i64 c.o) ∧ wz.cell? ⟨w.heap.size, 2, none⟩ = some (.int .i64 c.s) ∧ wz.cell? ⟨w.heap.size, 3, none⟩ = some (.int .i64 c.d) ∧ wz.cell? ⟨w.heap.size, 4, none⟩ = some (.int .i64 c.t) ∧ wz.cell? ⟨w.heap.size, 5, none⟩ = some (.int .i64 c.l) ∧ wz.cell? ⟨w.heap.size, 6, none⟩ = some (.int .i64 c.g) ∧ wz.cell? ⟨w.heap.size, 7, none⟩ = some (.int .i64 c.k) ∧ wz.cell? ⟨w.heap.size, 8, none⟩ = some (.int .i64 c.u) ∧ wz.cell? ⟨w.heap.size, 9, none⟩ = some (.int .i64 c.e) ∧ wz.cell? ⟨w.heap.size, 10, none⟩ = some (.int .i64 c.i) ∧ wz.cell? ⟨w.heap.size, 11, none⟩ = some (.int .i64 c.p)) (first | exact hx3.cells | exact hx2.cells | exact hx1.cells | exact hx.drew.cells)
      (first
        | (go_at_call 92; refine (rstripes_any c _ hp).mono ?_; rintro e wz ⟨rfl, hbz⟩; first | (have hx3 := hx2.next hbz; have hl3 := below_then hl2 hbz) | (have hx2 := hx1.next hbz; have hl2 := below_then hl1 hbz) | (have hx1 := hx.drew.next hbz; have hl1 := below_then hl.drew hbz)))
    all_goals
      go_wp2
      go_ret
      exact ⟨by first | rfl | exact ret_int (by simp only [IntKind.wrap_i64]; omega), hl1⟩

theorem rwords_ok (c : Cf) (w : World) (h : okB c = true) : Calls Try.prog 48 #[cv c] w fun e w' => e = .returned (.int .i64 (nw c)) ∧ Below w.heap.size w w' := by
  have := rwords_any c w
  simp only [wordsD, h, if_true] at this
  exact this

end Go.Proofs.Ytdhpahopfmcdkaa

/- What the walks of package path's laws share: the configuration's box beside the table; the three nodes of a word; first. -/
namespace Go.Proofs.Ytdhpahopfmcdkaa
open Go.RowKit
variable {B n : Nat} {most : Int} {T : Nat → Lv} {b : Nat}

/-- The configuration's box and the table; all of it at or above the world w0. -/
structure Py (c : Cf) (q B n : Nat) (most : Int) (T : Nat → Lv) (b : Nat) (w0 w : World) : Prop where
  bx : Bx c q w
  tn : Tn B n most T b w
  bel : Below w0.heap.size w0 w
  low : w0.heap.size ≤ B
namespace Py
variable {c : Cf} {q : Nat} {w0 w w' : World}
theorem next (h : Py c q B n most T b w0 w) (k : Below w.heap.size w w') : Py c q B n most T b w0 w' := ⟨h.bx.next k, h.tn.next k, below_then h.bel k, h.low⟩
theorem turn (h : Py c q B n most T b w0 w) {T' : Nat → Lv} (t : Tn B n most T' b w') (k : Below B w w') (s : Stay w w') : Py c q B n most T' b w0 w' :=
  ⟨s q _ 73 h.bx (by decide) (by decide), t, h.bel.trans (k.mono h.low), h.low⟩
theorem pair (h : Py c q B n most T b w0 w) (x y : Int) : Py c q B n most T b w0 (w.alloc (.cells #[.int .i64 x, .int .i64 y] 50)) := h.next (below_new w _)
end Py
/-- The three nodes of a word. -/
structure N3 (c : Cf) (n : Nat) (a : Int) (r o s : Nat) : Prop where
  hr : rD c a = (r : Int)
  ho : c.r + oD c a = (o : Int)
  hs : c.r + no c + sD c a = (s : Int)
  rn : r < n
  on : o < n
  sn : s < n
  ro : r ≠ o
  rs : r ≠ s
  os : o ≠ s
theorem n3_of {c : Cf} (hok : okB c = true) {n : Nat} (hn : (n : Int) = nodesD c) {a : Int} (h0 : 0 ≤ a) (h1 : a < nw c) : ∃ r o s, N3 c n a r o s := by
  have hp := okB_hp hok
  obtain ⟨s0, s1⟩ := s_in hp h0 h1
  obtain ⟨o0, o1⟩ := o_in hp h0 h1
  obtain ⟨r0, r1⟩ := r_in hp h0 h1
  have b1 := hp.r1
  have b2 := (no_in hp).1
  have hnn := nodes_ok hok
  refine ⟨(rD c a).toNat, (c.r + oD c a).toNat, (c.r + no c + sD c a).toNat, ?_, ?_, ?_, ?_, ?_, ?_, ?_, ?_, ?_⟩ <;> omega
theorem N3.next0 {c : Cf} {a : Int} {r o s : Nat} (h : N3 c n a r o s) (f g : Nat → Int) (write : Bool) :
    nextD c n (duo f g) 0 a write = nextK (f r) (f o) (f s) (escB c n (duo f g) 0 (o : Int)) write r o s := by
  unfold nextD
  rw [h.hr, h.ho, h.hs, holdT_in h.rn, holdT_in h.on, holdT_in h.sn]
  show nextK (lookD 0 (duoL (f r) (g r))) (lookD 0 (duoL (f o) (g o))) (lookD 0 (duoL (f s) (g s))) _ _ _ _ _ = _
  rw [duoL_0, duoL_0, duoL_0]
theorem N3.next1 {c : Cf} {a : Int} {r o s : Nat} (h : N3 c n a r o s) (f g : Nat → Int) (write : Bool) :
    nextD c n (duo f g) 1 a write = nextK (g r) (g o) (g s) (escB c n (duo f g) 1 (o : Int)) write r o s := by
  unfold nextD
  rw [h.hr, h.ho, h.hs, holdT_in h.rn, holdT_in h.on, holdT_in h.sn]
  show nextK (lookD 1 (duoL (f r) (g r))) (lookD 1 (duoL (f o) (g o))) (lookD 1 (duoL (f s) (g s))) _ _ _ _ _ = _
  rw [duoL_1, duoL_1, duoL_1]
theorem esc_zero {c : Cf} (h : c.e = 0) (n : Nat) (T : Nat → Lv) (who o : Int) : escB c n T who o = false := by
  unfold escB
  rw [h]; rfl
theorem esc_none {c : Cf} {n : Nat} {T : Nat → Lv} {who o : Int} (h : strD c n T who o = 0) : escB c n T who o = false := by
  unfold escB
  rw [h]
  by_cases h2 : 0 < c.e
  · simp
  · simp [h2]
theorem strK_zero {n : Nat} {T : Nat → Lv} {who f : Int} : ∀ k : Nat, (∀ j : Nat, j < k → holdT n T who (f + j) = 0) → strK n T who f k = 0
  | 0, _ => rfl
  | k + 1, h => by
    unfold strK
    rw [strK_zero k (fun j hj => h j (by omega)), if_pos (h k (by omega))]
theorem strK_one {n : Nat} {T : Nat → Lv} {who f : Int} {i : Nat} (hi : holdT n T who (f + i) ≠ 0) : ∀ k : Nat, (∀ j : Nat, j < k → j ≠ i → holdT n T who (f + j) = 0) → strK n T who f k = if i < k then 1 else 0
  | 0, _ => rfl
  | k + 1, h => by
    unfold strK
    rw [strK_one hi k (fun j hj => h j (by omega))]
    by_cases e : k = i
    · subst e
      rw [if_neg hi, if_neg (Nat.lt_irrefl k), if_pos (Nat.lt_succ_self k)]
    · rw [if_pos (h k (by omega) e)]
      by_cases h2 : i < k
      · rw [if_pos h2, if_pos (by omega)]
      · rw [if_neg h2, if_neg (by omega)]
/-- Where the stripes of a word's object lie. -/
theorem N3.str {c : Cf} {a : Int} {r o s : Nat} (h : N3 c n a r o s) (hok : okB c = true) (hn : (n : Int) = nodesD c) (h0 : 0 ≤ a) (h1 : a < nw c) :
    levelD c (o : Int) = 1 ∧ ∃ (f i k : Nat), fstS c (o : Int) = (f : Int) ∧ c.s = (k : Int) ∧ s = f + i ∧ i < k ∧ f + k ≤ n ∧ o < f := by
  have hp := okB_hp hok
  obtain ⟨s0, s1⟩ := s_in hp h0 h1
  obtain ⟨o0, o1⟩ := o_in hp h0 h1
  have b1 := hp.r1
  have b2 := (no_in hp).1
  have b3 := hp.s1
  have hnn := nodes_ok hok
  have hl := level_o hok o0 o1
  have hho := h.ho
  rw [hho] at hl
  obtain ⟨q0, q1⟩ := fst_in hp (o := (o : Int)) (by omega) (by omega)
  have hf : fstS c (o : Int) = c.r + no c + (oD c a) * c.s := by
    unfold fstS
    rw [show (o : Int) - c.r = oD c a by omega]
  have e1 : (o : Int) - c.r = oD c a := by omega
  rw [e1] at q0 q1
  have hd1 : sD c a / c.s = oD c a := rfl
  have hd2 := Int.ediv_mul_le (sD c a) (show c.s ≠ 0 by omega)
  have hd3 := Int.lt_ediv_add_one_mul_self (sD c a) (show 0 < c.s by omega)
  rw [hd1] at hd2 hd3
  have e2 : (oD c a + 1) * c.s = oD c a * c.s + c.s := by rw [Int.add_mul, Int.one_mul]
  rw [e2] at hd3
  have hhs := h.hs
  refine ⟨hl, (fstS c (o : Int)).toNat, (sD c a - oD c a * c.s).toNat, c.s.toNat, ?_, ?_, ?_, ?_, ?_, ?_⟩ <;> rw [hf] at * <;> omega
def ten : Cf := ⟨1, 1, 1, 1, 1, 0, 1, 9, 1, 0, 1, 0⟩
theorem ten_next : nextD ten 3 none0 0 0 false = ((0, 1), true) := by decide +kernel
theorem ten_ok : okB ten = true := by decide
theorem first10_any (w : World) : Calls Try.prog 37 #[] w fun e w' => e = .returned (.bool true) ∧ Below w.heap.size w w' := by
  have X := fun (w' : World) (B b : Nat) (h : Tn B 3 9 none0 b w') => next_in ten w' h (few_none _ _) 0 0 false ten_ok (by decide) (by decide) ten_next
  unfold cv nxV at X
  replace X := hide X
  have hbn := below_new w (.cells #[.int .i64 1, .int .i64 1, .int .i64 1, .int .i64 1, .int .i64 1, .int .i64 0, .int .i64 1, .int .i64 9, .int .i64 1, .int .i64 0, .int .i64 1, .int .i64 0] 73)
  have hbx := bx_new ten w
  obtain ⟨w1, hw1⟩ : ∃ w1, w1 = w.alloc (.cells #[.int .i64 1, .int .i64 1, .int .i64 1, .int .i64 1, .int .i64 1, .int .i64 0, .int .i64 1, .int .i64 9, .int .i64 1, .int .i64 0, .int .i64 1, .int .i64 0] 73) := ⟨_, rfl⟩
  obtain ⟨q, hq⟩ : ∃ q, q = w.heap.size := ⟨_, rfl⟩
  have b1 : Hid (Below w.heap.size w w1) := by rw [hw1]; exact hbn
  have x1 : Hid (Bx ten q w1) := by rw [hw1, hq]; exact hbx
  clear hbn hbx
  go_enter Try.func37, Try.ntmps37
  go_wp2_with fail
  rw [← hw1, ← hq]
  replace hw1 := hide hw1
  replace hq := hide hq
  refine (new_n 3 9 w1 (by decide) (by decide) (by decide) (by decide)).mono ?_
  rintro e w2 ⟨b, rfl, L2, b2⟩
  have x2 := (unhide x1).next b2
  obtain ⟨a0, a1, a2, a3, a4, a5, a6, a7, a8, a9, a10, a11⟩ := x2.cells
  simp only [ten] at a0 a1 a2 a3 a4 a5 a6 a7 a8 a9 a10 a11
  have B2 := hide (below_then (unhide b1) b2)
  replace L2 := hide L2
  clear x2 b2
  go_wp2_with fail
  refine (unhide X w2 _ b (unhide L2)).mono ?_
  rintro e w3 ⟨rfl, b3⟩
  have B3 := hide (below_add (below_then (unhide B2) b3) (.cells #[.int .i64 0, .int .i64 1] 50))
  clear a0 a1 a2 a3 a4 a5 a6 a7 a8 a9 a10 a11 b3
  go_wp2
  go_ret
  exact ⟨rfl, unhide B3⟩
end Go.Proofs.Ytdhpahopfmcdkaa

/- PathAll: its walk. -/
namespace Go.Proofs.Ytdhpahopfmcdkaa
open Go.RowKit

/-- What is held: the object as m, the region as k. -/
def fA (r o : Nat) (m k : Int) : Nat → Int := fun j => if j = o then m else if j = r then k else 0
theorem fA_0 (r o : Nat) : fA r o 0 0 = zer := by funext j; unfold fA zer; split <;> (try split) <;> rfl
theorem fA_o {r o : Nat} {m k x : Int} : set1 (fA r o m k) o x = fA r o x k := by
  funext j; unfold set1 fA; by_cases h : j = o <;> simp [h]
theorem fA_r {r o : Nat} (h : r ≠ o) {m k x : Int} : set1 (fA r o m k) r x = fA r o m x := by
  funext j; unfold set1 fA
  by_cases h1 : j = o
  · subst h1
    by_cases h2 : j = r
    · exact absurd h2.symm h
    · simp [h2]
  · by_cases h2 : j = r
    · subst h2; simp [h1]
    · simp [h1, h2]
theorem fA_at {r o : Nat} (m k : Int) : fA r o m k o = m := by simp [fA]
theorem fA_rt {r o : Nat} (h : r ≠ o) (m k : Int) : fA r o m k r = k := by simp [fA, h]
theorem fA_st {r o s : Nat} (h : o ≠ s) (h2 : r ≠ s) (m k : Int) : fA r o m k s = 0 := by simp [fA, h.symm, h2.symm]
theorem fA_cnt (r o : Nat) (m k : Int) (n : Nat) : lenD (duo (fA r o m k) zer) n ≤ 2 := by
  rw [duo_len, cntN_zer]
  have e : fA r o m k = set1 (fA r o 0 k) o m := fA_o.symm
  have h1 := cntN_set1 (fA r o 0 k) o m n
  have h2 : cntN (fA r o 0 k) n ≤ 1 := by
    by_cases h : r = o
    · subst h
      have : fA r r 0 k = zer := by funext j; unfold fA zer; by_cases h : j = r <;> simp [h]
      rw [this, cntN_zer]; omega
    · have e2 : fA r o 0 k = set1 (fA r o 0 0) r k := (fA_r h).symm
      have := cntN_set1 (fA r o 0 0) r k n
      rw [← e2, fA_0, cntN_zer] at this
      omega
  rw [← e] at h1
  omega
/-- Is there more to ask for? -/
def nx2 (hr ho hs : Int) (esc write : Bool) : Bool :=
  if coversB hr (inD write) = false then true else if wholeB write ho = true then false else if coversB hs (wantD write) = false ∧ esc = true then true
  else if coversB ho (inD write) = false then true else if coversB hs (wantD write) = false then true else false
theorem nextK_2 (hr ho hs : Int) (esc write : Bool) (r o s : Int) : (nextK hr ho hs esc write r o s).2 = nx2 hr ho hs esc write := by
  unfold nextK nx2
  cases coversB hr (inD write) <;> cases wholeB write ho <;> cases coversB hs (wantD write) <;> cases esc <;> cases coversB ho (inD write) <;> rfl
theorem all_facts {c : Cf} {n : Nat} {a : Int} {r o s : Nat} (h : N3 c n a r o s) (hok : okB c = true) (hn : (n : Int) = nodesD c) (h0 : 0 ≤ a) (h1 : a < nw c) (write : Bool) :
    askT n 100 none0 0 (o : Int) 3 = ((1, 0), duo (fA r o 3 0) zer) ∧
    nextD c n (duo (fA r o 3 0) zer) 0 a write = (((r : Int), inD write), true) ∧
    askT n 100 (duo (fA r o 3 0) zer) 0 (r : Int) (inD write) = ((1, 0), duo (fA r o 3 (inD write)) zer) ∧
    (nextD c n (duo (fA r o 3 (inD write)) zer) 0 a write).2 = write ∧
    askT n 100 (duo (fA r o 3 (inD write)) zer) 0 (o : Int) 5 = ((1, 0), duo (fA r o 5 (inD write)) zer) ∧
    (nextD c n (duo (fA r o 5 (inD write)) zer) 0 a write).2 = false := by
  have m1 : md (inD write) := by cases write <;> exact ⟨by decide, by decide⟩
  have z1 : mz (inD write) := by cases write <;> exact ⟨by decide, by decide⟩
  have g1 : goal 0 (inD write) = inD write := by cases write <;> decide +kernel
  have room : ∀ m k, (lenD (duo (fA r o m k) zer) n : Int) < 100 := fun m k => by have := fA_cnt r o m k n; omega
  have zz : ∀ k, mz (zer k) := fun _ => show mz 0 from ⟨by decide, by decide⟩
  have z0 : mz 0 := ⟨by decide, by decide⟩
  have z3 : mz 3 := ⟨by decide, by decide⟩
  have m3 : md 3 := ⟨by decide, by decide⟩
  have m5 : md 5 := ⟨by decide, by decide⟩
  have g3 : goal 0 3 = 3 := by decide +kernel
  have g5 : goal 3 5 = 5 := by decide +kernel
  refine ⟨?_, ?_, ?_, ?_, ?_, ?_⟩
  · have e := duo_ask0 (f := fA r o 0 0) (g := zer) (m := 3) (most := 100) h.on m3 (by rw [fA_at]; exact z0) (zz _) (.inl rfl) (room 0 0)
    rw [fA_at, fA_o, g3] at e
    rw [fA_0, duo_none] at e
    exact e
  · rw [h.next0, fA_rt h.ro]
    unfold nextK
    have : coversB 0 (inD write) = false := by cases write <;> decide +kernel
    rw [if_pos this]
  · have e := duo_ask0 (f := fA r o 3 0) (g := zer) (m := inD write) (most := 100) h.rn m1 (by rw [fA_rt h.ro]; exact z0) (zz _) (.inl rfl) (room 3 0)
    rw [fA_rt h.ro, g1, fA_r h.ro] at e
    exact e
  · rw [h.next0, fA_rt h.ro, fA_at, fA_st h.os h.rs]
    have he : escB c n (duo (fA r o 3 (inD write)) zer) 0 (o : Int) = false := by
      obtain ⟨hl, f, i, k, f1, f2, f3, f4, f5, f6⟩ := h.str hok hn h0 h1
      refine esc_none ?_
      unfold strD
      rw [if_pos hl, f1, f2]
      refine strK_zero _ (fun j hj => ?_)
      have hj2 : j < k := hj
      rw [show (f : Int) + (j : Int) = ((f + j : Nat) : Int) by omega, holdT_in (by omega)]
      show lookD 0 (duoL _ _) = 0
      rw [duoL_0]
      have hrf : r < f := by
        have e1 := h.hr
        have e2 := h.ho
        have hp := okB_hp hok
        have := (o_in hp h0 h1).1
        have := (r_in hp h0 h1).2
        omega
      unfold fA
      rw [if_neg (by omega), if_neg (by omega)]
    rw [he, nextK_2]
    cases write <;> decide +kernel
  · have e := duo_ask0 (f := fA r o 3 (inD write)) (g := zer) (m := 5) (most := 100) h.on m5 (by rw [fA_at]; exact z3) (zz _) (.inl rfl) (room _ _)
    rw [fA_at, fA_o, g5] at e
    exact e
  · rw [h.next0, fA_rt h.ro, fA_at, fA_st h.os h.rs]
    rw [nextK_2]
    generalize escB c n _ 0 _ = z
    cases write <;> cases z <;> decide +kernel
end Go.Proofs.Ytdhpahopfmcdkaa
