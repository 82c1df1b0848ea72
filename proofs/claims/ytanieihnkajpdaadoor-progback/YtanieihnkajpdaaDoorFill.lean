/- filled of package prog. -/
import Derived.Test.YtanieihnkajpdaaDoorFill0
namespace Go.Proofs.YtanieihnkajpdaaDoor
open Go.RowKit

set_option maxRecDepth 100000 in
set_option maxHeartbeats 400000 in
theorem fill_calc (ns : List Int) (a : Option Addr) (n cap : Nat) (w : World) (hv : Ls w.heap.size w (.slice a n cap) ns) (hn : n = ns.length) (hs : n ≤ 100000) (ln : 2 ≤ n) (h1 : n ≤ cap) (h2 : cap ≤ maxLen) :
    Calls Tryd.prog 41 #[.int .i64 4, .slice a n cap] w (Filled (fillD 4 ns) w) := by
  have hmax : maxLen = 9223372036854775807 := rfl
  have h4 : SegB .i64 w.heap.size w a n ns := by obtain ⟨a1, l1, c1, e, _, _, _, h⟩ := hv; injection e with e1 e2 e3; subst e1; subst e2; exact h
  have b1 := below_new w (.cells #[.int .i64 0, .int .i64 0, .int .i64 0, .int .i64 0, .slice none 0 0] 32)
  have r : Hid (fillD 4 ns = some ⟨4, ns.getD 0 0, ns.getD 1 0, 0, ns.drop 2⟩) := hide (by simp [fillD, ← hn, ln])
  have dn : decide (2 ≤ (n : Int)) = true := decide_eq_true (by omega)
  obtain ⟨b, off, rfl, hlt, d0⟩ := h4.at (show 0 < n by omega)
  obtain ⟨b', off', e5, _, d1⟩ := h4.at (show 1 < n by omega)
  obtain ⟨rfl, rfl⟩ : b = b' ∧ off = off' := by simpa using e5
  obtain ⟨y0, hy0⟩ : ∃ y, ns.getD 0 0 = y := ⟨_, rfl⟩
  rw [hy0] at d0 r
  obtain ⟨y1, hy1⟩ : ∃ y, ns.getD 1 0 = y := ⟨_, rfl⟩
  rw [hy1] at d1 r
  rw [Nat.add_zero] at d0
  have x0 := (b1.cell hlt).trans d0
  have x1 := (b1.cell hlt).trans d1
  have b1d := b1.drew
  have hix : Ix z0 (.slice none 0 0) w.heap.size (w.alloc (.cells #[.int .i64 0, .int .i64 0, .int .i64 0, .int .i64 0, .slice none 0 0] 32)).drew := ix_new z0 (.slice none 0 0) w
  have dl := ls_drop (k := 2) hv ln
  obtain ⟨sv, hsv⟩ : ∃ sv : Value, sv = (if cap = 2 then .slice (some ⟨b, off, none⟩) (n - 2) (cap - 2) else .slice (some ⟨b, off + 2, none⟩) (n - 2) (cap - 2)) := ⟨_, rfl⟩
  have dls : Ls (w.alloc (.cells #[.int .i64 0, .int .i64 0, .int .i64 0, .int .i64 0, .slice none 0 0] 32)).drew.heap.size (w.alloc (.cells #[.int .i64 0, .int .i64 0, .int .i64 0, .int .i64 0, .slice none 0 0] 32)).drew sv (ns.drop 2) := by
    refine Ls.next ?_ b1d
    rw [hsv]
    split
    · have e1 : n - 2 = 0 := by omega
      have e2 : ns.drop 2 = [] := List.drop_eq_nil_iff.2 (by omega)
      rw [e1, e2]
      exact ls_zero _ _ _ _ (by omega)
    · exact dl
  have kC := clone_any sv (ns.drop 2) _ dls (by simp; omega)
  obtain ⟨DL, hDL⟩ : ∃ DL, ns.drop 2 = DL := ⟨_, rfl⟩
  rw [hDL] at kC r
  obtain ⟨dl0, hdl0⟩ : ∃ q, DL.length = q := ⟨_, rfl⟩
  rw [hdl0] at kC
  replace hDL := hide hDL
  replace hdl0 := hide hdl0
  clear dl dls hv h4 hy0 hy1
  replace hn := hide hn
  replace b1d := hide b1d
  replace hix := hide hix
  clear b1
  have lb : b < (w.alloc (.cells #[.int .i64 0, .int .i64 0, .int .i64 0, .int .i64 0, .slice none 0 0] 32)).drew.heap.size := by simp; omega
  have nb : b ≠ w.heap.size := by omega
  have x0d : (w.alloc (.cells #[.int .i64 0, .int .i64 0, .int .i64 0, .int .i64 0, .slice none 0 0] 32)).drew.cell? ⟨b, off, none⟩ = some (.int .i64 y0) := x0
  have x1d : (w.alloc (.cells #[.int .i64 0, .int .i64 0, .int .i64 0, .int .i64 0, .slice none 0 0] 32)).drew.cell? ⟨b, off + 1, none⟩ = some (.int .i64 y1) := x1
  replace x0d := hide x0d
  replace x1d := hide x1d
  by_cases hcap : cap = 2
  · rw [if_pos hcap] at hsv
    subst hsv
    have n2 : n = 2 := by omega
    subst n2
    subst hcap
    rw [show 2 - 2 = 0 from rfl] at kC
    go_enter Tryd.func41, Tryd.ntmps41
    go_wp2_with fail
    go_region_held3 (fun wz => wz.cell? ⟨b, off, none⟩ = some (.int .i64 y0) ∧ wz.cell? ⟨b, off + 1, none⟩ = some (.int .i64 y1)) (first | with_reducible exact ⟨unhide x0d, unhide x1d⟩ | with_reducible exact ⟨g0, g1⟩ | with_reducible exact ⟨t0, t1⟩)
      (first
        | (go_at_call 50; with_reducible refine Calls.mono kC ?_; rintro e w2 ⟨ca, cc, rfl, hb2, hLs⟩; have ix2 := (unhide hix).next hb2; obtain ⟨m0, m1, m2, m3, m4⟩ := ix2.cells; have f0 := ix2.frozen 0; have f1 := ix2.frozen 1; have f2 := ix2.frozen 2; have f3 := ix2.frozen 3; have f4 := ix2.frozen 4; have g0 := (hb2.cell lb).trans (unhide x0d); have g1 := (hb2.cell lb).trans (unhide x1d); have t0 := (five_other w2 w.heap.size (.int .i64 4) (.int .i64 y0) (.int .i64 y1) (.int .i64 0) (.slice ca dl0 cc) b off nb).trans g0; have t1 := (five_other w2 w.heap.size (.int .i64 4) (.int .i64 y0) (.int .i64 y1) (.int .i64 0) (.slice ca dl0 cc) b (off + 1) nb).trans g1))
    have bF := hide (five_below w w2 w.heap.size w.heap.size (Nat.le_refl _) (below_then (unhide b1d) hb2) (.int .i64 4) (.int .i64 y0) (.int .i64 y1) (.int .i64 0) (.slice ca dl0 cc))
    have lF := hide (five_lo ((unhide hix).next hb2) (.int .i64 4) (.int .i64 y0) (.int .i64 y1) (.int .i64 0) (.slice ca dl0 cc) hLs)
    clear hLs hb2 kC
    go_wp2
    (try simp only [Exit.inBlock, Exit.then]); refine bodyPost_ret (v := .tuple #[.agg #[.int .i64 4, .int .i64 y0, .int .i64 y1, .int .i64 0, .slice ca dl0 cc], .bool true]) ?_ rfl ⟨_, .slice ca dl0 cc, by rw [unhide r]; rfl, unhide lF, unhide bF, .inl (unhide r)⟩
    rw [results_cell_tmp rfl]
    go_simp
  · rw [if_neg hcap] at hsv
    subst hsv
    have i0 : (0 : Int) < (n : Int) := by omega
    have i1 : (1 : Int) < (n : Int) := by omega
    have s1 : (2 : Int) ≤ (n : Int) := by omega
    have s2 : (n : Int) ≤ (cap : Int) := by omega
    have s3 : (2 : Int) ≤ (cap : Int) := by omega
    have s4 : 0 < n := by omega
    have s5 : 1 < n := by omega
    go_enter Tryd.func41, Tryd.ntmps41
    go_wp2_with fail
    go_region_held3 (fun wz => wz.cell? ⟨b, off, none⟩ = some (.int .i64 y0) ∧ wz.cell? ⟨b, off + 1, none⟩ = some (.int .i64 y1)) (first | with_reducible exact ⟨unhide x0d, unhide x1d⟩ | with_reducible exact ⟨g0, g1⟩ | with_reducible exact ⟨t0, t1⟩)
      (first
        | (go_at_call 50; with_reducible refine Calls.mono kC ?_; rintro e w2 ⟨ca, cc, rfl, hb2, hLs⟩; have ix2 := (unhide hix).next hb2; obtain ⟨m0, m1, m2, m3, m4⟩ := ix2.cells; have f0 := ix2.frozen 0; have f1 := ix2.frozen 1; have f2 := ix2.frozen 2; have f3 := ix2.frozen 3; have f4 := ix2.frozen 4; have g0 := (hb2.cell lb).trans (unhide x0d); have g1 := (hb2.cell lb).trans (unhide x1d); have t0 := (five_other w2 w.heap.size (.int .i64 4) (.int .i64 y0) (.int .i64 y1) (.int .i64 0) (.slice ca dl0 cc) b off nb).trans g0; have t1 := (five_other w2 w.heap.size (.int .i64 4) (.int .i64 y0) (.int .i64 y1) (.int .i64 0) (.slice ca dl0 cc) b (off + 1) nb).trans g1))
    have bF := hide (five_below w w2 w.heap.size w.heap.size (Nat.le_refl _) (below_then (unhide b1d) hb2) (.int .i64 4) (.int .i64 y0) (.int .i64 y1) (.int .i64 0) (.slice ca dl0 cc))
    have lF := hide (five_lo ((unhide hix).next hb2) (.int .i64 4) (.int .i64 y0) (.int .i64 y1) (.int .i64 0) (.slice ca dl0 cc) hLs)
    clear hLs hb2 kC
    go_wp2
    (try simp only [Exit.inBlock, Exit.then]); refine bodyPost_ret (v := .tuple #[.agg #[.int .i64 4, .int .i64 y0, .int .i64 y1, .int .i64 0, .slice ca dl0 cc], .bool true]) ?_ rfl ⟨_, .slice ca dl0 cc, by rw [unhide r]; rfl, unhide lF, unhide bF, .inl (unhide r)⟩
    rw [results_cell_tmp rfl]
    go_simp
set_option maxRecDepth 100000 in
set_option maxHeartbeats 2000000 in
theorem filled_any (k : Int) (ns : List Int) (v : Value) (w : World) (hv : Ls w.heap.size w v ns) (hs : ns.length ≤ 100000) :
    Calls Tryd.prog 41 #[.int .i64 k, v] w (Filled (fillD k ns) w) := by
  obtain ⟨a, cap, rfl, h1, h2, h3, h4⟩ := ls_len hv
  obtain ⟨n, hn⟩ : ∃ n, n = ns.length := ⟨_, rfl⟩
  rw [← hn] at h1 h4 hv hs ⊢
  have hmax : maxLen = 9223372036854775807 := rfl
  have b1 := below_new w (.cells #[.int .i64 0, .int .i64 0, .int .i64 0, .int .i64 0, .slice none 0 0] 32)
  by_cases kk : k = 1 ∨ k = 2
  · by_cases ln : n = 3
    · have r : Hid (fillD k ns = some ⟨k, ns.getD 0 0, ns.getD 1 0, ns.getD 2 0, []⟩) := hide (by unfold fillD; rw [if_pos ⟨kk, by omega⟩])
      subst ln
      obtain ⟨b, off, rfl, hlt, d0⟩ := h4.at (show 0 < 3 by omega)
      obtain ⟨b', off', e5, _, d1⟩ := h4.at (show 1 < 3 by omega)
      obtain ⟨rfl, rfl⟩ : b = b' ∧ off = off' := by simpa using e5
      obtain ⟨b', off', e5, _, d2⟩ := h4.at (show 2 < 3 by omega)
      obtain ⟨rfl, rfl⟩ : b = b' ∧ off = off' := by simpa using e5
      obtain ⟨y0, hy0⟩ : ∃ y, ns.getD 0 0 = y := ⟨_, rfl⟩
      rw [hy0] at d0 r
      obtain ⟨y1, hy1⟩ : ∃ y, ns.getD 1 0 = y := ⟨_, rfl⟩
      rw [hy1] at d1 r
      obtain ⟨y2, hy2⟩ : ∃ y, ns.getD 2 0 = y := ⟨_, rfl⟩
      rw [hy2] at d2 r
      rw [Nat.add_zero] at d0
      have x0 := (b1.cell hlt).trans d0
      have x1 := (b1.cell hlt).trans d1
      have x2 := (b1.cell hlt).trans d2
      have fl : ∀ kk : Int, Below w.heap.size w (w.alloc (.cells #[.int .i64 kk, .int .i64 y0, .int .i64 y1, .int .i64 y2, .slice none 0 0] 32)).drew := fun kk => (below_new w _).drew
      replace fl := hide fl
      clear h4 hv b1 hy0 hy1 hy2 h3
      replace hn := hide hn
      rcases kk with rfl | rfl
      · go_enter Tryd.func41, Tryd.ntmps41
        go_wp2
        go_region
        go_wp2
        (try simp only [Exit.inBlock, Exit.then]); refine bodyPost_ret (v := .tuple #[.agg #[.int .i64 1, .int .i64 y0, .int .i64 y1, .int .i64 y2, .slice none 0 0], .bool true]) ?_ rfl ⟨_, .slice none 0 0, by rw [unhide r]; rfl, lo_nil _, unhide fl 1, .inl (unhide r)⟩
        rw [results_cell_tmp rfl]
        go_simp
      · go_enter Tryd.func41, Tryd.ntmps41
        go_wp2
        go_region
        go_wp2
        (try simp only [Exit.inBlock, Exit.then]); refine bodyPost_ret (v := .tuple #[.agg #[.int .i64 2, .int .i64 y0, .int .i64 y1, .int .i64 y2, .slice none 0 0], .bool true]) ?_ rfl ⟨_, .slice none 0 0, by rw [unhide r]; rfl, lo_nil _, unhide fl 2, .inl (unhide r)⟩
        rw [results_cell_tmp rfl]
        go_simp
    · skip
      have i3 : ((n : Int) == 3) = false := by simp; omega
      have j3 : (n == 3) = false := by simp; omega
      rcases kk with rfl | rfl
      · skip
        have r : Hid (fillD 1 ns = none) := hide (by simp [fillD, ← hn, ln])
        replace b1 := hide b1
        replace hn := hide hn
        clear h4 hv
        go_enter Tryd.func41, Tryd.ntmps41
        go_wp2
        (try simp only [Exit.inBlock, Exit.then]); refine bodyPost_ret (v := .tuple #[.agg #[.int .i64 0, .int .i64 0, .int .i64 0, .int .i64 0, .slice none 0 0], .bool false]) ?_ rfl ⟨z0, .slice none 0 0, by rw [unhide r]; rfl, lo_nil _, unhide b1, .inr (unhide r)⟩
        rw [results_cell_tmp rfl]
        go_simp
      · skip
        have r : Hid (fillD 2 ns = none) := hide (by simp [fillD, ← hn, ln])
        replace b1 := hide b1
        replace hn := hide hn
        clear h4 hv
        go_enter Tryd.func41, Tryd.ntmps41
        go_wp2
        (try simp only [Exit.inBlock, Exit.then]); refine bodyPost_ret (v := .tuple #[.agg #[.int .i64 0, .int .i64 0, .int .i64 0, .int .i64 0, .slice none 0 0], .bool false]) ?_ rfl ⟨z0, .slice none 0 0, by rw [unhide r]; rfl, lo_nil _, unhide b1, .inr (unhide r)⟩
        rw [results_cell_tmp rfl]
        go_simp
  have k12 := kk
  clear kk
  by_cases kk : k = 3 ∨ k = 5
  · by_cases ln : n = 2
    · have r : Hid (fillD k ns = some ⟨k, ns.getD 0 0, ns.getD 1 0, 0, []⟩) := hide (by unfold fillD; rw [if_neg (fun h => k12 h.1), if_pos ⟨kk, by omega⟩])
      subst ln
      obtain ⟨b, off, rfl, hlt, d0⟩ := h4.at (show 0 < 2 by omega)
      obtain ⟨b', off', e5, _, d1⟩ := h4.at (show 1 < 2 by omega)
      obtain ⟨rfl, rfl⟩ : b = b' ∧ off = off' := by simpa using e5
      obtain ⟨y0, hy0⟩ : ∃ y, ns.getD 0 0 = y := ⟨_, rfl⟩
      rw [hy0] at d0 r
      obtain ⟨y1, hy1⟩ : ∃ y, ns.getD 1 0 = y := ⟨_, rfl⟩
      rw [hy1] at d1 r
      rw [Nat.add_zero] at d0
      have x0 := (b1.cell hlt).trans d0
      have x1 := (b1.cell hlt).trans d1
      have fl : ∀ kk : Int, Below w.heap.size w (w.alloc (.cells #[.int .i64 kk, .int .i64 y0, .int .i64 y1, .int .i64 0, .slice none 0 0] 32)).drew := fun kk => (below_new w _).drew
      replace fl := hide fl
      clear h4 hv b1 hy0 hy1 h3
      replace hn := hide hn
      rcases kk with rfl | rfl
      · go_enter Tryd.func41, Tryd.ntmps41
        go_wp2
        go_region
        go_wp2
        (try simp only [Exit.inBlock, Exit.then]); refine bodyPost_ret (v := .tuple #[.agg #[.int .i64 3, .int .i64 y0, .int .i64 y1, .int .i64 0, .slice none 0 0], .bool true]) ?_ rfl ⟨_, .slice none 0 0, by rw [unhide r]; rfl, lo_nil _, unhide fl 3, .inl (unhide r)⟩
        rw [results_cell_tmp rfl]
        go_simp
      · go_enter Tryd.func41, Tryd.ntmps41
        go_wp2
        go_region
        go_wp2
        (try simp only [Exit.inBlock, Exit.then]); refine bodyPost_ret (v := .tuple #[.agg #[.int .i64 5, .int .i64 y0, .int .i64 y1, .int .i64 0, .slice none 0 0], .bool true]) ?_ rfl ⟨_, .slice none 0 0, by rw [unhide r]; rfl, lo_nil _, unhide fl 5, .inl (unhide r)⟩
        rw [results_cell_tmp rfl]
        go_simp
    · skip
      have i2 : ((n : Int) == 2) = false := by simp; omega
      have j2 : (n == 2) = false := by simp; omega
      rcases kk with rfl | rfl
      · skip
        have r : Hid (fillD 3 ns = none) := hide (by simp [fillD, ← hn, ln])
        replace b1 := hide b1
        replace hn := hide hn
        clear h4 hv
        go_enter Tryd.func41, Tryd.ntmps41
        go_wp2
        (try simp only [Exit.inBlock, Exit.then]); refine bodyPost_ret (v := .tuple #[.agg #[.int .i64 0, .int .i64 0, .int .i64 0, .int .i64 0, .slice none 0 0], .bool false]) ?_ rfl ⟨z0, .slice none 0 0, by rw [unhide r]; rfl, lo_nil _, unhide b1, .inr (unhide r)⟩
        rw [results_cell_tmp rfl]
        go_simp
      · skip
        have r : Hid (fillD 5 ns = none) := hide (by simp [fillD, ← hn, ln])
        replace b1 := hide b1
        replace hn := hide hn
        clear h4 hv
        go_enter Tryd.func41, Tryd.ntmps41
        go_wp2
        (try simp only [Exit.inBlock, Exit.then]); refine bodyPost_ret (v := .tuple #[.agg #[.int .i64 0, .int .i64 0, .int .i64 0, .int .i64 0, .slice none 0 0], .bool false]) ?_ rfl ⟨z0, .slice none 0 0, by rw [unhide r]; rfl, lo_nil _, unhide b1, .inr (unhide r)⟩
        rw [results_cell_tmp rfl]
        go_simp
  have k35 := kk
  clear kk
  by_cases k4 : k = 4
  · subst k4
    by_cases ln : 2 ≤ n
    · have r : Hid (fillD 4 ns = some ⟨4, ns.getD 0 0, ns.getD 1 0, 0, ns.drop 2⟩) := hide (by unfold fillD; rw [if_neg (fun h => k12 h.1), if_neg (fun h => k35 h.1), if_pos ⟨rfl, by omega⟩])
      have dn : decide (2 ≤ (n : Int)) = true := decide_eq_true (by omega)
      exact fill_calc ns a n cap w hv hn hs ln h1 h2
    · have dn : decide (2 ≤ (n : Int)) = false := decide_eq_false (by omega)
      have r : Hid (fillD 4 ns = none) := hide (by simp [fillD, ← hn, ln])
      replace b1 := hide b1
      replace hn := hide hn
      clear h4 hv
      go_enter Tryd.func41, Tryd.ntmps41
      go_wp2
      (try simp only [Exit.inBlock, Exit.then]); refine bodyPost_ret (v := .tuple #[.agg #[.int .i64 0, .int .i64 0, .int .i64 0, .int .i64 0, .slice none 0 0], .bool false]) ?_ rfl ⟨z0, .slice none 0 0, by rw [unhide r]; rfl, lo_nil _, unhide b1, .inr (unhide r)⟩
      rw [results_cell_tmp rfl]
      go_simp
  by_cases kk : k = 6 ∨ k = 7
  · by_cases ln : n = 0
    · have r : Hid (fillD k ns = some ⟨k, 0, 0, 0, []⟩) := hide (by unfold fillD; rw [if_neg (fun h => k12 h.1), if_neg (fun h => k35 h.1), if_neg (fun h => k4 h.1), if_pos ⟨kk, by omega⟩])
      subst ln
      have fl : ∀ q : Int, Below w.heap.size w (w.alloc (.cells #[.int .i64 q, .int .i64 0, .int .i64 0, .int .i64 0, .slice none 0 0] 32)) := fun q => below_new w _
      replace fl := hide fl
      clear h4 hv b1
      replace hn := hide hn
      rcases kk with rfl | rfl
      · go_enter Tryd.func41, Tryd.ntmps41
        go_wp2
        (try simp only [Exit.inBlock, Exit.then]); refine bodyPost_ret (v := .tuple #[.agg #[.int .i64 6, .int .i64 0, .int .i64 0, .int .i64 0, .slice none 0 0], .bool true]) ?_ rfl ⟨_, .slice none 0 0, by rw [unhide r]; rfl, lo_nil _, unhide fl 6, .inl (unhide r)⟩
        rw [results_cell_tmp rfl]
        go_simp
      · go_enter Tryd.func41, Tryd.ntmps41
        go_wp2
        (try simp only [Exit.inBlock, Exit.then]); refine bodyPost_ret (v := .tuple #[.agg #[.int .i64 7, .int .i64 0, .int .i64 0, .int .i64 0, .slice none 0 0], .bool true]) ?_ rfl ⟨_, .slice none 0 0, by rw [unhide r]; rfl, lo_nil _, unhide fl 7, .inl (unhide r)⟩
        rw [results_cell_tmp rfl]
        go_simp
    · skip
      have i0 : ((n : Int) == 0) = false := by simp; omega
      have j0 : (n == 0) = false := by simp; omega
      rcases kk with rfl | rfl
      · skip
        have r : Hid (fillD 6 ns = none) := hide (by simp [fillD, ← hn, ln])
        replace b1 := hide b1
        replace hn := hide hn
        clear h4 hv
        go_enter Tryd.func41, Tryd.ntmps41
        go_wp2
        (try simp only [Exit.inBlock, Exit.then]); refine bodyPost_ret (v := .tuple #[.agg #[.int .i64 0, .int .i64 0, .int .i64 0, .int .i64 0, .slice none 0 0], .bool false]) ?_ rfl ⟨z0, .slice none 0 0, by rw [unhide r]; rfl, lo_nil _, unhide b1, .inr (unhide r)⟩
        rw [results_cell_tmp rfl]
        go_simp
      · skip
        have r : Hid (fillD 7 ns = none) := hide (by simp [fillD, ← hn, ln])
        replace b1 := hide b1
        replace hn := hide hn
        clear h4 hv
        go_enter Tryd.func41, Tryd.ntmps41
        go_wp2
        (try simp only [Exit.inBlock, Exit.then]); refine bodyPost_ret (v := .tuple #[.agg #[.int .i64 0, .int .i64 0, .int .i64 0, .int .i64 0, .slice none 0 0], .bool false]) ?_ rfl ⟨z0, .slice none 0 0, by rw [unhide r]; rfl, lo_nil _, unhide b1, .inr (unhide r)⟩
        rw [results_cell_tmp rfl]
        go_simp
  have n1 : (k == 1) = false := by simp; omega
  have n2 : (k == 2) = false := by simp; omega
  have n3 : (k == 3) = false := by simp; omega
  have n5 : (k == 5) = false := by simp; omega
  have n4 : (k == 4) = false := by simp; omega
  have n6 : (k == 6) = false := by simp; omega
  have n7 : (k == 7) = false := by simp; omega
  have q12 : ¬ k = 1 ∧ ¬ k = 2 := by omega
  have q35 : ¬ k = 3 ∧ ¬ k = 5 := by omega
  have q67 : ¬ k = 6 ∧ ¬ k = 7 := by omega
  have r : Hid (fillD k ns = none) := hide (by simp [fillD, ← hn, q12, q35, q67, k4])
  replace b1 := hide b1
  replace hn := hide hn
  clear h4 hv
  go_enter Tryd.func41, Tryd.ntmps41
  go_wp2
  (try simp only [Exit.inBlock, Exit.then]); refine bodyPost_ret (v := .tuple #[.agg #[.int .i64 0, .int .i64 0, .int .i64 0, .int .i64 0, .slice none 0 0], .bool false]) ?_ rfl ⟨z0, .slice none 0 0, by rw [unhide r]; rfl, lo_nil _, unhide b1, .inr (unhide r)⟩
  rw [results_cell_tmp rfl]
  go_simp
end Go.Proofs.YtanieihnkajpdaaDoor
