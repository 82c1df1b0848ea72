/- What Path of package shape answers, and what the law's own 'first'. -/
import Derived.Test.YtkoaedhbjdbjdaaNodes
namespace Go.Proofs.Ytkoaedhbjdbjdaa
open Go.RowKit

/-- The word a's stripe, object and region, each counted from 0 on. -/
def sD (c : Cf) (a : Int) : Int := a / c.d
def oD (c : Cf) (a : Int) : Int := a / c.d / c.s
def rD (c : Cf) (a : Int) : Int := a / c.d / c.s / c.o
theorem div_in {a n m : Int} (h0 : 0 ≤ a) (h1 : a < n * m) (hm : 1 ≤ m) : 0 ≤ a / m ∧ a / m < n := ⟨Int.ediv_nonneg h0 (by omega), Int.ediv_lt_of_lt_mul (by omega) h1⟩
theorem s_in {c : Cf} (hp : Hp c) {a : Int} (h0 : 0 ≤ a) (h1 : a < nw c) : 0 ≤ sD c a ∧ sD c a < ns c := div_in h0 h1 hp.d1
theorem o_in {c : Cf} (hp : Hp c) {a : Int} (h0 : 0 ≤ a) (h1 : a < nw c) : 0 ≤ oD c a ∧ oD c a < no c := div_in (s_in hp h0 h1).1 (s_in hp h0 h1).2 hp.s1
theorem r_in {c : Cf} (hp : Hp c) {a : Int} (h0 : 0 ≤ a) (h1 : a < nw c) : 0 ≤ rD c a ∧ rD c a < c.r := div_in (o_in hp h0 h1).1 (o_in hp h0 h1).2 hp.o1
theorem level_s {c : Cf} (h : okB c = true) {n : Int} (h0 : 0 ≤ n) (h1 : n < ns c) : levelD c (c.r + no c + n) = 2 := by
  have hp := okB_hp h
  have := hp.r1; have := no_in hp
  exact level_2 (by omega) (by rw [nodes_ok h]; omega) (by omega) (by omega)
theorem level_o {c : Cf} (h : okB c = true) {n : Int} (h0 : 0 ≤ n) (h1 : n < no c) : levelD c (c.r + n) = 1 := by
  have hp := okB_hp h
  have := hp.r1; have := ns_in hp
  exact level_1 (by omega) (by rw [nodes_ok h]; omega) (by omega) (by omega)
theorem level_r {c : Cf} (h : okB c = true) {n : Int} (h0 : 0 ≤ n) (h1 : n < c.r) : levelD c n = 0 := by
  have hp := okB_hp h
  have := ns_in hp; have := no_in hp
  exact level_0 (by omega) (by rw [nodes_ok h]; omega) (by omega)
theorem parent_s {c : Cf} (h : okB c = true) {n : Int} (h0 : 0 ≤ n) (h1 : n < ns c) : parentD c (c.r + no c + n) = c.r + n / c.s := by
  have e : c.r + no c + n - (c.r + no c) = n := by omega
  simp [parentD, level_s h h0 h1, e]
theorem parent_o {c : Cf} (h : okB c = true) {n : Int} (h0 : 0 ≤ n) (h1 : n < no c) : parentD c (c.r + n) = n / c.o := by
  have e : c.r + n - c.r = n := by omega
  simp [parentD, level_o h h0 h1, e]
theorem parent_r {c : Cf} (h : okB c = true) {n : Int} (h0 : 0 ≤ n) (h1 : n < c.r) : parentD c n = -1 := by
  simp [parentD, level_r h h0 h1]
theorem latch_s {c : Cf} (h : okB c = true) {n : Int} (h0 : 0 ≤ n) (h1 : n < ns c) : latchD c (c.r + no c + n) = nw c + n * 8 := by
  have e : c.r + no c + n - (c.r + no c) = n := by omega
  simp [latchD, level_s h h0 h1, e]

theorem path_no (c : Cf) (a : Int) (w : World) (h : ¬ (0 ≤ a ∧ a < wordsD c)) : Calls Try.prog 9 #[cv c, .int .i64 a] w fun e w' => e = .returned (.tuple #[.int .i64 (0), .int .i64 (0), .int .i64 (0), .int .i64 (1)]) ∧ Below w.heap.size w w' := by
  by_cases h0 : a < 0
  · unfold cv
    go_enter Try.func9, Try.ntmps9
    go_wp2
    exact bodyPost_ret (v := .tuple #[.int .i64 (0), .int .i64 (0), .int .i64 (0), .int .i64 (1)]) (by simp [results, Try.results9, go_sem]) rfl ⟨rfl, below_new _ _⟩
  · have h1 : wordsD c ≤ a := by omega
    clear h
    unfold cv
    go_enter Try.func9, Try.ntmps9
    go_wp2_with fail
    refine (words_any c _).mono ?_
    rintro e w1 ⟨rfl, hb⟩
    have hl := below_call hb
    have hx := (bx_new c w).next hb
    go_wp2
    exact bodyPost_ret (v := .tuple #[.int .i64 (0), .int .i64 (0), .int .i64 (0), .int .i64 (1)]) (by simp [results, Try.results9, go_sem]) rfl ⟨rfl, hl⟩

theorem path_ok (c : Cf) (a : Int) (w : World) (h : okB c = true) (h0 : 0 ≤ a) (h1 : a < nw c) : Calls Try.prog 9 #[cv c, .int .i64 a] w fun e w' => e = .returned (.tuple #[.int .i64 (rD c a), .int .i64 (c.r + oD c a), .int .i64 (c.r + no c + sD c a), .int .i64 (0)]) ∧ Below w.heap.size w w' := by
  have hp := okB_hp h
  obtain ⟨s0, s1⟩ := s_in hp h0 h1
  obtain ⟨o0, o1⟩ := o_in hp h0 h1
  have h1 := hp.r1
  have h2 := hp.r8
  have g1 := hp.o1
  have g2 := hp.o8
  have g3 := hp.s1
  have g4 := hp.s8
  obtain ⟨h3, h4⟩ := no_in hp
  obtain ⟨h5, h6⟩ := ns_in hp
  obtain ⟨h7, h8⟩ := nw_in hp
  have d1 := hp.d1
  have f1 := parent_s h s0 s1
  have f2 := parent_o h o0 o1
  have E1 : Hid (parentD c (c.r + no c + sD c a) = c.r + oD c a) := f1
  have E2 : Hid (parentD c (c.r + oD c a) = rD c a) := f2
  have H := hide h
  clear f1 f2 h
  have q2 : IntKind.i64.wrap (a.tdiv c.d) = sD c a := IntWalk.i64_quo _ _ ⟨by omega, by omega, by omega⟩
  have q3 : c.d ≠ 0 := by omega
  have q6 : IntKind.i64.wrap (c.r + no c + sD c a) = c.r + no c + sD c a := kin (by omega) (by omega)
  unfold cv
  go_enter Try.func9, Try.ntmps9
  go_wp2_with fail
  refine (words_ok c _ (unhide H)).mono ?_
  rintro e w1 ⟨rfl, hb⟩
  have hl := below_call hb
  have hx := (bx_new c w).next hb
  obtain ⟨a0, a1, a2, a3, a4, a5, a6, a7, a8, a9, a10, a11⟩ := hx.cells
  go_wp2_with fail
  go_region_held3 (fun wz => wz.cell? ⟨w.heap.size, 0, none⟩ = some (.int .i64 c.r) ∧ wz.cell? ⟨w.heap.size, 1, none⟩ = some (.int .i64 c.o) ∧ wz.cell? ⟨w.heap.size, 2, none⟩ = some (.int .i64 c.s) ∧ wz.cell? ⟨w.heap.size, 3, none⟩ = some (.int .i64 c.d) ∧ wz.cell? ⟨w.heap.size, 4, none⟩ = some (.int .i64 c.t) ∧ wz.cell? ⟨w.heap.size, 5, none⟩ = some (.int .i64 c.l) ∧ wz.cell? ⟨w.heap.size, 6, none⟩ = some (.int .i64 c.g) ∧ wz.cell? ⟨w.heap.size, 7, none⟩ = some (.int .i64 c.k) ∧ wz.cell? ⟨w.heap.size, 8, none⟩ = some (.int .i64 c.u) ∧ wz.cell? ⟨w.heap.size, 9, none⟩ = some (.int .i64 c.e) ∧ wz.cell? ⟨w.heap.size, 10, none⟩ = some (.int .i64 c.i) ∧ wz.cell? ⟨w.heap.size, 11, none⟩ = some (.int .i64 c.p)) (first | exact hx3.cells | exact hx2.cells | exact hx1.cells | exact hx.drew.cells)
    (first
      | (go_at_call 25; refine (firstStripe_any c _ hp).mono ?_; rintro e wz ⟨rfl, hbz⟩; first | (have hx3 := hx2.next hbz; have hl3 := below_then hl2 hbz) | (have hx2 := hx1.next hbz; have hl2 := below_then hl1 hbz) | (have hx1 := hx.drew.next hbz; have hl1 := below_then hl.drew hbz)))
  obtain ⟨b0, b1, b2, b3, b4, b5, b6, b7, b8, b9, b10, b11⟩ := hx1.cells
  go_wp2_with fail
  refine (parent_any c (c.r + no c + sD c a) _).mono ?_
  rw [unhide E1]
  rintro e w3 ⟨rfl, hb3⟩
  have hl3 := below_then hl1 hb3
  have hx3 := hx1.next hb3
  obtain ⟨d0, d1, d2, d3, d4, d5, d6, d7, d8, d9, d10, d11⟩ := hx3.cells
  go_wp2_with fail
  refine (parent_any c (c.r + oD c a) _).mono ?_
  rw [unhide E2]
  rintro e w4 ⟨rfl, hb4⟩
  go_wp2
  exact bodyPost_ret (v := .tuple #[.int .i64 (rD c a), .int .i64 (c.r + oD c a), .int .i64 (c.r + no c + sD c a), .int .i64 (0)]) (by simp [results, Try.results9, go_sem]) rfl ⟨rfl, below_then hl3 hb4⟩

/-- One of each. -/
def one : Cf := ⟨1, 1, 1, 1, 1, 0, 1, 1, 1, 0, 1, 0⟩
theorem first_any (w : World) : Calls Try.prog 8 #[] w fun e w' => e = .returned (.bool true) ∧ Below w.heap.size w w' := by
  have e1 : Hid (errOf (okB one) = 0) := hide (by decide)
  have e2 : Hid (nodesD one = 3) := hide (by decide)
  have e3 : Hid (cellsD one = 9) := hide (by decide)
  have e4 : Hid (wordsD one = 1) := hide (by decide)
  go_enter Try.func8, Try.ntmps8
  go_wp2_with fail
  refine (check_any one _).mono ?_
  rw [unhide e1]
  rintro e w1 ⟨rfl, hb⟩
  have hx := (bx_new one w).next hb
  have hl := below_call hb
  obtain ⟨a0, a1, a2, a3, a4, a5, a6, a7, a8, a9, a10, a11⟩ := hx.cells
  go_wp2_with fail
  refine (nodes_any one _).mono ?_
  rw [unhide e2]
  rintro e w2 ⟨rfl, hb⟩
  have hx := hx.next hb
  have hl := below_then hl hb
  obtain ⟨b0, b1, b2, b3, b4, b5, b6, b7, b8, b9, b10, b11⟩ := hx.cells
  go_wp2_with fail
  refine (cells_any one _).mono ?_
  rw [unhide e3]
  rintro e w3 ⟨rfl, hb⟩
  have hx := hx.next hb
  have hl := below_then hl hb
  obtain ⟨d0, d1, d2, d3, d4, d5, d6, d7, d8, d9, d10, d11⟩ := hx.cells
  go_wp2_with fail
  refine (words_any one _).mono ?_
  rw [unhide e4]
  rintro e w4 ⟨rfl, hb⟩
  have hl := below_then hl hb
  go_wp2
  go_ret
  exact ⟨rfl, hl⟩

end Go.Proofs.Ytkoaedhbjdbjdaa
