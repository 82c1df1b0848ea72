/- What Level, Parent, Latch, Path of package shape answer. -/
import Derived.Test.YtlhmpkeljagihaaSizes
namespace Go.Proofs.Ytlhmpkeljagihaa
open Go.RowKit

def levelD (c : Cf) (n : Int) : Int := if n < 0 ∨ nodesD c ≤ n then -1 else if n < c.r then 0 else if n < c.r + no c then 1 else 2
def parentD (c : Cf) (n : Int) : Int := if levelD c n = 1 then (n - c.r) / c.o else if levelD c n = 2 then c.r + (n - (c.r + no c)) / c.s else -1
def latchD (c : Cf) (n : Int) : Int := if levelD c n = 2 then nw c + (n - (c.r + no c)) * 8 else -1
theorem nodes_pos {c : Cf} {n : Int} (h0 : 0 ≤ n) (h : n < nodesD c) : okB c = true := by
  cases e : okB c
  · simp [nodesD, e] at h; omega
  · rfl
theorem nodes_ok {c : Cf} (h : okB c = true) : nodesD c = c.r + no c + ns c := by simp [nodesD, h]
theorem words_eq {c : Cf} (h : okB c = true) : wordsD c = nw c := by simp [wordsD, h]
theorem words_pos {c : Cf} {a : Int} (h0 : 0 ≤ a) (h : a < wordsD c) : okB c = true := by
  cases e : okB c
  · simp [wordsD, e] at h; omega
  · rfl
theorem level_m {c : Cf} {n : Int} (h : n < 0 ∨ nodesD c ≤ n) : levelD c n = -1 := by unfold levelD; rw [if_pos h]
theorem level_0 {c : Cf} {n : Int} (h0 : 0 ≤ n) (h1 : n < nodesD c) (h : n < c.r) : levelD c n = 0 := by unfold levelD; rw [if_neg (by omega), if_pos h]
theorem level_1 {c : Cf} {n : Int} (h0 : 0 ≤ n) (h1 : n < nodesD c) (h : c.r ≤ n) (h2 : n < c.r + no c) : levelD c n = 1 := by unfold levelD; rw [if_neg (by omega), if_neg (by omega), if_pos h2]
theorem level_2 {c : Cf} {n : Int} (h0 : 0 ≤ n) (h1 : n < nodesD c) (h : c.r ≤ n) (h2 : c.r + no c ≤ n) : levelD c n = 2 := by unfold levelD; rw [if_neg (by omega), if_neg (by omega), if_neg (by omega)]
/-- The four ways. -/
theorem level_ways (c : Cf) (n : Int) : (levelD c n = -1 ∧ (n < 0 ∨ nodesD c ≤ n)) ∨ (0 ≤ n ∧ n < nodesD c ∧ okB c = true ∧ ((levelD c n = 0 ∧ n < c.r) ∨ (levelD c n = 1 ∧ c.r ≤ n ∧ n < c.r + no c) ∨ (levelD c n = 2 ∧ c.r ≤ n ∧ c.r + no c ≤ n))) := by
  by_cases h : n < 0 ∨ nodesD c ≤ n
  · exact .inl ⟨level_m h, h⟩
  · have h0 : 0 ≤ n := by omega
    have h1 : n < nodesD c := by omega
    refine .inr ⟨h0, h1, nodes_pos h0 h1, ?_⟩
    by_cases h2 : n < c.r
    · exact .inl ⟨level_0 h0 h1 h2, h2⟩
    · by_cases h3 : n < c.r + no c
      · exact .inr (.inl ⟨level_1 h0 h1 (by omega) h3, by omega, h3⟩)
      · exact .inr (.inr ⟨level_2 h0 h1 (by omega) (by omega), by omega, by omega⟩)

theorem level_any (c : Cf) (n : Int) (w : World) : Calls Try.prog 52 #[cv c, .int .i64 n] w fun e w' => e = .returned (.int .i64 (levelD c n)) ∧ Below w.heap.size w w' := by
  rcases level_ways c n with ⟨e0, h⟩ | ⟨h0, hn, hk, h⟩
  · rw [e0]
    clear e0
    by_cases h0 : n < 0
    · unfold cv
      go_enter Try.func52, Try.ntmps52
      go_wp2
      go_ret
      exact ⟨rfl, below_new _ _⟩
    · have h1 : nodesD c ≤ n := by omega
      clear h
      unfold cv
      go_enter Try.func52, Try.ntmps52
      go_wp2_with fail
      refine (nodes_any c _).mono ?_
      rintro e w1 ⟨rfl, hb⟩
      have hl := below_call hb
      have hx := (bx_new c w).next hb
      go_wp2
      go_ret
      exact ⟨rfl, hl⟩
  · have hp := okB_hp hk
    have H := hide hk
    clear hk
    rcases h with ⟨e0, h⟩ | ⟨e0, h, h'⟩ | ⟨e0, h, h'⟩
    · rw [e0]
      clear e0
      unfold cv
      go_enter Try.func52, Try.ntmps52
      go_wp2_with fail
      refine (nodes_any c _).mono ?_
      rintro e w1 ⟨rfl, hb⟩
      have hl := below_call hb
      have hx := (bx_new c w).next hb
      obtain ⟨a0, a1, a2, a3, a4, a5, a6, a7, a8, a9, a10, a11⟩ := hx.cells
      go_wp2_with fail
      refine (firstObject_any c _).mono ?_
      rintro e w2 ⟨rfl, hb2⟩
      have hl := below_then hl hb2
      have hx := hx.next hb2
      go_wp2
      go_ret
      exact ⟨rfl, hl⟩
    · rw [e0]
      clear e0
      unfold cv
      go_enter Try.func52, Try.ntmps52
      go_wp2_with fail
      refine (nodes_any c _).mono ?_
      rintro e w1 ⟨rfl, hb⟩
      have hl := below_call hb
      have hx := (bx_new c w).next hb
      obtain ⟨a0, a1, a2, a3, a4, a5, a6, a7, a8, a9, a10, a11⟩ := hx.cells
      go_wp2_with fail
      refine (firstObject_any c _).mono ?_
      rintro e w2 ⟨rfl, hb2⟩
      have hl := below_then hl hb2
      have hx := hx.next hb2
      obtain ⟨b0, b1, b2, b3, b4, b5, b6, b7, b8, b9, b10, b11⟩ := hx.cells
      go_wp2_with fail
      refine (firstStripe_any c _ hp).mono ?_
      rintro e w3 ⟨rfl, hb3⟩
      have hl := below_then hl hb3
      have hx := hx.next hb3
      go_wp2
      go_ret
      exact ⟨rfl, hl⟩
    · rw [e0]
      clear e0
      unfold cv
      go_enter Try.func52, Try.ntmps52
      go_wp2_with fail
      refine (nodes_any c _).mono ?_
      rintro e w1 ⟨rfl, hb⟩
      have hl := below_call hb
      have hx := (bx_new c w).next hb
      obtain ⟨a0, a1, a2, a3, a4, a5, a6, a7, a8, a9, a10, a11⟩ := hx.cells
      go_wp2_with fail
      refine (firstObject_any c _).mono ?_
      rintro e w2 ⟨rfl, hb2⟩
      have hl := below_then hl hb2
      have hx := hx.next hb2
      obtain ⟨b0, b1, b2, b3, b4, b5, b6, b7, b8, b9, b10, b11⟩ := hx.cells
      go_wp2_with fail
      refine (firstStripe_any c _ hp).mono ?_
      rintro e w3 ⟨rfl, hb3⟩
      have hl := below_then hl hb3
      have hx := hx.next hb3
      go_wp2
      go_ret
      exact ⟨rfl, hl⟩

theorem latch_any (c : Cf) (n : Int) (w : World) : Calls Try.prog 33 #[cv c, .int .i64 n] w fun e w' => e = .returned (.int .i64 (latchD c n)) ∧ Below w.heap.size w w' := by
  rcases level_ways c n with ⟨e0, h⟩ | ⟨h0, hn, hk, h⟩
  · have e1 : latchD c n = -1 := by simp [latchD, e0]
    rw [e1]
    have E0 := hide e0
    clear e0 e1
    unfold cv
    go_enter Try.func33, Try.ntmps33
    go_wp2_with fail
    refine (level_any c n _).mono ?_
    rw [unhide E0]
    rintro e w1 ⟨rfl, hb⟩
    have hl := below_call hb
    go_wp2
    go_ret
    exact ⟨rfl, hl⟩
  · have hp := okB_hp hk
    have h1 := hp.r1
    have h2 := hp.r8
    have g1 := hp.o1
    have g2 := hp.o8
    have g3 := hp.s1
    have g4 := hp.s8
    obtain ⟨h3, h4⟩ := no_in hp
    obtain ⟨h5, h6⟩ := ns_in hp
    obtain ⟨h7, h8⟩ := nw_in hp
    rw [nodes_ok hk] at hn
    have H := hide hk
    clear hk
    rcases h with ⟨e0, h⟩ | ⟨e0, h, h'⟩ | ⟨e0, h, h'⟩
    · have e1 : latchD c n = -1 := by simp [latchD, e0]
      rw [e1]
      have E0 := hide e0
      clear e0 e1
      unfold cv
      go_enter Try.func33, Try.ntmps33
      go_wp2_with fail
      refine (level_any c n _).mono ?_
      rw [unhide E0]
      rintro e w1 ⟨rfl, hb⟩
      have hl := below_call hb
      go_wp2
      go_ret
      exact ⟨rfl, hl⟩
    · have e1 : latchD c n = -1 := by simp [latchD, e0]
      rw [e1]
      have E0 := hide e0
      clear e0 e1
      unfold cv
      go_enter Try.func33, Try.ntmps33
      go_wp2_with fail
      refine (level_any c n _).mono ?_
      rw [unhide E0]
      rintro e w1 ⟨rfl, hb⟩
      have hl := below_call hb
      go_wp2
      go_ret
      exact ⟨rfl, hl⟩
    · have e1 : latchD c n = nw c + (n - (c.r + no c)) * 8 := by simp [latchD, e0]
      rw [e1]
      have E0 := hide e0
      clear e0 e1
      unfold cv
      go_enter Try.func33, Try.ntmps33
      go_wp2_with fail
      refine (level_any c n _).mono ?_
      rw [unhide E0]
      rintro e w1 ⟨rfl, hb⟩
      have hl := below_call hb
      have hx := (bx_new c w).next hb
      obtain ⟨a0, a1, a2, a3, a4, a5, a6, a7, a8, a9, a10, a11⟩ := hx.cells
      go_wp2_with fail
      go_region_held3 (fun wz => wz.cell? ⟨w.heap.size, 0, none⟩ = some (.int .i64 c.r) ∧ wz.cell? ⟨w.heap.size, 1, none⟩ = some (.int .i64 c.o) ∧ wz.cell? ⟨w.heap.size, 2, none⟩ = some (.int .i64 c.s) ∧ wz.cell? ⟨w.heap.size, 3, none⟩ = some (.int .i64 c.d) ∧ wz.cell? ⟨w.heap.size, 4, none⟩ = some (.int .i64 c.t) ∧ wz.cell? ⟨w.heap.size, 5, none⟩ = some (.int .i64 c.l) ∧ wz.cell? ⟨w.heap.size, 6, none⟩ = some (.int .i64 c.g) ∧ wz.cell? ⟨w.heap.size, 7, none⟩ = some (.int .i64 c.k) ∧ wz.cell? ⟨w.heap.size, 8, none⟩ = some (.int .i64 c.u) ∧ wz.cell? ⟨w.heap.size, 9, none⟩ = some (.int .i64 c.e) ∧ wz.cell? ⟨w.heap.size, 10, none⟩ = some (.int .i64 c.i) ∧ wz.cell? ⟨w.heap.size, 11, none⟩ = some (.int .i64 c.p)) (first | exact hx3.cells | exact hx2.cells | exact hx1.cells | exact hx.drew.cells)
        (first
          | (go_at_call 49; refine (words_ok c _ (unhide H)).mono ?_; rintro e wz ⟨rfl, hbz⟩; first | (have hx3 := hx2.next hbz; have hl3 := below_then hl2 hbz) | (have hx2 := hx1.next hbz; have hl2 := below_then hl1 hbz) | (have hx1 := hx.drew.next hbz; have hl1 := below_then hl.drew hbz))
            | (go_at_call 53; refine (firstStripe_any c _ hp).mono ?_; rintro e wz ⟨rfl, hbz⟩; first | (have hx3 := hx2.next hbz; have hl3 := below_then hl2 hbz) | (have hx2 := hx1.next hbz; have hl2 := below_then hl1 hbz) | (have hx1 := hx.drew.next hbz; have hl1 := below_then hl.drew hbz)))
      all_goals
        go_wp2
        go_ret
        exact ⟨ret_int (by simp only [IntKind.wrap_i64]; omega), hl2⟩

end Go.Proofs.Ytlhmpkeljagihaa
