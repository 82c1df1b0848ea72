/- A new table. -/
import Derived.Test.YtmdbmkekdpbliaaTabq
import Derived.Lib.SliceRun
namespace Go.Proofs.Ytmdbmkekdpbliaa
open Go.RowKit

/-- Nothing anywhere. -/
def none0 : Nat → Lv := fun _ => ([], [])
/-- The lanes so far: j of them, of the row of n that lies in block rb. -/
structure Nw (B n rb j : Nat) (lb : Nat → Nat) (w : World) : Prop where
  row : ∃ cur, w.heap[rb]? = some (.cells cur 95 (0, 0)) ∧ cur.size = n ∧ ∀ i, i < j → cur[i]? = some (.pointer (some ⟨lb i, 0, none⟩))
  ls : Ls B j none0 lb (fun _ => .slice none 0 0) (fun _ => .slice none 0 0) w
  rB : B ≤ rb
theorem nw_start {B n rb : Nat} {w : World} {cur : Array Value} (h : w.heap[rb]? = some (.cells cur 95 (0, 0))) (hc : cur.size = n) (hB : B ≤ rb) : Nw B n rb 0 (fun _ => 0) w :=
  ⟨⟨cur, h, hc, fun i hi => by omega⟩, ⟨fun i hi => by omega, fun i j hi => by omega, fun i j hi => by omega⟩, hB⟩
theorem La.set95 {B b rb j : Nat} {H Q : List En} {hv qv : Value} {w : World} {cur : Array Value} (l : La B H Q b hv qv w) (h : w.heap[rb]? = some (.cells cur 95 (0, 0))) (v : Value) : La B H Q b hv qv (w.setCell ⟨rb, j, none⟩ v) := by
  refine ⟨(set_other _ _ _ _ _ (fun e => ?_)).trans l.blk, l.hr.keep fun g hg => set_other _ _ _ _ _ (fun e => es_ne l.hr h (by decide) (by rw [← e]; exact hg)), l.qr.keep fun g hg => set_other _ _ _ _ _ (fun e => es_ne l.qr h (by decide) (by rw [← e]; exact hg)), l.dq, l.bB, l.srt⟩
  rw [← e, l.blk] at h
  cases h
theorem nw_step {B n rb j : Nat} {lb : Nat → Nat} {w w' : World} (h : Nw B n rb j lb w) (hj : j < n) (L : La w.heap.size [] [] w.heap.size (.slice none 0 0) (.slice none 0 0) w') (k : Below w.heap.size w w') :
    Nw B n rb (j + 1) (set1 lb j w.heap.size) (w'.setCell ⟨rb, j, none⟩ (.pointer (some ⟨w.heap.size, 0, none⟩))) ∧ (∃ x, w'.cell? ⟨rb, j, none⟩ = some x) ∧ w'.frozen? ⟨rb, j, none⟩ = false := by
  obtain ⟨⟨cur, h1, h2, h3⟩, hl, hB⟩ := h
  have hrl := heap_lt h1
  have h1' := (k.block rb hrl).trans h1
  have hset : (w'.setCell ⟨rb, j, none⟩ (.pointer (some ⟨w.heap.size, 0, none⟩))).heap[rb]? = some (.cells (cur.set! j (.pointer (some ⟨w.heap.size, 0, none⟩))) 95 (0, 0)) := by
    show (w'.heap.modify rb _)[rb]? = _
    rw [Array.getElem?_modify, if_pos rfl, h1']; rfl
  have hjc : j < cur.size := by omega
  have L2 : La B [] [] w.heap.size (.slice none 0 0) (.slice none 0 0) w' := ⟨L.blk, .inl ⟨rfl, rfl⟩, .inl ⟨rfl, rfl⟩, fun k hk => (by cases hk), by omega, List.Pairwise.nil⟩
  refine ⟨⟨⟨_, hset, by simp [h2], fun i hi => ?_⟩, ⟨fun i hi => ?_, fun i i' hi hi' e => ?_, fun i i' _ _ _ g hg => ?_⟩, hB⟩, ⟨cur[j], by simp [World.cell?, h1', hjc]⟩, by simp [World.frozen?, h1']⟩
  · by_cases e : i = j
    · subst e
      rw [set1_same]
      simp [hjc]
    · rw [set1_other lb _ e, ← h3 i (by omega)]
      simp [Ne.symm e]
  · by_cases e : i = j
    · subst e
      rw [set1_same]
      exact L2.set95 h1' _
    · rw [set1_other lb _ e]
      exact ((hl.la i (by omega)).next k).set95 h1' _
  · by_cases e1 : i = j
    · by_cases e2 : i' = j
      · omega
      · subst e1
        rw [set1_same, set1_other lb _ e2] at e
        have := (hl.la i' (by omega)).lt
        omega
    · by_cases e2 : i' = j
      · subst e2
        rw [set1_same, set1_other lb _ e1] at e
        have := (hl.la i (by omega)).lt
        omega
      · rw [set1_other lb _ e1, set1_other lb _ e2] at e
        exact hl.inj i i' (by omega) (by omega) e
  · rcases hg with hg | hg <;> cases hg
theorem nw_end {B n rb : Nat} {most : Int} {lb : Nat → Nat} {w : World} (h : Nw B n rb n lb w) (hBw : B ≤ w.heap.size) : Tb B n most none0 w.heap.size rb lb (fun _ => .slice none 0 0) (fun _ => .slice none 0 0) (w.alloc (.cells #[.slice (some ⟨rb, 0, none⟩) n n, .int .i64 most] 60)) := by
  have bn := below_new w (.cells #[.slice (some ⟨rb, 0, none⟩) n n, .int .i64 most] 60)
  obtain ⟨⟨cur, h1, _, h3⟩, hl, hB⟩ := h
  exact ⟨heap_alloc_new w _, ⟨cur, (bn.block rb (heap_lt h1)).trans h1, h3⟩, hl.next bn, hBw, hB⟩
theorem zero95 : (Try.prog.info? 95).map (fun i => (i.zero, i.size, i.bytes)) = some (some (.agg #[.pointer none]), 1, 8) := by kernel_rfl
theorem make95 (n : Nat) (hn : n ≤ 10000) (w : World) : (Instr.makeSlice 56 (.int .i64 (n : Int)) (.int .i64 (n : Int))).run Try.prog w = .ok (.slice (some ⟨w.heap.size, 0, none⟩) n n) (w.alloc (.cells (madeCells #[.pointer none] n) 95)) := by
  obtain ⟨i, hi, hz, hs, hb⟩ := info_parts zero95
  have := run_makeSlice (P := Try.prog) w 56 95 i _ Try.underlying56 hi hz .i64 .i64 (n : Int) (n : Int) (by omega) (Int.le_refl _) (by rw [hs]; omega) (by rw [hb]; omega) (by omega)
  simp only [Int.toNat_natCast, hs, Nat.mul_one] at this
  exact this
set_option maxRecDepth 100000 in
set_option maxHeartbeats 2000000 in
theorem newt_t (n : Nat) (most : Int) (w : World) (h1 : 1 ≤ n) (h2 : n ≤ 10000) (h3 : 1 ≤ most) (h4 : most ≤ 4096) :
    Calls Try.prog 29 #[.int .i64 (n : Int), .int .i64 most] w fun e w' => ∃ b rb lb, e = .returned (.tuple #[.pointer (some ⟨b, 0, none⟩), .int .i64 0]) ∧ Tb w.heap.size n most none0 b rb lb (fun _ => .slice none 0 0) (fun _ => .slice none 0 0) w' ∧ Below w.heap.size w w' := by
  have hmk := make95 n h2
  obtain ⟨W1, hW1⟩ : ∃ W1, W1 = w.alloc (.cells (madeCells #[.pointer none] n) 95) := ⟨_, rfl⟩
  obtain ⟨rb, hrb⟩ : ∃ rb, rb = w.heap.size := ⟨_, rfl⟩
  have N1 : Hid (Nw w.heap.size n rb 0 (fun _ => 0) W1) := by rw [hW1, hrb]; exact nw_start (heap_alloc_new w _) (by simp [size_madeCells]) (Nat.le_refl _)
  have B1 : Hid (Below w.heap.size w W1) := by rw [hW1]; exact below_new w _
  have hh1 : (n : Int) ≥ 1 := by omega
  have hh2 : (n : Int) ≤ 10000 := by omega
  go_enter Try.func29, Try.ntmps29
  go_wp2_with fail
  rw [← hW1, ← hrb]
  replace hW1 := hide hW1
  replace hrb := hide hrb
  clear hmk
  go_loopw [26] (fun s26 wr => ∃ (t : Nat) (lb : Nat → Nat), t ≤ n ∧ s26 = .int .i64 t ∧ Hid (Nw w.heap.size n rb t lb wr) ∧ Hid (Below w.heap.size w wr)) (fun s26 _ => n - (intOf s26).toNat)
  case atStart => exact ⟨0, _, Nat.zero_le _, rfl, unhide N1, unhide B1⟩
  case round =>
    obtain ⟨t, lb, ht, rfl, N3, b3⟩ := hrel
    by_cases hlt : t < n
    · go_wp2_with fail
      refine (new_any wr).mono ?_
      rintro e w5 ⟨rfl, L5, b5⟩
      obtain ⟨N5, ⟨x, k1⟩, k2⟩ := nw_step (unhide N3) hlt L5 b5
      have b6 := hide ((below_then (unhide b3) b5).setCell (p := ⟨rb, t, none⟩) (unhide N3).rB (.pointer (some ⟨wr.heap.size, 0, none⟩)))
      replace N5 := hide N5
      clear L5 b5
      go_wp2
      go_roundw
      case rel => exact ⟨t + 1, _, by omega, by go_num, unhide N5, unhide b6⟩
      case measure => simp [intOf]; omega
    · obtain rfl : t = n := by omega
      have E3 := hide (nw_end (most := most) (unhide N3) (unhide b3).size)
      have b6 := hide (below_add (unhide b3) (.cells #[.slice (some ⟨rb, 0, none⟩) t t, .int .i64 most] 60))
      go_wp2
      go_ret2
      exact ⟨_, rfl, ⟨_, _, unhide E3⟩, unhide b6⟩
theorem newt_bad (n most : Int) (w : World) (h : n < 1 ∨ (n ≤ 10000 ∧ 1 ≤ n ∧ most < 1) ∨ 10000 < n ∨ (1 ≤ n ∧ n ≤ 10000 ∧ 4096 < most)) :
    Calls Try.prog 29 #[.int .i64 n, .int .i64 most] w fun e w' => e = .returned (.tuple #[.pointer none, .int .i64 1]) ∧ w' = w := by
  rcases h with h | ⟨h, h2, h3⟩ | h | ⟨h, h2, h3⟩
  all_goals
    go_enter Try.func29, Try.ntmps29
    go_wp2
    go_ret2
    exact ⟨rfl, rfl⟩
end Go.Proofs.Ytmdbmkekdpbliaa
