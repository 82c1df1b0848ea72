/- Texts of this claim, put together in their order. -/
import Derived.RangeFuncNested
import Derived.RangeFuncBound
import Derived.RangeFuncCalls
import Derived.RangeFuncLeaves
import Derived.Shelf.Abstract
import Derived.Shelf.RegionOpen
import Derived.OwnWalkIn
import Derived.TacticsInMore
import Derived.LoopNIn
import Derived.LoopIn
import Derived.Shelf.SlSortCmp.WholeK
import Derived.Shelf.SlSortCmp.NoneTotal
import Derived.Shelf.SlLaysF0
import Derived.Ground.SlsfProg
import Derived.Test.YtjgepcifknmdhaaProg
import Derived.Test.YtjgepcifknmdhaaRows
import Derived.Test.YtjgepcifknmdhaaBase1
/- The library's BinarySearch at numbers; anyIn, Without. -/
namespace Go.Proofs.Ytjgepcifknmdhaa
open Go.RowKit

set_option maxRecDepth 100000 in
theorem snan_any (a : Int) (w : World) : Calls Try.prog 63 #[.int .i64 a] w fun e w' => e = .returned (.bool false) ∧ w' = w := by
  go_enter Try.func63, Try.ntmps63
  go_wp2
  go_ret
  exact ⟨by simp, rfl⟩
set_option maxRecDepth 100000 in
theorem less_any (a b : Int) (w : World) : Calls Try.prog 62 #[.int .i64 a, .int .i64 b] w fun e w' => e = .returned (.bool (decide (a < b))) ∧ w' = w := by
  by_cases h : a < b
  · go_enter Try.func62, Try.ntmps62
    go_wp2_with (go_at_call 75; refine (nan_any _ _).mono ?_; rintro e w' ⟨rfl, rfl⟩)
    all_goals (go_ret; exact ⟨ret_bool (by simp [h]), rfl⟩)
  · go_enter Try.func62, Try.ntmps62
    go_wp2_with (go_at_call 75; refine (nan_any _ _).mono ?_; rintro e w' ⟨rfl, rfl⟩)
    all_goals (go_ret; exact ⟨rfl, rfl⟩)
/-- Rising, each once. -/
def Up (l : List Int) : Prop := l.Pairwise (· < ·)
theorem up_lt {l : List Int} (h : Up l) {i j : Nat} (hij : i < j) (hj : j < l.length) : l.getD i 0 < l.getD j 0 := by
  have := List.pairwise_iff_getElem.1 h i j (by omega) hj hij
  simpa [List.getD, hj, show i < l.length by omega] using this
theorem mem_at {l : List Int} {x : Int} (h : x ∈ l) : ∃ i, i < l.length ∧ l.getD i 0 = x := by
  obtain ⟨j, hj, e⟩ := List.getElem_of_mem h
  exact ⟨j, hj, by simp [List.getD, hj, e]⟩
theorem at_mem {l : List Int} {i : Nat} (h : i < l.length) : l.getD i 0 ∈ l := by
  rw [show l.getD i 0 = l[i] by simp [List.getD, h]]
  exact List.getElem_mem h
/-- Where k stands, or would stand. -/
def Stand (k : Int) (l : List Int) (i : Nat) : Prop := i ≤ l.length ∧ (∀ t, t < i → l.getD t 0 < k) ∧ (∀ t, i ≤ t → t < l.length → k ≤ l.getD t 0)
theorem stand_in {k : Int} {l : List Int} (hu : Up l) {i : Nat} (h : Stand k l i) (hk : k ∈ l) : i < l.length ∧ l.getD i 0 = k := by
  obtain ⟨h1, h2, h3⟩ := h
  obtain ⟨j, hj, e⟩ := mem_at hk
  by_cases h4 : j < i
  · have := h2 j h4; omega
  · have h5 := h3 i (Nat.le_refl _) (by omega)
    refine ⟨by omega, ?_⟩
    by_cases h6 : j = i
    · rw [← h6]; exact e
    · have := up_lt hu (show i < j by omega) hj
      omega
theorem stand_at {k : Int} {l : List Int} (hu : Up l) {i p : Nat} (h : Stand k l i) (hp : p < l.length) (e : l.getD p 0 = k) : i = p := by
  obtain ⟨h1, h2, h3⟩ := h
  rcases Nat.lt_trichotomy i p with q | q | q
  · have := h3 i (Nat.le_refl _) (by omega)
    have := up_lt hu q hp
    omega
  · exact q
  · have := h2 p q; omega
theorem stand_out {k : Int} {l : List Int} (hu : Up l) {i : Nat} (h : Stand k l i) (e : l.getD i 0 ≠ k) : k ∉ l := by
  intro hk
  exact e (stand_in hu h hk).2
set_option maxRecDepth 100000 in
set_option maxHeartbeats 2000000 in
theorem search_i (w : World) {v : Value} {l : List Int} (h : Rd w v l) (hu : Up l) (k : Int) (hn : l.length < 1000000) :
    Calls Try.prog 40 #[v, .int .i64 k] w fun e w' => ∃ i : Nat, e = .returned (.tuple #[.int .i64 i, .bool (decide (k ∈ l))]) ∧ Hid (Stand k l i) ∧ w' = w := by
  obtain ⟨a, cap, rfl, hs⟩ := h
  have HS := hide hs
  have HU := hide hu
  clear hs hu
  go_enter Try.func40, Try.ntmps40
  go_wp2
  go_loop [7, 8] (fun s9 s10 => ∃ i j : Nat, i ≤ j ∧ j ≤ l.length ∧ s9 = .int .i64 i ∧ s10 = .int .i64 j ∧ Hid (∀ t, t < i → l.getD t 0 < k) ∧ Hid (∀ t, j ≤ t → t < l.length → k ≤ l.getD t 0)) (fun s9 s10 => (intOf s10).toNat - (intOf s9).toNat)
  case atStart => exact ⟨0, l.length, Nat.zero_le _, Nat.le_refl _, rfl, rfl, fun t ht => absurd ht (by omega), fun t h1 h2 => absurd h1 (by omega)⟩
  case round =>
    obtain ⟨i, j, hij, hj, rfl, rfl, I1, I2⟩ := hrel
    by_cases hlt : i < j
    · obtain ⟨m, hm⟩ : ∃ m : Nat, m = (i + j) / 2 := ⟨_, rfl⟩
      have hmi : i ≤ m := by omega
      have hmj : m < j := by omega
      have hmd : ((i : Int) + (j : Int)) / 2 = (m : Int) := by omega
      clear hm
      obtain ⟨g, o, rfl, c1⟩ := seg_at (unhide HS) (i := m) (by omega)
      obtain ⟨x, hx⟩ : ∃ x, x = l.getD m 0 := ⟨_, rfl⟩
      rw [← hx] at c1
      have hml : m < l.length := by omega
      have Hx := hide hx
      clear hx
      by_cases hk : x < k
      · have Hk := hide hk
        have e1 : decide (x < k) = true := by simpa using hk
        go_wp2_with fail
        refine (less_any x k _).mono ?_
        rw [e1]
        rintro e w' ⟨rfl, rfl⟩
        clear e1 hk
        go_wp2
        go_round
        case rel => exact ⟨m + 1, j, by omega, hj, by go_num, rfl, fun t ht => by
          rcases (show t < m ∨ t = m by omega) with h | rfl
          · exact Int.lt_trans (up_lt (unhide HU) h hml) (by rw [← unhide Hx]; exact unhide Hk)
          · rw [← unhide Hx]; exact unhide Hk, I2⟩
        case measure => simp [intOf]; omega
      · have Hk := hide hk
        have e1 : decide (x < k) = false := by simpa using hk
        go_wp2_with fail
        refine (less_any x k _).mono ?_
        rw [e1]
        rintro e w' ⟨rfl, rfl⟩
        clear e1 hk
        go_wp2
        go_round
        case rel => exact ⟨i, m, hmi, by omega, rfl, rfl, I1, fun t h1 h2 => by
          have hk := unhide Hk
          rw [unhide Hx] at hk
          rcases (show t = m ∨ m < t by omega) with rfl | h
          · omega
          · have := up_lt (unhide HU) h h2; omega⟩
        case measure => simp [intOf]; omega
    · obtain rfl : i = j := by omega
      have st : Hid (Stand k l i) := ⟨hj, unhide I1, unhide I2⟩
      by_cases hl : i < l.length
      · obtain ⟨g, o, rfl, c1⟩ := seg_at (unhide HS) (i := i) hl
        obtain ⟨x, hx⟩ : ∃ x, x = l.getD i 0 := ⟨_, rfl⟩
        rw [← hx] at c1
        by_cases he : x = k
        · have r : Hid (decide (k ∈ l) = true) := by show _ = _; rw [← he, hx]; simpa using at_mem hl
          subst he
          clear hx
          go_wp2
          go_ret2
          exact ⟨i, by rw [unhide r]; rfl, st, rfl⟩
        · have r : Hid (decide (k ∈ l) = false) := by
            show _ = _
            simpa using stand_out (unhide HU) (unhide st) (by rw [← hx]; exact he)
          have he2 : (x == k) = false := by simpa using he
          clear hx he
          go_wp2_with (go_at_call 63; refine (snan_any _ _).mono ?_; rintro e w' ⟨rfl, rfl⟩)
          go_ret2
          exact ⟨i, by rw [unhide r]; rfl, st, rfl⟩
      · obtain rfl : i = l.length := by omega
        have r : Hid (decide (k ∈ l) = false) := by
          show _ = _
          simpa using fun hk => absurd (stand_in (unhide HU) (unhide st) hk).1 (by omega)
        go_wp2
        go_ret2
        exact ⟨l.length, by rw [unhide r]; rfl, st, rfl⟩

set_option maxRecDepth 100000 in
theorem clos36 (w : World) {v : Value} {l : List Int} (pt : Addr) (hp : w.cell? pt = some v) (h : Rd w v l) (hu : Up l) (hn : l.length < 1000000) (x : Int) :
    Calls Try.prog 50 #[.int .i64 x, .pointer (some pt)] w fun e w' => e = .returned (.bool (decide (x ∈ l))) ∧ w' = w := by
  have C := hide (search_i w h hu x hn)
  obtain ⟨a, cap, rfl, _⟩ := h
  clear hu
  generalize l.length = n at *
  go_enter Try.func50, Try.ntmps50
  go_wp2_with fail
  refine (unhide C).mono ?_
  rintro e w1 ⟨i, rfl, _, rfl⟩
  go_wp2
  go_ret
  exact ⟨rfl, rfl⟩
set_option maxRecDepth 100000 in
theorem index36 (w : World) {v : Value} {l : List Int} (pt : Addr) (hp : w.cell? pt = some v) (h : Rd w v l) (hu : Up l) (hn : l.length < 1000000) {u : Value} {m : List Int} (hm : Rd w u m) (hn2 : m.length < 1000000) :
    Calls Try.prog 71 #[u, .func (.func 50) #[] #[.pointer (some pt)]] w fun e w' => (∃ i : Int, e = .returned (.int .i64 i) ∧ decide (0 ≤ i) = m.any (fun x => decide (x ∈ l))) ∧ w' = w := by
  have C : Hid (∀ x, Calls Try.prog 50 #[.int .i64 x, .pointer (some pt)] w fun e w' => e = .returned (.bool (decide (x ∈ l))) ∧ w' = w) := fun x => clos36 w pt hp h hu hn x
  obtain ⟨a, cap, rfl, hs⟩ := hm
  have HS := hide hs
  clear hs h hu hp
  go_enter Try.func71, Try.ntmps71
  go_wp2
  go_loop [8] (fun s8 => ∃ i : Nat, i ≤ m.length ∧ s8 = .int .i64 i ∧ Hid (∀ t, t < i → m.getD t 0 ∉ l)) (fun s8 => m.length - (intOf s8).toNat)
  case atStart => exact ⟨0, Nat.zero_le _, rfl, fun t ht => absurd ht (by omega)⟩
  case round =>
    obtain ⟨i, hi, rfl, I1⟩ := hrel
    by_cases hlt : i < m.length
    · obtain ⟨g, o, rfl, c1⟩ := seg_at (unhide HS) (i := i) hlt
      obtain ⟨x, hx⟩ : ∃ x, x = m.getD i 0 := ⟨_, rfl⟩
      rw [← hx] at c1
      have Hx := hide hx
      clear hx
      obtain ⟨q, hq⟩ : ∃ q, q = decide (x ∈ l) := ⟨_, rfl⟩
      have C2 := hide (unhide C x)
      rw [← hq] at C2
      have Hq := hide hq
      clear hq
      go_wp2_with fail
      refine (unhide C2).mono ?_
      rintro e w' ⟨rfl, rfl⟩
      cases q
      · go_wp2
        go_round
        case rel => exact ⟨i + 1, by omega, by go_num, fun t ht => by
          rcases (show t < i ∨ t = i by omega) with h | rfl
          · exact unhide I1 t h
          · rw [← unhide Hx]; simpa using (unhide Hq).symm⟩
        case measure => simp [intOf]; omega
      · have r : Hid (m.any (fun x => decide (x ∈ l)) = true) := by
          show _ = _
          rw [List.any_eq_true]
          exact ⟨_, at_mem hlt, by rw [← unhide Hx]; exact (unhide Hq).symm⟩
        go_wp2
        go_ret
        exact ⟨⟨_, rfl, by rw [unhide r]; simp⟩, rfl⟩
    · have r : Hid (m.any (fun x => decide (x ∈ l)) = false) := by
        show _ = _
        rw [List.any_eq_false]
        intro x hx
        obtain ⟨t, ht, e⟩ := mem_at hx
        rw [← e]
        simpa using unhide I1 t (by omega)
      go_wp2
      go_ret
      exact ⟨⟨_, rfl, by rw [unhide r]; simp⟩, rfl⟩
set_option maxRecDepth 100000 in
theorem contains36 (w : World) {v : Value} {l : List Int} (pt : Addr) (hp : w.cell? pt = some v) (h : Rd w v l) (hu : Up l) (hn : l.length < 1000000) {u : Value} {m : List Int} (hm : Rd w u m) (hn2 : m.length < 1000000) :
    Calls Try.prog 49 #[u, .func (.func 50) #[] #[.pointer (some pt)]] w fun e w' => e = .returned (.bool (m.any (fun x => decide (x ∈ l)))) ∧ w' = w := by
  have C := hide (index36 w pt hp h hu hn hm hn2)
  obtain ⟨q, hq⟩ : ∃ q, q = m.any (fun x => decide (x ∈ l)) := ⟨_, rfl⟩
  rw [← hq] at C ⊢
  clear hq hm h hu hp hn2 hn
  go_enter Try.func49, Try.ntmps49
  go_wp2_with fail
  refine (unhide C).mono ?_
  rintro e w' ⟨⟨i, rfl, hi⟩, rfl⟩
  replace hi := hide hi
  go_wp2
  go_ret
  exact ⟨ret_bool (unhide hi), rfl⟩
set_option maxRecDepth 100000 in
/-- Is one of two among numbers that rise? -/
theorem anyin_any (w : World) {v : Value} {l : List Int} (h : Rd w v l) (hu : Up l) (hn : l.length < 1000000) (x y : Int) (N : Nat) (W : World) (hN : N = w.heap.size) (hW : W = w.alloc (.cells #[.int .i64 x, .int .i64 y] 3)) :
    Calls Try.prog 35 #[v, .slice (some ⟨N, 0, none⟩) 2 2] W fun e w' => e = .returned (.bool (decide (x ∈ l) || decide (y ∈ l))) ∧ Below w.heap.size w w' := by
  subst hN hW
  have b1 := below_new w (.cells #[.int .i64 x, .int .i64 y] 3)
  obtain ⟨W1, hW1⟩ : ∃ W1, W1 = w.alloc (.cells #[.int .i64 x, .int .i64 y] 3) := ⟨_, rfl⟩
  have hm : Rd W1 (.slice (some ⟨w.heap.size, 0, none⟩) 2 2) [x, y] := by rw [hW1]; exact ⟨_, 2, rfl, seg_new w [x, y]⟩
  rw [← hW1] at b1 ⊢
  have b2 := below_new W1 (.cells #[v] 23)
  have b3 := hide (below_then b1 b2)
  have C := hide (contains36 (W1.alloc (.cells #[v] 23)) ⟨W1.heap.size, 0, none⟩ (by rw [World.cell?_alloc_new]; rfl) ((h.next b1).next b2) hu hn (hm.next b2) (by simp))
  have e : [x, y].any (fun z => decide (z ∈ l)) = (decide (x ∈ l) || decide (y ∈ l)) := by simp
  rw [e] at C
  clear e
  obtain ⟨q, hq⟩ : ∃ q, q = (decide (x ∈ l) || decide (y ∈ l)) := ⟨_, rfl⟩
  rw [← hq] at C ⊢
  obtain ⟨a, cap, rfl, _⟩ := h
  clear hq hm hu b1 b2
  replace hW1 := hide hW1
  generalize l.length = n at *
  go_enter Try.func35, Try.ntmps35
  go_wp2_with fail
  refine (unhide C).mono ?_
  rintro e w' ⟨rfl, rfl⟩
  go_wp2
  go_ret
  exact ⟨rfl, unhide b3⟩
/-- Those edges that name none of them. -/
def woL (gone : List Int) (l : List En) : List En := l.filter (fun e => !(decide (e.1 ∈ gone) || decide (e.2 ∈ gone)))
theorem wol_succ (gone : List Int) (l : List En) (t : Nat) (ht : t < l.length) : woL gone (l.take (t + 1)) = woL gone (l.take t) ++ (if (decide ((l.getD t (0, 0)).1 ∈ gone) || decide ((l.getD t (0, 0)).2 ∈ gone)) = true then [] else [l.getD t (0, 0)]) := by
  unfold woL
  rw [List.take_succ_eq_append_getElem ht, List.filter_append]
  have e : l.getD t (0, 0) = l[t] := by simp [List.getD, ht]
  rw [e]
  cases h : (decide (l[t].1 ∈ gone) || decide (l[t].2 ∈ gone)) <;> simp [List.filter, h]
theorem wol_le (gone : List Int) (l : List En) : (woL gone l).length ≤ l.length := List.length_filter_le _ _
theorem wol_mem {gone : List Int} {l : List En} {e : En} : e ∈ woL gone l ↔ e ∈ l ∧ e.1 ∉ gone ∧ e.2 ∉ gone := by
  unfold woL
  rw [List.mem_filter]
  simp
theorem inf39 : (Try.prog.info? 41).map (fun i => (i.zero, i.size, i.bytes)) = some (some (.agg #[.int .i64 0, .int .i64 0]), 2, 16) := by kernel_rfl
set_option maxRecDepth 100000 in
set_option maxHeartbeats 1000000 in
theorem without_any (w : World) {u v : Value} {gone : List Int} {l : List En} (hg : Rd w u gone) (hz : Nz u) (hgn : gone.length ≤ 1500) (h : Re w v l) (hn : l.length ≤ 700) :
    Calls Try.prog 17 #[u, v] w fun e w' => ∃ v', e = .returned v' ∧ Pr 41 w.heap.size v' (woL gone l) w' ∧ Below w.heap.size w w' := by
  have hc : ∀ x, x ∈ canon gone ↔ x ∈ gone := (canon_facts gone).1
  have hu : Hid (Up (canon gone)) := (canon_facts gone).2
  have hcl : Hid ((canon gone).length < 1000000) := by
    show _ < _
    have h1 := Lib.compact_length_le (sortI gone)
    have h2 := sortI_len gone
    unfold canon
    omega
  have C := hide (rising_any w hg hz hgn)
  obtain ⟨a, cap, rfl⟩ := h.form
  have R := hide h
  replace hc := hide hc
  clear h hg hz
  generalize canon gone = cg0 at *
  go_enter Try.func17, Try.ntmps17
  go_wp2_with fail
  refine (unhide C).mono ?_
  rintro e w1 ⟨v1, rfl, I1, b1⟩
  replace I1 := hide I1
  replace b1 := hide b1
  go_wp2
  go_loopw [6, 13] (fun s6 s13 wr => ∃ (t k : Nat) (ag : Option Addr) (cg : Nat), t ≤ l.length ∧ k ≤ t ∧ s6 = .slice ag k cg ∧ s13 = .int .i64 t ∧ Hid ((woL gone (l.take t)).length = k) ∧ Hid (Pr 41 w1.heap.size (.slice ag k cg) (woL gone (l.take t)) wr) ∧ Hid (Below w1.heap.size w1 wr)) (fun _ s13 _ => l.length - (intOf s13).toNat)
  case atStart => exact ⟨0, 0, none, 0, Nat.zero_le _, Nat.le_refl _, rfl, rfl, rfl, Pr.nil _ _ _, Below.refl _ _⟩
  case round =>
    obtain ⟨t, k, ag, cg, ht, hk, rfl, rfl, hl3, I3, b3⟩ := hrel
    have hk9 : k < 10000000 := by omega
    by_cases hlt : t < l.length
    · obtain ⟨g, o, rfl, _, d1, d2⟩ := (((unhide R).next (unhide b1)).next (unhide b3)).at hlt
      obtain ⟨x, hx⟩ : ∃ x, x = l.getD t (0, 0) := ⟨_, rfl⟩
      have hs := wol_succ gone l t hlt
      rw [← hx] at d1 d2 hs
      replace hx := hide hx
      have hq : (decide (x.1 ∈ gone) || decide (x.2 ∈ gone)) = (decide (x.1 ∈ cg0) || decide (x.2 ∈ cg0)) := by simp only [unhide hc]
      rw [hq] at hs
      obtain ⟨W1, hW1⟩ : ∃ W1, W1 = wr.alloc (.cells #[.int .i64 x.1, .int .i64 x.2] 41) := ⟨_, rfl⟩
      have bW : Below wr.heap.size wr W1 := by rw [hW1]; exact below_new wr _
      have X1 : W1.heap[wr.heap.size]? = some (.cells #[.int .i64 x.1, .int .i64 x.2] 41 (0, 0)) := by rw [hW1]; exact heap_alloc_new wr _
      have I2 : Rd W1 v1 cg0 := (((unhide I1).rd).next (unhide b3)).next bW
      have C2 := hide (anyin_any W1 I2 (unhide hu) (unhide hcl) x.1 x.2 W1.heap.size _ rfl rfl)
      have hsz : W1.heap.size = wr.heap.size + 1 := by rw [hW1]; simp
      have hsz2 := hide hsz
      rw [hsz] at C2
      have I4 := hide ((unhide I3).next bW)
      have b4 := hide (below_then (unhide b3) bW)
      have bW2 := hide bW
      clear I2 bW hq hsz
      obtain ⟨q, hq⟩ : ∃ q, q = (decide (x.1 ∈ cg0) || decide (x.2 ∈ cg0)) := ⟨_, rfl⟩
      rw [← hq] at C2 hs
      clear hq
      replace hs := hide hs
      replace X1 := hide X1
      go_wp2_with fail
      rw [← hW1]
      refine (unhide C2).mono ?_
      rintro e w5 ⟨rfl, b5⟩
      rw [← unhide hsz2] at b5
      have x5 := (b5.block _ (heap_lt (unhide X1))).trans (unhide X1)
      have d3 : w5.cell? ⟨wr.heap.size, 0, none⟩ = some (.int .i64 x.1) := by simp [World.cell?, x5]
      have d4 : w5.cell? ⟨wr.heap.size, 1, none⟩ = some (.int .i64 x.2) := by simp [World.cell?, x5]
      have I5 := hide ((unhide I4).next b5)
      have b6 := hide (below_then (unhide b4) b5)
      have hb6 : Hid (w1.heap.size ≤ w5.heap.size) := (unhide b6).size
      replace hW1 := hide hW1
      clear b5 x5 d1 d2
      cases q
      · have hs2 := unhide hs
        rw [if_neg (by decide)] at hs2
        replace hs2 := hide hs2
        go_wp2_with (at_builtin; refine wpList_pair 41 22 Try.underlying22 inf39 w5 rfl (.tmp 25) (.tmp 27) rfl w1.heap.size ag k cg _ x _ rfl rfl rfl (unhide hl3) (unhide I5) (unhide hb6) hk9 ?_; intro g7 cap7 w7 a1 a2; replace a1 := hide a1; replace a2 := hide a2)
        go_roundw
        case rel => exact ⟨t + 1, k + 1, some ⟨g7, 0, none⟩, cap7, by omega, by omega, rfl, by go_num, by
          show _ = _
          rw [unhide hs2, List.length_append, unhide hl3]; rfl, by rw [unhide hs2]; exact unhide a1, (unhide b6).trans (grown_below (unhide a2) (unhide b6).size (fun j hj => ((unhide I5).lt j hj).1))⟩
        case measure => simp [intOf]; omega
      · have hs2 := unhide hs
        rw [if_pos rfl, List.append_nil] at hs2
        replace hs2 := hide hs2
        go_wp2
        go_roundw
        case rel => exact ⟨t + 1, k, ag, cg, by omega, by omega, rfl, by go_num, by rw [unhide hs2]; exact unhide hl3, by rw [unhide hs2]; exact unhide I5, unhide b6⟩
        case measure => simp [intOf]; omega
    · obtain rfl : t = l.length := by omega
      rw [List.take_length] at I3 hl3
      have b6 := hide ((unhide b1).trans ((unhide b3).mono (unhide b1).size))
      have I6 := hide ((unhide I3).down (unhide b1).size)
      go_wp2
      go_ret
      exact ⟨_, rfl, unhide I6, unhide b6⟩
end Go.Proofs.Ytjgepcifknmdhaa

/- slices.Values, Collect, AppendSeq, SortedFunc at edges. -/
namespace Go.Proofs.Ytjgepcifknmdhaa
open Go.RowKit Go.Shelf

attribute [local go_sem] Oper.semAt_some

/-- All cells stay. -/
def Cz (W W' : World) : Prop := ∀ (k : Nat) (cur : Array Value) (t : TypeId) (f : Nat × Nat), W.heap[k]? = some (.cells cur t f) → W'.heap[k]? = some (.cells cur t f)
theorem cz_own {B : Nat} {W W' : World} {row : Option Nat} (hg : W.grownBy W' row) (hr : ∀ r, row = some r → B ≤ r ∧ ∃ o : Obj, W.heap[r]? = some o ∧ o.isCells = false) : Cz W W' := fun k cur t f hk =>
  (hg.block k (heap_lt hk) (fun e => by
    obtain ⟨_, o, ho, hc⟩ := hr k e.symm
    rw [hk] at ho
    cases ho
    cases hc)).trans hk
theorem Pr.cz {t : TypeId} {B : Nat} {v : Value} {l : List En} {w w' : World} (h : Pr t B v l w) (k : Cz w w') : Pr t B v l w' := h.keep fun g hg => by
  obtain ⟨cur, hc⟩ := h.ty g hg
  rw [k g _ _ _ hc, hc]
theorem Is.cz {B : Nat} {v : Value} {l : List Int} {w w' : World} (h : Is B v l w) (k : Cz w w') : Is B v l w' := h.keep fun g hg => by
  obtain ⟨cur, hc⟩ := h.ty g hg
  rw [k g _ _ _ hc, hc]
theorem not_cells {o : Obj} {cur : Array Value} {t : TypeId} {f : Nat × Nat} (h : o = .cells cur t f) (ho : o.isCells = false) : False := by
  subst h; cases ho
theorem below_others {w w' : World} (h : Below w.heap.size w w') : KeepsOthers w w' := ⟨h.size, fun k _ hk _ => (h.block k (heap_lt hk)).trans hk⟩
theorem Pr.others {t : TypeId} {B : Nat} {v : Value} {l : List En} {w w' : World} (h : Pr t B v l w) (g : w.grownBy w' v.ownBlock) : KeepsOthers w w' :=
  ⟨g.size, fun k o hk ho => (g.block k (heap_lt hk) (fun e => by
    obtain ⟨c, hc⟩ := h.ty k e.symm
    rw [hc] at hk
    exact not_cells (Option.some.inj hk).symm ho)).trans hk⟩

set_option maxRecDepth 100000 in
set_option maxHeartbeats 2000000 in
theorem val1_in (F : Fence) (n : Nat) (hF : F.fn 74) (hro : F.round = none) (hn : 1 ≤ n) (l Bs n0 : Nat) {v : Value} {L : List En} (hL : L.length ≤ 1000) (w : World) (hn0 : w.heap.size = n0) (hR : Re w v L) (J Jx : List En → World → Prop)
    (hY : ∀ pre x W, J pre W → pre.length < L.length → YieldAt F (n - 1) Try.prog l #[.agg #[.int .i64 x.1, .int .i64 x.2]] W fun e W' =>
      (e = .returned (.bool true) ∧ J (pre ++ [x]) W' ∧ Below n0 W W') ∨ (e = .returned (.bool false) ∧ Jx (pre ++ [x]) W'))
    (W : World) (hJ : AbidesFrom W.heap.size J) (hW : Below n0 w W) (hBs : w.cell? ⟨Bs, 0, none⟩ = some v) (h0 : J [] W) :
    CallsIn F n Try.prog 74 #[.func (.yield l) #[] #[], .pointer (some ⟨Bs, 0, none⟩)] W fun e W' => (∃ v, e = .returned v) ∧
      ((∃ ys, ys = L ∧ J ys W') ∨ (∃ pre, True ∧ Jx pre W')) := by
  have hBl := World.block_lt_of_cell? _ _ hBs
  have c0 : W.cell? ⟨Bs, 0, none⟩ = some v := (hW.cell (p := ⟨Bs, 0, none⟩) (by omega)).trans hBs
  obtain ⟨a, cap, rfl⟩ := hR.form
  have R := hide hR
  clear hR hBs
  refine callsIn_of_wp Try.func74 rfl hF ?_ hro
  simp only [Try.ntmps74, List.size_toArray, List.length_cons, List.length_nil, Nat.reduceAdd, Nat.reduceSub, Array.replicate_succ, Array.replicate_zero, List.push_toArray, List.append_toArray, List.nil_append, List.cons_append]
  gi_wp2
  gi_loopw [7] (fun i wr => ∃ k : Nat, k ≤ L.length ∧ i = .int .i64 k ∧ J (L.take k) wr ∧ Below n0 w wr ∧ W.heap.size ≤ wr.heap.size)
    (fun i _ => L.length - (intOf i).toNat)
  case atStart => exact ⟨0, Nat.zero_le _, rfl, h0, hW, Nat.le_refl _⟩
  case round =>
    obtain ⟨k, hk, rfl, hJs, hb, hsz⟩ := hrel
    by_cases hlt : k < L.length
    · subst hn0
      obtain ⟨g, o, rfl, _, d1, d2⟩ := ((unhide R).next hb).at hlt
      obtain ⟨x, hx⟩ : ∃ x, x = L.getD k (0, 0) := ⟨_, rfl⟩
      rw [← hx] at d1 d2
      have ht : L.take (k + 1) = L.take k ++ [x] := by rw [List.take_succ_eq_append_getElem hlt, hx]; simp [List.getD, hlt]
      have bn := below_new wr (.cells #[.int .i64 x.1, .int .i64 x.2] 41)
      have hJ2 : J (L.take k) (wr.alloc (.cells #[.int .i64 x.1, .int .i64 x.2] 41)) := hJ _ wr _ none hJs (grown_of_below bn _) (fun r e => by cases e)
      obtain ⟨fn, tmps, assign, body, hy, hRR⟩ := hY _ x _ hJ2 (by rw [List.length_take]; omega)
      clear hx
      gi_wp2
      refine hRR.mono ?_
      rintro e W3 (⟨rfl, hJ3, hk3⟩ | ⟨rfl, hJx3⟩)
      · have hs3 := hk3.size
        have hs2 := bn.size
        gi_wp2
        go_roundw
        case rel => exact ⟨k + 1, by omega, by go_num, by rw [ht]; exact hJ3, (hb.trans (bn.mono hb.size)).trans hk3, by omega⟩
        case measure => simp [intOf]; omega
      · gi_wp2
        refine bodyPost_ret (results_none rfl _ _ _) rfl ?_
        exact ⟨⟨_, rfl⟩, .inr ⟨_, trivial, hJx3⟩⟩
    · obtain rfl : k = L.length := by omega
      rw [List.take_length] at hJs
      gi_wp2
      go_end0
      exact ⟨⟨_, rfl⟩, .inl ⟨_, rfl, hJs⟩⟩
theorem values_stops (F : Fence) (n : Nat) (hF : F.fn 74) (hro : F.round = none) (hn : 1 ≤ n) (Bs : Nat) {v : Value} {L : List En} (hL : L.length ≤ 1000) (w w0 : World) (hR : Re w v L) (hBs : w.cell? ⟨Bs, 0, none⟩ = some v) (hw : Below w.heap.size w w0) :
    SeqStopsK F n Try.prog 74 #[.pointer (some ⟨Bs, 0, none⟩)] (fun x : En => #[Value.agg #[.int .i64 x.1, .int .i64 x.2]]) (Below w.heap.size) (fun ys => ys = L) (fun _ => True) L.length w0 := fun l J Jx W hW hJ _ hY h0 =>
  val1_in F n hF hro hn l Bs _ hL w rfl hR J Jx hY W hJ (hw.trans (hW.mono hw.size)) hBs h0

/-- Between two rounds: the box holds what has come. -/
def Sq (w0 : World) (P : Nat) (pre : List En) (W : World) : Prop := (∃ v, W.heap[P]? = some (.cells #[v] 22 (0, 0)) ∧ Pr 41 w0.heap.size v pre W) ∧ Below w0.heap.size w0 W
theorem sq_own {w0 : World} {P B0 : Nat} (h1 : w0.heap.size ≤ B0) : OwnFrom B0 (Sq w0 P) := fun pre W W' row hs hg hr => by
  obtain ⟨⟨v, h2, h3⟩, hB⟩ := hs
  have k := cz_own hg hr
  exact ⟨⟨v, k _ _ _ _ h2, h3.cz k⟩, ownFrom_below (β := Unit) (Nat.le_refl _) h1 () W W' row hB hg hr⟩
theorem sq_next {w0 W W' : World} {P : Nat} {pre : List En} (h : Sq w0 P pre W) (k : Below W.heap.size W W') : Sq w0 P pre W' := by
  obtain ⟨⟨v, h2, h3⟩, hB⟩ := h
  exact ⟨⟨v, (k.block _ (heap_lt h2)).trans h2, h3.next k⟩, hB.trans (k.mono hB.size)⟩
def Axs (a0 : Nat → En → Act) (x : En) (a' : Act) (W : World) : Prop := ∃ R, W.heap[R]? = some (.cells #[.int .i64 x.1, .int .i64 x.2] 41 (0, 0)) ∧ a' = a0 R x
theorem heap_set_same {W : World} {B : Nat} {v : Value} {t : TypeId} (v' : Value) (h : W.heap[B]? = some (.cells #[v] t (0, 0))) : (W.setCell ⟨B, 0, none⟩ v').heap[B]? = some (.cells #[v'] t (0, 0)) := by
  show (W.heap.modify B _)[B]? = _
  rw [Array.getElem?_modify, if_pos rfl, h]; rfl
theorem heap_set_other {W : World} {B k : Nat} (j : Nat) (v' : Value) (h : k ≠ B) : (W.setCell ⟨B, j, none⟩ v').heap[k]? = W.heap[k]? := by
  show (W.heap.modify B _)[k]? = _
  rw [Array.getElem?_modify, if_neg (fun e => h e.symm)]
set_option maxRecDepth 100000 in
set_option maxHeartbeats 4000000 in
theorem appseq_any (w : World) {v : Value} {L : List En} (Bs : Nat) (hR : Re w v L) (hBs : w.cell? ⟨Bs, 0, none⟩ = some v) (hL : L.length ≤ 1000) :
    Calls Try.prog 93 #[.slice none 0 0, .func (.func 74) #[] #[.pointer (some ⟨Bs, 0, none⟩)]] w fun e w' => ∃ v', e = .returned v' ∧ Pr 41 w.heap.size v' L w' ∧ Below w.heap.size w w' := by
  refine (callsIn_wide (n := 4)).1 ?_
  obtain ⟨i0, hi, hz0, hz1, hz2⟩ := info_parts inf39
  obtain ⟨W1, hW1⟩ : ∃ W1, W1 = w.alloc (.cells #[.slice none 0 0] 22) := ⟨_, rfl⟩
  have bW : Below w.heap.size w W1 := by rw [hW1]; exact below_new w _
  have o1 : W1.heap[w.heap.size]? = some (.cells #[.slice none 0 0] 22 (0, 0)) := by rw [hW1]; exact heap_alloc_new w _
  have osz : W1.heap.size = w.heap.size + 1 := by rw [hW1]; simp
  have I0 : Sq w w.heap.size [] W1 := ⟨⟨_, o1, Pr.nil _ _ _⟩, bW⟩
  have hst := values_stops Fence.wide (4 - 1) trivial rfl (by omega) Bs hL w W1 hR hBs bW
  refine callsIn_of_wp_marks Try.func93 rfl trivial ?_ rfl
  simp only [Try.ntmps93, List.size_toArray, List.length_cons, List.length_nil, Nat.reduceAdd, Nat.reduceSub, Array.replicate_succ, Array.replicate_zero, List.push_toArray, List.append_toArray, List.nil_append, List.cons_append]
  gi_wp2
  rw [← hW1]
  replace hW1 := hide hW1
  refine wpIn_rangeFunc_ownH (α := En) rfl (by omega) (gf := 74) (lb := #[.pointer (some ⟨Bs, 0, none⟩)]) rfl trivial (enters_of Try.func74 (by kernel_rfl) rfl)
    hst belowK_t (belowK_b (by omega)) (Below.refl _ _) (fun _ => rfl)
    (Sq w w.heap.size) (fun _ _ _ => False) (sq_own bW.size) (fun _ _ _ _ _ hs _ _ => hs) I0
    (Axs (fun R x => { tmps := #[.slice none 0 0, .func (.func 74) #[] #[.pointer (some ⟨Bs, 0, none⟩)], .pointer (some ⟨w.heap.size, 0, none⟩), undef, .slice none 0 0, .pointer (some ⟨R, 0, none⟩), .func (.func 74) #[] #[.pointer (some ⟨Bs, 0, none⟩)], .agg #[.int .i64 x.1, .int .i64 x.2], undef, undef, undef, undef, undef], defers := [] }))
    (fun x a' _ W W' row hs hg hr => by
      obtain ⟨R, h1, h2⟩ := hs
      exact ⟨R, cz_own hg hr _ _ _ _ h1, h2⟩) ?assign ?body ?done ?stop
  case assign =>
    rintro l pre x W K hI hK
    have hnx := sq_next hI (below_new W (.cells #[.int .i64 x.1, .int .i64 x.2] 41))
    gi_wp2
    exact hK _ _ ((KeepsOthers.alloc _ _).from _) ((Below.refl _ W).alloc (Nat.le_trans bW.size (by have := hI.2.size; have := hI.1.choose_spec.1; have := heap_lt this; omega)) _) hnx ⟨W.heap.size, heap_alloc_new W _, rfl⟩
  case body =>
    rintro l pre x a' W hl hrec ⟨⟨gv, g1, i1⟩, hB⟩ ⟨R, hR1, rfl⟩ hlt
    have cR1 : W.cell? ⟨R, 0, none⟩ = some (.int .i64 x.1) := by simp [World.cell?, hR1]
    have cR2 : W.cell? ⟨R, 1, none⟩ = some (.int .i64 x.2) := by simp [World.cell?, hR1]
    have cP : W.cell? ⟨w.heap.size, 0, none⟩ = some gv := by simp [World.cell?, g1]
    obtain ⟨a9, c9, rfl⟩ := i1.form
    obtain ⟨k, hk⟩ : ∃ k, k = pre.length := ⟨_, rfl⟩
    have hk9 : k ≤ 1000 := by omega
    have bn := below_new W (.cells #[.int .i64 x.1, .int .i64 x.2] 41)
    have own5 : Hid ((W.alloc (.cells #[.int .i64 x.1, .int .i64 x.2] 41)).ownsRow w.heap.size 41 2 (.slice a9 k c9) k (pairs pre)) := by
      have := i1.next bn
      unfold Pr at this
      rw [← hk] at this
      exact this
    have G1 := hide ((bn.block _ (heap_lt g1)).trans g1)
    have HB := hide hB
    have Hi1 := hide i1
    have hbs : Hid (w.heap.size ≤ (W.alloc (.cells #[.int .i64 x.1, .int .i64 x.2] 41)).heap.size) := Nat.le_trans hB.size bn.size
    have Hk := hide hk
    rw [← hk] at cP
    have fin : Hid (∀ v' w3, w3.ownsRow w.heap.size 41 2 v' (k + 1) (pairs pre ++ pairs [x]) → (W.alloc (.cells #[.int .i64 x.1, .int .i64 x.2] 41)).grownBy w3 (Value.slice a9 k c9).ownBlock →
        w3.heap[w.heap.size]? = some (.cells #[.slice a9 k c9] 22 (0, 0)) ∧ KeepsFrom W1.heap.size W (w3.setCell ⟨w.heap.size, 0, none⟩ v') ∧ Below w.heap.size W (w3.setCell ⟨w.heap.size, 0, none⟩ v') ∧ Sq w w.heap.size (pre ++ [x]) (w3.setCell ⟨w.heap.size, 0, none⟩ v')) := by
      intro v' w3 h1 h2
      have hne : ∀ v'' : Value, ∀ W'' l'' , Pr 41 w.heap.size v'' l'' W'' → W''.heap[w.heap.size]? = some (.cells #[.slice a9 k c9] 22 (0, 0)) → some w.heap.size ≠ v''.ownBlock := fun v'' W'' l'' p q e => by
        obtain ⟨c, hc⟩ := p.ty _ e.symm
        rw [q] at hc; cases hc
      have pw : Pr 41 w.heap.size (.slice a9 k c9) pre (W.alloc (.cells #[.int .i64 x.1, .int .i64 x.2] 41)) := by
        have := unhide own5
        unfold Pr
        rw [← unhide Hk]
        exact this
      have q3 : w3.heap[w.heap.size]? = some (.cells #[.slice a9 k c9] 22 (0, 0)) := by
        have q2 : (W.alloc (.cells #[.int .i64 x.1, .int .i64 x.2] 41)).heap[w.heap.size]? = some (.cells #[.slice a9 k c9] 22 (0, 0)) := by rw [unhide Hk]; exact unhide G1
        exact (h2.block _ (heap_lt q2) (hne _ _ _ pw q2)).trans q2
      have p3 : Pr 41 w.heap.size v' (pre ++ [x]) w3 := by
        unfold Pr
        rw [List.length_append, ← unhide Hk, pairs_app]
        exact h1
      have p4 : Pr 41 w.heap.size v' (pre ++ [x]) (w3.setCell ⟨w.heap.size, 0, none⟩ v') := p3.keep fun g hg => heap_set_other _ _ (fun e => by
        subst e
        obtain ⟨c, hc⟩ := p3.ty _ hg
        rw [q3] at hc; cases hc)
      have b3 : Below w.heap.size W w3 := ((Below.refl _ W).alloc (unhide HB).size _).grown h2 (unhide hbs) (fun j hj => (pw.lt j hj).1)
      refine ⟨q3, (((KeepsOthers.alloc W _).trans (pw.others h2)).trans (KeepsOthers.setCell _ _ _)).from _, b3.setCell (p := ⟨w.heap.size, 0, none⟩) (Nat.le_refl _) _, ⟨v', heap_set_same _ q3, p4⟩, (unhide HB).trans (b3.setCell (p := ⟨w.heap.size, 0, none⟩) (Nat.le_refl _) _)⟩
    clear hk hB g1 i1
    gi_wp2_with (first | (gi_at_builtin; refine wpListIn_append_own _ rfl (.tmp 8) (.tmp 10) 22 rfl w.heap.size 41 i0 _ 2 16 Try.underlying22 hi hz0 hz1 hz2 rfl (by decide) _ k (pairs pre) rfl (unhide own5) ⟨W.heap.size, 0, none⟩ 1 1 (pairs [x]) rfl rfl (World.news_of_block (heap_alloc_new W _)) (pairs_all x) (by unfold maxLen; omega) (by omega) (unhide hbs) ?_; intro v' w3 a1 a2 _; obtain ⟨q3, f1, f2, f3⟩ := unhide fin v' w3 a1 a2; have q4 : w3.cell? ⟨w.heap.size, 0, none⟩ = some (.slice a9 k c9) := (by simp [World.cell?, q3]); have q5 : w3.frozen? ⟨w.heap.size, 0, none⟩ = false := (by simp [World.frozen?, q3]); replace a1 := hide a1; replace a2 := hide a2; replace q3 := hide q3; obtain ⟨a7, n7, c7, rfl⟩ : ∃ a n c, v' = Value.slice a n c := (by rcases (unhide a1).2 with ⟨e, _⟩ | ⟨g, cap, cur, e, _⟩; exact ⟨_, _, _, e⟩; exact ⟨_, _, _, e⟩)) | gi_in)
    exact ⟨f1, f2, f3⟩
  case done =>
    rintro D ys W hD rfl ⟨⟨gv, g1, i1⟩, hB⟩ hK
    have c1 : W.cell? ⟨w.heap.size, 0, none⟩ = some gv := by simp [World.cell?, g1]
    obtain ⟨a9, c9, rfl⟩ := i1.form
    replace g1 := hide g1
    replace i1 := hide i1
    generalize ys.length = k at *
    gi_wp2
    refine ⟨by simp, .inl ⟨_, _, rfl, run_takeDeferred hK, ?_⟩⟩
    have hcz := cz_own (B := 0) (grownBy_putObj' W D (.deferred none)) (fun r e => by cases e; exact ⟨Nat.zero_le _, _, hK, rfl⟩)
    refine ⟨_, results_tmp rfl _ _ _, .slice a9 k c9, rfl, (unhide i1).cz hcz, ?_⟩
    exact hB.trans (belowK_b (w := w) (Nat.le_refl _) W D _ _ (by omega) hK rfl rfl)
  case stop =>
    rintro D c pre W hD _ h _
    exact h.elim

set_option maxRecDepth 100000 in
theorem values_any (w : World) {v : Value} {L : List En} (hR : Re w v L) :
    Calls Try.prog 52 #[v] w fun e w' => e = .returned (.func (.func 74) #[] #[.pointer (some ⟨w.heap.size, 0, none⟩)]) ∧ w' = w.alloc (.cells #[v] 22) := by
  obtain ⟨a, cap, rfl⟩ := hR.form
  generalize L.length = n at *
  clear hR
  go_enter Try.func52, Try.ntmps52
  go_wp2
  go_ret
  exact ⟨rfl, rfl⟩
set_option maxRecDepth 100000 in
theorem collect_any (w : World) {v : Value} {L : List En} (Bs : Nat) (hR : Re w v L) (hBs : w.cell? ⟨Bs, 0, none⟩ = some v) (hL : L.length ≤ 1000) :
    Calls Try.prog 72 #[.func (.func 74) #[] #[.pointer (some ⟨Bs, 0, none⟩)]] w fun e w' => ∃ v', e = .returned v' ∧ Pr 41 w.heap.size v' L w' ∧ Below w.heap.size w w' := by
  have C := hide (appseq_any w Bs hR hBs hL)
  clear hR hBs hL
  go_enter Try.func72, Try.ntmps72
  go_wp2_with fail
  refine (unhide C).mono ?_
  rintro e w' ⟨v', rfl, p, b⟩
  replace p := hide p
  replace b := hide b
  go_wp2
  go_ret
  exact ⟨v', rfl, unhide p, unhide b⟩
end Go.Proofs.Ytjgepcifknmdhaa

/- The library contract of SortFunc at edges, laid at this translation by the kit's command (plain words). -/
namespace Go.Proofs.Ytjgepcifknmdhaa
open Go.Shelf
def Try.laysE_ren : Go.Shelf.Ren := ⟨fun | 6 => 73 | 15 => 70 | 14 => 94 | 28 => 91 | 29 => 92 | 20 => 101 | 21 => 102 | 22 => 103 | 23 => 104 | 24 => 105 | 25 => 106 | 26 => 107 | 27 => 108 | 46 => 110 | 47 => 97 | 48 => 98 | 49 => 111 | 50 => 112 | 57 => 113 | n => n, fun | 22 => 22 | 24 => 41 | 25 => 69 | 3 => 3 | 39 => 79 | 0 => 0 | 53 => 104 | 55 => 106 | 4 => 4 | 46 => 99 | 45 => 98 | 50 => 55 | 5 => 5 | 9 => 9 | 66 => 109 | 70 => 113 | 76 => 120 | 77 => 121 | n => n, fun | n => n⟩
theorem Try.laysE : Go.Proofs.SlLaysF0.n6 Try.prog Try.laysE_ren := {
  mixed := by kernel_rfl
  f6 := ⟨Try.f73.name, by decide, Try.func73.trans (congrArg some (by kernel_rfl))⟩
  f14 := ⟨Try.f94.name, by decide, Try.func94.trans (congrArg some (by kernel_rfl))⟩
  f15 := Try.func70.trans (congrArg some (by kernel_rfl))
  f20 := ⟨Try.f101.name, by decide, Try.func101.trans (congrArg some (by kernel_rfl))⟩
  f21 := ⟨Try.f102.name, by decide, Try.func102.trans (congrArg some (by kernel_rfl))⟩
  f22 := ⟨Try.f103.name, by decide, Try.func103.trans (congrArg some (by kernel_rfl))⟩
  f23 := ⟨Try.f104.name, by decide, Try.func104.trans (congrArg some (by kernel_rfl))⟩
  f24 := ⟨Try.f105.name, by decide, Try.func105.trans (congrArg some (by kernel_rfl))⟩
  f25 := ⟨Try.f106.name, by decide, Try.func106.trans (congrArg some (by kernel_rfl))⟩
  f26 := ⟨Try.f107.name, by decide, Try.func107.trans (congrArg some (by kernel_rfl))⟩
  f27 := ⟨Try.f108.name, by decide, Try.func108.trans (congrArg some (by kernel_rfl))⟩
  f28 := Try.func91.trans (congrArg some (by kernel_rfl))
  f29 := Try.func92.trans (congrArg some (by kernel_rfl))
  f46 := ⟨Try.f110.name, by decide, Try.func110.trans (congrArg some (by kernel_rfl))⟩
  f47 := Try.func97.trans (congrArg some (by kernel_rfl))
  f48 := Try.func98.trans (congrArg some (by kernel_rfl))
  f49 := ⟨Try.f111.name, by decide, Try.func111.trans (congrArg some (by kernel_rfl))⟩
  f50 := ⟨Try.f112.name, by decide, Try.func112.trans (congrArg some (by kernel_rfl))⟩
  f57 := ⟨Try.f113.name, by decide, Try.func113.trans (congrArg some (by kernel_rfl))⟩
  t0 := Try.underlying0
  a0 := Try.isAgg0
  z0 := Try.sizeOf0
  v0 := Try.zeroValue0
  t3 := Try.underlying3
  a3 := Try.isAgg3
  z3 := Try.sizeOf3
  v3 := Try.zeroValue3
  t4 := Try.underlying4
  a4 := Try.isAgg4
  z4 := Try.sizeOf4
  v4 := Try.zeroValue4
  t5 := Try.underlying5
  a5 := Try.isAgg5
  z5 := Try.sizeOf5
  v5 := Try.zeroValue5
  t9 := Try.underlying9
  a9 := Try.isAgg9
  z9 := Try.sizeOf9
  v9 := Try.zeroValue9
  t22 := Try.underlying22
  a22 := Try.isAgg22
  z22 := Try.sizeOf22
  v22 := Try.zeroValue22
  t25 := Try.underlying69
  a25 := Try.isAgg69
  z25 := Try.sizeOf69
  v25 := Try.zeroValue69
  t39 := Try.underlying79
  a39 := Try.isAgg79
  z39 := Try.sizeOf79
  v39 := Try.zeroValue79
  t45 := Try.underlying98
  a45 := Try.isAgg98
  z45 := Try.sizeOf98
  v45 := Try.zeroValue98
  t46 := Try.underlying99
  a46 := Try.isAgg99
  z46 := Try.sizeOf99
  v46 := Try.zeroValue99
  t50 := Try.underlying55
  a50 := Try.isAgg55
  z50 := Try.sizeOf55
  v50 := Try.zeroValue55
  t53 := Try.underlying104
  a53 := Try.isAgg104
  z53 := Try.sizeOf104
  v53 := Try.zeroValue104
  t55 := Try.underlying106
  a55 := Try.isAgg106
  z55 := Try.sizeOf106
  v55 := Try.zeroValue106
  t66 := Try.underlying109
  a66 := Try.isAgg109
  z66 := Try.sizeOf109
  v66 := Try.zeroValue109
  t70 := Try.underlying113
  a70 := Try.isAgg113
  z70 := Try.sizeOf113
  v70 := Try.zeroValue113
  t76 := Try.underlying120
  a76 := Try.isAgg120
  z76 := Try.sizeOf120
  v76 := Try.zeroValue120
  t77 := Try.underlying121
  a77 := Try.isAgg121
  z77 := Try.sizeOf121
  v77 := Try.zeroValue121 }
end Go.Proofs.Ytjgepcifknmdhaa

/- SortFunc at edges by To; SortedFunc. -/
namespace Go.Proofs.Ytjgepcifknmdhaa
open Go.RowKit Go.Sort

/-- By the second number. -/
def cfT (x y : En) : Int := cmpD x.2 y.2
theorem ltT (x y : En) : Go.Proofs.ltOf cfT x y = decide (x.2 < y.2) := by
  unfold Go.Proofs.ltOf cfT cmpD
  by_cases h1 : x.2 < y.2
  · simp [h1]
  · by_cases h2 : y.2 < x.2 <;> simp [h1, h2]
theorem swoT : SWO (Go.Proofs.ltOf cfT) where
  irrefl x := by rw [ltT]; simp
  trans x y z h1 h2 := by rw [ltT] at *; simp at *; omega
  ntrans x y z h1 h2 := by rw [ltT] at *; simp at *; omega
def encE (x : En) : List Value := [.int .i64 x.1, .int .i64 x.2]
theorem flat_pairs (l : List En) : (flatK encE 2 l.toArray).toList = pairs l := by
  apply List.ext_getElem?
  intro t
  by_cases ht : t < l.length * 2
  · have h1 : (flatK encE 2 l.toArray)[t]! = (encE l.toArray[t / 2]!)[t % 2]! := get_flatK _ _ _ _ (by simpa using ht)
    have h2 : (flatK encE 2 l.toArray).toList[t]? = some (flatK encE 2 l.toArray)[t]! := by
      rw [Array.getElem?_toList, Array.getElem?_eq_getElem (by rw [size_flatK]; simpa using ht), getElem!_pos _ t (by rw [size_flatK]; simpa using ht)]
    have h3 : t / 2 < l.length := by omega
    have h4 : l.toArray[t / 2]! = l.getD (t / 2) (0, 0) := by simp [List.getD, h3]
    rw [h2, h1, h4]
    rcases (show t = t / 2 * 2 ∨ t = t / 2 * 2 + 1 by omega) with e | e
    · have e2 : t % 2 = 0 := by omega
      rw [e2]
      conv => rhs; rw [e]
      rw [pairs_fst l _ h3]; rfl
    · have e2 : t % 2 = 1 := by omega
      rw [e2]
      conv => rhs; rw [e]
      rw [pairs_snd l _ h3]; rfl
  · rw [List.getElem?_eq_none (by rw [Array.length_toList, size_flatK]; simpa using ht), List.getElem?_eq_none (by rw [pairs_len]; omega)]
set_option maxRecDepth 100000 in
theorem closure39 (x y : En) (W : World) : Calls Try.prog 53 #[.agg #[.int .i64 x.1, .int .i64 x.2], .agg #[.int .i64 y.1, .int .i64 y.2]] W fun e w' => e = .returned (.int .i64 (cfT x y)) ∧ ∃ q os', w' = Go.Sort.grow (W.drewN q) os' := by
  obtain ⟨x1, x2⟩ := x
  obtain ⟨y1, y2⟩ := y
  obtain ⟨W2, hW2⟩ : ∃ W2, W2 = (W.alloc (.cells #[.int .i64 x1, .int .i64 x2] 41)).alloc (.cells #[.int .i64 y1, .int .i64 y2] 41) := ⟨_, rfl⟩
  have fin : Hid (∃ q os', W2 = Go.Sort.grow (W.drewN q) os') := by
    refine ⟨0, #[.cells #[.int .i64 x1, .int .i64 x2] 41, .cells #[.int .i64 y1, .int .i64 y2] 41], ?_⟩
    rw [hW2, alloc_eq_grow, alloc_eq_grow, grow_grow]
    rfl
  have p1 : W2.heap[W.heap.size]? = some (.cells #[.int .i64 x1, .int .i64 x2] 41 (0, 0)) := by
    rw [hW2]
    exact ((below_new _ _).block _ (by simp)).trans (heap_alloc_new W _)
  have p2 : W2.heap[W.heap.size + 1]? = some (.cells #[.int .i64 y1, .int .i64 y2] 41 (0, 0)) := by
    rw [hW2]
    have := heap_alloc_new (W.alloc (.cells #[.int .i64 x1, .int .i64 x2] 41)) (.cells #[.int .i64 y1, .int .i64 y2] 41)
    rw [World.size_alloc] at this
    exact this
  have k1 : W2.cell? ⟨W.heap.size, 1, none⟩ = some (.int .i64 x2) := by simp [World.cell?, p1]
  have k2 : W2.cell? ⟨W.heap.size + 1, 1, none⟩ = some (.int .i64 y2) := by simp [World.cell?, p2]
  rw [hW2] at k1 k2
  replace hW2 := hide hW2
  clear p1 p2
  show Calls Try.prog 53 _ W fun e w' => e = .returned (.int .i64 (cmpD x2 y2)) ∧ _
  have C := hide (fun w => cmp_any x2 y2 w)
  generalize cmpD x2 y2 = c at C ⊢
  go_enter Try.func53, Try.ntmps53
  go_wp2_with fail
  refine (unhide C _).mono ?_
  rintro e w' ⟨rfl, rfl⟩
  go_wp2
  go_ret
  exact ⟨rfl, by rw [← unhide hW2]; exact unhide fin⟩
theorem isAgg39 (w : World) : (isAgg 41).run Try.prog w = .ok true w := by
  first | exact Try.isAgg41 w | simp [isAgg, run_underlying Try.underlying41]
/-- By To, rising. -/
def ByTo (l : List En) : Prop := l.Pairwise (fun a b => a.2 ≤ b.2)
theorem sortT_any (w : World) {M : Nat} {v : Value} {l : List En} (h : Pr 41 M v l w) (hl : l.length < 1000000000) :
    Calls Try.prog 73 #[v, .func (.func 53) #[] #[]] w fun e w' => ∃ l' : List En, e = .returned (.tuple #[]) ∧ l'.Perm l ∧ ByTo l' ∧ Pr 41 M v l' w' ∧ w.grownBy w' v.ownBlock := by
  have triv : l = [] → Calls Try.prog 73 #[v, .func (.func 53) #[] #[]] w fun e w' => ∃ l' : List En, e = .returned (.tuple #[]) ∧ l'.Perm l ∧ ByTo l' ∧ Pr 41 M v l' w' ∧ w.grownBy w' v.ownBlock := by
    rintro rfl
    obtain ⟨a, cap, rfl⟩ := h.form
    refine Calls.mono (AnyF.slices_SortFunc_none Try.laysE a cap _ w) ?_
    rintro e w' ⟨rfl, rfl⟩
    exact ⟨[], rfl, List.Perm.refl _, List.Pairwise.nil, h, ⟨rfl, rfl, rfl, Nat.le_refl _, fun _ _ _ => rfl⟩⟩
  rcases h.2 with ⟨_, e⟩ | ⟨g, cap, cur, rfl, hB, hg, hn, hm, hs, ht⟩
  · exact triv (List.eq_nil_of_length_eq_zero e)
  · rcases Nat.eq_zero_or_pos l.length with h0 | h0
    · exact triv (List.eq_nil_of_length_eq_zero h0)
    · have hH : HoldsK encE 2 w g 0 l.toArray := by
        intro j hj
        rw [size_flatK] at hj
        have hj2 : j < l.length * 2 := by simpa using hj
        have h1 : (flatK encE 2 l.toArray)[j]! = (pairs l).getD j undef := by
          rw [← flat_pairs l]
          simp [getElem!_pos, List.getD, hj2]
        have h2 : (pairs l)[j]? = some ((pairs l).getD j undef) := by
          have : j < (pairs l).length := by rw [pairs_len]; exact hj2
          simp [List.getD, this]
        refine ⟨?_, by simp [World.frozen?, hg]⟩
        show w.cell? ⟨g, 0 + j, none⟩ = some (flatK encE 2 l.toArray)[j]!
        rw [h1, ← h2, ← ht, List.getElem?_take_of_lt hj2]
        simp [World.cell?, hg]
      have eg : ∀ args w, (callFunc 53 args).run Try.prog w = .ok (.enter 53 args) w := enters_of Try.func53 (by kernel_rfl) rfl
      have C := AnyQ.slices_SortFunc Try.laysE 2 isAgg39 Try.sizeOf41 encE (fun _ => rfl) (fun x v hv => by simp [encE] at hv; rcases hv with rfl | rfl <;> rfl) cfT swoT 53 #[] g 0 cap l.toArray w eg (fun m os dk _ x y => closure39 x y _) hH (heap_lt hg) (by simp; omega)
      refine Calls.mono C ?_
      rintro e w' ⟨rfl, d', q, os, hp, hso, hw⟩
      subst hw
      obtain ⟨hp1, _, hp3⟩ := hp
      have hsz0 : d'.size = l.length := by rw [hp1]; simp
      have hperm : d'.toList.Perm l := by
        have e1 : d'.extract 0 l.toArray.size = d' := by rw [← hp1]; simp
        have e2 : l.toArray.extract 0 l.toArray.size = l.toArray := by simp
        rw [e1, e2] at hp3
        simpa using hp3
      have hlen : d'.toList.length = l.length := by simpa using hsz0
      have hby : ByTo d'.toList := by
        rw [ByTo, List.pairwise_iff_getElem]
        intro i j hi hj hij
        have hi2 : i < d'.size := by simpa using hi
        have hj2 : j < d'.size := by simpa using hj
        have := hso i j (Nat.zero_le _) hij (by rw [← hp1]; exact hj2)
        rw [ltT] at this
        have e1 : d'[i]! = d'.toList[i] := by rw [getElem!_pos d' i hi2]; simp
        have e2 : d'[j]! = d'.toList[j] := by rw [getElem!_pos d' j hj2]; simp
        rw [e1, e2] at this
        simpa using this
      obtain ⟨F, hF⟩ : ∃ F, F = flatK encE 2 d' := ⟨_, rfl⟩
      have hFl : F.toList = pairs d'.toList := by rw [hF]; have := flat_pairs d'.toList; simpa using this
      have hFs : F.size = l.length * 2 := by rw [hF, size_flatK, hsz0]
      have hg2 : (Go.Sort.putRow id (Go.Sort.ahead w q) g 0 F).heap[g]? = some (.cells (Go.Sort.putCells id 0 F cur) 41 (0, 0)) := by
        simp [Go.Sort.putRow, Go.Sort.mapBlock, Go.Sort.ahead, Array.getElem?_modify, hg, Go.Sort.onCells]
      have hsz : (Go.Sort.putRow id (Go.Sort.ahead w q) g 0 F).heap.size = w.heap.size := by simp [Go.Sort.putRow, Go.Sort.mapBlock, Go.Sort.ahead]
      have hw : sortWorldK encE 2 w g 0 q d' os = Go.Sort.grow (Go.Sort.putRow id (Go.Sort.ahead w q) g 0 F) os := by rw [hF]; rfl
      rw [hw]
      refine ⟨d'.toList, rfl, hperm, hby, ⟨by rw [pairs_len], .inr ⟨g, cap, Go.Sort.putCells id 0 F cur, by rw [hlen], hB, ?_, by omega, hm, by simpa [Go.Sort.putCells] using hs, ?_⟩⟩, ⟨rfl, rfl, rfl, ?_, fun k hk hne => ?_⟩⟩
      · exact (grow_old _ os g (by rw [hsz]; exact heap_lt hg)).trans hg2
      · apply List.ext_getElem?
        intro j
        rw [List.getElem?_take, hlen, ← hFl]
        by_cases hj : j < l.length * 2
        · have hjc : j < cur.size := by omega
          rw [if_pos hj]
          simp only [Go.Sort.putCells, Array.getElem?_toList, Array.getElem?_mapIdx, Array.getElem?_eq_getElem hjc, Option.map_some]
          rw [if_pos (by omega), Array.getElem?_eq_getElem (by omega)]
          simp [getElem!_pos, hFs, hj]
        · rw [if_neg hj, List.getElem?_eq_none (by rw [Array.length_toList]; omega)]
      · show w.heap.size ≤ (_ ++ os).size
        rw [Array.size_append, hsz]; omega
      · refine (grow_old _ os k (by rw [hsz]; exact hk)).trans ?_
        have hgk : g ≠ k := fun e => hne (by rw [e]; rfl)
        simp [Go.Sort.putRow, Go.Sort.mapBlock, Go.Sort.ahead, Array.getElem?_modify, hgk]
set_option maxRecDepth 100000 in
theorem sorted_any (w : World) {v : Value} {L : List En} (Bs : Nat) (hR : Re w v L) (hBs : w.cell? ⟨Bs, 0, none⟩ = some v) (hL : L.length ≤ 1000) :
    Calls Try.prog 51 #[.func (.func 74) #[] #[.pointer (some ⟨Bs, 0, none⟩)], .func (.func 53) #[] #[]] w fun e w' => ∃ v' l', e = .returned v' ∧ l'.Perm L ∧ ByTo l' ∧ Pr 41 w.heap.size v' l' w' ∧ Below w.heap.size w w' := by
  have C := hide (collect_any w Bs hR hBs hL)
  have hl9 : Hid (L.length < 1000000000) := by show _ < _; omega
  clear hR hBs hL
  go_enter Try.func51, Try.ntmps51
  go_wp2_with fail
  refine (unhide C).mono ?_
  rintro e w1 ⟨v1, rfl, p1, b1⟩
  replace p1 := hide p1
  replace b1 := hide b1
  go_wp2_with fail
  refine (sortT_any w1 (unhide p1) (unhide hl9)).mono ?_
  rintro e w2 ⟨l', rfl, h1, h2, p2, g2⟩
  have b2 := hide ((unhide b1).trans (grown_below g2 (unhide b1).size (fun k hk => ((unhide p1).lt k hk).1)))
  replace p2 := hide p2
  replace h1 := hide h1
  replace h2 := hide h2
  clear g2
  go_wp2
  go_ret
  exact ⟨v1, l', rfl, unhide h1, unhide h2, unhide p2, unhide b2⟩
end Go.Proofs.Ytjgepcifknmdhaa

/- Who can be reached, and the circle that the document means: plain words. -/
namespace Go.Proofs.Ytjgepcifknmdhaa

section
variable {α : Type}
/-- From the one to the other by edges, through none of A (the first and the last neither). -/
inductive Av (E : α → α → Prop) (A : α → Prop) : α → α → Prop
  | refl {a : α} : ¬ A a → Av E A a a
  | step {a b c : α} : ¬ A a → E a b → Av E A b c → Av E A a c
theorem Av.fst {E : α → α → Prop} {A : α → Prop} {a b : α} (h : Av E A a b) : ¬ A a := by
  cases h with
  | refl h => exact h
  | step h _ _ => exact h
theorem Av.lst {E : α → α → Prop} {A : α → Prop} {a b : α} (h : Av E A a b) : ¬ A b := by
  induction h with
  | refl h => exact h
  | step _ _ _ ih => exact ih
theorem Av.mono {E E' : α → α → Prop} {A A' : α → Prop} {a b : α} (h : Av E A a b) (hA : ∀ x, A' x → A x) (hE : ∀ x y, E x y → E' x y) : Av E' A' a b := by
  induction h with
  | refl h => exact .refl (fun k => h (hA _ k))
  | step h e _ ih => exact .step (fun k => h (hA _ k)) (hE _ _ e) ih
theorem Av.trans {E : α → α → Prop} {A : α → Prop} {a b c : α} (h : Av E A a b) (k : Av E A b c) : Av E A a c := by
  induction h with
  | refl _ => exact k
  | step h e _ ih => exact .step h e (ih k)
theorem Av.snoc {E : α → α → Prop} {A : α → Prop} {a b c : α} (h : Av E A a b) (e : E b c) (hc : ¬ A c) : Av E A a c := h.trans (.step h.lst e (.refl hc))
/-- Either never through v, or v is the last, or on from v never again through v. -/
theorem Av.last {E : α → α → Prop} {A : α → Prop} {a s : α} (v : α) (h : Av E A a s) : Av E (fun x => A x ∨ x = v) a s ∨ v = s ∨ ∃ t, E v t ∧ Av E (fun x => A x ∨ x = v) t s := by
  induction h with
  | @refl a h =>
    by_cases e : a = v
    · exact .inr (.inl e.symm)
    · exact .inl (.refl (fun k => k.elim h e))
  | @step a b c h e _ ih =>
    rcases ih with ih | ih
    · by_cases e2 : a = v
      · exact .inr (.inr ⟨b, e2 ▸ e, ih⟩)
      · exact .inl (.step (fun k => k.elim h e2) e ih)
    · exact .inr ih
/-- It can be reached. -/
def Rch (E : α → α → Prop) (a b : α) : Prop := Av E (fun _ => False) a b
theorem Rch.refl (E : α → α → Prop) (a : α) : Rch E a a := Av.refl id
theorem Rch.one {E : α → α → Prop} {a b : α} (e : E a b) : Rch E a b := Av.step id e (.refl id)
theorem Av.rch {E : α → α → Prop} {A : α → Prop} {a b : α} (h : Av E A a b) : Rch E a b := h.mono (fun _ k => k.elim) (fun _ _ e => e)
theorem Rch.mono {E E' : α → α → Prop} {a b : α} (h : Rch E a b) (hE : ∀ x y, E x y → E' x y) : Rch E' a b := Av.mono h (fun _ k => k) hE
/-- It is on a circle: reached from itself by one edge or more. -/
def On (E : α → α → Prop) (n : α) : Prop := ∃ t, E n t ∧ Rch E t n
theorem On.mono {E E' : α → α → Prop} {n : α} (h : On E n) (hE : ∀ x y, E x y → E' x y) : On E' n := by
  obtain ⟨t, e, r⟩ := h
  exact ⟨t, hE _ _ e, r.mono hE⟩
theorem on_of {E : α → α → Prop} {n v : α} (r : Rch E n v) (e : E v n) : On E n := by
  cases r with
  | refl _ => exact ⟨n, e, Rch.refl _ _⟩
  | step _ e1 r1 => exact ⟨_, e1, Av.snoc r1 e id⟩
/-- Everyone on a circle leads to one that leads back. -/
theorem On.next {E : α → α → Prop} {n t : α} (e : E n t) (r : Rch E t n) : On E t := on_of (r) e

/-- The way of the document's circle from s: on and on to the lowest that leads back to s through none of the way but s. -/
inductive Way [LT α] (E : α → α → Prop) (s : α) : List α → Prop
  | one : Way E s [s]
  | more {p : List α} {v m : α} : Way E s (p ++ [v]) → ¬ E v s → E v m → m ∉ p ++ [v] → Av E (fun x => x ∈ p ++ [v] ∧ x ≠ s) m s →
      (∀ m', m' < m → E v m' → m' ∉ p ++ [v] → ¬ Av E (fun x => x ∈ p ++ [v] ∧ x ≠ s) m' s) → Way E s (p ++ [v] ++ [m])
/-- The circle that the document means: nothing, if there is none. -/
def Circ [LT α] [LE α] (E : α → α → Prop) (c : List α) : Prop :=
  (c = [] ∧ ∀ n, ¬ On E n) ∨ ∃ s p v, c = p ++ [v] ∧ On E s ∧ (∀ n, On E n → s ≤ n) ∧ Way E s (p ++ [v]) ∧ E v s
theorem Way.ne [LT α] {E : α → α → Prop} {s : α} {c : List α} (h : Way E s c) : c ≠ [] := by
  cases h with
  | one => simp
  | more => simp
theorem Way.head [LT α] {E : α → α → Prop} {s : α} {c : List α} (h : Way E s c) : ∃ r, c = s :: r := by
  induction h with
  | one => exact ⟨[], rfl⟩
  | more _ _ _ _ _ _ ih =>
    obtain ⟨r, e⟩ := ih
    exact ⟨r ++ [_], by rw [e]; rfl⟩
theorem Way.nodup [LT α] {E : α → α → Prop} {s : α} {c : List α} (h : Way E s c) : c.Nodup := by
  induction h with
  | one => simp
  | more _ _ _ hm _ _ ih =>
    rw [List.nodup_append]
    refine ⟨ih, by simp, fun a ha b hb => ?_⟩
    rw [List.mem_singleton.1 hb]
    rintro rfl
    exact hm ha
theorem snoc_inj {p q : List α} {v w : α} (h : p ++ [v] = q ++ [w]) : p = q ∧ v = w := by
  have := List.append_inj' h rfl
  exact ⟨this.1, by simpa using this.2⟩
/-- From each one of the way to its last one, through none that stands ahead. -/
theorem Way.on [LT α] {E : α → α → Prop} {s : α} {c : List α} (h : Way E s c) : ∀ (a : List α) (m : α) (b : List α) (q : List α) (v : α), c = a ++ m :: b → c = q ++ [v] → Av E (fun x => x ∈ a ∧ x ≠ s) m v := by
  induction h with
  | one =>
    intro a m b q v h1 h2
    have e1 : a = [] := by
      cases a with
      | nil => rfl
      | cons x y => simp at h1
    subst e1
    have e2 : q = [] := by
      cases q with
      | nil => rfl
      | cons x y => simp at h2
    subst e2
    simp at h1 h2
    rw [← h1.1, ← h2]
    exact .refl (fun k => by cases k.1)
  | @more p v m hw _ e hm _ _ ih =>
    intro a m1 b q v1 h1 h2
    obtain ⟨e1, e2⟩ := snoc_inj h2
    subst e2
    rcases List.eq_nil_or_concat b with rfl | ⟨b', z, rfl⟩
    · obtain ⟨e3, e4⟩ := snoc_inj (p := p ++ [v]) (q := a) (by simpa using h1)
      subst e4 e3
      exact .refl (fun k => hm k.1)
    · obtain ⟨e3, e4⟩ := snoc_inj (p := p ++ [v]) (q := a ++ m1 :: b') (by simpa using h1)
      subst e4
      refine (ih a m1 b' p v e3 rfl).snoc e (fun k => hm ?_)
      rw [e3]
      exact List.mem_append_left _ k.1
/-- From s to each one of the way. -/
theorem Way.reach [LT α] {E : α → α → Prop} {s : α} {c : List α} (h : Way E s c) : ∀ x ∈ c, Rch E s x := by
  induction h with
  | one => intro x hx; rw [List.mem_singleton.1 hx]; exact Rch.refl _ _
  | more _ _ e _ _ _ ih =>
    intro x hx
    rcases List.mem_append.1 hx with h | h
    · exact ih x h
    · rw [List.mem_singleton.1 h]
      exact Av.snoc (ih _ (by simp)) e id
end

/-- Two such ways of one length are one. -/
theorem Way.same {E : Int → Int → Prop} {s : Int} {c : List Int} (h : Way E s c) : ∀ d, Way E s d → c.length = d.length → c = d := by
  induction h with
  | one =>
    intro d hd hl
    cases hd with
    | one => rfl
    | more => simp at hl
  | @more p v m hw h1 h2 h3 h4 h5 ih =>
    intro d hd hl
    cases hd with
    | one => simp at hl
    | @more p' v' m' hw' g1 g2 g3 g4 g5 =>
      have e := ih _ hw' (by simpa using hl)
      obtain ⟨e1, e2⟩ := snoc_inj e
      subst e1 e2
      rcases Int.lt_trichotomy m m' with h | h | h
      · exact absurd h4 (g5 m h h2 h3)
      · rw [h]
      · exact absurd g4 (h5 m' h g2 g3)
theorem Way.cut {α : Type} [LT α] {E : α → α → Prop} {s : α} {c : List α} (h : Way E s c) : ∀ k, k < c.length → 0 < k → ∃ p v, c.take k = p ++ [v] ∧ Way E s (p ++ [v]) ∧ ¬ E v s := by
  induction h with
  | one => intro k h1 h2; simp at h1; omega
  | @more p v m hw h1 h2 h3 h4 h5 ih =>
    intro k hk h0
    by_cases e : k < (p ++ [v]).length
    · obtain ⟨q, u, e1, e2⟩ := ih k e h0
      exact ⟨q, u, by rw [List.take_append_of_le_length (by omega)]; exact e1, e2⟩
    · have e2 : k = (p ++ [v]).length := by simp at hk e ⊢; omega
      exact ⟨p, v, by rw [e2, List.take_left], hw, h1⟩
/-- The circle is one. -/
theorem Circ.same {E : Int → Int → Prop} {c d : List Int} (h : Circ E c) (k : Circ E d) : c = d := by
  rcases h with ⟨rfl, h⟩ | ⟨s, p, v, rfl, h1, h2, h3, h4⟩
  · rcases k with ⟨rfl, _⟩ | ⟨s, _, _, _, k1, _⟩
    · rfl
    · exact absurd k1 (h s)
  · rcases k with ⟨rfl, k⟩ | ⟨s', q, u, rfl, k1, k2, k3, k4⟩
    · exact absurd h1 (k s)
    · obtain rfl : s = s' := by have := h2 _ k1; have := k2 _ h1; omega
      rcases Nat.lt_trichotomy (p ++ [v]).length (q ++ [u]).length with e | e | e
      · obtain ⟨p', v', e1, e2, e3⟩ := k3.cut _ e (by simp)
        have e4 := h3.same _ e2 (by rw [← e1, List.length_take]; omega)
        obtain ⟨rfl, rfl⟩ := snoc_inj e4
        exact absurd h4 e3
      · exact h3.same _ k3 e
      · obtain ⟨p', v', e1, e2, e3⟩ := h3.cut _ e (by simp)
        have e4 := k3.same _ e2 (by rw [← e1, List.length_take]; omega)
        obtain ⟨rfl, rfl⟩ := snoc_inj e4
        exact absurd k4 e3
/-- It hangs on what the edges are, on nothing else. -/
theorem Circ.congr {α : Type} [LT α] [LE α] {E E' : α → α → Prop} {c : List α} (h : Circ E c) (e : ∀ x y, E x y ↔ E' x y) : Circ E' c := by
  obtain rfl : E = E' := by funext x y; exact propext (e x y)
  exact h

/-- What numbers places by names: two graphs that are one. -/
structure Iso (n : Nat) (f : Nat → Int) (E : Nat → Nat → Prop) (E' : Int → Int → Prop) : Prop where
  mono : ∀ i j, i < j → j < n → f i < f j
  edge : ∀ i j, E i j → i < n ∧ j < n
  to : ∀ i j, E i j → E' (f i) (f j)
  back : ∀ x y, E' x y → ∃ i j, x = f i ∧ y = f j ∧ E i j
namespace Iso
variable {n : Nat} {f : Nat → Int} {E : Nat → Nat → Prop} {E' : Int → Int → Prop}
theorem inj (h : Iso n f E E') {i j : Nat} (hi : i < n) (hj : j < n) (e : f i = f j) : i = j := by
  rcases Nat.lt_trichotomy i j with k | k | k
  · have := h.mono i j k hj; omega
  · exact k
  · have := h.mono j i k hi; omega
theorem lt_iff (h : Iso n f E E') {i j : Nat} (hi : i < n) (hj : j < n) : f i < f j ↔ i < j := by
  refine ⟨fun k => ?_, fun k => h.mono i j k hj⟩
  rcases Nat.lt_trichotomy i j with e | e | e
  · exact e
  · subst e; omega
  · have := h.mono j i e hi; omega
theorem edge_iff (h : Iso n f E E') {i j : Nat} (hi : i < n) (hj : j < n) : E' (f i) (f j) ↔ E i j := by
  refine ⟨fun k => ?_, h.to i j⟩
  obtain ⟨i', j', e1, e2, e⟩ := h.back _ _ k
  obtain ⟨b1, b2⟩ := h.edge _ _ e
  rw [h.inj hi b1 e1, h.inj hj b2 e2]
  exact e
theorem av_to (h : Iso n f E E') {A : Nat → Prop} {A' : Int → Prop} {i j : Nat} (hA : ∀ i, i < n → (A i ↔ A' (f i))) (hi : i < n) (a : Av E A i j) : Av E' A' (f i) (f j) := by
  induction a with
  | refl k => exact .refl (fun q => k ((hA _ hi).2 q))
  | step k e _ ih => exact .step (fun q => k ((hA _ hi).2 q)) (h.to _ _ e) (ih (h.edge _ _ e).2)
theorem av_back (h : Iso n f E E') {A : Nat → Prop} {A' : Int → Prop} (hA : ∀ i, i < n → (A i ↔ A' (f i))) {x y : Int} (a : Av E' A' x y) : ∀ i j, i < n → j < n → x = f i → y = f j → Av E A i j := by
  induction a with
  | @refl a k =>
    intro i j hi hj e1 e2
    obtain rfl := h.inj hi hj (e1.symm.trans e2)
    exact .refl (fun q => k (by rw [e1]; exact (hA i hi).1 q))
  | @step a b c k e _ ih =>
    intro i j hi hj e1 e2
    obtain ⟨i', m, g1, g2, g3⟩ := h.back _ _ e
    obtain ⟨b1, b2⟩ := h.edge _ _ g3
    obtain rfl := h.inj b1 hi (g1.symm.trans e1)
    exact .step (fun q => k (by rw [e1]; exact (hA _ hi).1 q)) g3 (ih m j b2 hj g2 e2)
theorem on_to (h : Iso n f E E') {i : Nat} (o : On E i) : On E' (f i) := by
  obtain ⟨t, e, r⟩ := o
  exact ⟨f t, h.to _ _ e, h.av_to (fun _ _ => Iff.rfl) (h.edge _ _ e).2 r⟩
theorem on_back (h : Iso n f E E') {x : Int} (o : On E' x) : ∃ i, x = f i ∧ i < n ∧ On E i := by
  obtain ⟨t, e, r⟩ := o
  obtain ⟨i, j, e1, e2, e3⟩ := h.back _ _ e
  obtain ⟨b1, b2⟩ := h.edge _ _ e3
  exact ⟨i, e1, b1, j, e3, h.av_back (fun _ _ => Iff.rfl) r j i b2 b1 e2 e1⟩
theorem on_iff (h : Iso n f E E') {i : Nat} (hi : i < n) : On E' (f i) ↔ On E i := by
  refine ⟨fun o => ?_, h.on_to⟩
  obtain ⟨j, e, hj, o⟩ := h.on_back o
  rw [h.inj hi hj e]
  exact o
theorem mem_map (h : Iso n f E E') {p : List Nat} (hp : ∀ x ∈ p, x < n) {m : Nat} (hm : m < n) : f m ∈ p.map f ↔ m ∈ p := by
  rw [List.mem_map]
  refine ⟨fun ⟨a, ha, e⟩ => ?_, fun k => ⟨m, k, rfl⟩⟩
  rw [← h.inj (hp a ha) hm e]
  exact ha
theorem way (h : Iso n f E E') {s : Nat} (hs : s < n) {c : List Nat} (w : Way E s c) : (∀ x ∈ c, x < n) ∧ Way E' (f s) (c.map f) := by
  induction w with
  | one => exact ⟨fun x hx => by rw [List.mem_singleton.1 hx]; exact hs, .one⟩
  | @more p v m _ h1 h2 h3 h4 h5 ih =>
    obtain ⟨i1, i2⟩ := ih
    have hm := (h.edge _ _ h2).2
    have hv : v < n := i1 v (by simp)
    have hA : ∀ i, i < n → ((i ∈ p ++ [v] ∧ i ≠ s) ↔ (f i ∈ (p.map f) ++ [f v] ∧ f i ≠ f s)) := fun i hi => by
      have e : (p.map f) ++ [f v] = (p ++ [v]).map f := by simp
      rw [e, h.mem_map i1 hi]
      refine and_congr Iff.rfl ⟨fun k q => k (h.inj hi hs q), fun k q => k (by rw [q])⟩
    refine ⟨fun x hx => ?_, ?_⟩
    · rcases List.mem_append.1 hx with k | k
      · exact i1 x k
      · rw [List.mem_singleton.1 k]; exact hm
    · have e : (p ++ [v]).map f = p.map f ++ [f v] := by simp
      have e2 : (p ++ [v] ++ [m]).map f = p.map f ++ [f v] ++ [f m] := by simp
      rw [e2]
      rw [e] at i2
      refine .more i2 (fun k => h1 ((h.edge_iff hv hs).1 k)) (h.to _ _ h2) (fun k => h3 ?_) (h.av_to hA hm h4) (fun m' k1 k2 k3 k4 => ?_)
      · rw [← e, h.mem_map i1 hm] at k
        exact k
      · obtain ⟨i, j, g1, g2, g3⟩ := h.back _ _ k2
        obtain ⟨b1, b2⟩ := h.edge _ _ g3
        obtain rfl := h.inj hv b1 g1
        subst g2
        refine h5 j ((h.lt_iff b2 hm).1 k1) g3 (fun q => k3 ?_) (h.av_back hA k4 j s b2 hs rfl rfl)
        rw [← e, h.mem_map i1 b2]
        exact q
theorem circ (h : Iso n f E E') {c : List Nat} (k : Circ E c) : Circ E' (c.map f) := by
  rcases k with ⟨rfl, k⟩ | ⟨s, p, v, rfl, k1, k2, k3, k4⟩
  · refine .inl ⟨rfl, fun x o => ?_⟩
    obtain ⟨i, _, _, o⟩ := h.on_back o
    exact k i o
  · have hs : s < n := by
      obtain ⟨t, e, _⟩ := k1
      exact (h.edge _ _ e).1
    obtain ⟨_, w⟩ := h.way hs k3
    refine .inr ⟨f s, p.map f, f v, by simp, h.on_to k1, fun x o => ?_, by simpa using w, h.to _ _ k4⟩
    obtain ⟨i, rfl, hi, o⟩ := h.on_back o
    have := k2 i o
    rcases Nat.lt_or_eq_of_le this with q | q
    · have := h.mono s i q hi; omega
    · rw [q]; exact Int.le_refl _
end Iso
end Go.Proofs.Ytjgepcifknmdhaa
