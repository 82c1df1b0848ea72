/- Texts of this claim, put together in their order. -/
import Derived.Deep.RegionHeld3
import Derived.Test.YtdhpahopfmcdkaaGreatBase1
import Derived.Test.YtdhpahopfmcdkaaGreatBase2
import Derived.Test.YtdhpahopfmcdkaaGreatBase3
import Derived.Test.YtdhpahopfmcdkaaGreatBase4
import Derived.Test.YtdhpahopfmcdkaaGreatBase5
import Derived.Test.YtdhpahopfmcdkaaGreatBase6
import Derived.Test.YtdhpahopfmcdkaaGreatBase7
import Derived.Test.YtdhpahopfmcdkaaGreatBase8
import Derived.Test.YtdhpahopfmcdkaaGreatOfPathtwo9
/- SortFunc at edges: by From, then To. -/
namespace Go.Proofs.YtdhpahopfmcdkaaGreat
open Go.RowKit Go.Sort

/-- By the first number, then by the second one. -/
def cfE (x y : En) : Int := if cmpD x.1 y.1 = 0 then cmpD x.2 y.2 else cmpD x.1 y.1
theorem lt_iff (x y : En) : Go.Proofs.ltOf cfE x y = true ↔ x.1 < y.1 ∨ (x.1 = y.1 ∧ x.2 < y.2) := by
  unfold Go.Proofs.ltOf cfE cmpD
  rw [decide_eq_true_eq]
  split <;> (repeat' split) <;> omega
theorem lt_no (x y : En) : Go.Proofs.ltOf cfE x y = false ↔ ¬ (x.1 < y.1 ∨ (x.1 = y.1 ∧ x.2 < y.2)) := by
  rw [← lt_iff]; simp
theorem swoE : SWO (Go.Proofs.ltOf cfE) := by
  refine ⟨fun x => ?_, fun x y z h1 h2 => ?_, fun x y z h1 h2 => ?_⟩
  · rw [lt_no]; omega
  · rw [lt_iff] at *; omega
  · rw [lt_no] at *; omega
theorem sepE (x y : En) (h1 : Go.Proofs.ltOf cfE x y = false) (h2 : Go.Proofs.ltOf cfE y x = false) : x = y := by
  rw [lt_no] at *
  have a : x.1 = y.1 := by omega
  have b : x.2 = y.2 := by omega
  exact Prod.ext a b
/-- The edges in order. -/
def srtE (l : List En) : List En := l.mergeSort fun x y => !(Go.Proofs.ltOf cfE) y x
theorem srtE_perm (l : List En) : (srtE l).Perm l := List.mergeSort_perm _ _
theorem srtE_len (l : List En) : (srtE l).length = l.length := (srtE_perm l).length_eq
theorem srtE_mem {l : List En} {x : En} : x ∈ srtE l ↔ x ∈ l := (srtE_perm l).mem_iff
def encE (x : En) : List Value := [.int .i64 x.1, .int .i64 x.2]
theorem flat_pairs (l : List En) : (flatK encE 2 l.toArray).toList = pairs l := by
  apply List.ext_getElem?
  intro t
  by_cases ht : t < l.length * 2
  · have h1 : (flatK encE 2 l.toArray)[t]! = (encE l.toArray[t / 2]!)[t % 2]! := get_flatK _ _ _ _ (by simpa using ht)
    have h2 : (flatK encE 2 l.toArray).toList[t]? = some (flatK encE 2 l.toArray)[t]! := by
      rw [Array.getElem?_toList, Array.getElem?_eq_getElem (by rw [size_flatK]; simpa using ht), getElem!_pos _ t (by rw [size_flatK]; simpa using ht)]
    have h3 : t / 2 < l.length := by omega
    have h4 : l.toArray[t / 2]! = l.getD (t / 2) (0, 0) := by simp [List.getD, h3]
    rw [h2, h1, h4]
    rcases (show t = t / 2 * 2 ∨ t = t / 2 * 2 + 1 by omega) with e | e
    · have e2 : t % 2 = 0 := by omega
      rw [e2]
      conv => rhs; rw [e]
      rw [pairs_fst l _ h3]; rfl
    · have e2 : t % 2 = 1 := by omega
      rw [e2]
      conv => rhs; rw [e]
      rw [pairs_snd l _ h3]; rfl
  · rw [List.getElem?_eq_none (by rw [Array.length_toList, size_flatK]; simpa using ht), List.getElem?_eq_none (by rw [pairs_len]; omega)]
set_option maxRecDepth 100000 in
theorem or_any (x y : Int) (N : Nat) (w : World) (h1 : w.cell? ⟨N, 0, none⟩ = some (.int .i64 x)) (h2 : w.cell? ⟨N, 1, none⟩ = some (.int .i64 y)) : Calls Tryz.prog 62 #[.slice (some ⟨N, 0, none⟩) 2 2] w fun e w' => e = .returned (.int .i64 (if x = 0 then y else x)) ∧ w' = w := by
  obtain ⟨r, hr⟩ : ∃ r, r = (if x = 0 then y else x) := ⟨_, rfl⟩
  rw [← hr]
  replace hr := hide hr
  go_enter Tryz.func62, Tryz.ntmps62
  go_wp2_with fail
  go_loopw [8] (fun s wr => ∃ k : Nat, k ≤ 2 ∧ s = .int .i64 k ∧ w = wr ∧ (0 < k → x = 0) ∧ (1 < k → y = 0)) (fun s _ => 2 - (intOf s).toNat)
  case atStart => exact ⟨0, by decide, rfl, rfl, fun h => absurd h (by decide), fun h => absurd h (by decide)⟩
  case round =>
    obtain ⟨k, hk, rfl, hw, hx, hy⟩ := hrel
    subst hw
    rcases (show k = 0 ∨ k = 1 ∨ k = 2 by omega) with rfl | rfl | rfl
    · clear hx hy
      by_cases h0 : x = 0
      · subst h0
        go_wp2
        go_roundw
        case rel => exact ⟨1, by decide, (by first | trivial | rfl), (by first | trivial | rfl), (by first | trivial | exact fun _ => rfl), fun h => absurd h (by decide)⟩
        case measure => simp [intOf]
      · have h3 : (x != 0) = true := by simpa using h0
        have e1 : Hid (r = x) := by show _ = _; rw [unhide hr, if_neg h0]
        go_wp2
        go_ret
        exact ⟨by rw [unhide e1]; rfl, rfl⟩
    · obtain rfl : x = 0 := hx (by decide)
      clear hx hy
      by_cases h0 : y = 0
      · subst h0
        go_wp2
        go_roundw
        case rel => exact ⟨2, by decide, (by first | trivial | rfl), (by first | trivial | rfl), (by first | trivial | exact fun _ => rfl), (by first | trivial | exact fun _ => rfl)⟩
        case measure => simp [intOf]
      · have h3 : (y != 0) = true := by simpa using h0
        have e1 : Hid (r = y) := by show _ = _; rw [unhide hr, if_pos rfl]
        go_wp2
        go_ret
        exact ⟨by rw [unhide e1]; rfl, rfl⟩
    · obtain rfl : x = 0 := hx (by decide)
      obtain rfl : y = 0 := hy (by decide)
      have e1 : Hid (r = 0) := by show _ = _; rw [unhide hr, if_pos rfl]
      clear hx hy
      go_wp2
      go_ret
      exact ⟨by rw [unhide e1]; rfl, rfl⟩
theorem or_r (x y : Int) (N : Nat) (w : World) {r : Int} (hr : r = if x = 0 then y else x) (h1 : w.cell? ⟨N, 0, none⟩ = some (.int .i64 x)) (h2 : w.cell? ⟨N, 1, none⟩ = some (.int .i64 y)) : Calls Tryz.prog 62 #[.slice (some ⟨N, 0, none⟩) 2 2] w fun e w' => e = .returned (.int .i64 r) ∧ w' = w := by
  subst hr; exact or_any x y N w h1 h2
theorem box69 {w : World} {p : Nat} {x : En} (h : w.heap[p]? = some (.cells #[.int .i64 x.1, .int .i64 x.2] 91 (0, 0))) : w.cell? ⟨p, 0, none⟩ = some (.int .i64 x.1) ∧ w.cell? ⟨p, 1, none⟩ = some (.int .i64 x.2) := by
  simp [World.cell?, h]
theorem cmp_r (a b : Int) (w : World) {r : Int} (hr : cmpD a b = r) : Calls Tryz.prog 63 #[.int .i64 a, .int .i64 b] w fun e w' => e = .returned (.int .i64 r) ∧ w' = w := by
  subst hr; exact cmp_any a b w
set_option maxRecDepth 100000 in
set_option maxHeartbeats 2000000 in
/-- The closure of Edges: three blocks are laid. -/
theorem closure71 (x y : En) (W : World) : Calls Tryz.prog 61 #[.agg #[.int .i64 x.1, .int .i64 x.2], .agg #[.int .i64 y.1, .int .i64 y.2]] W fun e w' => e = .returned (.int .i64 (cfE x y)) ∧ ∃ q os', w' = Go.Sort.grow (W.drewN q) os' := by
  obtain ⟨x1, x2⟩ := x
  obtain ⟨y1, y2⟩ := y
  obtain ⟨c1, hc1⟩ : ∃ c, cmpD x1 y1 = c := ⟨_, rfl⟩
  obtain ⟨c2, hc2⟩ : ∃ c, cmpD x2 y2 = c := ⟨_, rfl⟩
  have hr : Hid (cfE (x1, x2) (y1, y2) = if c1 = 0 then c2 else c1) := by show _ = _; rw [← hc1, ← hc2]; rfl
  dsimp only
  obtain ⟨r, hrr⟩ : ∃ r, r = cfE (x1, x2) (y1, y2) := ⟨_, rfl⟩
  rw [← hrr] at hr ⊢
  replace hrr := hide hrr
  obtain ⟨W2, hW2⟩ : ∃ W2, W2 = (W.alloc (.cells #[.int .i64 x1, .int .i64 x2] 91)).alloc (.cells #[.int .i64 y1, .int .i64 y2] 91) := ⟨_, rfl⟩
  have p1 : W2.heap[W.heap.size]? = some (.cells #[.int .i64 x1, .int .i64 x2] 91 (0, 0)) := by
    rw [hW2]
    exact ((below_new _ _).block _ (by simp)).trans (heap_alloc_new W _)
  have p2 : W2.heap[W.heap.size + 1]? = some (.cells #[.int .i64 y1, .int .i64 y2] 91 (0, 0)) := by
    rw [hW2]
    have := heap_alloc_new (W.alloc (.cells #[.int .i64 x1, .int .i64 x2] 91)) (.cells #[.int .i64 y1, .int .i64 y2] 91)
    rw [World.size_alloc] at this
    exact this
  obtain ⟨k0, k1⟩ := box69 (x := (x1, x2)) p1
  obtain ⟨k2, k3⟩ := box69 (x := (y1, y2)) p2
  dsimp only at k0 k1 k2 k3
  obtain ⟨n0, n1⟩ : (∀ o, ((W2.alloc o).drew).cell? ⟨W.heap.size, 0, none⟩ = some (.int .i64 x1)) ∧ (∀ o, ((W2.alloc o).drew).cell? ⟨W.heap.size, 1, none⟩ = some (.int .i64 x2)) := ⟨fun o => ((below_new W2 o).cell (p := ⟨W.heap.size, 0, none⟩) (heap_lt p1)).trans k0, fun o => ((below_new W2 o).cell (p := ⟨W.heap.size, 1, none⟩) (heap_lt p1)).trans k1⟩
  obtain ⟨n2, n3⟩ : (∀ o, ((W2.alloc o).drew).cell? ⟨W.heap.size + 1, 0, none⟩ = some (.int .i64 y1)) ∧ (∀ o, ((W2.alloc o).drew).cell? ⟨W.heap.size + 1, 1, none⟩ = some (.int .i64 y2)) := ⟨fun o => ((below_new W2 o).cell (p := ⟨W.heap.size + 1, 0, none⟩) (heap_lt p2)).trans k2, fun o => ((below_new W2 o).cell (p := ⟨W.heap.size + 1, 1, none⟩) (heap_lt p2)).trans k3⟩
  have fin : Hid (∀ o, ∃ q os', (W2.alloc o).drew = Go.Sort.grow (W.drewN q) os') := by
    intro o
    refine ⟨1, #[.cells #[.int .i64 x1, .int .i64 x2] 91, .cells #[.int .i64 y1, .int .i64 y2] 91, o], ?_⟩
    rw [hW2, alloc_eq_grow, alloc_eq_grow, alloc_eq_grow, grow_grow, grow_grow]
    rfl
  have hc1' := hide hc1
  have hc2' := hide hc2
  clear hc1 hc2
  go_enter Tryz.func61, Tryz.ntmps61
  go_wp2_with fail
  rw [← hW2]
  replace hW2 := hide hW2
  go_region_held3 (fun wz => wz.cell? ⟨W.heap.size, 0, none⟩ = some (.int .i64 x1) ∧ wz.cell? ⟨W.heap.size, 1, none⟩ = some (.int .i64 x2) ∧ wz.cell? ⟨W.heap.size + 1, 0, none⟩ = some (.int .i64 y1) ∧ wz.cell? ⟨W.heap.size + 1, 1, none⟩ = some (.int .i64 y2))
    (first | exact ⟨k0, k1, k2, k3⟩ | exact ⟨n0 _, n1 _, n2 _, n3 _⟩)
    (first | (go_at_call 63; with_reducible refine Calls.mono (cmp_r x1 y1 _ (unhide hc1')) ?_; rintro e w5 ⟨rfl, rfl⟩) | (go_at_call 63; with_reducible refine Calls.mono (cmp_r x2 y2 _ (unhide hc2')) ?_; rintro e w5 ⟨rfl, rfl⟩) | (go_at_call 62; refine Calls.mono (or_r c1 c2 _ _ (unhide hr) (show (W2.alloc (.cells #[.int .i64 c1, .int .i64 c2] 3)).cell? ⟨W2.heap.size, 0, none⟩ = _ from by rw [World.cell?_alloc_new]; rfl) (show (W2.alloc (.cells #[.int .i64 c1, .int .i64 c2] 3)).cell? ⟨W2.heap.size, 1, none⟩ = _ from by rw [World.cell?_alloc_new]; rfl)) ?_; rintro e w5 ⟨rfl, rfl⟩))
  all_goals
    go_wp2
    go_ret
    exact ⟨rfl, unhide fin _⟩
theorem isAgg69 (w : World) : (isAgg 91).run Tryz.prog w = .ok true w := by
  first | exact Tryz.isAgg91 w | simp [isAgg, run_underlying Tryz.underlying91]
theorem sortE_any (w : World) {M : Nat} {v : Value} {l : List En} (h : Pr 91 M v l w) (hl : l.length < 1000000000) :
    Calls Tryz.prog 60 #[v, .func (.func 61) #[] #[]] w fun e w' => e = .returned (.tuple #[]) ∧ Pr 91 M v (srtE l) w' ∧ w.grownBy w' v.ownBlock := by
  have e0 : srtE [] = [] := by unfold srtE; exact List.mergeSort_nil
  have triv : l = [] → Calls Tryz.prog 60 #[v, .func (.func 61) #[] #[]] w fun e w' => e = .returned (.tuple #[]) ∧ Pr 91 M v (srtE l) w' ∧ w.grownBy w' v.ownBlock := by
    rintro rfl
    obtain ⟨a, cap, rfl⟩ := h.form
    refine Calls.mono (AnyF.slices_SortFunc_none Tryz.laysE a cap _ w) ?_
    rintro e w' ⟨rfl, rfl⟩
    rw [e0]
    exact ⟨rfl, h, ⟨rfl, rfl, rfl, Nat.le_refl _, fun _ _ _ => rfl⟩⟩
  rcases h.2 with ⟨_, e⟩ | ⟨g, cap, cur, rfl, hB, hg, hn, hm, hs, ht⟩
  · exact triv (List.eq_nil_of_length_eq_zero e)
  · rcases Nat.eq_zero_or_pos l.length with h0 | h0
    · exact triv (List.eq_nil_of_length_eq_zero h0)
    · have hH : HoldsK encE 2 w g 0 l.toArray := by
        intro j hj
        rw [size_flatK] at hj
        have hj2 : j < l.length * 2 := by simpa using hj
        have h1 : (flatK encE 2 l.toArray)[j]! = (pairs l).getD j undef := by
          rw [← flat_pairs l]
          simp [getElem!_pos, List.getD, hj2]
        have h2 : (pairs l)[j]? = some ((pairs l).getD j undef) := by
          have : j < (pairs l).length := by rw [pairs_len]; exact hj2
          simp [List.getD, this]
        refine ⟨?_, by simp [World.frozen?, hg]⟩
        show w.cell? ⟨g, 0 + j, none⟩ = some (flatK encE 2 l.toArray)[j]!
        rw [h1, ← h2, ← ht, List.getElem?_take_of_lt hj2]
        simp [World.cell?, hg]
      have eg : ∀ args w, (callFunc 61 args).run Tryz.prog w = .ok (.enter 61 args) w := enters_of Tryz.func61 (by kernel_rfl) rfl
      have C := AnyQ.slices_SortFunc_total Tryz.laysE 2 isAgg69 Tryz.sizeOf91 encE (fun _ => rfl) (fun x v hv => by simp [encE] at hv; rcases hv with rfl | rfl <;> rfl) cfE swoE 61 #[] g 0 cap l.toArray w eg (fun m os dk _ x y => closure71 x y _) hH (heap_lt hg) (by simp; omega) sepE
      refine Calls.mono C ?_
      rintro e w' ⟨rfl, q, os, hw⟩
      subst hw
      have hlen := srtE_len l
      obtain ⟨F, hF⟩ : ∃ F, F = flatK encE 2 (srtE l).toArray := ⟨_, rfl⟩
      have hFl : F.toList = pairs (srtE l) := by rw [hF]; exact flat_pairs _
      have hFs : F.size = l.length * 2 := by rw [hF, size_flatK]; simp [hlen]
      have hg2 : (Go.Sort.putRow id (Go.Sort.ahead w q) g 0 F).heap[g]? = some (.cells (Go.Sort.putCells id 0 F cur) 91 (0, 0)) := by
        simp [Go.Sort.putRow, Go.Sort.mapBlock, Go.Sort.ahead, Array.getElem?_modify, hg, Go.Sort.onCells]
      have hsz : (Go.Sort.putRow id (Go.Sort.ahead w q) g 0 F).heap.size = w.heap.size := by simp [Go.Sort.putRow, Go.Sort.mapBlock, Go.Sort.ahead]
      have hw : sortWorldK encE 2 w g 0 q (l.toArray.toList.mergeSort fun x y => !(Go.Proofs.ltOf cfE) y x).toArray os = Go.Sort.grow (Go.Sort.putRow id (Go.Sort.ahead w q) g 0 F) os := by rw [hF]; rfl
      rw [hw]
      refine ⟨rfl, ⟨by rw [pairs_len], .inr ⟨g, cap, Go.Sort.putCells id 0 F cur, by rw [hlen], hB, ?_, by omega, hm, by simpa [Go.Sort.putCells] using hs, ?_⟩⟩, ⟨rfl, rfl, rfl, ?_, fun k hk hne => ?_⟩⟩
      · exact (grow_old _ os g (by rw [hsz]; exact heap_lt hg)).trans hg2
      · apply List.ext_getElem?
        intro j
        rw [List.getElem?_take, hlen, ← hFl]
        by_cases hj : j < l.length * 2
        · have hjc : j < cur.size := by omega
          rw [if_pos hj]
          simp only [Go.Sort.putCells, Array.getElem?_toList, Array.getElem?_mapIdx, Array.getElem?_eq_getElem hjc, Option.map_some]
          rw [if_pos (by omega), Array.getElem?_eq_getElem (by omega)]
          simp [getElem!_pos, hFs, hj]
        · rw [if_neg hj, List.getElem?_eq_none (by rw [Array.length_toList]; omega)]
      · show w.heap.size ≤ (_ ++ os).size
        rw [Array.size_append, hsz]; omega
      · refine (grow_old _ os k (by rw [hsz]; exact hk)).trans ?_
        have hgk : g ≠ k := fun e => hne (by rw [e]; rfl)
        simp [Go.Sort.putRow, Go.Sort.mapBlock, Go.Sort.ahead, Array.getElem?_modify, hgk]
end Go.Proofs.YtdhpahopfmcdkaaGreat

/- Drop: its loop over slices.Backward. -/
namespace Go.Proofs.YtdhpahopfmcdkaaGreat
open Go.RowKit Go.Shelf

attribute [local go_sem] Oper.semAt_some

/-- Between two rounds: pre has come; the box of who is P, that of the answer G; the answer's own row lies at or above M. -/
def Dr (B N : Nat) (most : Int) (T : Nat → Lv) (b rb : Nat) (lb : Nat → Nat) (who : Int) (w0 : World) (P G M : Nat) (pre : List { x : Nat // x < N }) (W : World) : Prop :=
  (∃ hv qv gv, Tb B N most (dropD who T (pre.map (·.1))).2 b rb lb hv qv W ∧ W.heap[G]? = some (.cells #[gv] 38 (0, 0)) ∧ Is M gv (dropD who T (pre.map (·.1))).1 W ∧ W.heap[P]? = some (.cells #[.int .i64 who] 3 (0, 0)) ∧
    Gd N 1000 (dropD who T (pre.map (·.1))).2 ∧ (dropD who T (pre.map (·.1))).1.length ≤ pre.length * 1000 ∧ P < M ∧ M ≤ W.heap.size ∧ Kr w0 W) ∧ Below B w0 W
theorem dr_own {B N : Nat} {most : Int} {T : Nat → Lv} {b rb : Nat} {lb : Nat → Nat} {who : Int} {w0 : World} {P G M B0 : Nat} (h0 : B ≤ w0.heap.size) (h1 : B ≤ B0) : OwnFrom B0 (Dr B N most T b rb lb who w0 P G M) :=
  fun pre W W' row hs hg hr => by
    obtain ⟨⟨hv, qv, gv, h1', h2, h3, h4, h5, h6, h7, h8, h9⟩, hB⟩ := hs
    have k := cz_own hg hr
    exact ⟨⟨hv, qv, gv, h1'.cz k, k _ _ _ _ h2, h3.cz k, k _ _ _ _ h4, h5, h6, h7, Nat.le_trans h8 hg.size, fun j c t hj ht => k _ _ _ _ (h9 j c t hj ht)⟩, ownFrom_below (β := Unit) h0 h1 () W W' row hB hg hr⟩
theorem dr_next {B N : Nat} {most : Int} {T : Nat → Lv} {b rb : Nat} {lb : Nat → Nat} {who : Int} {w0 : World} {P G M : Nat} {pre : List { x : Nat // x < N }} {W W' : World} (h : Dr B N most T b rb lb who w0 P G M pre W) (k : Below W.heap.size W W') (hB : B ≤ w0.heap.size) : Dr B N most T b rb lb who w0 P G M pre W' := by
  obtain ⟨⟨hv, qv, gv, h1, h2, h3, h4, h5, h6, h7, h8, h9⟩, hb⟩ := h
  exact ⟨⟨hv, qv, gv, h1.next k, (k.block _ (heap_lt h2)).trans h2, h3.next k, (k.block _ (heap_lt h4)).trans h4, h5, h6, h7, Nat.le_trans h8 k.size, kr_t h9 (below_kr k)⟩, bt hb k (Nat.le_trans hB hb.size)⟩
/-- The loop's variable lies in a box of its own. -/
def Axr (N : Nat) (lb : Nat → Nat) (a0 : Nat → Nat → Act) (x : { x : Nat // x < N }) (a' : Act) (W : World) : Prop := ∃ R, W.heap[R]? = some (.cells #[.pointer (some ⟨lb x.1, 0, none⟩)] 62 (0, 0)) ∧ a' = a0 R x.1
theorem drop_end (who : Int) (T : Nat → Lv) (N : Nat) (ys : List { x : Nat // x < N }) (h : ys.map (·.1) = dn N 0) : dropD who T (ys.map (·.1)) = dropD who T (dn N 0) := by rw [h]
set_option maxRecDepth 100000 in
set_option maxHeartbeats 4000000 in
theorem drop_t {B N : Nat} {most : Int} {T : Nat → Lv} {b rb : Nat} {lb : Nat → Nat} {hv qv : Nat → Value} (w : World) (h : Tb B N most T b rb lb hv qv w) (hgd : Gd N 1000 T) (hN : N ≤ 10000) (who : Int) :
    Calls Tryz.prog 11 #[.pointer (some ⟨b, 0, none⟩), .int .i64 who] w fun e w' => ∃ gv hv' qv' M, e = .returned gv ∧ w.heap.size ≤ M ∧ Is M gv (dropD who T (dn N 0)).1 w' ∧ Tb B N most (dropD who T (dn N 0)).2 b rb lb hv' qv' w' ∧ Below B w w' ∧ Kr w w' := by
  refine (callsIn_wide (n := 4)).1 ?_
  have HT := hide h
  obtain ⟨W1, hW1⟩ : ∃ W1, W1 = (w.alloc (.cells #[.int .i64 who] 3)).alloc (.cells #[.slice none 0 0] 38) := ⟨_, rfl⟩
  have bW : Below w.heap.size w W1 := by rw [hW1]; exact below_add (below_new w _) _
  have c0 : ((w.alloc (.cells #[.int .i64 who] 3)).alloc (.cells #[.slice none 0 0] 38)).cell? ⟨b, 0, none⟩ = some (.slice (some ⟨rb, 0, none⟩) N N) := by rw [← hW1]; exact (h.next bW).c0
  clear h
  refine callsIn_of_wp_marks Tryz.func11 rfl trivial ?_ rfl
  simp only [Tryz.ntmps11, List.size_toArray, List.length_cons, List.length_nil, Nat.reduceAdd, Nat.reduceSub, Array.replicate_succ, Array.replicate_zero, List.push_toArray, List.append_toArray, List.nil_append, List.cons_append]
  gi_wp2_with (refine ⟨trivial, ?_⟩; gi_at_call 32; refine (back_in Fence.wide (4 - 1) trivial rfl _ _ _ _).mono ?_; rintro e w' ⟨rfl, rfl⟩)
  have hT := unhide HT
  obtain ⟨P, hP⟩ : ∃ P, P = w.heap.size := ⟨_, rfl⟩
  have hlow : B ≤ w.heap.size := hT.low
  obtain ⟨W2, hW2⟩ : ∃ W2, W2 = ((w.alloc (.cells #[.int .i64 who] 3)).alloc (.cells #[.slice none 0 0] 38)).alloc (.cells #[.slice (some ⟨rb, 0, none⟩) N N] 53) := ⟨_, rfl⟩
  have b2 : Below w.heap.size w W2 := by rw [hW2]; exact below_add (below_add (below_new w _) _) _
  have o1 : W2.heap[P]? = some (.cells #[.int .i64 who] 3 (0, 0)) := by
    rw [hW2, hP]
    exact ((below_add (below_new (w.alloc (.cells #[.int .i64 who] 3)) _) _).block _ (by simp)).trans (heap_alloc_new w _)
  have o2 : W2.heap[P + 1]? = some (.cells #[.slice none 0 0] 38 (0, 0)) := by
    rw [hW2, hP]
    have := heap_alloc_new (w.alloc (.cells #[.int .i64 who] 3)) (.cells #[.slice none 0 0] 38)
    rw [World.size_alloc] at this
    exact ((below_new _ _).block _ (by simp)).trans this
  have o3 : W2.heap[P + 1 + 1]? = some (.cells #[.slice (some ⟨rb, 0, none⟩) N N] 53 (0, 0)) := by
    rw [hW2, hP]
    have := heap_alloc_new ((w.alloc (.cells #[.int .i64 who] 3)).alloc (.cells #[.slice none 0 0] 38)) (.cells #[.slice (some ⟨rb, 0, none⟩) N N] 53)
    rw [World.size_alloc, World.size_alloc] at this
    exact this
  have osz : W2.heap.size = P + 3 := by rw [hW2, hP]; simp
  have T2 := hT.next b2
  rw [← hW2, ← hP]
  have I0 : Dr B N most T b rb lb who w P (P + 1) W2.heap.size [] W2 := ⟨⟨hv, qv, .slice none 0 0, T2, o2, is_nil _ _, o1, hgd, by simp [dropD], by omega, Nat.le_refl _, below_kr b2⟩, b2.mono hlow⟩
  have hB2 : B ≤ W2.heap.size := Nat.le_trans hlow b2.size
  have hBG : B ≤ P + 1 := by omega
  replace hP := hide hP
  replace hW2 := hide hW2
  replace hW1 := hide hW1
  clear c0 bW
  refine wpIn_rangeFunc_ownH (α := { x : Nat // x < N }) rfl (by omega) (gf := 79) (lb := #[.pointer (some ⟨P + 1 + 1, 0, none⟩)]) rfl trivial (enters_of Tryz.func79 (by kernel_rfl) rfl)
    (back_stops Fence.wide (4 - 1) trivial rfl (by omega) (P + 1 + 1) rb N lb hN W2 o3 T2.row) kr_t (fun W l o o' _ h1 h2 _ => kr_b W l o o' h1 h2) (Below.refl _ _) (fun _ => rfl)
    (Dr B N most T b rb lb who w P (P + 1) W2.heap.size) (fun _ _ _ => False) (dr_own hlow hB2) (fun _ _ _ _ _ hs _ _ => hs) I0
    (Axr N lb (fun R x => { tmps := #[.pointer (some ⟨b, 0, none⟩), .int .i64 who, undef, .pointer (some ⟨P, 0, none⟩), .slice none 0 0, .pointer (some ⟨P + 1, 0, none⟩), undef, .pointer (some ⟨R, 0, none⟩), .pointer (some ⟨b, 0, none⟩), .pointer (some ⟨b, 0, none⟩), .pointer (some ⟨b, 0, none⟩), .pointer (some ⟨b, 0, none⟩), .slice (some ⟨rb, 0, none⟩) N N, .func (.func 79) #[] #[.pointer (some ⟨P + 1 + 1, 0, none⟩)], .int .i64 (x : Int), .agg #[.pointer (some ⟨lb x, 0, none⟩)], undef, undef, undef, undef, undef, undef, undef, undef, undef, undef], defers := [] }))
    (fun x a' _ W W' row hs hg hr => by
      obtain ⟨R, h1, h2⟩ := hs
      exact ⟨R, cz_own hg hr _ _ _ _ h1, h2⟩) ?assign ?body ?done ?stop
  case assign =>
    rintro l pre x W K hI hK
    have hnx := dr_next hI (below_new W (.cells #[.pointer (some ⟨lb x.1, 0, none⟩)] 62)) hlow
    gi_wp2
    exact hK _ _ ((KeepsOthers.alloc _ _).from _) (kr_alloc _ _) hnx ⟨W.heap.size, heap_alloc_new W _, rfl⟩
  case body =>
    rintro l pre ⟨k, hk⟩ a' W hl hrec ⟨⟨hv1, qv1, gv, t1, g1, i1, p1, G1, l1, hPM, hMW, hKr⟩, hB⟩ ⟨R, hR, rfl⟩ hlt
    have hsn : dropD who T ((pre ++ [(⟨k, hk⟩ : { x : Nat // x < N })]).map (·.1)) = dropS who (dropD who T (pre.map (·.1))) k := by rw [List.map_append]; exact drop_snoc _ _ _ _
    have hpl : (pre ++ [(⟨k, hk⟩ : { x : Nat // x < N })]).length = pre.length + 1 := by simp
    obtain ⟨s, hs⟩ : ∃ s, s = dropD who T (pre.map (·.1)) := ⟨_, rfl⟩
    rw [← hs] at hsn t1 i1 G1 l1
    replace hs := hide hs
    have la := t1.ls.la k hk
    have hsum := G1.sum k hk
    have cR : W.cell? ⟨R, 0, none⟩ = some (.pointer (some ⟨lb k, 0, none⟩)) := by simp [World.cell?, hR]
    have cP : W.cell? ⟨P, 0, none⟩ = some (.int .i64 who) := by simp [World.cell?, p1]
    have Gd2 := gd_drop (who := who) hk la.srt G1
    have Ln2 := drop_len (who := who) (s := s) hk G1
    have cH := hide (has_r (x := s.2 k) W ⟨_, _, la⟩ (by omega) (by omega) who rfl)
    cases hh : hasL who (s.2 k)
    · have e1 : dropS who s k = s := by unfold dropS; rw [hh]; rfl
      rw [hh] at cH
      gi_wp2_with (refine ⟨trivial, ?_⟩; gi_at_call 33; refine (CallsIn.inRound l (callsIn_wide.2 (unhide cH))).mono ?_; rintro e w5 ⟨rfl, b5⟩)
      refine ⟨(below_others b5).from _, below_kr b5, ⟨hv1, qv1, gv, ?_, (b5.block _ (heap_lt g1)).trans g1, ?_, (b5.block _ (heap_lt p1)).trans p1, ?_, ?_, hPM, Nat.le_trans hMW b5.size, kr_t hKr (below_kr b5)⟩, bt hB b5 (Nat.le_trans hlow hB.size)⟩
      · rw [hsn, e1]; exact t1.next b5
      · rw [hsn, e1]; exact i1.next b5
      · rw [hsn, e1]; exact G1
      · rw [hsn, e1, hpl]; omega
    · obtain ⟨x, hx⟩ : ∃ x, x = leaveD who (s.2 k).1 (s.2 k).2 := ⟨_, rfl⟩
      have e1 : dropS who s k = (s.1 ++ x.1, upd s.2 k x.2) := by unfold dropS; rw [hh, hx]; rfl
      have hxl : x.1.length ≤ 1000 := by
        have := leave_few (who := who) (H := (s.2 k).1) (Q := (s.2 k).2)
        rw [← hx] at this
        omega
      rw [hh] at cH
      replace hx := hide hx
      have key := hide (fun (w5 : World) (b5 : Below W.heap.size W w5) => leave_any w5 ((t1.next b5).ls.la k hk) (by omega) who)
      have rnd := hide (fun (w5 : World) (b5 : Below W.heap.size W w5) (gl hv' qv' : Value) (w6 : World) => drop_round (gl := gl) (hv' := hv') (qv' := qv') (l := x.1) (x := x.2) (w6 := w6) (t1.next b5) ((b5.block _ (heap_lt g1)).trans g1) (i1.next b5) ((b5.block _ (heap_lt p1)).trans p1) hPM (Nat.le_trans hMW b5.size) hk)
      have fin : Hid (∀ (V : World) (_ : Below W.heap.size W V) (v' : Value) (w8 : World) (hv2 qv2 : Nat → Value), KeepsOthers V w8 → Kr V w8 → Tb B N most (upd s.2 k x.2) b rb lb hv2 qv2 w8 → w8.heap[P + 1]? = some (.cells #[v'] 38 (0, 0)) → Is W2.heap.size v' (s.1 ++ x.1) w8 →
          w8.heap[P]? = some (.cells #[.int .i64 who] 3 (0, 0)) → V.heap.size ≤ w8.heap.size → (B ≤ P + 1 → Below B V w8) → KeepsFrom W2.heap.size W w8 ∧ Kr W w8 ∧ Dr B N most T b rb lb who w P (P + 1) W2.heap.size (pre ++ [⟨k, hk⟩]) w8) := by
        intro V bV v' w8 hv2 qv2 f1 f2 f3 f4 f5 f6 f7 f8
        refine ⟨((below_others bV).trans f1).from _, kr_t (below_kr bV) f2, ⟨hv2, qv2, v', ?_, f4, ?_, f6, ?_, ?_, hPM, Nat.le_trans hMW (Nat.le_trans bV.size f7), kr_t hKr (kr_t (below_kr bV) f2)⟩, ?_⟩
        · rw [hsn, e1]; exact f3
        · rw [hsn, e1]; exact f5
        · rw [hsn]; exact Gd2
        · rw [hsn, hpl]; omega
        · exact (bt hB bV (Nat.le_trans hlow hB.size)).trans (f8 hBG)
      have HR := hide hR
      have HG := hide g1
      have HP1 := hide p1
      have hls : s.1.length + x.1.length ≤ 100000000 := by omega
      replace e1 := hide e1
      gi_wp2_with (refine ⟨trivial, ?_⟩; gi_at_call 33; refine (CallsIn.inRound l (callsIn_wide.2 (unhide cH))).mono ?_; rintro e w5 ⟨rfl, b5⟩)
      have r5 := (b5.block _ (heap_lt (unhide HR))).trans (unhide HR)
      have g5 := (b5.block _ (heap_lt (unhide HG))).trans (unhide HG)
      have p5 := (b5.block _ (heap_lt (unhide HP1))).trans (unhide HP1)
      have k1 : w5.cell? ⟨R, 0, none⟩ = some (.pointer (some ⟨lb k, 0, none⟩)) := by simp [World.cell?, r5]
      have k2 : w5.cell? ⟨P, 0, none⟩ = some (.int .i64 who) := by simp [World.cell?, p5]
      have k3 : w5.cell? ⟨P + 1, 0, none⟩ = some gv := by simp [World.cell?, g5]
      have b5d : Below W.heap.size W w5.drew := b5.drew
      replace b5d := hide b5d
      clear r5 g5 p5
      have hmx : Tryz.prog.follows .mixedOrders = true := by kernel_rfl
      refine wpIn_region_any hmx ?_
      change wpAnyIn _ _ _ _ _ _ _ _ _ (World.drew _)
      refine wpAnyIn_ready (rs := [0, 1, 3]) (by kernel_rfl) (by simp) ?_
      refine AllReadyIn.cons rfl (fun K hK => ?_) ?_
      · go_simp
        refine hK _ _ ?_
        clear hK K
        refine wpAnyIn_ready (rs := [1, 3]) (by kernel_rfl) (by simp) ?_
        refine AllReadyIn.cons rfl (fun K hK => ?_) ?_
        · go_simp
          refine hK _ _ ?_
          clear hK K
          refine wpAnyIn_ready (rs := [2, 3]) (by kernel_rfl) (by simp) ?_
          refine AllReadyIn.cons rfl (fun K hK => ?_) ?_
          · go_simp
            refine hK _ _ ?_
            clear hK K
            refine wpAnyIn_ready (rs := [3]) (by kernel_rfl) (by simp) ?_
            refine AllReadyIn.cons rfl (fun K hK => ?_) ?_
            · go_simp
              refine hK _ _ ?_
              clear hK K
              refine wpAnyIn_ready (rs := [4]) (by kernel_rfl) (by simp) ?_
              refine AllReadyIn.cons rfl (fun K hK => ?_) ?_
              · go_simp
                gi_wp2_with (refine ⟨trivial, ?_⟩; gi_at_call 34; refine (CallsIn.inRound l (callsIn_wide.2 (unhide key _ (unhide b5d)))).mono ?_; rintro e w6 ⟨gl, hv', qv', rfl, I6, L6, M6⟩)
                rw [← unhide hx] at I6 L6
                obtain ⟨q1, v', w7, happ, q2, q3, f1, f2, f3, f4, f5, f6, f7, f8⟩ := unhide rnd _ (unhide b5d) gl hv' qv' w6 I6 L6 M6 hls hB2
                clear I6 L6 M6
                obtain ⟨a9, n9, c9, rfl⟩ : ∃ a n c, v' = Value.slice a n c := (by obtain ⟨a, c, e⟩ := f5.form; exact ⟨a, _, c, e⟩)
                replace f1 := hide f1
                replace f2 := hide f2
                replace f3 := hide f3
                replace f4 := hide f4
                replace f5 := hide f5
                replace f6 := hide f6
                replace f7 := hide f7
                replace f8 := hide f8
                refine wpAnyIn_ready (rs := [5]) (by kernel_rfl) (by simp) ?_
                refine AllReadyIn.cons rfl (fun K hK => ?_) ?_
                · refine stepIn_app rfl (.tmp 19) (.tmp 23) rfl rfl rfl happ ?_
                  refine hK _ _ ?_
                  clear hK K
                  refine wpAnyIn_ready (rs := [6]) (by kernel_rfl) (by simp) ?_
                  refine AllReadyIn.cons rfl (fun K hK => ?_) ?_
                  · go_simp
                    refine hK _ _ ?_
                    clear hK K
                    refine wpAnyIn_done (by kernel_rfl) ?_ _
                    exact unhide fin _ (unhide b5d) _ _ _ _ (unhide f1) (unhide f2) (unhide f3) (unhide f4) (unhide f5) (unhide f6) (unhide f7) (unhide f8)
                  exact AllReadyIn.nil
                exact AllReadyIn.nil
              exact AllReadyIn.nil
            exact AllReadyIn.nil
          refine AllReadyIn.cons rfl (fun K hK => ?_) ?_
          · go_simp
            refine hK _ _ ?_
            clear hK K
            refine wpAnyIn_ready (rs := [2]) (by kernel_rfl) (by simp) ?_
            refine AllReadyIn.cons rfl (fun K hK => ?_) ?_
            · go_simp
              refine hK _ _ ?_
              clear hK K
              refine wpAnyIn_ready (rs := [4]) (by kernel_rfl) (by simp) ?_
              refine AllReadyIn.cons rfl (fun K hK => ?_) ?_
              · go_simp
                gi_wp2_with (refine ⟨trivial, ?_⟩; gi_at_call 34; refine (CallsIn.inRound l (callsIn_wide.2 (unhide key _ (unhide b5d)))).mono ?_; rintro e w6 ⟨gl, hv', qv', rfl, I6, L6, M6⟩)
                rw [← unhide hx] at I6 L6
                obtain ⟨q1, v', w7, happ, q2, q3, f1, f2, f3, f4, f5, f6, f7, f8⟩ := unhide rnd _ (unhide b5d) gl hv' qv' w6 I6 L6 M6 hls hB2
                clear I6 L6 M6
                obtain ⟨a9, n9, c9, rfl⟩ : ∃ a n c, v' = Value.slice a n c := (by obtain ⟨a, c, e⟩ := f5.form; exact ⟨a, _, c, e⟩)
                replace f1 := hide f1
                replace f2 := hide f2
                replace f3 := hide f3
                replace f4 := hide f4
                replace f5 := hide f5
                replace f6 := hide f6
                replace f7 := hide f7
                replace f8 := hide f8
                refine wpAnyIn_ready (rs := [5]) (by kernel_rfl) (by simp) ?_
                refine AllReadyIn.cons rfl (fun K hK => ?_) ?_
                · refine stepIn_app rfl (.tmp 19) (.tmp 23) rfl rfl rfl happ ?_
                  refine hK _ _ ?_
                  clear hK K
                  refine wpAnyIn_ready (rs := [6]) (by kernel_rfl) (by simp) ?_
                  refine AllReadyIn.cons rfl (fun K hK => ?_) ?_
                  · go_simp
                    refine hK _ _ ?_
                    clear hK K
                    refine wpAnyIn_done (by kernel_rfl) ?_ _
                    exact unhide fin _ (unhide b5d) _ _ _ _ (unhide f1) (unhide f2) (unhide f3) (unhide f4) (unhide f5) (unhide f6) (unhide f7) (unhide f8)
                  exact AllReadyIn.nil
                exact AllReadyIn.nil
              exact AllReadyIn.nil
            exact AllReadyIn.nil
          exact AllReadyIn.nil
        refine AllReadyIn.cons rfl (fun K hK => ?_) ?_
        · go_simp
          refine hK _ _ ?_
          clear hK K
          refine wpAnyIn_ready (rs := [1]) (by kernel_rfl) (by simp) ?_
          refine AllReadyIn.cons rfl (fun K hK => ?_) ?_
          · go_simp
            refine hK _ _ ?_
            clear hK K
            refine wpAnyIn_ready (rs := [2]) (by kernel_rfl) (by simp) ?_
            refine AllReadyIn.cons rfl (fun K hK => ?_) ?_
            · go_simp
              refine hK _ _ ?_
              clear hK K
              refine wpAnyIn_ready (rs := [4]) (by kernel_rfl) (by simp) ?_
              refine AllReadyIn.cons rfl (fun K hK => ?_) ?_
              · go_simp
                gi_wp2_with (refine ⟨trivial, ?_⟩; gi_at_call 34; refine (CallsIn.inRound l (callsIn_wide.2 (unhide key _ (unhide b5d)))).mono ?_; rintro e w6 ⟨gl, hv', qv', rfl, I6, L6, M6⟩)
                rw [← unhide hx] at I6 L6
                obtain ⟨q1, v', w7, happ, q2, q3, f1, f2, f3, f4, f5, f6, f7, f8⟩ := unhide rnd _ (unhide b5d) gl hv' qv' w6 I6 L6 M6 hls hB2
                clear I6 L6 M6
                obtain ⟨a9, n9, c9, rfl⟩ : ∃ a n c, v' = Value.slice a n c := (by obtain ⟨a, c, e⟩ := f5.form; exact ⟨a, _, c, e⟩)
                replace f1 := hide f1
                replace f2 := hide f2
                replace f3 := hide f3
                replace f4 := hide f4
                replace f5 := hide f5
                replace f6 := hide f6
                replace f7 := hide f7
                replace f8 := hide f8
                refine wpAnyIn_ready (rs := [5]) (by kernel_rfl) (by simp) ?_
                refine AllReadyIn.cons rfl (fun K hK => ?_) ?_
                · refine stepIn_app rfl (.tmp 19) (.tmp 23) rfl rfl rfl happ ?_
                  refine hK _ _ ?_
                  clear hK K
                  refine wpAnyIn_ready (rs := [6]) (by kernel_rfl) (by simp) ?_
                  refine AllReadyIn.cons rfl (fun K hK => ?_) ?_
                  · go_simp
                    refine hK _ _ ?_
                    clear hK K
                    refine wpAnyIn_done (by kernel_rfl) ?_ _
                    exact unhide fin _ (unhide b5d) _ _ _ _ (unhide f1) (unhide f2) (unhide f3) (unhide f4) (unhide f5) (unhide f6) (unhide f7) (unhide f8)
                  exact AllReadyIn.nil
                exact AllReadyIn.nil
              exact AllReadyIn.nil
            exact AllReadyIn.nil
          exact AllReadyIn.nil
        exact AllReadyIn.nil
      refine AllReadyIn.cons rfl (fun K hK => ?_) ?_
      · go_simp
        refine hK _ _ ?_
        clear hK K
        refine wpAnyIn_ready (rs := [0, 2, 3]) (by kernel_rfl) (by simp) ?_
        refine AllReadyIn.cons rfl (fun K hK => ?_) ?_
        · go_simp
          refine hK _ _ ?_
          clear hK K
          refine wpAnyIn_ready (rs := [2, 3]) (by kernel_rfl) (by simp) ?_
          refine AllReadyIn.cons rfl (fun K hK => ?_) ?_
          · go_simp
            refine hK _ _ ?_
            clear hK K
            refine wpAnyIn_ready (rs := [3]) (by kernel_rfl) (by simp) ?_
            refine AllReadyIn.cons rfl (fun K hK => ?_) ?_
            · go_simp
              refine hK _ _ ?_
              clear hK K
              refine wpAnyIn_ready (rs := [4]) (by kernel_rfl) (by simp) ?_
              refine AllReadyIn.cons rfl (fun K hK => ?_) ?_
              · go_simp
                gi_wp2_with (refine ⟨trivial, ?_⟩; gi_at_call 34; refine (CallsIn.inRound l (callsIn_wide.2 (unhide key _ (unhide b5d)))).mono ?_; rintro e w6 ⟨gl, hv', qv', rfl, I6, L6, M6⟩)
                rw [← unhide hx] at I6 L6
                obtain ⟨q1, v', w7, happ, q2, q3, f1, f2, f3, f4, f5, f6, f7, f8⟩ := unhide rnd _ (unhide b5d) gl hv' qv' w6 I6 L6 M6 hls hB2
                clear I6 L6 M6
                obtain ⟨a9, n9, c9, rfl⟩ : ∃ a n c, v' = Value.slice a n c := (by obtain ⟨a, c, e⟩ := f5.form; exact ⟨a, _, c, e⟩)
                replace f1 := hide f1
                replace f2 := hide f2
                replace f3 := hide f3
                replace f4 := hide f4
                replace f5 := hide f5
                replace f6 := hide f6
                replace f7 := hide f7
                replace f8 := hide f8
                refine wpAnyIn_ready (rs := [5]) (by kernel_rfl) (by simp) ?_
                refine AllReadyIn.cons rfl (fun K hK => ?_) ?_
                · refine stepIn_app rfl (.tmp 19) (.tmp 23) rfl rfl rfl happ ?_
                  refine hK _ _ ?_
                  clear hK K
                  refine wpAnyIn_ready (rs := [6]) (by kernel_rfl) (by simp) ?_
                  refine AllReadyIn.cons rfl (fun K hK => ?_) ?_
                  · go_simp
                    refine hK _ _ ?_
                    clear hK K
                    refine wpAnyIn_done (by kernel_rfl) ?_ _
                    exact unhide fin _ (unhide b5d) _ _ _ _ (unhide f1) (unhide f2) (unhide f3) (unhide f4) (unhide f5) (unhide f6) (unhide f7) (unhide f8)
                  exact AllReadyIn.nil
                exact AllReadyIn.nil
              exact AllReadyIn.nil
            exact AllReadyIn.nil
          refine AllReadyIn.cons rfl (fun K hK => ?_) ?_
          · go_simp
            refine hK _ _ ?_
            clear hK K
            refine wpAnyIn_ready (rs := [2]) (by kernel_rfl) (by simp) ?_
            refine AllReadyIn.cons rfl (fun K hK => ?_) ?_
            · go_simp
              refine hK _ _ ?_
              clear hK K
              refine wpAnyIn_ready (rs := [4]) (by kernel_rfl) (by simp) ?_
              refine AllReadyIn.cons rfl (fun K hK => ?_) ?_
              · go_simp
                gi_wp2_with (refine ⟨trivial, ?_⟩; gi_at_call 34; refine (CallsIn.inRound l (callsIn_wide.2 (unhide key _ (unhide b5d)))).mono ?_; rintro e w6 ⟨gl, hv', qv', rfl, I6, L6, M6⟩)
                rw [← unhide hx] at I6 L6
                obtain ⟨q1, v', w7, happ, q2, q3, f1, f2, f3, f4, f5, f6, f7, f8⟩ := unhide rnd _ (unhide b5d) gl hv' qv' w6 I6 L6 M6 hls hB2
                clear I6 L6 M6
                obtain ⟨a9, n9, c9, rfl⟩ : ∃ a n c, v' = Value.slice a n c := (by obtain ⟨a, c, e⟩ := f5.form; exact ⟨a, _, c, e⟩)
                replace f1 := hide f1
                replace f2 := hide f2
                replace f3 := hide f3
                replace f4 := hide f4
                replace f5 := hide f5
                replace f6 := hide f6
                replace f7 := hide f7
                replace f8 := hide f8
                refine wpAnyIn_ready (rs := [5]) (by kernel_rfl) (by simp) ?_
                refine AllReadyIn.cons rfl (fun K hK => ?_) ?_
                · refine stepIn_app rfl (.tmp 19) (.tmp 23) rfl rfl rfl happ ?_
                  refine hK _ _ ?_
                  clear hK K
                  refine wpAnyIn_ready (rs := [6]) (by kernel_rfl) (by simp) ?_
                  refine AllReadyIn.cons rfl (fun K hK => ?_) ?_
                  · go_simp
                    refine hK _ _ ?_
                    clear hK K
                    refine wpAnyIn_done (by kernel_rfl) ?_ _
                    exact unhide fin _ (unhide b5d) _ _ _ _ (unhide f1) (unhide f2) (unhide f3) (unhide f4) (unhide f5) (unhide f6) (unhide f7) (unhide f8)
                  exact AllReadyIn.nil
                exact AllReadyIn.nil
              exact AllReadyIn.nil
            exact AllReadyIn.nil
          exact AllReadyIn.nil
        refine AllReadyIn.cons rfl (fun K hK => ?_) ?_
        · go_simp
          refine hK _ _ ?_
          clear hK K
          refine wpAnyIn_ready (rs := [0, 3]) (by kernel_rfl) (by simp) ?_
          refine AllReadyIn.cons rfl (fun K hK => ?_) ?_
          · go_simp
            refine hK _ _ ?_
            clear hK K
            refine wpAnyIn_ready (rs := [3]) (by kernel_rfl) (by simp) ?_
            refine AllReadyIn.cons rfl (fun K hK => ?_) ?_
            · go_simp
              refine hK _ _ ?_
              clear hK K
              refine wpAnyIn_ready (rs := [4]) (by kernel_rfl) (by simp) ?_
              refine AllReadyIn.cons rfl (fun K hK => ?_) ?_
              · go_simp
                gi_wp2_with (refine ⟨trivial, ?_⟩; gi_at_call 34; refine (CallsIn.inRound l (callsIn_wide.2 (unhide key _ (unhide b5d)))).mono ?_; rintro e w6 ⟨gl, hv', qv', rfl, I6, L6, M6⟩)
                rw [← unhide hx] at I6 L6
                obtain ⟨q1, v', w7, happ, q2, q3, f1, f2, f3, f4, f5, f6, f7, f8⟩ := unhide rnd _ (unhide b5d) gl hv' qv' w6 I6 L6 M6 hls hB2
                clear I6 L6 M6
                obtain ⟨a9, n9, c9, rfl⟩ : ∃ a n c, v' = Value.slice a n c := (by obtain ⟨a, c, e⟩ := f5.form; exact ⟨a, _, c, e⟩)
                replace f1 := hide f1
                replace f2 := hide f2
                replace f3 := hide f3
                replace f4 := hide f4
                replace f5 := hide f5
                replace f6 := hide f6
                replace f7 := hide f7
                replace f8 := hide f8
                refine wpAnyIn_ready (rs := [5]) (by kernel_rfl) (by simp) ?_
                refine AllReadyIn.cons rfl (fun K hK => ?_) ?_
                · refine stepIn_app rfl (.tmp 19) (.tmp 23) rfl rfl rfl happ ?_
                  refine hK _ _ ?_
                  clear hK K
                  refine wpAnyIn_ready (rs := [6]) (by kernel_rfl) (by simp) ?_
                  refine AllReadyIn.cons rfl (fun K hK => ?_) ?_
                  · go_simp
                    refine hK _ _ ?_
                    clear hK K
                    refine wpAnyIn_done (by kernel_rfl) ?_ _
                    exact unhide fin _ (unhide b5d) _ _ _ _ (unhide f1) (unhide f2) (unhide f3) (unhide f4) (unhide f5) (unhide f6) (unhide f7) (unhide f8)
                  exact AllReadyIn.nil
                exact AllReadyIn.nil
              exact AllReadyIn.nil
            exact AllReadyIn.nil
          refine AllReadyIn.cons rfl (fun K hK => ?_) ?_
          · go_simp
            refine hK _ _ ?_
            clear hK K
            refine wpAnyIn_ready (rs := [0, 4]) (by kernel_rfl) (by simp) ?_
            refine AllReadyIn.cons rfl (fun K hK => ?_) ?_
            · go_simp
              refine hK _ _ ?_
              clear hK K
              refine wpAnyIn_ready (rs := [4]) (by kernel_rfl) (by simp) ?_
              refine AllReadyIn.cons rfl (fun K hK => ?_) ?_
              · go_simp
                gi_wp2_with (refine ⟨trivial, ?_⟩; gi_at_call 34; refine (CallsIn.inRound l (callsIn_wide.2 (unhide key _ (unhide b5d)))).mono ?_; rintro e w6 ⟨gl, hv', qv', rfl, I6, L6, M6⟩)
                rw [← unhide hx] at I6 L6
                obtain ⟨q1, v', w7, happ, q2, q3, f1, f2, f3, f4, f5, f6, f7, f8⟩ := unhide rnd _ (unhide b5d) gl hv' qv' w6 I6 L6 M6 hls hB2
                clear I6 L6 M6
                obtain ⟨a9, n9, c9, rfl⟩ : ∃ a n c, v' = Value.slice a n c := (by obtain ⟨a, c, e⟩ := f5.form; exact ⟨a, _, c, e⟩)
                replace f1 := hide f1
                replace f2 := hide f2
                replace f3 := hide f3
                replace f4 := hide f4
                replace f5 := hide f5
                replace f6 := hide f6
                replace f7 := hide f7
                replace f8 := hide f8
                refine wpAnyIn_ready (rs := [5]) (by kernel_rfl) (by simp) ?_
                refine AllReadyIn.cons rfl (fun K hK => ?_) ?_
                · refine stepIn_app rfl (.tmp 19) (.tmp 23) rfl rfl rfl happ ?_
                  refine hK _ _ ?_
                  clear hK K
                  refine wpAnyIn_ready (rs := [6]) (by kernel_rfl) (by simp) ?_
                  refine AllReadyIn.cons rfl (fun K hK => ?_) ?_
                  · go_simp
                    refine hK _ _ ?_
                    clear hK K
                    refine wpAnyIn_done (by kernel_rfl) ?_ _
                    exact unhide fin _ (unhide b5d) _ _ _ _ (unhide f1) (unhide f2) (unhide f3) (unhide f4) (unhide f5) (unhide f6) (unhide f7) (unhide f8)
                  exact AllReadyIn.nil
                exact AllReadyIn.nil
              exact AllReadyIn.nil
            refine AllReadyIn.cons rfl (fun K hK => ?_) ?_
            · go_simp
              gi_wp2_with (refine ⟨trivial, ?_⟩; gi_at_call 34; refine (CallsIn.inRound l (callsIn_wide.2 (unhide key _ (unhide b5d)))).mono ?_; rintro e w6 ⟨gl, hv', qv', rfl, I6, L6, M6⟩)
              rw [← unhide hx] at I6 L6
              obtain ⟨q1, v', w7, happ, q2, q3, f1, f2, f3, f4, f5, f6, f7, f8⟩ := unhide rnd _ (unhide b5d) gl hv' qv' w6 I6 L6 M6 hls hB2
              clear I6 L6 M6
              obtain ⟨a9, n9, c9, rfl⟩ : ∃ a n c, v' = Value.slice a n c := (by obtain ⟨a, c, e⟩ := f5.form; exact ⟨a, _, c, e⟩)
              replace f1 := hide f1
              replace f2 := hide f2
              replace f3 := hide f3
              replace f4 := hide f4
              replace f5 := hide f5
              replace f6 := hide f6
              replace f7 := hide f7
              replace f8 := hide f8
              refine wpAnyIn_ready (rs := [0]) (by kernel_rfl) (by simp) ?_
              refine AllReadyIn.cons rfl (fun K hK => ?_) ?_
              · go_simp
                refine hK _ _ ?_
                clear hK K
                refine wpAnyIn_ready (rs := [5]) (by kernel_rfl) (by simp) ?_
                refine AllReadyIn.cons rfl (fun K hK => ?_) ?_
                · refine stepIn_app rfl (.tmp 19) (.tmp 23) rfl rfl rfl happ ?_
                  refine hK _ _ ?_
                  clear hK K
                  refine wpAnyIn_ready (rs := [6]) (by kernel_rfl) (by simp) ?_
                  refine AllReadyIn.cons rfl (fun K hK => ?_) ?_
                  · go_simp
                    refine hK _ _ ?_
                    clear hK K
                    refine wpAnyIn_done (by kernel_rfl) ?_ _
                    exact unhide fin _ (unhide b5d) _ _ _ _ (unhide f1) (unhide f2) (unhide f3) (unhide f4) (unhide f5) (unhide f6) (unhide f7) (unhide f8)
                  exact AllReadyIn.nil
                exact AllReadyIn.nil
              exact AllReadyIn.nil
            exact AllReadyIn.nil
          exact AllReadyIn.nil
        refine AllReadyIn.cons rfl (fun K hK => ?_) ?_
        · go_simp
          refine hK _ _ ?_
          clear hK K
          refine wpAnyIn_ready (rs := [0, 2]) (by kernel_rfl) (by simp) ?_
          refine AllReadyIn.cons rfl (fun K hK => ?_) ?_
          · go_simp
            refine hK _ _ ?_
            clear hK K
            refine wpAnyIn_ready (rs := [2]) (by kernel_rfl) (by simp) ?_
            refine AllReadyIn.cons rfl (fun K hK => ?_) ?_
            · go_simp
              refine hK _ _ ?_
              clear hK K
              refine wpAnyIn_ready (rs := [4]) (by kernel_rfl) (by simp) ?_
              refine AllReadyIn.cons rfl (fun K hK => ?_) ?_
              · go_simp
                gi_wp2_with (refine ⟨trivial, ?_⟩; gi_at_call 34; refine (CallsIn.inRound l (callsIn_wide.2 (unhide key _ (unhide b5d)))).mono ?_; rintro e w6 ⟨gl, hv', qv', rfl, I6, L6, M6⟩)
                rw [← unhide hx] at I6 L6
                obtain ⟨q1, v', w7, happ, q2, q3, f1, f2, f3, f4, f5, f6, f7, f8⟩ := unhide rnd _ (unhide b5d) gl hv' qv' w6 I6 L6 M6 hls hB2
                clear I6 L6 M6
                obtain ⟨a9, n9, c9, rfl⟩ : ∃ a n c, v' = Value.slice a n c := (by obtain ⟨a, c, e⟩ := f5.form; exact ⟨a, _, c, e⟩)
                replace f1 := hide f1
                replace f2 := hide f2
                replace f3 := hide f3
                replace f4 := hide f4
                replace f5 := hide f5
                replace f6 := hide f6
                replace f7 := hide f7
                replace f8 := hide f8
                refine wpAnyIn_ready (rs := [5]) (by kernel_rfl) (by simp) ?_
                refine AllReadyIn.cons rfl (fun K hK => ?_) ?_
                · refine stepIn_app rfl (.tmp 19) (.tmp 23) rfl rfl rfl happ ?_
                  refine hK _ _ ?_
                  clear hK K
                  refine wpAnyIn_ready (rs := [6]) (by kernel_rfl) (by simp) ?_
                  refine AllReadyIn.cons rfl (fun K hK => ?_) ?_
                  · go_simp
                    refine hK _ _ ?_
                    clear hK K
                    refine wpAnyIn_done (by kernel_rfl) ?_ _
                    exact unhide fin _ (unhide b5d) _ _ _ _ (unhide f1) (unhide f2) (unhide f3) (unhide f4) (unhide f5) (unhide f6) (unhide f7) (unhide f8)
                  exact AllReadyIn.nil
                exact AllReadyIn.nil
              exact AllReadyIn.nil
            exact AllReadyIn.nil
          refine AllReadyIn.cons rfl (fun K hK => ?_) ?_
          · go_simp
            refine hK _ _ ?_
            clear hK K
            refine wpAnyIn_ready (rs := [0, 4]) (by kernel_rfl) (by simp) ?_
            refine AllReadyIn.cons rfl (fun K hK => ?_) ?_
            · go_simp
              refine hK _ _ ?_
              clear hK K
              refine wpAnyIn_ready (rs := [4]) (by kernel_rfl) (by simp) ?_
              refine AllReadyIn.cons rfl (fun K hK => ?_) ?_
              · go_simp
                gi_wp2_with (refine ⟨trivial, ?_⟩; gi_at_call 34; refine (CallsIn.inRound l (callsIn_wide.2 (unhide key _ (unhide b5d)))).mono ?_; rintro e w6 ⟨gl, hv', qv', rfl, I6, L6, M6⟩)
                rw [← unhide hx] at I6 L6
                obtain ⟨q1, v', w7, happ, q2, q3, f1, f2, f3, f4, f5, f6, f7, f8⟩ := unhide rnd _ (unhide b5d) gl hv' qv' w6 I6 L6 M6 hls hB2
                clear I6 L6 M6
                obtain ⟨a9, n9, c9, rfl⟩ : ∃ a n c, v' = Value.slice a n c := (by obtain ⟨a, c, e⟩ := f5.form; exact ⟨a, _, c, e⟩)
                replace f1 := hide f1
                replace f2 := hide f2
                replace f3 := hide f3
                replace f4 := hide f4
                replace f5 := hide f5
                replace f6 := hide f6
                replace f7 := hide f7
                replace f8 := hide f8
                refine wpAnyIn_ready (rs := [5]) (by kernel_rfl) (by simp) ?_
                refine AllReadyIn.cons rfl (fun K hK => ?_) ?_
                · refine stepIn_app rfl (.tmp 19) (.tmp 23) rfl rfl rfl happ ?_
                  refine hK _ _ ?_
                  clear hK K
                  refine wpAnyIn_ready (rs := [6]) (by kernel_rfl) (by simp) ?_
                  refine AllReadyIn.cons rfl (fun K hK => ?_) ?_
                  · go_simp
                    refine hK _ _ ?_
                    clear hK K
                    refine wpAnyIn_done (by kernel_rfl) ?_ _
                    exact unhide fin _ (unhide b5d) _ _ _ _ (unhide f1) (unhide f2) (unhide f3) (unhide f4) (unhide f5) (unhide f6) (unhide f7) (unhide f8)
                  exact AllReadyIn.nil
                exact AllReadyIn.nil
              exact AllReadyIn.nil
            refine AllReadyIn.cons rfl (fun K hK => ?_) ?_
            · go_simp
              gi_wp2_with (refine ⟨trivial, ?_⟩; gi_at_call 34; refine (CallsIn.inRound l (callsIn_wide.2 (unhide key _ (unhide b5d)))).mono ?_; rintro e w6 ⟨gl, hv', qv', rfl, I6, L6, M6⟩)
              rw [← unhide hx] at I6 L6
              obtain ⟨q1, v', w7, happ, q2, q3, f1, f2, f3, f4, f5, f6, f7, f8⟩ := unhide rnd _ (unhide b5d) gl hv' qv' w6 I6 L6 M6 hls hB2
              clear I6 L6 M6
              obtain ⟨a9, n9, c9, rfl⟩ : ∃ a n c, v' = Value.slice a n c := (by obtain ⟨a, c, e⟩ := f5.form; exact ⟨a, _, c, e⟩)
              replace f1 := hide f1
              replace f2 := hide f2
              replace f3 := hide f3
              replace f4 := hide f4
              replace f5 := hide f5
              replace f6 := hide f6
              replace f7 := hide f7
              replace f8 := hide f8
              refine wpAnyIn_ready (rs := [0]) (by kernel_rfl) (by simp) ?_
              refine AllReadyIn.cons rfl (fun K hK => ?_) ?_
              · go_simp
                refine hK _ _ ?_
                clear hK K
                refine wpAnyIn_ready (rs := [5]) (by kernel_rfl) (by simp) ?_
                refine AllReadyIn.cons rfl (fun K hK => ?_) ?_
                · refine stepIn_app rfl (.tmp 19) (.tmp 23) rfl rfl rfl happ ?_
                  refine hK _ _ ?_
                  clear hK K
                  refine wpAnyIn_ready (rs := [6]) (by kernel_rfl) (by simp) ?_
                  refine AllReadyIn.cons rfl (fun K hK => ?_) ?_
                  · go_simp
                    refine hK _ _ ?_
                    clear hK K
                    refine wpAnyIn_done (by kernel_rfl) ?_ _
                    exact unhide fin _ (unhide b5d) _ _ _ _ (unhide f1) (unhide f2) (unhide f3) (unhide f4) (unhide f5) (unhide f6) (unhide f7) (unhide f8)
                  exact AllReadyIn.nil
                exact AllReadyIn.nil
              exact AllReadyIn.nil
            exact AllReadyIn.nil
          exact AllReadyIn.nil
        exact AllReadyIn.nil
      refine AllReadyIn.cons rfl (fun K hK => ?_) ?_
      · go_simp
        refine hK _ _ ?_
        clear hK K
        refine wpAnyIn_ready (rs := [0, 1]) (by kernel_rfl) (by simp) ?_
        refine AllReadyIn.cons rfl (fun K hK => ?_) ?_
        · go_simp
          refine hK _ _ ?_
          clear hK K
          refine wpAnyIn_ready (rs := [1]) (by kernel_rfl) (by simp) ?_
          refine AllReadyIn.cons rfl (fun K hK => ?_) ?_
          · go_simp
            refine hK _ _ ?_
            clear hK K
            refine wpAnyIn_ready (rs := [2]) (by kernel_rfl) (by simp) ?_
            refine AllReadyIn.cons rfl (fun K hK => ?_) ?_
            · go_simp
              refine hK _ _ ?_
              clear hK K
              refine wpAnyIn_ready (rs := [4]) (by kernel_rfl) (by simp) ?_
              refine AllReadyIn.cons rfl (fun K hK => ?_) ?_
              · go_simp
                gi_wp2_with (refine ⟨trivial, ?_⟩; gi_at_call 34; refine (CallsIn.inRound l (callsIn_wide.2 (unhide key _ (unhide b5d)))).mono ?_; rintro e w6 ⟨gl, hv', qv', rfl, I6, L6, M6⟩)
                rw [← unhide hx] at I6 L6
                obtain ⟨q1, v', w7, happ, q2, q3, f1, f2, f3, f4, f5, f6, f7, f8⟩ := unhide rnd _ (unhide b5d) gl hv' qv' w6 I6 L6 M6 hls hB2
                clear I6 L6 M6
                obtain ⟨a9, n9, c9, rfl⟩ : ∃ a n c, v' = Value.slice a n c := (by obtain ⟨a, c, e⟩ := f5.form; exact ⟨a, _, c, e⟩)
                replace f1 := hide f1
                replace f2 := hide f2
                replace f3 := hide f3
                replace f4 := hide f4
                replace f5 := hide f5
                replace f6 := hide f6
                replace f7 := hide f7
                replace f8 := hide f8
                refine wpAnyIn_ready (rs := [5]) (by kernel_rfl) (by simp) ?_
                refine AllReadyIn.cons rfl (fun K hK => ?_) ?_
                · refine stepIn_app rfl (.tmp 19) (.tmp 23) rfl rfl rfl happ ?_
                  refine hK _ _ ?_
                  clear hK K
                  refine wpAnyIn_ready (rs := [6]) (by kernel_rfl) (by simp) ?_
                  refine AllReadyIn.cons rfl (fun K hK => ?_) ?_
                  · go_simp
                    refine hK _ _ ?_
                    clear hK K
                    refine wpAnyIn_done (by kernel_rfl) ?_ _
                    exact unhide fin _ (unhide b5d) _ _ _ _ (unhide f1) (unhide f2) (unhide f3) (unhide f4) (unhide f5) (unhide f6) (unhide f7) (unhide f8)
                  exact AllReadyIn.nil
                exact AllReadyIn.nil
              exact AllReadyIn.nil
            exact AllReadyIn.nil
          exact AllReadyIn.nil
        refine AllReadyIn.cons rfl (fun K hK => ?_) ?_
        · go_simp
          refine hK _ _ ?_
          clear hK K
          refine wpAnyIn_ready (rs := [0, 2]) (by kernel_rfl) (by simp) ?_
          refine AllReadyIn.cons rfl (fun K hK => ?_) ?_
          · go_simp
            refine hK _ _ ?_
            clear hK K
            refine wpAnyIn_ready (rs := [2]) (by kernel_rfl) (by simp) ?_
            refine AllReadyIn.cons rfl (fun K hK => ?_) ?_
            · go_simp
              refine hK _ _ ?_
              clear hK K
              refine wpAnyIn_ready (rs := [4]) (by kernel_rfl) (by simp) ?_
              refine AllReadyIn.cons rfl (fun K hK => ?_) ?_
              · go_simp
                gi_wp2_with (refine ⟨trivial, ?_⟩; gi_at_call 34; refine (CallsIn.inRound l (callsIn_wide.2 (unhide key _ (unhide b5d)))).mono ?_; rintro e w6 ⟨gl, hv', qv', rfl, I6, L6, M6⟩)
                rw [← unhide hx] at I6 L6
                obtain ⟨q1, v', w7, happ, q2, q3, f1, f2, f3, f4, f5, f6, f7, f8⟩ := unhide rnd _ (unhide b5d) gl hv' qv' w6 I6 L6 M6 hls hB2
                clear I6 L6 M6
                obtain ⟨a9, n9, c9, rfl⟩ : ∃ a n c, v' = Value.slice a n c := (by obtain ⟨a, c, e⟩ := f5.form; exact ⟨a, _, c, e⟩)
                replace f1 := hide f1
                replace f2 := hide f2
                replace f3 := hide f3
                replace f4 := hide f4
                replace f5 := hide f5
                replace f6 := hide f6
                replace f7 := hide f7
                replace f8 := hide f8
                refine wpAnyIn_ready (rs := [5]) (by kernel_rfl) (by simp) ?_
                refine AllReadyIn.cons rfl (fun K hK => ?_) ?_
                · refine stepIn_app rfl (.tmp 19) (.tmp 23) rfl rfl rfl happ ?_
                  refine hK _ _ ?_
                  clear hK K
                  refine wpAnyIn_ready (rs := [6]) (by kernel_rfl) (by simp) ?_
                  refine AllReadyIn.cons rfl (fun K hK => ?_) ?_
                  · go_simp
                    refine hK _ _ ?_
                    clear hK K
                    refine wpAnyIn_done (by kernel_rfl) ?_ _
                    exact unhide fin _ (unhide b5d) _ _ _ _ (unhide f1) (unhide f2) (unhide f3) (unhide f4) (unhide f5) (unhide f6) (unhide f7) (unhide f8)
                  exact AllReadyIn.nil
                exact AllReadyIn.nil
              exact AllReadyIn.nil
            exact AllReadyIn.nil
          refine AllReadyIn.cons rfl (fun K hK => ?_) ?_
          · go_simp
            refine hK _ _ ?_
            clear hK K
            refine wpAnyIn_ready (rs := [0, 4]) (by kernel_rfl) (by simp) ?_
            refine AllReadyIn.cons rfl (fun K hK => ?_) ?_
            · go_simp
              refine hK _ _ ?_
              clear hK K
              refine wpAnyIn_ready (rs := [4]) (by kernel_rfl) (by simp) ?_
              refine AllReadyIn.cons rfl (fun K hK => ?_) ?_
              · go_simp
                gi_wp2_with (refine ⟨trivial, ?_⟩; gi_at_call 34; refine (CallsIn.inRound l (callsIn_wide.2 (unhide key _ (unhide b5d)))).mono ?_; rintro e w6 ⟨gl, hv', qv', rfl, I6, L6, M6⟩)
                rw [← unhide hx] at I6 L6
                obtain ⟨q1, v', w7, happ, q2, q3, f1, f2, f3, f4, f5, f6, f7, f8⟩ := unhide rnd _ (unhide b5d) gl hv' qv' w6 I6 L6 M6 hls hB2
                clear I6 L6 M6
                obtain ⟨a9, n9, c9, rfl⟩ : ∃ a n c, v' = Value.slice a n c := (by obtain ⟨a, c, e⟩ := f5.form; exact ⟨a, _, c, e⟩)
                replace f1 := hide f1
                replace f2 := hide f2
                replace f3 := hide f3
                replace f4 := hide f4
                replace f5 := hide f5
                replace f6 := hide f6
                replace f7 := hide f7
                replace f8 := hide f8
                refine wpAnyIn_ready (rs := [5]) (by kernel_rfl) (by simp) ?_
                refine AllReadyIn.cons rfl (fun K hK => ?_) ?_
                · refine stepIn_app rfl (.tmp 19) (.tmp 23) rfl rfl rfl happ ?_
                  refine hK _ _ ?_
                  clear hK K
                  refine wpAnyIn_ready (rs := [6]) (by kernel_rfl) (by simp) ?_
                  refine AllReadyIn.cons rfl (fun K hK => ?_) ?_
                  · go_simp
                    refine hK _ _ ?_
                    clear hK K
                    refine wpAnyIn_done (by kernel_rfl) ?_ _
                    exact unhide fin _ (unhide b5d) _ _ _ _ (unhide f1) (unhide f2) (unhide f3) (unhide f4) (unhide f5) (unhide f6) (unhide f7) (unhide f8)
                  exact AllReadyIn.nil
                exact AllReadyIn.nil
              exact AllReadyIn.nil
            refine AllReadyIn.cons rfl (fun K hK => ?_) ?_
            · go_simp
              gi_wp2_with (refine ⟨trivial, ?_⟩; gi_at_call 34; refine (CallsIn.inRound l (callsIn_wide.2 (unhide key _ (unhide b5d)))).mono ?_; rintro e w6 ⟨gl, hv', qv', rfl, I6, L6, M6⟩)
              rw [← unhide hx] at I6 L6
              obtain ⟨q1, v', w7, happ, q2, q3, f1, f2, f3, f4, f5, f6, f7, f8⟩ := unhide rnd _ (unhide b5d) gl hv' qv' w6 I6 L6 M6 hls hB2
              clear I6 L6 M6
              obtain ⟨a9, n9, c9, rfl⟩ : ∃ a n c, v' = Value.slice a n c := (by obtain ⟨a, c, e⟩ := f5.form; exact ⟨a, _, c, e⟩)
              replace f1 := hide f1
              replace f2 := hide f2
              replace f3 := hide f3
              replace f4 := hide f4
              replace f5 := hide f5
              replace f6 := hide f6
              replace f7 := hide f7
              replace f8 := hide f8
              refine wpAnyIn_ready (rs := [0]) (by kernel_rfl) (by simp) ?_
              refine AllReadyIn.cons rfl (fun K hK => ?_) ?_
              · go_simp
                refine hK _ _ ?_
                clear hK K
                refine wpAnyIn_ready (rs := [5]) (by kernel_rfl) (by simp) ?_
                refine AllReadyIn.cons rfl (fun K hK => ?_) ?_
                · refine stepIn_app rfl (.tmp 19) (.tmp 23) rfl rfl rfl happ ?_
                  refine hK _ _ ?_
                  clear hK K
                  refine wpAnyIn_ready (rs := [6]) (by kernel_rfl) (by simp) ?_
                  refine AllReadyIn.cons rfl (fun K hK => ?_) ?_
                  · go_simp
                    refine hK _ _ ?_
                    clear hK K
                    refine wpAnyIn_done (by kernel_rfl) ?_ _
                    exact unhide fin _ (unhide b5d) _ _ _ _ (unhide f1) (unhide f2) (unhide f3) (unhide f4) (unhide f5) (unhide f6) (unhide f7) (unhide f8)
                  exact AllReadyIn.nil
                exact AllReadyIn.nil
              exact AllReadyIn.nil
            exact AllReadyIn.nil
          exact AllReadyIn.nil
        exact AllReadyIn.nil
      exact AllReadyIn.nil
  case done =>
    rintro D ys W hD hys ⟨⟨hv1, qv1, gv, t1, g1, i1, p1, G1, l1, hPM, hMW, hKr⟩, hB⟩ hK
    rw [hys] at t1 i1
    have c1 : W.cell? ⟨P + 1, 0, none⟩ = some gv := by simp [World.cell?, g1]
    gi_wp2
    refine ⟨by simp, .inl ⟨_, _, rfl, run_takeDeferred hK, ?_⟩⟩
    have hcz := cz_own (B := 0) (grownBy_putObj' W D (.deferred none)) (fun r e => by cases e; exact ⟨Nat.zero_le _, _, hK, rfl⟩)
    refine ⟨_, results_tmp rfl _ _ _, gv, hv1, qv1, W2.heap.size, rfl, ?_, i1.cz hcz, t1.cz hcz, ?_, fun j c t hj ht => hcz _ _ _ _ (hKr j c t hj ht)⟩
    · rw [osz]; have := unhide hP; omega
    · exact hB.trans (belowK_b (w := w) hlow W D _ _ (by have := unhide hP; omega) hK rfl rfl)
  case stop =>
    rintro D c pre W hD _ h _
    exact h.elim
end Go.Proofs.YtdhpahopfmcdkaaGreat
