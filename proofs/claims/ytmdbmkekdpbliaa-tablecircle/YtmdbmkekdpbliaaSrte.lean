/- SortFunc at edges: by From, then To. -/
import Derived.Test.YtmdbmkekdpbliaaEdgr
import Derived.Test.YtmdbmkekdpbliaaShelfe
import Derived.Deep.RegionHeld3
namespace Go.Proofs.Ytmdbmkekdpbliaa
open Go.RowKit Go.Sort

/-- By the first number, then by the second one. -/
def cfE (x y : En) : Int := if cmpD x.1 y.1 = 0 then cmpD x.2 y.2 else cmpD x.1 y.1
theorem lt_iff (x y : En) : Go.Proofs.ltOf cfE x y = true ↔ x.1 < y.1 ∨ (x.1 = y.1 ∧ x.2 < y.2) := by
  unfold Go.Proofs.ltOf cfE cmpD
  rw [decide_eq_true_eq]
  split <;> (repeat' split) <;> omega
theorem lt_no (x y : En) : Go.Proofs.ltOf cfE x y = false ↔ ¬ (x.1 < y.1 ∨ (x.1 = y.1 ∧ x.2 < y.2)) := by
  rw [← lt_iff]; simp
theorem swoE : SWO (Go.Proofs.ltOf cfE) := by
  refine ⟨fun x => ?_, fun x y z h1 h2 => ?_, fun x y z h1 h2 => ?_⟩
  · rw [lt_no]; omega
  · rw [lt_iff] at *; omega
  · rw [lt_no] at *; omega
theorem sepE (x y : En) (h1 : Go.Proofs.ltOf cfE x y = false) (h2 : Go.Proofs.ltOf cfE y x = false) : x = y := by
  rw [lt_no] at *
  have a : x.1 = y.1 := by omega
  have b : x.2 = y.2 := by omega
  exact Prod.ext a b
/-- The edges in order. -/
def srtE (l : List En) : List En := l.mergeSort fun x y => !(Go.Proofs.ltOf cfE) y x
theorem srtE_perm (l : List En) : (srtE l).Perm l := List.mergeSort_perm _ _
theorem srtE_len (l : List En) : (srtE l).length = l.length := (srtE_perm l).length_eq
theorem srtE_mem {l : List En} {x : En} : x ∈ srtE l ↔ x ∈ l := (srtE_perm l).mem_iff
def encE (x : En) : List Value := [.int .i64 x.1, .int .i64 x.2]
theorem flat_pairs (l : List En) : (flatK encE 2 l.toArray).toList = pairs l := by
  apply List.ext_getElem?
  intro t
  by_cases ht : t < l.length * 2
  · have h1 : (flatK encE 2 l.toArray)[t]! = (encE l.toArray[t / 2]!)[t % 2]! := get_flatK _ _ _ _ (by simpa using ht)
    have h2 : (flatK encE 2 l.toArray).toList[t]? = some (flatK encE 2 l.toArray)[t]! := by
      rw [Array.getElem?_toList, Array.getElem?_eq_getElem (by rw [size_flatK]; simpa using ht), getElem!_pos _ t (by rw [size_flatK]; simpa using ht)]
    have h3 : t / 2 < l.length := by omega
    have h4 : l.toArray[t / 2]! = l.getD (t / 2) (0, 0) := by simp [List.getD, h3]
    rw [h2, h1, h4]
    rcases (show t = t / 2 * 2 ∨ t = t / 2 * 2 + 1 by omega) with e | e
    · have e2 : t % 2 = 0 := by omega
      rw [e2]
      conv => rhs; rw [e]
      rw [pairs_fst l _ h3]; rfl
    · have e2 : t % 2 = 1 := by omega
      rw [e2]
      conv => rhs; rw [e]
      rw [pairs_snd l _ h3]; rfl
  · rw [List.getElem?_eq_none (by rw [Array.length_toList, size_flatK]; simpa using ht), List.getElem?_eq_none (by rw [pairs_len]; omega)]
theorem or_any (x y : Int) (N : Nat) (w : World) (h1 : w.cell? ⟨N, 0, none⟩ = some (.int .i64 x)) (h2 : w.cell? ⟨N, 1, none⟩ = some (.int .i64 y)) : Calls Try.prog 72 #[.slice (some ⟨N, 0, none⟩) 2 2] w fun e w' => e = .returned (.int .i64 (if x = 0 then y else x)) ∧ w' = w := by
  obtain ⟨r, hr⟩ : ∃ r, r = (if x = 0 then y else x) := ⟨_, rfl⟩
  rw [← hr]
  replace hr := hide hr
  go_enter Try.func72, Try.ntmps72
  go_wp2_with fail
  go_loopw [8] (fun s wr => ∃ k : Nat, k ≤ 2 ∧ s = .int .i64 k ∧ w = wr ∧ (0 < k → x = 0) ∧ (1 < k → y = 0)) (fun s _ => 2 - (intOf s).toNat)
  case atStart => exact ⟨0, by decide, rfl, rfl, fun h => absurd h (by decide), fun h => absurd h (by decide)⟩
  case round =>
    obtain ⟨k, hk, rfl, hw, hx, hy⟩ := hrel
    subst hw
    rcases (show k = 0 ∨ k = 1 ∨ k = 2 by omega) with rfl | rfl | rfl
    · clear hx hy
      by_cases h0 : x = 0
      · subst h0
        go_wp2
        go_roundw
        case rel => exact ⟨1, by decide, (by first | trivial | rfl), (by first | trivial | rfl), (by first | trivial | exact fun _ => rfl), fun h => absurd h (by decide)⟩
        case measure => simp [intOf]
      · have h3 : (x != 0) = true := by simpa using h0
        have e1 : Hid (r = x) := by show _ = _; rw [unhide hr, if_neg h0]
        go_wp2
        go_ret
        exact ⟨by rw [unhide e1]; rfl, rfl⟩
    · obtain rfl : x = 0 := hx (by decide)
      clear hx hy
      by_cases h0 : y = 0
      · subst h0
        go_wp2
        go_roundw
        case rel => exact ⟨2, by decide, (by first | trivial | rfl), (by first | trivial | rfl), (by first | trivial | exact fun _ => rfl), (by first | trivial | exact fun _ => rfl)⟩
        case measure => simp [intOf]
      · have h3 : (y != 0) = true := by simpa using h0
        have e1 : Hid (r = y) := by show _ = _; rw [unhide hr, if_pos rfl]
        go_wp2
        go_ret
        exact ⟨by rw [unhide e1]; rfl, rfl⟩
    · obtain rfl : x = 0 := hx (by decide)
      obtain rfl : y = 0 := hy (by decide)
      have e1 : Hid (r = 0) := by show _ = _; rw [unhide hr, if_pos rfl]
      clear hx hy
      go_wp2
      go_ret
      exact ⟨by rw [unhide e1]; rfl, rfl⟩
theorem or_r (x y : Int) (N : Nat) (w : World) {r : Int} (hr : r = if x = 0 then y else x) (h1 : w.cell? ⟨N, 0, none⟩ = some (.int .i64 x)) (h2 : w.cell? ⟨N, 1, none⟩ = some (.int .i64 y)) : Calls Try.prog 72 #[.slice (some ⟨N, 0, none⟩) 2 2] w fun e w' => e = .returned (.int .i64 r) ∧ w' = w := by
  subst hr; exact or_any x y N w h1 h2
theorem box69 {w : World} {p : Nat} {x : En} (h : w.heap[p]? = some (.cells #[.int .i64 x.1, .int .i64 x.2] 69 (0, 0))) : w.cell? ⟨p, 0, none⟩ = some (.int .i64 x.1) ∧ w.cell? ⟨p, 1, none⟩ = some (.int .i64 x.2) := by
  simp [World.cell?, h]
theorem cmp_r (a b : Int) (w : World) {r : Int} (hr : cmpD a b = r) : Calls Try.prog 73 #[.int .i64 a, .int .i64 b] w fun e w' => e = .returned (.int .i64 r) ∧ w' = w := by
  subst hr; exact cmp_any a b w
set_option maxRecDepth 100000 in
set_option maxHeartbeats 2000000 in
/-- The closure of Edges: three blocks are laid. -/
theorem closure71 (x y : En) (W : World) : Calls Try.prog 71 #[.agg #[.int .i64 x.1, .int .i64 x.2], .agg #[.int .i64 y.1, .int .i64 y.2]] W fun e w' => e = .returned (.int .i64 (cfE x y)) ∧ ∃ q os', w' = Go.Sort.grow (W.drewN q) os' := by
  obtain ⟨x1, x2⟩ := x
  obtain ⟨y1, y2⟩ := y
  obtain ⟨c1, hc1⟩ : ∃ c, cmpD x1 y1 = c := ⟨_, rfl⟩
  obtain ⟨c2, hc2⟩ : ∃ c, cmpD x2 y2 = c := ⟨_, rfl⟩
  have hr : Hid (cfE (x1, x2) (y1, y2) = if c1 = 0 then c2 else c1) := by show _ = _; rw [← hc1, ← hc2]; rfl
  dsimp only
  obtain ⟨r, hrr⟩ : ∃ r, r = cfE (x1, x2) (y1, y2) := ⟨_, rfl⟩
  rw [← hrr] at hr ⊢
  replace hrr := hide hrr
  obtain ⟨W2, hW2⟩ : ∃ W2, W2 = (W.alloc (.cells #[.int .i64 x1, .int .i64 x2] 69)).alloc (.cells #[.int .i64 y1, .int .i64 y2] 69) := ⟨_, rfl⟩
  have p1 : W2.heap[W.heap.size]? = some (.cells #[.int .i64 x1, .int .i64 x2] 69 (0, 0)) := by
    rw [hW2]
    exact ((below_new _ _).block _ (by simp)).trans (heap_alloc_new W _)
  have p2 : W2.heap[W.heap.size + 1]? = some (.cells #[.int .i64 y1, .int .i64 y2] 69 (0, 0)) := by
    rw [hW2]
    have := heap_alloc_new (W.alloc (.cells #[.int .i64 x1, .int .i64 x2] 69)) (.cells #[.int .i64 y1, .int .i64 y2] 69)
    rw [World.size_alloc] at this
    exact this
  obtain ⟨k0, k1⟩ := box69 (x := (x1, x2)) p1
  obtain ⟨k2, k3⟩ := box69 (x := (y1, y2)) p2
  dsimp only at k0 k1 k2 k3
  obtain ⟨n0, n1⟩ : (∀ o, ((W2.alloc o).drew).cell? ⟨W.heap.size, 0, none⟩ = some (.int .i64 x1)) ∧ (∀ o, ((W2.alloc o).drew).cell? ⟨W.heap.size, 1, none⟩ = some (.int .i64 x2)) := ⟨fun o => ((below_new W2 o).cell (p := ⟨W.heap.size, 0, none⟩) (heap_lt p1)).trans k0, fun o => ((below_new W2 o).cell (p := ⟨W.heap.size, 1, none⟩) (heap_lt p1)).trans k1⟩
  obtain ⟨n2, n3⟩ : (∀ o, ((W2.alloc o).drew).cell? ⟨W.heap.size + 1, 0, none⟩ = some (.int .i64 y1)) ∧ (∀ o, ((W2.alloc o).drew).cell? ⟨W.heap.size + 1, 1, none⟩ = some (.int .i64 y2)) := ⟨fun o => ((below_new W2 o).cell (p := ⟨W.heap.size + 1, 0, none⟩) (heap_lt p2)).trans k2, fun o => ((below_new W2 o).cell (p := ⟨W.heap.size + 1, 1, none⟩) (heap_lt p2)).trans k3⟩
  have fin : Hid (∀ o, ∃ q os', (W2.alloc o).drew = Go.Sort.grow (W.drewN q) os') := by
    intro o
    refine ⟨1, #[.cells #[.int .i64 x1, .int .i64 x2] 69, .cells #[.int .i64 y1, .int .i64 y2] 69, o], ?_⟩
    rw [hW2, alloc_eq_grow, alloc_eq_grow, alloc_eq_grow, grow_grow, grow_grow]
    rfl
  have hc1' := hide hc1
  have hc2' := hide hc2
  clear hc1 hc2
  go_enter Try.func71, Try.ntmps71
  go_wp2_with fail
  rw [← hW2]
  replace hW2 := hide hW2
  go_region_held3 (fun wz => wz.cell? ⟨W.heap.size, 0, none⟩ = some (.int .i64 x1) ∧ wz.cell? ⟨W.heap.size, 1, none⟩ = some (.int .i64 x2) ∧ wz.cell? ⟨W.heap.size + 1, 0, none⟩ = some (.int .i64 y1) ∧ wz.cell? ⟨W.heap.size + 1, 1, none⟩ = some (.int .i64 y2))
    (first | exact ⟨k0, k1, k2, k3⟩ | exact ⟨n0 _, n1 _, n2 _, n3 _⟩)
    (first | (go_at_call 73; with_reducible refine Calls.mono (cmp_r x1 y1 _ (unhide hc1')) ?_; rintro e w5 ⟨rfl, rfl⟩) | (go_at_call 73; with_reducible refine Calls.mono (cmp_r x2 y2 _ (unhide hc2')) ?_; rintro e w5 ⟨rfl, rfl⟩) | (go_at_call 72; refine Calls.mono (or_r c1 c2 _ _ (unhide hr) (show (W2.alloc (.cells #[.int .i64 c1, .int .i64 c2] 3)).cell? ⟨W2.heap.size, 0, none⟩ = _ from by rw [World.cell?_alloc_new]; rfl) (show (W2.alloc (.cells #[.int .i64 c1, .int .i64 c2] 3)).cell? ⟨W2.heap.size, 1, none⟩ = _ from by rw [World.cell?_alloc_new]; rfl)) ?_; rintro e w5 ⟨rfl, rfl⟩))
  all_goals
    go_wp2
    go_ret
    exact ⟨rfl, unhide fin _⟩
theorem isAgg69 (w : World) : (isAgg 69).run Try.prog w = .ok true w := by
  first | exact Try.isAgg69 w | simp [isAgg, run_underlying Try.underlying69]
theorem sortE_any (w : World) {M : Nat} {v : Value} {l : List En} (h : Pr 69 M v l w) (hl : l.length < 1000000000) :
    Calls Try.prog 70 #[v, .func (.func 71) #[] #[]] w fun e w' => e = .returned (.tuple #[]) ∧ Pr 69 M v (srtE l) w' ∧ w.grownBy w' v.ownBlock := by
  have e0 : srtE [] = [] := by unfold srtE; exact List.mergeSort_nil
  have triv : l = [] → Calls Try.prog 70 #[v, .func (.func 71) #[] #[]] w fun e w' => e = .returned (.tuple #[]) ∧ Pr 69 M v (srtE l) w' ∧ w.grownBy w' v.ownBlock := by
    rintro rfl
    obtain ⟨a, cap, rfl⟩ := h.form
    refine Calls.mono (AnyF.slices_SortFunc_none Try.laysE a cap _ w) ?_
    rintro e w' ⟨rfl, rfl⟩
    rw [e0]
    exact ⟨rfl, h, ⟨rfl, rfl, rfl, Nat.le_refl _, fun _ _ _ => rfl⟩⟩
  rcases h.2 with ⟨_, e⟩ | ⟨g, cap, cur, rfl, hB, hg, hn, hm, hs, ht⟩
  · exact triv (List.eq_nil_of_length_eq_zero e)
  · rcases Nat.eq_zero_or_pos l.length with h0 | h0
    · exact triv (List.eq_nil_of_length_eq_zero h0)
    · have hH : HoldsK encE 2 w g 0 l.toArray := by
        intro j hj
        rw [size_flatK] at hj
        have hj2 : j < l.length * 2 := by simpa using hj
        have h1 : (flatK encE 2 l.toArray)[j]! = (pairs l).getD j undef := by
          rw [← flat_pairs l]
          simp [getElem!_pos, List.getD, hj2]
        have h2 : (pairs l)[j]? = some ((pairs l).getD j undef) := by
          have : j < (pairs l).length := by rw [pairs_len]; exact hj2
          simp [List.getD, this]
        refine ⟨?_, by simp [World.frozen?, hg]⟩
        show w.cell? ⟨g, 0 + j, none⟩ = some (flatK encE 2 l.toArray)[j]!
        rw [h1, ← h2, ← ht, List.getElem?_take_of_lt hj2]
        simp [World.cell?, hg]
      have eg : ∀ args w, (callFunc 71 args).run Try.prog w = .ok (.enter 71 args) w := enters_of Try.func71 (by kernel_rfl) rfl
      have C := AnyQ.slices_SortFunc_total Try.laysE 2 isAgg69 Try.sizeOf69 encE (fun _ => rfl) (fun x v hv => by simp [encE] at hv; rcases hv with rfl | rfl <;> rfl) cfE swoE 71 #[] g 0 cap l.toArray w eg (fun m os dk _ x y => closure71 x y _) hH (heap_lt hg) (by simp; omega) sepE
      refine Calls.mono C ?_
      rintro e w' ⟨rfl, q, os, hw⟩
      subst hw
      have hlen := srtE_len l
      obtain ⟨F, hF⟩ : ∃ F, F = flatK encE 2 (srtE l).toArray := ⟨_, rfl⟩
      have hFl : F.toList = pairs (srtE l) := by rw [hF]; exact flat_pairs _
      have hFs : F.size = l.length * 2 := by rw [hF, size_flatK]; simp [hlen]
      have hg2 : (Go.Sort.putRow id (Go.Sort.ahead w q) g 0 F).heap[g]? = some (.cells (Go.Sort.putCells id 0 F cur) 69 (0, 0)) := by
        simp [Go.Sort.putRow, Go.Sort.mapBlock, Go.Sort.ahead, Array.getElem?_modify, hg, Go.Sort.onCells]
      have hsz : (Go.Sort.putRow id (Go.Sort.ahead w q) g 0 F).heap.size = w.heap.size := by simp [Go.Sort.putRow, Go.Sort.mapBlock, Go.Sort.ahead]
      have hw : sortWorldK encE 2 w g 0 q (l.toArray.toList.mergeSort fun x y => !(Go.Proofs.ltOf cfE) y x).toArray os = Go.Sort.grow (Go.Sort.putRow id (Go.Sort.ahead w q) g 0 F) os := by rw [hF]; rfl
      rw [hw]
      refine ⟨rfl, ⟨by rw [pairs_len], .inr ⟨g, cap, Go.Sort.putCells id 0 F cur, by rw [hlen], hB, ?_, by omega, hm, by simpa [Go.Sort.putCells] using hs, ?_⟩⟩, ⟨rfl, rfl, rfl, ?_, fun k hk hne => ?_⟩⟩
      · exact (grow_old _ os g (by rw [hsz]; exact heap_lt hg)).trans hg2
      · apply List.ext_getElem?
        intro j
        rw [List.getElem?_take, hlen, ← hFl]
        by_cases hj : j < l.length * 2
        · have hjc : j < cur.size := by omega
          rw [if_pos hj]
          simp only [Go.Sort.putCells, Array.getElem?_toList, Array.getElem?_mapIdx, Array.getElem?_eq_getElem hjc, Option.map_some]
          rw [if_pos (by omega), Array.getElem?_eq_getElem (by omega)]
          simp [getElem!_pos, hFs, hj]
        · rw [if_neg hj, List.getElem?_eq_none (by rw [Array.length_toList]; omega)]
      · show w.heap.size ≤ (_ ++ os).size
        rw [Array.size_append, hsz]; omega
      · refine (grow_old _ os k (by rw [hsz]; exact hk)).trans ?_
        have hgk : g ≠ k := fun e => hne (by rw [e]; rfl)
        simp [Go.Sort.putRow, Go.Sort.mapBlock, Go.Sort.ahead, Array.getElem?_modify, hgk]
end Go.Proofs.Ytmdbmkekdpbliaa
