/- slices.Insert of one entry where there is no room; all three ways together. -/
import Derived.Test.YtmdbmkekdpbliaaIns
namespace Go.Proofs.Ytmdbmkekdpbliaa
open Go.RowKit

set_option maxRecDepth 100000 in
set_option maxHeartbeats 1000000 in
theorem insert_grow {g cap : Nat} {l : List En} (w : World) (r : Rb g cap l w) (i : Nat) (hi : i < l.length) (hroom : cap < l.length + 1) (hn : l.length < 1000000) (x : En) (vb : Nat) (hv : w.heap[vb]? = some (.cells #[.int .i64 x.1, .int .i64 x.2] 41 (0, 0))) :
    Calls Try.prog 78 #[.slice (some ⟨g, 0, none⟩) l.length cap, .int .i64 i, .slice (some ⟨vb, 0, none⟩) 1 1] w fun e w' => ∃ G, e = .returned (.slice (some ⟨w.heap.size, 0, none⟩) (l.length + 1) G) ∧ Rb w.heap.size G (l.take i ++ x :: l.drop i) w' ∧ Below w.heap.size w w' := by
  have hgw := r.lt
  have hvw := heap_lt hv
  obtain ⟨⟨cur, hg, hsz, hl⟩, hle, hmx⟩ := r
  have hmx0 := hmx
  unfold maxLen at hmx
  obtain ⟨i0, hi0, hz0, hz1, hz2⟩ := info_parts inf42
  obtain ⟨N, hN⟩ : ∃ N, N = w.heap.size := ⟨_, rfl⟩
  obtain ⟨u, hu⟩ : ∃ u : List Value, u = [.int .i64 x.1, .int .i64 x.2] := ⟨_, rfl⟩
  obtain ⟨D, hD⟩ : ∃ D, D = pairs (l.drop i) := ⟨_, rfl⟩
  have hDl : D.length = (l.length - i) * 2 := by rw [hD, pairs_len, List.length_drop]
  have hul : u.length = 1 * 2 := by rw [hu]; rfl
  have hcl : cur.toList.length = cap * 2 := by rw [Array.length_toList]; exact hsz
  have hkk : (l.length : Int) + 1 - (i : Int) = ((l.length + 1 - i : Nat) : Int) := by omega
  have hik : i + (l.length + 1 - i) = l.length + 1 := by omega
  have hpt : ((pairs l).take (i * 2)).length = i * 2 := by rw [List.length_take, pairs_len]; omega
  have hold : (Builtin.firstCells i0.size i (.slice (some ⟨g, 0, none⟩) i cap)).run Try.prog w.drew = .ok ((pairs l).take (i * 2)).toArray w.drew := by
    rw [hz1]
    exact run_firstCells_some w.drew 2 i ⟨g, 0, none⟩ i cap _ hpt (fun j v hj => by
      have ht : j < i * 2 := by
        have := (List.getElem?_eq_some_iff.1 hj).1
        rwa [hpt] at this
      rw [List.getElem?_take_of_lt ht, ← hl, List.getElem?_take_of_lt (by omega)] at hj
      rw [Addr.add_lit]
      show World.cell? w _ = _
      simp only [World.cell?, hg]
      simpa using hj)
  obtain ⟨G, hG⟩ : ∃ G, G = grownCap w (l.length + 1) cap 41 := ⟨_, rfl⟩
  obtain ⟨ROW, hROW⟩ : ∃ ROW : Array Value, ROW = ((pairs l).take (i * 2)).toArray ++ Builtin.zeroCells (Value.agg #[.int .i64 0, .int .i64 0]).cells (l.length + 1 - i) ++ Builtin.zeroCells (Value.agg #[.int .i64 0, .int .i64 0]).cells (G - (l.length + 1)) := ⟨_, rfl⟩
  have hGn : l.length + 1 ≤ G := by rw [hG]; exact grownCap_ge w _ _ _
  have hG63 : G ≤ maxLen := by rw [hG]; exact grownCap_le_maxLen w (l.length + 1) cap 41 (by unfold maxLen; omega)
  have hRs : ROW.size = G * 2 := by
    have zc : (Value.agg #[.int .i64 0, .int .i64 0]).cells.size = 2 := rfl
    rw [hROW]
    simp only [Array.size_append, List.size_toArray, size_zeroCells, hpt, zc]; omega
  have hRl : ROW.toList.length = G * 2 := by rw [Array.length_toList]; exact hRs
  have hRt : ROW.toList.take (i * 2) = (pairs l).take (i * 2) := by
    rw [hROW, Array.append_assoc]
    show (((pairs l).take (i * 2)).toArray ++ _).toList.take _ = _
    rw [Array.toList_append]
    exact tl hpt
  have hrz : ∀ ty, (Builtin.append_ #[27, 3] ty #[.slice (some ⟨g, 0, none⟩) i cap, .int .i64 ((l.length : Int) + 1 - (i : Int))]).run Try.prog w =
      .ok (.slice (some ⟨N, 0, none⟩) (l.length + 1) G) (w.drew.alloc (.cells ROW 41)) := fun ty => by
    have h := Lib.run_append_grow_zeros w 27 3 ty 41 i0 _ .i64 .i64 Try.underlying27 Try.underlying3 hi0 hz0 (some ⟨g, 0, none⟩) i cap ((pairs l).take (i * 2)) hold (l.length + 1 - i) (by omega) (by omega) (by omega) (by omega) (by rw [hz2]; omega) (by rw [hz2, hik]; exact growslice_fits hroom (by omega))
    rw [hik] at h
    rw [hkk, h, hROW, hG, hN]
  obtain ⟨W1, hW1⟩ : ∃ W1, W1 = w.drew.alloc (.cells ROW 41) := ⟨_, rfl⟩
  rw [← hW1] at hrz
  have hG1 : W1.heap[N]? = some (.cells ROW 41 (0, 0)) := by rw [hW1, hN]; exact heap_alloc_new w.drew _
  have hV1 : W1.heap[vb]? = some (.cells #[.int .i64 x.1, .int .i64 x.2] 41 (0, 0)) := by rw [hW1]; exact (heap_alloc_old w.drew _ hvw).trans hv
  have hO1 : W1.heap[g]? = some (.cells cur 41 (0, 0)) := by rw [hW1]; exact (heap_alloc_old w.drew _ hgw).trans hg
  have hB1 : Below w.heap.size w W1 := by rw [hW1]; exact grown_below (grown_trans (grown_drew w none) (World.grownBy_alloc w.drew _ none)) (Nat.le_refl _) (fun g h => by cases h)
  obtain ⟨c1, hc1⟩ : ∃ c1 : Array Value, c1 = (ROW.toList.take (i * 2) ++ u ++ ROW.toList.drop (i * 2 + u.length)).toArray := ⟨_, rfl⟩
  have hcp1 : ∀ ty dc, (Builtin.copy_ #[27, 27] ty #[.slice (some ⟨N, i * 2, none⟩) (l.length + 1 - i) dc, .slice (some ⟨vb, 0, none⟩) 1 1]).run Try.prog W1 = .ok (goInt ((1 : Nat) : Int)) (W1.setRow N c1) := fun ty dc => by
    rw [run_copy_r W1 ty N (i * 2) (l.length + 1 - i) dc ⟨vb, 0, none⟩ 1 1 ROW u 1 hG1 (by simp only [Nat.min_def]; split <;> omega) hul (by rw [hu]; exact World.news_of_block hV1) (by rw [hul, hRs]; omega) (by rw [hu]; exact pairs_one [x]), hc1]
  obtain ⟨W2, hW2⟩ : ∃ W2, W2 = W1.setRow N c1 := ⟨_, rfl⟩
  rw [← hW2] at hcp1
  have hgN : g ≠ N := by omega
  have hG2 : W2.drew.heap[N]? = some (.cells c1 41 (0, 0)) := by rw [hW2]; exact setRow_heap _ N ROW c1 41 _ hG1
  have hO2 : W2.drew.heap[g]? = some (.cells cur 41 (0, 0)) := by rw [hW2]; exact (setRow_other _ N g _ hgN).trans hO1
  obtain ⟨c2, hc2⟩ : ∃ c2 : Array Value, c2 = (c1.toList.take (i * 2 + 2) ++ D ++ c1.toList.drop (i * 2 + 2 + D.length)).toArray := ⟨_, rfl⟩
  have hSL := grow_list ROW.toList u D (i * 2) 2 ((l.length - i) * 2) (by rw [hRl]; omega) hul hDl
  have hc2s : c2.size = G * 2 := by
    rw [hc2, hc1, List.size_toArray, hul]
    show List.length (List.take (i * 2 + 2) (_ ++ _ ++ _) ++ D ++ List.drop (i * 2 + 2 + D.length) (_ ++ _ ++ _)) = _
    rw [hDl, hSL.2, hRl]
  have hc2t : c2.toList.take ((l.length + 1) * 2) = pairs (l.take i ++ x :: l.drop i) := by
    rw [pairs_ins, ← hu, ← hD, ← hRt, ← hSL.1, hc2, hc1, hDl, show (l.length + 1) * 2 = i * 2 + 2 + (l.length - i) * 2 by omega]
    rw [hul]
  have hc1s : c1.size = G * 2 := by
    rw [hc1, List.size_toArray, hul]
    simp only [List.length_append, List.length_take, List.length_drop, hRl, hul]; omega
  have hcp2 : ∀ ty dc sc, (Builtin.copy_ #[27, 27] ty #[.slice (some ⟨N, (i + 1) * 2, none⟩) (l.length - i) dc, .slice (some ⟨g, i * 2, none⟩) (l.length - i) sc]).run Try.prog W2.drew = .ok (goInt ((l.length - i : Nat) : Int)) (W2.drew.setRow N c2) := fun ty dc sc => by
    have := run_copy_r W2.drew ty N ((i + 1) * 2) (l.length - i) dc ⟨g, i * 2, none⟩ (l.length - i) sc c1 D (l.length - i) hG2 (by simp only [Nat.min_def]; split <;> omega) hDl
      (fun j v hj => by
        have ht : j < (l.length - i) * 2 := by
          have := (List.getElem?_eq_some_iff.1 hj).1
          rwa [hDl] at this
        rw [hD, pairs_drop, List.getElem?_drop, ← hl, List.getElem?_take_of_lt (by omega)] at hj
        rw [Addr.add_lit]
        simp only [World.cell?, hO2]
        simpa using hj) (by rw [hDl, hc1s]; omega) (by rw [hD]; exact pairs_one _)
    rw [this, hc2, show (i + 1) * 2 = i * 2 + 2 by omega]
  have hfin : Hid (Rb N G (l.take i ++ x :: l.drop i) (W2.drew.setRow N c2)) :=
    ⟨⟨_, setRow_heap _ N c1 _ 41 _ hG2, hc2s, by rw [ins_len l i x (by omega)]; exact hc2t⟩, by rw [ins_len l i x (by omega)]; exact hGn, hG63⟩
  have hgr : Hid (Below w.heap.size w (W2.drew.setRow N c2)) := by
    rw [hW2]
    have hNl : w.heap.size ≤ N := by omega
    have h1 : Below w.heap.size w (W1.setRow N c1) := below_setRow hB1 hNl c1
    exact grown_below (grown_trans (grown_trans (grown_of_below h1 (some N)) (grown_drew _ _)) (grown_row _ N c2)) (Nat.le_refl _) (fun g h => by injection h with h; omega)
  generalize W2.drew.setRow N c2 = W3 at hcp2 hfin hgr
  have hNh := hide hN
  have hgw2 := hide hgw
  have hvw2 := hide hvw
  replace hrz := hide hrz
  replace hcp2 := hide hcp2
  clear hc1 hW1 hW2 hG1 hV1 hO1 hO2 hB1 hc2 hc2s hc2t hc1s hSL hD hDl hu hul hcl hl hsz hg hv hRt hRl hRs hROW hold hpt hik hkk hG hG2 hi0 hz0 hz1 hz2 hmx0 hN
  have hG64 : G ≤ 9223372036854775807 := by unfold maxLen at hG63; omega
  clear hG63
  rw [← unhide hNh]
  generalize l.length = n at *
  have q1 : ¬ ((i : Int) = (n : Int)) := by omega
  have q2 : ¬ (cap = i) := by omega
  have q3 : ¬ (G = i + 1) := by omega
  have q31 : ¬ (G = i) := by omega
  have q4 : ((i : Int) + 1).toNat = i + 1 := by omega
  have q5 : IntKind.i64.wrap ((i : Int) + 1) = (i : Int) + 1 := by rw [IntKind.wrap_i64]; omega
  have q6 : (0 : Int) ≤ (i : Int) + 1 := by omega
  have q7 : (i : Int) ≤ (n : Int) := by omega
  have q8 : i ≤ n := by omega
  have q9 : (i : Int) ≤ (n : Int) + 1 := by omega
  have q10 : (cap : Int) < (n : Int) + 1 := by omega
  go_enter Try.func78, Try.ntmps78
  go_wp2_with (at_builtin; refine Lib.wpList_append_run _ rfl _ _ _ _ rfl _ _ rfl rfl _ _ (unhide hrz _) ?_)
  go_wp2
  go_region_law (refine step_copy_r rfl (.tmp 50) (.tmp 53) rfl (.slice (some ⟨N, (i + 1) * 2, none⟩) (n - i) (G - (i + 1))) (.slice (some ⟨g, i * 2, none⟩) (n - i) (cap - i)) (by simp [Act.eval, Act.put]) (by simp [Act.eval, Act.put]) (unhide hcp2 _ _ _) ?_)
  go_wp2
  go_ret
  exact ⟨G, rfl, unhide hfin, by rw [unhide hNh]; exact unhide hgr⟩
/-- One entry is put in at place i. -/
theorem insert_any {B : Nat} {v : Value} {l : List En} (w : World) (h : Es B v l w) (i : Nat) (hi : i ≤ l.length) (x : En) (vb : Nat) (hv : w.heap[vb]? = some (.cells #[.int .i64 x.1, .int .i64 x.2] 41 (0, 0))) (hvb : v.ownBlock ≠ some vb) (hB : B ≤ w.heap.size) (hn : l.length < 1000000) :
    Calls Try.prog 78 #[v, .int .i64 i, .slice (some ⟨vb, 0, none⟩) 1 1] w fun e w' => ∃ v', e = .returned v' ∧ Es B v' (l.take i ++ x :: l.drop i) w' ∧ w.grownBy w' v.ownBlock ∧ At v v' w.heap.size := by
  by_cases he : i = l.length
  · subst he
    rw [List.take_length, List.drop_length]
    exact insert_end w h x vb hv hB hn
  · rcases h with ⟨rfl, rfl⟩ | ⟨g, cap, rfl, hBg, r⟩
    · exact absurd (Nat.le_zero.1 hi) he
    · have hlt : i < l.length := by omega
      by_cases hr : l.length + 1 ≤ cap
      · refine (insert_shift w r i hlt hr x vb hv (fun e => hvb (by rw [e]; rfl))).mono ?_
        rintro e w' ⟨rfl, r', hg⟩
        exact ⟨_, rfl, .inr ⟨g, cap, by rw [ins_len l i x hi], hBg, r'⟩, hg, fun k hk => .inl hk⟩
      · refine (insert_grow w r i hlt (by omega) hn x vb hv).mono ?_
        rintro e w' ⟨G, rfl, r', hb⟩
        refine ⟨_, rfl, .inr ⟨w.heap.size, G, by rw [ins_len l i x hi], hB, r'⟩, grown_of_below hb _, fun k hk => .inr ?_⟩
        have : w.heap.size = k := by simpa [Value.ownBlock] using hk
        omega
end Go.Proofs.Ytmdbmkekdpbliaa
