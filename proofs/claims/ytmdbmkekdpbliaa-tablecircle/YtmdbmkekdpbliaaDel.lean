/- slices.Delete at entries. -/
import Derived.Test.YtmdbmkekdpbliaaMem
namespace Go.Proofs.Ytmdbmkekdpbliaa
open Go.RowKit

theorem inf42 : (Try.prog.info? 41).map (fun i => (i.zero, i.size, i.bytes)) = some (some (.agg #[.int .i64 0, .int .i64 0]), 2, 16) := by kernel_rfl
theorem step_app_row {ops : Array Oper} {o : Oper} {a : Act} {w : World} {K : Act → World → Prop} {Q : Exit → Act → World → Prop} {E : Prop}
    (hgd : Region.wanted o (yielded ops a.tmps) = true) (s x : Operand) (ho : o.op = .call { callee := .builtin .append, args := #[s, x], argTypes := #[27, 27] })
    (g n cap : Nat) (cur : Array Value) (hg : w.heap[g]? = some (.cells cur 41 (0, 0))) (hs : a.eval s = .slice (some ⟨g, 0, none⟩) n cap)
    (ad : Addr) (m c : Nat) (news : List Value) (hx : a.eval x = .slice (some ad) m c) (hl : news.length = m * 2) (hc : ∀ j u, news[j]? = some u → w.cell? (ad.add j) = some u) (h1 : ∀ u ∈ news, u.oneCell' = true)
    (hroom : n + m ≤ cap) (hfit : n * 2 + news.length ≤ cur.size)
    (hK : K (a.put o.dst (.slice (some ⟨g, 0, none⟩) (n + m) cap)) (w.setRow g (cur.toList.take (n * 2) ++ news ++ cur.toList.drop (n * 2 + news.length)).toArray)) :
    if Region.wanted o (yielded ops a.tmps) = true then Oper.wp Try.prog o a w K Q else E := by
  obtain ⟨i0, hi, hz0, hz1, hz2⟩ := info_parts inf42
  have hr := run_append_room (P := Try.prog) w 27 o.type 41 i0 Try.underlying27 hi g n cap cur hg ad m c news (by rw [hz1]; exact hl) hc h1 hroom (by rw [hz1]; exact hfit)
  rw [hz1] at hr
  rw [if_pos hgd]
  unfold Oper.wp execOp
  simp only [ho, resolve, invoke, builtin, Sem.run_bind, Sem.run_pure, Result.andThen_ok, List.map_toArray, List.map_cons, List.map_nil, hs, hx, hr]
  exact hK
theorem zc_mem (n : Nat) : ∀ u ∈ (Builtin.zeroCells #[.int .i64 0, .int .i64 0] n).toList, u.oneCell' = true := by
  intro u hu
  obtain ⟨k, hk, rfl⟩ := List.getElem_of_mem hu
  simp only [Builtin.zeroCells, Array.getElem_toList]
  have : k % 2 = 0 ∨ k % 2 = 1 := by omega
  rcases this with h | h <;> simp [h] <;> rfl
/-- 'clear(s)' of n > 0 entries. -/
theorem run_clear_row (w : World) (ty : TypeId) (g o n c : Nat) (hn : 0 < n) (cur : Array Value) (hg : w.heap[g]? = some (.cells cur 41 (0, 0))) (hfit : o + n * 2 ≤ cur.size) :
    (Builtin.clear_ #[27] ty #[.slice (some ⟨g, o, none⟩) n c]).run Try.prog w = .ok (.tuple #[]) (w.setRow g (cur.toList.take o ++ (Builtin.zeroCells #[.int .i64 0, .int .i64 0] n).toList ++ cur.toList.drop (o + n * 2)).toArray) := by
  have hsz : (Builtin.zeroCells #[.int .i64 0, .int .i64 0] n).toList.length = n * 2 := by rw [Array.length_toList, size_zeroCells]; rfl
  have hst := run_storeCells_at Try.prog g o 41 (Builtin.zeroCells #[.int .i64 0, .int .i64 0] n).toList 0 cur w hg (by rw [hsz]; simpa using hfit) (zc_mem n)
  rw [hsz] at hst
  simp only [Nat.add_zero] at hst
  have hz : (zeroValue 41).run Try.prog w = .ok (.agg #[.int .i64 0, .int .i64 0]) w := Try.zeroValue41 w
  obtain ⟨m, rfl⟩ : ∃ m, n = m + 1 := ⟨n - 1, by omega⟩
  simp [Builtin.clear_, run_underlying Try.underlying27, hz, Value.cells, hst]

theorem take_app_left {α : Type} (a b : List α) (k : Nat) (h : a.length = k) : (a ++ b).take k = a := by subst h; simp
/-- Nothing is taken out. -/
theorem delete_same {B : Nat} {v : Value} {l : List En} (w : World) (h : Es B v l w) (i : Nat) (hi : i ≤ l.length) :
    Calls Try.prog 53 #[v, .int .i64 i, .int .i64 i] w fun e w' => e = .returned v ∧ w' = w := by
  rcases h with ⟨rfl, rfl⟩ | ⟨g, cap, rfl, hB, r⟩
  · obtain rfl : i = 0 := by simpa using hi
    go_enter Try.func53, Try.ntmps53
    go_wp2
    all_goals (go_ret; exact ⟨rfl, rfl⟩)
  · have h1 := r.le
    have h2 := r.mx
    unfold maxLen at h2
    have R := hide r
    clear r
    generalize l.length = n at *
    go_enter Try.func53, Try.ntmps53
    go_wp2
    all_goals (go_ret; exact ⟨rfl, rfl⟩)
set_option maxHeartbeats 1000000 in
theorem delete_cut {g cap : Nat} {l : List En} (w : World) (r : Rb g cap l w) (i j : Nat) (hij : i < j) (hj : j ≤ l.length) :
    Calls Try.prog 53 #[.slice (some ⟨g, 0, none⟩) l.length cap, .int .i64 i, .int .i64 j] w fun e w' => e = .returned (.slice (some ⟨g, 0, none⟩) (l.length - (j - i)) cap) ∧ Rb g cap (l.take i ++ l.drop j) w' ∧ w.grownBy w' (some g) := by
  obtain ⟨⟨cur, hg, hsz, hl⟩, hle, hmx⟩ := r
  unfold maxLen at hmx
  obtain ⟨news, hnews⟩ : ∃ news, news = pairs (l.drop j) := ⟨_, rfl⟩
  have hlen : news.length = (l.length - j) * 2 := by rw [hnews, pairs_len, List.length_drop]
  obtain ⟨A, hA, hsrc⟩ : ∃ A : Addr, (if cap = j then some (⟨g, 0, none⟩ : Addr) else some ⟨g, j * 2, none⟩) = some A ∧ Hid (∀ t u, news[t]? = some u → w.drew.cell? (A.add t) = some u) := by
    by_cases h : cap = j
    · refine ⟨⟨g, 0, none⟩, by simp [h], fun t u hu => ?_⟩
      have h0 : news.length = 0 := by rw [hlen]; omega
      rw [List.length_eq_zero_iff.1 h0] at hu
      simp at hu
    · refine ⟨⟨g, j * 2, none⟩, by simp [h], fun t u hu => ?_⟩
      have ht : t < (l.length - j) * 2 := by
        have := (List.getElem?_eq_some_iff.1 hu).1
        rwa [hlen] at this
      rw [hnews, pairs_drop, List.getElem?_drop, ← hl, List.getElem?_take_of_lt (by omega)] at hu
      rw [Addr.add_lit]
      show World.cell? w _ = _
      simp only [World.cell?, hg]
      simpa using hu
  have s1 := hide hlen
  have s2 : Hid (∀ u ∈ news, u.oneCell' = true) := by rw [hnews]; exact pairs_one _
  have hg' : w.drew.heap[g]? = some (.cells cur 41 (0, 0)) := hg
  have hfit : Hid (i * 2 + news.length ≤ cur.size) := by show _ ≤ _; rw [hlen, hsz]; omega
  obtain ⟨c1, hc1⟩ : ∃ c1 : Array Value, c1 = (cur.toList.take (i * 2) ++ news ++ cur.toList.drop (i * 2 + news.length)).toArray := ⟨_, rfl⟩
  have hc1s : c1.size = cap * 2 := by
    have h2 : cur.toList.length = cap * 2 := by rw [Array.length_toList]; exact hsz
    rw [hc1]
    simp only [List.size_toArray, List.length_append, List.length_take, List.length_drop, h2, hlen]
    omega
  obtain ⟨W1, hW1⟩ : ∃ W1, W1 = w.drew.setRow g c1 := ⟨_, rfl⟩
  have hG1 : W1.heap[g]? = some (.cells c1 41 (0, 0)) := by rw [hW1]; exact setRow_heap _ g cur c1 41 _ hg'
  have hcl : ∀ ty c, (Builtin.clear_ #[27] ty #[.slice (some ⟨g, (i + (l.length - j)) * 2, none⟩) (l.length - (i + (l.length - j))) c]).run Try.prog W1 = .ok (.tuple #[]) (W1.setRow g (c1.toList.take ((i + (l.length - j)) * 2) ++ (Builtin.zeroCells #[.int .i64 0, .int .i64 0] (l.length - (i + (l.length - j)))).toList ++ c1.toList.drop ((i + (l.length - j)) * 2 + (l.length - (i + (l.length - j))) * 2)).toArray) :=
    fun ty c => run_clear_row W1 ty g _ _ c (by omega) c1 hG1 (by rw [hc1s]; omega)
  have hfin : Hid (Rb g cap (l.take i ++ l.drop j) (W1.setRow g (c1.toList.take ((i + (l.length - j)) * 2) ++ (Builtin.zeroCells #[.int .i64 0, .int .i64 0] (l.length - (i + (l.length - j)))).toList ++ c1.toList.drop ((i + (l.length - j)) * 2 + (l.length - (i + (l.length - j))) * 2)).toArray)) := by
    have hc1l : c1.toList.length = cap * 2 := by rw [Array.length_toList]; exact hc1s
    have hcul : cur.toList.length = cap * 2 := by rw [Array.length_toList]; exact hsz
    have hzl : (Builtin.zeroCells #[.int .i64 0, .int .i64 0] (l.length - (i + (l.length - j)))).toList.length = (l.length - (i + (l.length - j))) * 2 := by rw [Array.length_toList, size_zeroCells]; rfl
    have hn : (l.take i ++ l.drop j).length = i + (l.length - j) := by simp only [List.length_append, List.length_take, List.length_drop]; omega
    refine ⟨⟨_, setRow_heap _ g c1 _ 41 _ hG1, ?_, ?_⟩, by rw [hn]; omega, by unfold maxLen; exact hmx⟩
    · simp only [List.size_toArray, List.length_append, List.length_take, List.length_drop, hc1l, hzl]; omega
    · rw [hn, List.append_assoc, take_app_left _ _ _ (by rw [List.length_take, hc1l]; omega), hc1]
      show ((cur.toList.take (i * 2) ++ news) ++ _).take _ = _
      rw [take_app_left _ _ _ (by rw [List.length_append, List.length_take, hcul, hlen]; omega), pairs_app, pairs_take, hnews, ← hl, List.take_take, show min (i * 2) (l.length * 2) = i * 2 by omega]
  have hgr : Hid (w.grownBy (W1.setRow g (c1.toList.take ((i + (l.length - j)) * 2) ++ (Builtin.zeroCells #[.int .i64 0, .int .i64 0] (l.length - (i + (l.length - j)))).toList ++ c1.toList.drop ((i + (l.length - j)) * 2 + (l.length - (i + (l.length - j))) * 2)).toArray) (some g)) := by
    rw [hW1]
    exact grown_trans (grown_trans (grown_drew w _) (grown_row _ g _)) (grown_row _ g _)
  have HW1 := hide hW1
  have Hc1 := hide hc1
  have HG1 := hide hG1
  have Hg' := hide hg'
  generalize (W1.setRow g (c1.toList.take ((i + (l.length - j)) * 2) ++ (Builtin.zeroCells #[.int .i64 0, .int .i64 0] (l.length - (i + (l.length - j)))).toList ++ c1.toList.drop ((i + (l.length - j)) * 2 + (l.length - (i + (l.length - j))) * 2)).toArray) = W2 at hcl hfin hgr
  have Hl := hide hl
  have Hn := hide hnews
  have hlt : Hid (l.length - (j - i) = i + (l.length - j)) := by show _ = _; omega
  clear hW1 hc1 hG1 hg' hl hnews hlen hg hsz hc1s
  generalize l.length = n at *
  have hic : i ≤ cap := by omega
  have hjc : j ≤ cap := by omega
  go_enter Try.func53, Try.ntmps53
  go_wp2_with fail
  go_region_law (refine step_app_row rfl (.tmp 22) (.tmp 25) rfl g i cap cur (unhide Hg') (by simp [Act.eval, Act.put]) A (n - j) (cap - j) news (by simp [Act.eval, Act.put]) (unhide s1) (unhide hsrc) (unhide s2) (by omega) (unhide hfit) ?_; rw [← unhide Hc1, ← unhide HW1])
  go_wp2
  go_ret
  exact ⟨by rw [unhide hlt]; rfl, unhide hfin, unhide hgr⟩
end Go.Proofs.Ytmdbmkekdpbliaa
