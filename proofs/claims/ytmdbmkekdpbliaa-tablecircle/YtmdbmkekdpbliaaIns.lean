/- slices.Insert of one entry. -/
import Derived.Test.YtmdbmkekdpbliaaDel
import Derived.Deep.AppendLies
import Derived.Lib.Overlaps
namespace Go.Proofs.Ytmdbmkekdpbliaa
open Go.RowKit

theorem run_copy_r (w : World) (ty : TypeId) (g o dLen dCap : Nat) (a : Addr) (sLen sCap : Nat) (cur : Array Value) (cs : List Value) (k : Nat)
    (hg : w.heap[g]? = some (.cells cur 41 (0, 0))) (hk : Nat.min sLen dLen = k) (hn : cs.length = k * 2)
    (hsrc : ∀ j v, cs[j]? = some v → w.cell? (a.add j) = some v) (hfit : o + cs.length ≤ cur.size) (h1 : ∀ v ∈ cs, v.oneCell' = true) :
    (Builtin.copy_ #[27, 27] ty #[.slice (some ⟨g, o, none⟩) dLen dCap, .slice (some a) sLen sCap]).run Try.prog w =
      .ok (goInt k) (w.setRow g (cur.toList.take o ++ cs ++ cur.toList.drop (o + cs.length)).toArray) := by
  obtain ⟨i0, hi, hz0, hz1, hz2⟩ := info_parts inf42
  have hl := run_firstCells_some (P := Try.prog) w 2 k a sLen sCap cs hn hsrc
  have hst := run_storeCells_at Try.prog g o 41 cs 0 cur w hg (by simpa using hfit) h1
  simp only [Nat.add_zero] at hst
  simp [Builtin.copy_, run_underlying Try.underlying27, Builtin.lenOf, sizeOf, typeInfo, hi, hz1, hk, hl, hst]
theorem wp_copy_r (w : World) {o : Oper} {a : Act} {K : Act → World → Prop} {Q : Exit → Act → World → Prop} (d s : Operand)
    (ho : o.op = .call { callee := .builtin .copy, args := #[d, s], argTypes := #[27, 27] }) (v u : Value) (hd : a.eval d = v) (hs : a.eval s = u) {v' : Value} {w' : World}
    (hr : (Builtin.copy_ #[27, 27] o.type #[v, u]).run Try.prog w = .ok v' w') (h : K (a.put o.dst v') w') : o.wp Try.prog a w K Q := by
  unfold Oper.wp execOp
  simp only [ho, resolve, invoke, builtin, Sem.run_bind, Sem.run_pure, Result.andThen_ok, List.map_toArray, List.map_cons, List.map_nil, hd, hs, hr]
  exact h
theorem wpList_copy_r (w : World) {ops : Array Oper} {rest : List Oper} {o : Oper} {a : Act} {Q : Exit → Act → World → Prop} (hgd : o.guard = none) (d s : Operand)
    (ho : o.op = .call { callee := .builtin .copy, args := #[d, s], argTypes := #[27, 27] }) (v u : Value) (hd : a.eval d = v) (hs : a.eval s = u) {v' : Value} {w' : World}
    (hr : (Builtin.copy_ #[27, 27] o.type #[v, u]).run Try.prog w = .ok v' w') (h : wpList Try.prog ops Q rest (a.put o.dst v') w') : wpList Try.prog ops Q (o :: rest) a w :=
  wpList_plain hgd fun _ hK => wp_copy_r w d s ho v u hd hs hr (hK _ _ h)
theorem step_copy_r {ops : Array Oper} {o : Oper} {a : Act} {w : World} {K : Act → World → Prop} {Q : Exit → Act → World → Prop} {E : Prop}
    (hw : Region.wanted o (yielded ops a.tmps) = true) (d s : Operand)
    (ho : o.op = .call { callee := .builtin .copy, args := #[d, s], argTypes := #[27, 27] }) (v u : Value) (hd : a.eval d = v) (hs : a.eval s = u) {v' : Value} {w' : World}
    (hr : (Builtin.copy_ #[27, 27] o.type #[v, u]).run Try.prog w = .ok v' w') (h : K (a.put o.dst v') w') :
    if Region.wanted o (yielded ops a.tmps) = true then Oper.wp Try.prog o a w K Q else E := by
  rw [if_pos hw]
  exact wp_copy_r w d s ho v u hd hs hr h

theorem parts4 {α : Type} (C : List α) (a b d : Nat) (h : a + b + d ≤ C.length) : ∃ A P D R, C = A ++ (P ++ (D ++ R)) ∧ A.length = a ∧ P.length = b ∧ D.length = d :=
  ⟨C.take a, (C.drop a).take b, ((C.drop a).drop b).take d, ((C.drop a).drop b).drop d, by rw [List.take_append_drop, List.take_append_drop, List.take_append_drop], by simp; omega, by simp; omega, by simp; omega⟩
theorem tl {α : Type} {a b : List α} {k : Nat} (h : a.length = k) : (a ++ b).take k = a := List.take_left' h
theorem dl {α : Type} {a b : List α} {k : Nat} (h : a.length = k) : (a ++ b).drop k = b := List.drop_left' h
theorem shift_list {α : Type} (C X D : List α) (a b d : Nat) (h : a + b + d ≤ C.length) (hX : X.length = b) (hD : D.length = d) :
    ((C.take (a + b) ++ D ++ C.drop (a + b + d)).take a ++ X ++ (C.take (a + b) ++ D ++ C.drop (a + b + d)).drop (a + b)).take (a + b + d) = C.take a ++ X ++ D ∧
    ((C.take (a + b) ++ D ++ C.drop (a + b + d)).take a ++ X ++ (C.take (a + b) ++ D ++ C.drop (a + b + d)).drop (a + b)).length = C.length := by
  constructor
  · obtain ⟨A, P, D', R, rfl, hA, hP, hD'⟩ := parts4 C a b d h
    have e1 : (A ++ (P ++ (D' ++ R))).take (a + b) = A ++ P := by rw [← List.append_assoc]; exact tl (by rw [List.length_append]; omega)
    have e2 : (A ++ (P ++ (D' ++ R))).drop (a + b + d) = R := by rw [← List.append_assoc, ← List.append_assoc]; exact dl (by simp only [List.length_append]; omega)
    have e3 : (A ++ (P ++ (D' ++ R))).take a = A := tl hA
    rw [e1, e2, e3]
    have e4 : (A ++ P ++ D ++ R).take a = A := by rw [List.append_assoc, List.append_assoc]; exact tl hA
    have e5 : (A ++ P ++ D ++ R).drop (a + b) = D ++ R := by rw [List.append_assoc]; exact dl (by rw [List.length_append]; omega)
    rw [e4, e5, ← List.append_assoc]
    exact tl (by simp only [List.length_append]; omega)
  · simp only [List.length_append, List.length_take, List.length_drop, hX, hD]; omega
theorem grow_list {α : Type} (C X D : List α) (a b d : Nat) (h : a + b + d ≤ C.length) (hX : X.length = b) (hD : D.length = d) :
    ((C.take a ++ X ++ C.drop (a + b)).take (a + b) ++ D ++ (C.take a ++ X ++ C.drop (a + b)).drop (a + b + d)).take (a + b + d) = C.take a ++ X ++ D ∧
    ((C.take a ++ X ++ C.drop (a + b)).take (a + b) ++ D ++ (C.take a ++ X ++ C.drop (a + b)).drop (a + b + d)).length = C.length := by
  constructor
  · obtain ⟨A, P, D', R, rfl, hA, hP, hD'⟩ := parts4 C a b d h
    have e2 : (A ++ (P ++ (D' ++ R))).drop (a + b) = D' ++ R := by rw [← List.append_assoc]; exact dl (by simp only [List.length_append]; omega)
    have e3 : (A ++ (P ++ (D' ++ R))).take a = A := tl hA
    rw [e2, e3]
    have e4 : (A ++ X ++ (D' ++ R)).take (a + b) = A ++ X := tl (by rw [List.length_append]; omega)
    rw [e4]
    exact tl (by simp only [List.length_append]; omega)
  · simp only [List.length_append, List.length_take, List.length_drop, hX, hD]; omega

/-- The new row's block: the old one's, or a new one. -/
def At (v v' : Value) (N : Nat) : Prop := ∀ k, v'.ownBlock = some k → v.ownBlock = some k ∨ N ≤ k
set_option maxRecDepth 100000 in
/-- Behind all: append. -/
theorem insert_end {B : Nat} {v : Value} {l : List En} (w : World) (h : Es B v l w) (x : En) (vb : Nat) (hv : w.heap[vb]? = some (.cells #[.int .i64 x.1, .int .i64 x.2] 41 (0, 0))) (hB : B ≤ w.heap.size) (hn : l.length < 1000000) :
    Calls Try.prog 78 #[v, .int .i64 (l.length : Int), .slice (some ⟨vb, 0, none⟩) 1 1] w fun e w' => ∃ v', e = .returned v' ∧ Es B v' (l ++ [x]) w' ∧ w.grownBy w' v.ownBlock ∧ At v v' w.heap.size := by
  obtain ⟨i0, hi, hz0, hz1, hz2⟩ := info_parts inf42
  obtain ⟨u, hu⟩ : ∃ u : List Value, u = [.int .i64 x.1, .int .i64 x.2] := ⟨_, rfl⟩
  have hown := hide h.own
  have hnews : Hid (∀ j y, u[j]? = some y → w.cell? ((⟨vb, 0, none⟩ : Addr).add j) = some y) := by rw [hu]; exact World.news_of_block hv
  have h1 : Hid (∀ y ∈ u, y.oneCell' = true) := by rw [hu]; exact pairs_one [x]
  have hul : Hid (u.length = 1 * 2) := by rw [hu]; rfl
  have hpx : Hid (pairs (l ++ [x]) = pairs l ++ u) := by rw [hu]; exact pairs_app l [x]
  have hlx : Hid ((l ++ [x]).length = l.length + 1) := by show _ = _; simp
  have Hu := hide hu
  have Hv := hide hv
  have H0 := hide h
  have Hi := hide hi
  have Hz0 := hide hz0
  have Hz1 := hide hz1
  have Hz2 := hide hz2
  clear hu hv hi hz0 hz1 hz2
  have key : ∀ g cap w', w'.ownsRow B 41 2 (.slice (some ⟨g, 0, none⟩) (l.length + 1) cap) (l.length + 1) (pairs l ++ u) → w.grownBy w' v.ownBlock → (v.ownBlock = some g ∨ g = w.heap.size) →
      ∃ v', Ending.returned (.slice (some ⟨g, 0, none⟩) (l.length + 1) cap) = .returned v' ∧ Es B v' (l ++ [x]) w' ∧ w.grownBy w' v.ownBlock ∧ At v v' w.heap.size := by
    intro g cap w' a1 a2 a3
    refine ⟨_, rfl, Es.of (by rw [unhide hlx, unhide hpx]; exact a1), a2, fun k hk => ?_⟩
    obtain rfl : g = k := by simpa [Value.ownBlock] using hk
    exact a3.imp id (fun e => by omega)
  replace key := hide key
  rcases h with ⟨rfl, rfl⟩ | ⟨g, cap, rfl, hBg, r⟩
  · go_enter Try.func78, Try.ntmps78
    go_wp2_with (at_builtin; refine wpList_append_lies _ rfl (.tmp 23) (.tmp 24) 27 rfl B 41 i0 _ 2 16 Try.underlying27 (unhide Hi) (unhide Hz0) (unhide Hz1) (unhide Hz2) rfl (by decide) _ 0 _ rfl (unhide hown) ⟨vb, 0, none⟩ 1 1 u rfl (unhide hul) (unhide hnews) (unhide h1) (by decide) (by decide) (by decide) hB _ rfl ?_; intro g cap w' a1 a2 a3 _)
    go_ret
    exact unhide key g cap w' a1 a2 a3
  · have h1' := r.le
    have h2' := r.mx
    unfold maxLen at h2'
    have R := hide r
    clear r H0
    generalize l.length = n at *
    have b1 : Hid (n + 1 ≤ maxLen) := by show _ ≤ _; unfold maxLen; omega
    have b2 : Hid ((n + 1) * 16 ≤ 140737488355328) := by show _ ≤ _; omega
    go_enter Try.func78, Try.ntmps78
    go_wp2_with (at_builtin; refine wpList_append_lies _ rfl (.tmp 23) (.tmp 24) 27 rfl B 41 i0 _ 2 16 Try.underlying27 (unhide Hi) (unhide Hz0) (unhide Hz1) (unhide Hz2) rfl (by decide) _ n _ rfl (unhide hown) ⟨vb, 0, none⟩ 1 1 u rfl (unhide hul) (unhide hnews) (unhide h1) (by decide) (unhide b1) (unhide b2) hB _ rfl ?_; intro g cap w' a1 a2 a3 _)
    all_goals
      go_ret
      exact unhide key _ _ _ a1 a2 a3
theorem run_callFunc_over (w : World) (a b : Addr) (la ca lb cb : Nat) (hne : a.block ≠ b.block) (tA tB : TypeId) (kA kB : Nat) (hsa : w.shape? a.block = some (tA, kA)) (hsb : w.shape? b.block = some (tB, kB)) (hkB : kB ≠ 0) (hfa : w.frozen? a = false) (hfe : w.frozen? { block := a.block, off := kA } = false) :
    (callFunc 89 #[.slice (some a) la ca, .slice (some b) lb cb]).run Try.prog w = .ok (.value (.bool false)) w := by
  rw [run_callFunc_extern Try.func89 (by kernel_rfl) (by kernel_rfl) (by kernel_rfl) (e := Extern.SlicesOverlaps.overlaps #[27, 27] #[4]) (by kernel_rfl),
      Lib.run_overlaps_apart w 27 4 41 Try.underlying27 2 Try.sizeOf41 a b la ca lb cb hne tA tB kA kB hsa hsb hkB hfa hfe]
  rfl
theorem shape_cells {w : World} {g : Nat} {cur : Array Value} {t : TypeId} {fr : Nat × Nat} (h : w.heap[g]? = some (.cells cur t fr)) : w.shape? g = some (t, cur.size) := by
  simp [World.shape?, h]
theorem pairs_ins (l : List En) (i : Nat) (x : En) : pairs (l.take i ++ x :: l.drop i) = (pairs l).take (i * 2) ++ [.int .i64 x.1, .int .i64 x.2] ++ pairs (l.drop i) := by
  rw [show l.take i ++ x :: l.drop i = l.take i ++ [x] ++ l.drop i by simp, pairs_app, pairs_app, pairs_take]; rfl
theorem ins_len (l : List En) (i : Nat) (x : En) (hi : i ≤ l.length) : (l.take i ++ x :: l.drop i).length = l.length + 1 := by
  simp only [List.length_append, List.length_take, List.length_cons, List.length_drop]; omega
set_option maxRecDepth 100000 in
set_option maxHeartbeats 1000000 in
/-- There is room. -/
theorem insert_shift {g cap : Nat} {l : List En} (w : World) (r : Rb g cap l w) (i : Nat) (hi : i < l.length) (hroom : l.length + 1 ≤ cap) (x : En) (vb : Nat) (hv : w.heap[vb]? = some (.cells #[.int .i64 x.1, .int .i64 x.2] 41 (0, 0))) (hvg : vb ≠ g) :
    Calls Try.prog 78 #[.slice (some ⟨g, 0, none⟩) l.length cap, .int .i64 i, .slice (some ⟨vb, 0, none⟩) 1 1] w fun e w' => e = .returned (.slice (some ⟨g, 0, none⟩) (l.length + 1) cap) ∧ Rb g cap (l.take i ++ x :: l.drop i) w' ∧ w.grownBy w' (some g) := by
  obtain ⟨⟨cur, hg, hsz, hl⟩, hle, hmx⟩ := r
  unfold maxLen at hmx
  obtain ⟨u, hu⟩ : ∃ u : List Value, u = [.int .i64 x.1, .int .i64 x.2] := ⟨_, rfl⟩
  obtain ⟨D, hD⟩ : ∃ D, D = pairs (l.drop i) := ⟨_, rfl⟩
  have hDl : D.length = (l.length - i) * 2 := by rw [hD, pairs_len, List.length_drop]
  have hul : u.length = 1 * 2 := by rw [hu]; rfl
  have hcl : cur.toList.length = cap * 2 := by rw [Array.length_toList]; exact hsz
  have hov : ∀ lb cb, (callFunc 89 #[.slice (some ⟨vb, 0, none⟩) 1 1, .slice (some ⟨g, (i + 1) * 2, none⟩) lb cb]).run Try.prog w = .ok (.value (.bool false)) w := fun lb cb =>
    run_callFunc_over w _ _ 1 1 lb cb hvg 41 41 2 (cap * 2) (shape_cells hv) (by rw [← hsz]; exact shape_cells hg) (by omega) (by simp [World.frozen?, hv]) (by simp [World.frozen?, hv])
  have hg' : w.drew.heap[g]? = some (.cells cur 41 (0, 0)) := hg
  obtain ⟨c1, hc1⟩ : ∃ c1 : Array Value, c1 = (cur.toList.take (i * 2 + 2) ++ D ++ cur.toList.drop (i * 2 + 2 + D.length)).toArray := ⟨_, rfl⟩
  have hcp1 : ∀ ty dc sc, (Builtin.copy_ #[27, 27] ty #[.slice (some ⟨g, (i + 1) * 2, none⟩) (l.length - i) dc, .slice (some ⟨g, i * 2, none⟩) (l.length + 1 - i) sc]).run Try.prog w.drew = .ok (goInt ((l.length - i : Nat) : Int)) (w.drew.setRow g c1) := fun ty dc sc => by
    have := run_copy_r w.drew ty g ((i + 1) * 2) (l.length - i) dc ⟨g, i * 2, none⟩ (l.length + 1 - i) sc cur D (l.length - i) hg' (by simp only [Nat.min_def]; split <;> omega) hDl
      (fun j v hj => by
        have ht : j < (l.length - i) * 2 := by
          have := (List.getElem?_eq_some_iff.1 hj).1
          rwa [hDl] at this
        rw [hD, pairs_drop, List.getElem?_drop, ← hl, List.getElem?_take_of_lt (by omega)] at hj
        rw [Addr.add_lit]
        show World.cell? w _ = _
        simp only [World.cell?, hg]
        simpa using hj) (by rw [hDl, hsz]; omega) (by rw [hD]; exact pairs_one _)
    rw [this, hc1, show (i + 1) * 2 = i * 2 + 2 by omega]
  obtain ⟨W1, hW1⟩ : ∃ W1, W1 = w.drew.setRow g c1 := ⟨_, rfl⟩
  rw [← hW1] at hcp1
  have hG1 : W1.heap[g]? = some (.cells c1 41 (0, 0)) := by rw [hW1]; exact setRow_heap _ g cur c1 41 _ hg'
  have hV1 : W1.heap[vb]? = some (.cells #[.int .i64 x.1, .int .i64 x.2] 41 (0, 0)) := by rw [hW1]; exact (setRow_other _ g vb _ hvg).trans hv
  obtain ⟨c2, hc2⟩ : ∃ c2 : Array Value, c2 = (c1.toList.take (i * 2) ++ u ++ c1.toList.drop (i * 2 + u.length)).toArray := ⟨_, rfl⟩
  have hSL := shift_list cur.toList u D (i * 2) 2 ((l.length - i) * 2) (by rw [hcl]; omega) hul hDl
  have hc2s : c2.size = cap * 2 := by
    rw [hc2, hc1, List.size_toArray, hul]
    show List.length (List.take (i * 2) (_ ++ _ ++ _) ++ u ++ List.drop (i * 2 + 2) (_ ++ _ ++ _)) = _
    rw [hDl, hSL.2, hcl]
  have hc2t : c2.toList.take ((l.length + 1) * 2) = pairs (l.take i ++ x :: l.drop i) := by
    rw [pairs_ins, ← hu, ← hD, ← hl, List.take_take, show min (i * 2) (l.length * 2) = i * 2 by omega, ← hSL.1, hc2, hc1, hDl, show (l.length + 1) * 2 = i * 2 + 2 + (l.length - i) * 2 by omega]
    rw [hul]
  have hc1s : i * 2 + u.length ≤ c1.size := by
    rw [hc1, List.size_toArray, hul]
    simp only [List.length_append, List.length_take, List.length_drop, hcl, hDl]; omega
  have hcp2 : ∀ ty dc, (Builtin.copy_ #[27, 27] ty #[.slice (some ⟨g, i * 2, none⟩) (l.length + 1 - i) dc, .slice (some ⟨vb, 0, none⟩) 1 1]).run Try.prog W1 = .ok (goInt ((1 : Nat) : Int)) (W1.setRow g c2) := fun ty dc => by
    rw [run_copy_r W1 ty g (i * 2) (l.length + 1 - i) dc ⟨vb, 0, none⟩ 1 1 c1 u 1 hG1 (by simp only [Nat.min_def]; split <;> omega) hul (by rw [hu]; exact World.news_of_block hV1) hc1s (by rw [hu]; exact pairs_one [x]), hc2]
  have hfin : Hid (Rb g cap (l.take i ++ x :: l.drop i) (W1.setRow g c2)) :=
    ⟨⟨_, setRow_heap _ g c1 _ 41 _ hG1, hc2s, by rw [ins_len l i x (by omega)]; exact hc2t⟩, by rw [ins_len l i x (by omega)]; exact hroom, by unfold maxLen; exact hmx⟩
  have hgr : Hid (w.grownBy (W1.setRow g c2) (some g)) := by
    rw [hW1]
    exact grown_trans (grown_trans (grown_drew w _) (grown_row _ g _)) (grown_row _ g _)
  generalize W1.setRow g c2 = W2 at hcp2 hfin hgr
  replace hcp1 := hide hcp1
  replace hcp2 := hide hcp2
  clear hc1 hW1 hG1 hV1 hc2 hc2s hc2t hc1s hSL hg' hD hDl hu hul hcl hl hsz hg hv
  generalize l.length = n at *
  have q1 : ¬ ((i : Int) = (n : Int)) := by omega
  have q2 : ¬ (cap = i) := by omega
  have q3 : ¬ (cap = i + 1) := by omega
  have q4 : ((i : Int) + 1).toNat = i + 1 := by omega
  have q5 : IntKind.i64.wrap ((i : Int) + 1) = (i : Int) + 1 := by rw [IntKind.wrap_i64]; omega
  have q6 : (0 : Int) ≤ (i : Int) + 1 := by omega
  have q7 : (i : Int) ≤ (n : Int) := by omega
  have q8 : i ≤ n := by omega
  have q9 : (i : Int) ≤ (n : Int) + 1 := by omega
  go_enter Try.func78, Try.ntmps78
  go_wp2_with (simp only [hov])
  go_region_law (refine step_copy_r rfl (.tmp 73) (.tmp 76) rfl (.slice (some ⟨g, (i + 1) * 2, none⟩) (n - i) (cap - (i + 1))) (.slice (some ⟨g, i * 2, none⟩) (n + 1 - i) (cap - i)) (by simp [Act.eval, Act.put]) (by simp [Act.eval, Act.put]) (unhide hcp1 _ _ _) ?_)
  have hcp3 := unhide hcp2
  clear hcp2
  go_wp2
  go_ret
  exact ⟨rfl, unhide hfin, unhide hgr⟩
end Go.Proofs.Ytmdbmkekdpbliaa
