/- grant, Leave. -/
import Derived.Test.YtmdbmkekdpbliaaAsk
namespace Go.Proofs.Ytmdbmkekdpbliaa
open Go.RowKit
variable {B : Nat} {H Q : List En} {b : Nat} {hv qv : Value}

/-- Entries i to j are taken out. -/
theorem delete_any {v : Value} {l : List En} (w : World) (h : Es B v l w) (i j : Nat) (hij : i ≤ j) (hj : j ≤ l.length) :
    Calls Try.prog 53 #[v, .int .i64 i, .int .i64 j] w fun e w' => ∃ v', e = .returned v' ∧ Es B v' (l.take i ++ l.drop j) w' ∧ w.grownBy w' v.ownBlock ∧ At v v' w.heap.size := by
  by_cases he : i = j
  · subst he
    refine (delete_same w h i hj).mono ?_
    rintro e w' ⟨rfl, rfl⟩
    rw [List.take_append_drop]
    exact ⟨_, rfl, h, ⟨rfl, rfl, rfl, Nat.le_refl _, fun _ _ _ => rfl⟩, At.refl _ _⟩
  · rcases h with ⟨rfl, rfl⟩ | ⟨g, cap, rfl, hB, r⟩
    · simp at hj; omega
    · refine (delete_cut w r i j (by omega) hj).mono ?_
      rintro e w' ⟨rfl, r', hg⟩
      have hn : (l.take i ++ l.drop j).length = l.length - (j - i) := by simp only [List.length_append, List.length_take, List.length_drop]; omega
      exact ⟨_, rfl, .inr ⟨g, cap, by rw [hn], hB, r'⟩, hg, fun k hk => .inl hk⟩

/-- The cells that hold the numbers of a list. -/
def vals (l : List Int) : List Value := l.map (Value.int .i64)
theorem vals_one (l : List Int) : ∀ u ∈ vals l, u.oneCell' = true := by
  intro u hu
  unfold vals at hu
  obtain ⟨n, _, rfl⟩ := List.mem_map.1 hu
  rfl
/-- The slice v: the numbers l, in a row of its own at or above B. -/
def Is (B : Nat) (v : Value) (l : List Int) (w : World) : Prop := w.ownsRow B 3 1 v l.length (vals l)
theorem is_nil (B : Nat) (w : World) : Is B (.slice none 0 0) [] w := World.ownsRow_nil w B 3 1
theorem Is.ty {v : Value} {l : List Int} {w : World} (h : Is B v l w) : ∀ g, v.ownBlock = some g → ∃ cur, w.heap[g]? = some (.cells cur 3 (0, 0)) := by
  rcases h.2 with ⟨rfl, _⟩ | ⟨g, cap, cur, rfl, _, hg, _⟩
  · intro k hk; cases hk
  · intro k hk
    obtain rfl : g = k := by simpa [Value.ownBlock] using hk
    exact ⟨_, hg⟩
theorem Is.keep {v : Value} {l : List Int} {w w' : World} (h : Is B v l w) (k : ∀ g, v.ownBlock = some g → w'.heap[g]? = w.heap[g]?) : Is B v l w' := by
  refine ⟨h.1, ?_⟩
  rcases h.2 with h0 | ⟨g, cap, cur, rfl, hB, hg, r⟩
  · exact .inl h0
  · exact .inr ⟨g, cap, cur, rfl, hB, (k g rfl).trans hg, r⟩
theorem Is.next {v : Value} {l : List Int} {w w' : World} (h : Is B v l w) (k : Below w.heap.size w w') : Is B v l w' := h.keep fun g hg => k.block g (h.lt g hg).2
theorem Is.form {v : Value} {l : List Int} {w : World} (h : Is B v l w) : ∃ a cap, v = .slice a l.length cap := by
  rcases h.2 with ⟨rfl, e⟩ | ⟨g, cap, cur, rfl, _⟩
  · exact ⟨none, 0, by rw [e]⟩
  · exact ⟨_, cap, rfl⟩
/-- Numbers lie in other blocks than a lane. -/
theorem Is.moved {v : Value} {l : List Int} {w w' : World} {hv' qv' : Value} {B' : Nat} (h : Is B' v l w) (k : La B H Q b hv qv w) (m : Mv b hv qv hv' qv' w w') : Is B' v l w' :=
  h.keep fun g hg => by
    obtain ⟨cur, hc⟩ := h.ty g hg
    refine m.block g (h.lt g hg).2 (fun e => ?_) (fun e => ?_) (fun e => ?_)
    · rw [e, k.blk] at hc; cases hc
    · obtain ⟨c2, h2⟩ := k.hr.ty g e
      rw [h2] at hc; cases hc
    · obtain ⟨c2, h2⟩ := k.qr.ty g e
      rw [h2] at hc; cases hc
theorem La.beside {v : Value} {l : List Int} {w w' : World} {B' : Nat} (k : La B H Q b hv qv w) (h : Is B' v l w) (g : w.grownBy w' v.ownBlock) : La B H Q b hv qv w' := by
  refine ⟨(g.block b k.lt (fun e => ?_)).trans k.blk, k.hr.keep fun j hj => g.block j (k.hr.lt j hj).2 (fun e => ?_), k.qr.keep fun j hj => g.block j (k.qr.lt j hj).2 (fun e => ?_), k.dq, k.bB, k.srt⟩
  · obtain ⟨cur, hc⟩ := h.ty b e.symm
    rw [k.blk] at hc; cases hc
  · obtain ⟨cur, hc⟩ := h.ty j e.symm
    obtain ⟨c2, h2⟩ := k.hr.ty j hj
    rw [h2] at hc; cases hc
  · obtain ⟨cur, hc⟩ := h.ty j e.symm
    obtain ⟨c2, h2⟩ := k.qr.ty j hj
    rw [h2] at hc; cases hc
theorem Mv.beside {v : Value} {l : List Int} {w0 w w' : World} {hv' qv' : Value} (m : Mv b hv qv hv' qv' w0 w) (h : Is w0.heap.size v l w) (g : w.grownBy w' v.ownBlock) : Mv b hv qv hv' qv' w0 w' :=
  ⟨g.os.trans m.os, g.tape.trans m.tape, g.output.trans m.output, Nat.le_trans m.size g.size, fun k hk h1 h2 h3 => (g.block k (Nat.lt_of_lt_of_le hk m.size) (fun e => by have := (h.lt k e.symm).1; omega)).trans (m.block k hk h1 h2 h3), m.ha, m.qa⟩

/-- How many of those that wait are let in, from the first on, and who holds behind it. -/
def grantD (H : List En) : List En → Nat × List En
  | [] => (0, H)
  | x :: r => if fitsL x H then ((grantD (putD x H) r).1 + 1, (grantD (putD x H) r).2) else (0, H)
theorem grant_cons {H r : List En} {x : En} (h : fitsL x H = true) : grantD H (x :: r) = ((grantD (putD x H) r).1 + 1, (grantD (putD x H) r).2) := by
  conv => lhs; unfold grantD
  rw [h]; rfl
theorem grant_stop {H r : List En} {x : En} (h : fitsL x H = false) : grantD H (x :: r) = (0, H) := by
  unfold grantD
  rw [h]; rfl
theorem grant_le : ∀ (Q H : List En), (grantD H Q).1 ≤ Q.length
  | [], H => Nat.le_refl _
  | x :: r, H => by
    unfold grantD
    split
    · have := grant_le r (putD x H); simp; omega
    · simp
theorem grant_len : ∀ (Q H : List En), (grantD H Q).2.length ≤ H.length + (grantD H Q).1
  | [], H => Nat.le_refl _
  | x :: r, H => by
    unfold grantD
    split
    · have := grant_len r (putD x H)
      have := put_len x H
      simp only; omega
    · simp
theorem drop_at {l : List En} {i : Nat} (hi : i < l.length) : l.drop i = l.getD i (0, 0) :: l.drop (i + 1) := by
  rw [List.drop_eq_getElem_cons hi]; simp [List.getD, hi]
theorem take_map (l : List En) (i : Nat) (hi : i < l.length) : (l.take (i + 1)).map (·.1) = (l.take i).map (·.1) ++ [(l.getD i (0, 0)).1] := by
  rw [List.take_succ_eq_append_getElem hi, List.map_append]; simp [List.getD, hi]
theorem inf3 : (Try.prog.info? 3).map (fun i => (i.zero, i.size, i.bytes)) = some (some (.int .i64 0), 1, 8) := by kernel_rfl
/-- What grant answers, and the lane behind it. -/
def GrantPost (w : World) (b : Nat) (hv qv : Value) (B : Nat) (H Q : List En) (e : Ending) (w' : World) : Prop :=
  ∃ gv hv' qv', e = .returned gv ∧ Is w.heap.size gv ((Q.take (grantD H Q).1).map (·.1)) w' ∧ La B (grantD H Q).2 (Q.drop (grantD H Q).1) b hv' qv' w' ∧ Mv b hv qv hv' qv' w w'
/-- The last statement: those that were let in wait no more. -/
theorem grant_end {w wr : World} {Hi : List En} {hv1 gv : Value} (i : Nat) (L : La B Hi Q b hv1 qv wr) (M : Mv b hv qv hv1 qv w wr) (g : Is w.heap.size gv ((Q.take i).map (·.1)) wr) (hg : grantD H Q = (i, Hi)) {v : Value} {w' : World} (he : Es B v (Q.take 0 ++ Q.drop i) w') (gr : wr.grownBy w' qv.ownBlock) (ha : At qv v wr.heap.size) :
    GrantPost w b hv qv B H Q (.returned gv) (w'.setCell ⟨b, 1, none⟩ v) := by
  obtain ⟨L2, M2⟩ := L.put1 gr he ha
  refine ⟨gv, hv1, v, rfl, ?_, ?_, M.trans M2⟩
  · rw [hg]; exact g.moved L M2
  · rw [hg]; simpa using L2
set_option maxRecDepth 100000 in
set_option maxHeartbeats 2000000 in
theorem grant_any (w : World) (h : La B H Q b hv qv w) (hn : H.length + Q.length < 999999) :
    Calls Try.prog 55 #[.pointer (some ⟨b, 0, none⟩)] w (GrantPost w b hv qv B H Q) := by
  have c1 := h.c1
  obtain ⟨a, n, cap, rfl, hq⟩ := slice_form' h.qr
  have HL := hide h
  have Hq := hide hq
  obtain ⟨i3, hi3, hz0, hz1, hz2⟩ := info_parts inf3
  have Hi3 := hide (And.intro hi3 (And.intro hz0 (And.intro hz1 hz2)))
  have hn9 : n < 999999 := by omega
  clear h hi3 hz0 hz1 hz2 hq
  go_enter Try.func55, Try.ntmps55
  go_wp2
  clear c1
  go_loopw [3, 11] (fun s3 s11 wr => ∃ (i : Nat) (Hi : List En) (hv1 : Value) (ag : Option Addr) (cg : Nat), i ≤ n ∧ s3 = .slice ag i cg ∧ s11 = .int .i64 i ∧ Hid (La B Hi Q b hv1 (.slice a n cap) wr) ∧ Hid (Mv b hv (.slice a n cap) hv1 (.slice a n cap) w wr) ∧ Hid (Is w.heap.size (.slice ag i cg) ((Q.take i).map (·.1)) wr) ∧ Hid (Hi.length ≤ H.length + i) ∧ Hid (grantD H Q = ((grantD Hi (Q.drop i)).1 + i, (grantD Hi (Q.drop i)).2))) (fun _ s11 _ => n - (intOf s11).toNat)
  case atStart => exact ⟨0, H, hv, none, 0, Nat.zero_le _, rfl, rfl, unhide HL, Mv.of_below (Below.refl _ _), is_nil _ _, by show _ ≤ _; omega, by show _ = _; rw [List.drop_zero]; exact rfl⟩
  case round =>
    obtain ⟨i, Hi, hv1, ag, cg, hi, rfl, rfl, L, M, G, hl, hg⟩ := hrel
    by_cases hlt : i < n
    · have hlt2 : Hid (i < Q.length) := by have := unhide Hq; show _ < _; omega
      obtain ⟨g, rfl, r⟩ : ∃ g, a = some ⟨g, 0, none⟩ ∧ Rb g cap Q wr := by
        rcases (unhide L).qr with ⟨_, e⟩ | ⟨g, cap', e, _, r⟩
        · have := unhide hlt2; rw [e] at this; simp at this
        · injection e with e1 _ e2
          subst e1 e2
          exact ⟨g, rfl, r⟩
      obtain ⟨x, hx⟩ : ∃ x, x = Q.getD i (0, 0) := ⟨_, rfl⟩
      have c1 : wr.cell? ⟨g, i * 2, none⟩ = some (.int .i64 x.1) := by rw [hx]; exact r.fst (unhide hlt2)
      have c2 : wr.cell? ⟨g, i * 2 + 1, none⟩ = some (.int .i64 x.2) := by rw [hx]; exact r.snd (unhide hlt2)
      have Hx := hide hx
      have hd : Hid (Q.drop i = x :: Q.drop (i + 1)) := by show _ = _; rw [hx]; exact drop_at (unhide hlt2)
      clear hx r
      have hlen : Hi.length < 999999 := by have := unhide hl; have := unhide hlt2; omega
      go_wp2_with fail
      refine (fits_lane _ ((unhide L).next (below_new wr _)) (by omega) x).mono ?_
      rintro e w2 ⟨rfl, hb⟩
      have B2 := hide (below_then (below_new wr _) hb)
      have bx := (hb.block _ (by simp)).trans (box_new wr x)
      have Bx := hide bx
      obtain ⟨x0, x1⟩ := box_cells bx
      have L2 := hide ((unhide L).next (unhide B2))
      have M2 := hide ((unhide M).then_ (unhide B2))
      have G2 := hide ((unhide G).next (unhide B2))
      clear bx hb c1 c2
      cases hf : fitsL x Hi
      · have hg2 : Hid (grantD H Q = (i, Hi)) := by
          have := unhide hg
          rw [unhide hd] at this
          show _ = _
          rw [this, grant_stop hf, Nat.zero_add]
        clear x0 x1
        have c1 := (unhide L2).c1
        have hdel := hide (delete_any (B := B) (v := .slice (some ⟨g, 0, none⟩) n cap) w2 (unhide L2).qr 0 i (Nat.zero_le _) (by have := unhide Hq; omega))
        go_wp2_with fail
        refine (unhide hdel).mono ?_
        rintro e w' ⟨v', rfl, es, gr, at4⟩
        obtain ⟨a4, n4, cap4, rfl, hn4⟩ := slice_form' es
        replace hn4 := hide hn4
        have q0 := (unhide L2).grown1 gr
        have m0 : w'.cell? ⟨b, 1, none⟩ = some (.slice (some ⟨g, 0, none⟩) n cap) := (by simp [World.cell?, q0])
        have m3 : w'.frozen? ⟨b, 1, none⟩ = false := (by simp [World.frozen?, q0])
        have PT := hide (grant_end i (unhide L2) (unhide M2) (unhide G2) (unhide hg2) es gr at4)
        clear gr es at4 q0 c1
        go_wp2
        go_ret
        exact unhide PT
      · have hg2 : Hid (grantD H Q = ((grantD (putD x Hi) (Q.drop (i + 1))).1 + (i + 1), (grantD (putD x Hi) (Q.drop (i + 1))).2)) := by
          have := unhide hg
          rw [unhide hd] at this
          show _ = _
          rw [this]
          rw [grant_cons hf, Nat.add_assoc, Nat.add_comm 1 i]
        have Hf := hide hf
        clear hf
        go_wp2_with fail
        refine (hold_any w2 (unhide L2) hlen x).mono ?_
        rintro e w3 ⟨rfl, hv2, L3, M3⟩
        have bx3 : w3.heap[wr.heap.size]? = some (.cells #[.int .i64 x.1, .int .i64 x.2] 41 (0, 0)) := (M3.block _ (heap_lt (unhide Bx)) (fun e => by have := (unhide L).lt; omega) (fun e => Nat.lt_irrefl _ ((unhide L).hr.lt _ e).2) (fun e => Nat.lt_irrefl _ ((unhide L).qr.lt _ e).2)).trans (unhide Bx)
        have G3 := hide ((unhide G2).moved (unhide L2) M3)
        have M4 := hide ((unhide M2).trans M3)
        have L4 := hide L3
        obtain ⟨y0, y1⟩ := box_cells bx3
        clear L3 M3 bx3 x0 x1
        have B5 := below_new w3 (.cells #[.int .i64 x.1] 3)
        have hl5 : ((Q.take i).map (·.1)).length = i := by have := unhide hlt2; rw [List.length_map, List.length_take]; omega
        have G5 := (unhide G3).next B5
        have own5 : Hid ((w3.alloc (.cells #[.int .i64 x.1] 3)).ownsRow w.heap.size 3 1 (.slice ag i cg) i (vals ((Q.take i).map (·.1)))) := by
          have := G5
          unfold Is at this
          rw [hl5] at this
          exact this
        have HB5 := hide (And.intro B5 G5)
        have h63 : Hid (i + 1 ≤ maxLen) := by have := unhide hlt2; show _ ≤ _; unfold maxLen; omega
        have h64 : Hid ((i + 1) * 8 ≤ 140737488355328) := by have := unhide hlt2; show _ ≤ _; omega
        have hbs : Hid (w.heap.size ≤ (w3.alloc (.cells #[.int .i64 x.1] 3)).heap.size) := Nat.le_trans (unhide M4).size B5.size
        have hnw : Hid (∀ j u, [Value.int .i64 x.1][j]? = some u → (w3.alloc (.cells #[.int .i64 x.1] 3)).cell? ((⟨w3.heap.size, 0, none⟩ : Addr).add j) = some u) := World.news_of_block (heap_alloc_new w3 _)
        have Hl5 := hide hl5
        clear B5 G5 hl5
        go_wp2_with (at_builtin; refine wpList_append_lies _ rfl (.tmp 22) (.tmp 25) 34 rfl w.heap.size 3 i3 _ 1 8 Try.underlying34 (unhide Hi3).1 (unhide Hi3).2.1 (unhide Hi3).2.2.1 (unhide Hi3).2.2.2 rfl (by decide) _ i _ rfl (unhide own5) ⟨w3.heap.size, 0, none⟩ 1 1 [.int .i64 x.1] rfl rfl (unhide hnw) (vals_one [x.1]) (by decide) (unhide h63) (unhide h64) (unhide hbs) _ rfl ?_; intro g5 cap5 w5 a1 a2 a3 _; replace a1 := hide a1; replace a2 := hide a2)
        go_roundw
        case rel => exact ⟨i + 1, putD x Hi, hv2, some ⟨g5, 0, none⟩, cap5, by omega, rfl, by go_num, ((unhide L4).next (unhide HB5).1).beside (unhide HB5).2 (unhide a2), ((unhide M4).then_ (unhide HB5).1).beside (unhide HB5).2 (unhide a2), by
          show World.ownsRow _ _ _ _ _ _ _
          rw [take_map Q i (unhide hlt2), List.length_append, unhide Hl5, ← unhide Hx]
          unfold vals
          rw [List.map_append]
          exact unhide a1, by have := put_len x Hi; have := unhide hl; show _ ≤ _; omega, hg2⟩
        case measure => simp [intOf]; omega
    · obtain rfl : i = n := by omega
      have hg2 : Hid (grantD H Q = (i, Hi)) := by
        have := unhide hg
        rw [show Q.drop i = [] from List.drop_eq_nil_of_le (by have := unhide Hq; omega)] at this
        show _ = _
        rw [this]
        unfold grantD
        simp
      have c1 := (unhide L).c1
      have hdel := hide (delete_any (B := B) (v := .slice a i cap) wr (unhide L).qr 0 i (Nat.zero_le _) (by have := unhide Hq; omega))
      go_wp2_with fail
      refine (unhide hdel).mono ?_
      rintro e w' ⟨v', rfl, es, gr, at4⟩
      obtain ⟨a4, n4, cap4, rfl, hn4⟩ := slice_form' es
      replace hn4 := hide hn4
      have q0 := (unhide L).grown1 gr
      have m0 : w'.cell? ⟨b, 1, none⟩ = some (.slice a i cap) := (by simp [World.cell?, q0])
      have m3 : w'.frozen? ⟨b, 1, none⟩ = false := (by simp [World.frozen?, q0])
      have PT := hide (grant_end i (unhide L) (unhide M) (unhide G) (unhide hg2) es gr at4)
      clear gr es at4 q0 c1
      go_wp2
      go_ret
      exact unhide PT
end Go.Proofs.Ytmdbmkekdpbliaa
