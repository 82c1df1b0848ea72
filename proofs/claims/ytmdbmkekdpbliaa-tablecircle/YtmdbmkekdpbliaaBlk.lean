/- The library's Sort and Compact at numbers; Blocks. -/
import Derived.Test.YtmdbmkekdpbliaaLeave
import Derived.Test.YtmdbmkekdpbliaaShelf
import Derived.Lib.OwnBridge
import Derived.Lib.RowBridge
namespace Go.Proofs.Ytmdbmkekdpbliaa
open Go.RowKit
variable {B : Nat} {H Q : List En} {b : Nat} {hv qv : Value}

def sortI (l : List Int) : List Int := l.mergeSort fun x y => decide (x ≤ y)
theorem sortI_len (l : List Int) : (sortI l).length = l.length := List.length_mergeSort _
theorem grow_old (w : World) (os : Array Obj) (k : Nat) (h : k < w.heap.size) : (Go.Sort.grow w os).heap[k]? = w.heap[k]? := by
  show (w.heap ++ os)[k]? = _
  rw [Array.getElem?_append_left h]
theorem is_pos {v : Value} {l : List Int} {w : World} (h : Is B v l w) (hl : 0 < l.length) : ∃ g cap, v = .slice (some ⟨g, 0, none⟩) l.length cap ∧ B ≤ g ∧ g < w.heap.size ∧ l.length ≤ cap ∧ Sort.Holds (Value.int .i64) w g 0 l.toArray := by
  have hne : v ≠ .slice none 0 0 := by
    rintro rfl
    rcases h.2 with ⟨_, e⟩ | ⟨g, cap, cur, e, _⟩
    · omega
    · cases e
  obtain ⟨g, cap, e, h1, h2, h3, _, _, h4⟩ := Lib.holds_of_ownsRow (enc := Value.int .i64) h hne
  exact ⟨g, cap, e, h1, h2, h3, h4⟩
theorem sort_any (w : World) {v : Value} {l : List Int} (h : Is B v l w) (hl : l.length < 1000000000) :
    Calls Try.prog 58 #[v] w fun e w' => e = .returned (.tuple #[]) ∧ Is B v (sortI l) w' ∧ w.grownBy w' v.ownBlock := by
  rcases Nat.eq_zero_or_pos l.length with h0 | h0
  · obtain rfl : l = [] := List.eq_nil_of_length_eq_zero h0
    obtain ⟨a, cap, rfl⟩ := h.form
    refine Calls.mono (AnyM.slices_Sort_int_none Try.laysS a cap w) ?_
    rintro e w' ⟨rfl, rfl⟩
    have e0 : sortI [] = [] := by unfold sortI; exact List.mergeSort_nil
    rw [e0]
    exact ⟨rfl, h, ⟨rfl, rfl, rfl, Nat.le_refl _, fun _ _ _ => rfl⟩⟩
  · obtain ⟨g, cap, rfl, hB, hg, hc, hH⟩ := is_pos h h0
    refine Calls.mono (AnyM.slices_Sort_int Try.laysS g 0 cap l w hH hg (by omega)) ?_
    rintro e w' ⟨rfl, n, os, hw⟩
    change w' = Sort.grow (Sort.putRow (Value.int .i64) (Sort.ahead w n) g 0 (sortI l).toArray) os at hw
    subst hw
    have own := Lib.ownsRow_putRow (enc := Value.int .i64) (q := n) (k := l.length) h (ys := sortI l) (sortI_len l) (Nat.le_refl _)
    have hsz : (Sort.putRow (Value.int .i64) (Sort.ahead w n) g 0 (sortI l).toArray).heap.size = w.heap.size := by simp [Sort.putRow, Sort.mapBlock, Sort.ahead]
    refine ⟨rfl, ?_, ⟨rfl, rfl, rfl, ?_, fun k hk hne => ?_⟩⟩
    · have own2 : Is B (.slice (some ⟨g, 0, none⟩) l.length cap) (sortI l) (Sort.putRow (Value.int .i64) (Sort.ahead w n) g 0 (sortI l).toArray) := by
        unfold Is vals
        rw [sortI_len]
        have e1 : (sortI l).take l.length = sortI l := List.take_of_length_le (by rw [sortI_len]; exact Nat.le_refl _)
        rw [e1] at own
        exact own
      exact own2.keep fun k hk => grow_old _ os k (by
        obtain rfl : g = k := by simpa [Value.ownBlock] using hk
        rw [hsz]; exact hg)
    · show w.heap.size ≤ (_ ++ os).size
      rw [Array.size_append, hsz]; omega
    · refine (grow_old _ os k (by rw [hsz]; exact hk)).trans ?_
      have hgk : g ≠ k := fun e => hne (by rw [e]; rfl)
      simp [Sort.putRow, Sort.mapBlock, Sort.ahead, Array.getElem?_modify, hgk]
theorem compact_any (w : World) {v : Value} {l : List Int} (h : Is B v l w) (hl : l.length < 1000000000) :
    Calls Try.prog 59 #[v] w fun e w' => ∃ v', e = .returned v' ∧ Is B v' (Lib.compact l) w' ∧ w.grownBy w' v.ownBlock := by
  rcases Nat.eq_zero_or_pos l.length with h0 | h0
  · obtain rfl : l = [] := List.eq_nil_of_length_eq_zero h0
    obtain ⟨a, cap, rfl⟩ := h.form
    refine Calls.mono (AnyG.slices_Compact_int_empty Try.laysC a cap w) ?_
    rintro e w' ⟨rfl, rfl⟩
    exact ⟨_, rfl, h, ⟨rfl, rfl, rfl, Nat.le_refl _, fun _ _ _ => rfl⟩⟩
  · obtain ⟨g, cap, rfl, hB, hg, hc, hH⟩ := is_pos h h0
    refine Calls.mono (AnyG.slices_Compact_int Try.laysC g 0 cap l w hH (by omega) hc) ?_
    rintro e w' ⟨rfl, n, rfl⟩
    have hle := Lib.compact_length_le l
    have own := Lib.ownsRow_putRow (enc := Value.int .i64) (q := n) (k := (Lib.compact l).length) h (ys := Lib.compact l ++ List.replicate (l.length - (Lib.compact l).length) 0) (by rw [List.length_append, List.length_replicate]; omega) hle
    rw [List.take_left] at own
    refine ⟨_, rfl, own, ⟨rfl, rfl, rfl, ?_, fun k hk hne => ?_⟩⟩
    · simp [Sort.putRow, Sort.mapBlock, Sort.ahead]
    · have hgk : g ≠ k := fun e => hne (by rw [e]; rfl)
      simp [Sort.putRow, Sort.mapBlock, Sort.ahead, Array.getElem?_modify, hgk]
/-- One number more, behind the others. -/
theorem wpList_push (w : World) {ops : Array Oper} {rest : List Oper} {o : Oper} {a : Act} {Q : Exit → Act → World → Prop} (hgd : o.guard = none) (s x : Operand)
    (ho : o.op = .call { callee := .builtin .append, args := #[s, x], argTypes := #[34, 34] }) (base : Nat) (ag : Option Addr) (n cg : Nat) (l : List Int) (z : Int)
    (N : Nat) (hs : a.eval s = .slice ag n cg) (hx : a.eval x = .slice (some ⟨N, 0, none⟩) 1 1) (hN : w.heap.size = N) (hn : l.length = n) (hown : Is base (.slice ag n cg) l w) (hb : base ≤ w.heap.size) (hm : n < 10000000)
    (h : ∀ g cap w', Is base (.slice (some ⟨g, 0, none⟩) (n + 1) cap) (l ++ [z]) w' → w.grownBy w' (Value.slice ag n cg).ownBlock → wpList Try.prog ops Q rest (a.put o.dst (.slice (some ⟨g, 0, none⟩) (n + 1) cap)) w') :
    wpList Try.prog ops Q (o :: rest) a (w.alloc (.cells #[.int .i64 z] 3)) := by
  subst hN
  obtain ⟨i3, hi3, hz0, hz1, hz2⟩ := info_parts inf3
  have B5 := below_new w (.cells #[.int .i64 z] 3)
  have G5 := hown.next B5
  have own5 : (w.alloc (.cells #[.int .i64 z] 3)).ownsRow base 3 1 (.slice ag n cg) n (vals l) := by
    have := G5
    unfold Is at this
    rw [hn] at this
    exact this
  refine wpList_append_lies _ hgd s x 34 ho base 3 i3 _ 1 8 Try.underlying34 hi3 hz0 hz1 hz2 rfl (by decide) _ n _ hs own5 ⟨w.heap.size, 0, none⟩ 1 1 [.int .i64 z] hx rfl (World.news_of_block (heap_alloc_new w _)) (vals_one [z]) (by decide) (by unfold maxLen; omega) (by omega) (Nat.le_trans hb B5.size) _ rfl ?_
  intro g cap w' a1 a2 _ _
  refine h g cap w' ?_ (grown_trans (grown_of_below B5 _) a2)
  unfold Is vals
  rw [List.length_append, hn, List.map_append]
  exact a1
/-- For whom the one at place i waits, as they are met. -/
def metD (H Q : List En) (i : Nat) (y : En) : List Int := (Q.take i).map (·.1) ++ (H.filter (fun x => hindD x y)).map (·.1)
/-- For whom who waits. -/
def blocksD (who : Int) (H Q : List En) : List Int :=
  match idxD (isWho who) Q with
  | .ofNat i => Lib.compact (sortI (metD H Q i (Q.getD i (0, 0))))
  | .negSucc _ => []
theorem flt_succ (p : En → Bool) (l : List En) (j : Nat) (hj : j < l.length) : ((l.take (j + 1)).filter p).map (·.1) = ((l.take j).filter p).map (·.1) ++ (if p (l.getD j (0, 0)) then [(l.getD j (0, 0)).1] else []) := by
  rw [List.take_succ_eq_append_getElem hj, List.filter_append, List.map_append]
  congr 1
  have e : l.getD j (0, 0) = l[j] := by simp [List.getD, hj]
  rw [e]
  cases h : p l[j] <;> simp [h]
set_option maxRecDepth 100000 in
set_option maxHeartbeats 2000000 in
theorem blocks_some (w : World) (h : La B H Q b hv qv w) (hn : H.length + Q.length < 999999) (who : Int) (i : Nat) (hi : i < Q.length) (he : idxD (isWho who) Q = (i : Int)) :
    Calls Try.prog 21 #[.pointer (some ⟨b, 0, none⟩), .int .i64 who] w fun e w' => ∃ v, e = .returned v ∧ Is w.heap.size v (Lib.compact (sortI (metD H Q i (Q.getD i (0, 0))))) w' ∧ Below w.heap.size w w' := by
  have HL := hide h
  have He := hide he
  obtain ⟨g, cap, rfl, hBg, rq⟩ : ∃ g cap, qv = .slice (some ⟨g, 0, none⟩) Q.length cap ∧ B ≤ g ∧ Rb g cap Q w := by
    rcases h.qr with ⟨_, e⟩ | h1
    · rw [e] at hi; simp at hi
    · exact h1
  have hqc := rq.le
  have hqm := rq.mx
  unfold maxLen at hqm
  have RQ := hide rq
  obtain ⟨y, hy⟩ : ∃ y, y = Q.getD i (0, 0) := ⟨_, rfl⟩
  have Hy := hide hy
  rw [← hy]
  have f0 := rq.fst hi
  have f1 := rq.snd hi
  rw [← hy] at f0 f1
  have F0 := hide f0
  have F1 := hide f1
  have hgw := hide rq.lt
  clear h he rq hy f0 f1
  have hic : i ≤ cap := by omega
  go_enter Try.func21, Try.ntmps21
  go_wp2_with fail
  refine (place_any w (unhide HL) (by omega) who).mono ?_
  rw [unhide He]
  rintro e w1 ⟨rfl, hb⟩
  have c1 := ((unhide HL).next hb).c1
  have B1 := hide hb
  clear hb
  go_wp2
  clear c1
  go_loopw [6, 23] (fun s6 s23 wr => ∃ (j : Nat) (ag : Option Addr) (cg : Nat), j ≤ i ∧ s6 = .slice ag j cg ∧ s23 = .int .i64 j ∧ Hid (Is w.heap.size (.slice ag j cg) ((Q.take j).map (·.1)) wr) ∧ Hid (Below w.heap.size w wr)) (fun _ s23 _ => i - (intOf s23).toNat)
  case atStart => exact ⟨0, none, 0, Nat.zero_le _, rfl, rfl, is_nil _ _, unhide B1⟩
  case round =>
    obtain ⟨j, ag, cg, hj, rfl, rfl, G, Bw⟩ := hrel
    by_cases hlt : j < i
    · obtain ⟨x, hx⟩ : ∃ x, x = Q.getD j (0, 0) := ⟨_, rfl⟩
      have r := (unhide RQ).next (unhide Bw)
      have d1 : wr.cell? ⟨g, j * 2, none⟩ = some (.int .i64 x.1) := by rw [hx]; exact r.fst (by omega)
      have d2 : wr.cell? ⟨g, j * 2 + 1, none⟩ = some (.int .i64 x.2) := by rw [hx]; exact r.snd (by omega)
      have Hx := hide hx
      have hl5 : Hid (((Q.take j).map (·.1)).length = j) := by show _ = _; rw [List.length_map, List.length_take]; omega
      have G2 := hide ((unhide G).next (below_new wr (.cells #[.int .i64 x.1, .int .i64 x.2] 41)))
      have hbs : Hid (w.heap.size ≤ (wr.alloc (.cells #[.int .i64 x.1, .int .i64 x.2] 41)).heap.size) := Nat.le_trans (unhide Bw).size (below_new wr _).size
      have hj9 : j < 10000000 := by omega
      clear hx r
      go_wp2_with (at_builtin; refine wpList_push _ rfl (.tmp 27) (.tmp 30) rfl w.heap.size ag j cg _ x.1 _ rfl rfl (by simp) (unhide hl5) (unhide G2) (unhide hbs) hj9 ?_; intro g5 cap5 w5 a1 a2; replace a1 := hide a1; replace a2 := hide a2)
      go_roundw
      case rel => exact ⟨j + 1, some ⟨g5, 0, none⟩, cap5, by omega, rfl, by go_num, by rw [take_map Q j (by omega), ← unhide Hx]; exact unhide a1, (unhide Bw).trans (grown_below (grown_trans (grown_of_below (below_new wr _) _) (unhide a2)) (unhide Bw).size (fun k hk => ((unhide G).lt k hk).1))⟩
      case measure => simp [intOf]; omega
    · obtain rfl : j = i := by omega
      have c0 := ((unhide HL).next (unhide Bw)).c0
      obtain ⟨ah, nh, ch, rfl, hnh⟩ := slice_form' (unhide HL).hr
      have Hnh := hide hnh
      have hnh9 : nh < 999999 := by omega
      clear hnh
      go_wp2
      clear c0
      obtain ⟨M0, hM0⟩ : ∃ M0, M0 = (Q.take j).map (·.1) := ⟨_, rfl⟩
      have HM0 := hide hM0
      have hM9 : Hid (M0.length = j) := by show _ = _; rw [hM0, List.length_map, List.length_take]; omega
      rw [← hM0] at G
      clear hM0
      go_loopw [6, 38] (fun s6 s38 wr => ∃ (t n2 : Nat) (ag : Option Addr) (cg : Nat), t ≤ nh ∧ s6 = .slice ag n2 cg ∧ s38 = .int .i64 t ∧ Hid ((M0 ++ ((H.take t).filter (fun x => hindD x y)).map (·.1)).length = n2) ∧ n2 ≤ j + t ∧ Hid (Is w.heap.size (.slice ag n2 cg) (M0 ++ ((H.take t).filter (fun x => hindD x y)).map (·.1)) wr) ∧ Hid (Below w.heap.size w wr)) (fun _ s38 _ => nh - (intOf s38).toNat)
      case atStart => exact ⟨0, j, ag, cg, Nat.zero_le _, rfl, rfl, by show _ = _; simpa using unhide hM9, by omega, by simpa [Hid] using unhide G, unhide Bw⟩
      case round =>
        obtain ⟨t, n2, ag2, cg2, ht, rfl, rfl, hl2, hn2, G2, B2⟩ := hrel
        by_cases hlt2 : t < nh
        · have hlt3 : Hid (t < H.length) := by have := unhide Hnh; show _ < _; omega
          obtain ⟨g2, rfl, r2⟩ : ∃ g2, ah = some ⟨g2, 0, none⟩ ∧ Rb g2 ch H w := by
            rcases (unhide HL).hr with ⟨_, e⟩ | ⟨g', cap', e, _, r⟩
            · have := unhide hlt3; rw [e] at this; simp at this
            · injection e with e1 _ e2
              subst e1 e2
              exact ⟨g', rfl, r⟩
          obtain ⟨x, hx⟩ : ∃ x, x = H.getD t (0, 0) := ⟨_, rfl⟩
          have r3 := r2.next (unhide B2)
          have d1 : wr.cell? ⟨g2, t * 2, none⟩ = some (.int .i64 x.1) := by rw [hx]; exact r3.fst (unhide hlt3)
          have d2 : wr.cell? ⟨g2, t * 2 + 1, none⟩ = some (.int .i64 x.2) := by rw [hx]; exact r3.snd (unhide hlt3)
          have Hx := hide hx
          have hfs := hide (flt_succ (fun x => hindD x y) H t (unhide hlt3))
          obtain ⟨W1, hW1⟩ : ∃ W1, W1 = wr.alloc (.cells #[.int .i64 x.1, .int .i64 x.2] 41) := ⟨_, rfl⟩
          have BW : Below wr.heap.size wr W1 := by rw [hW1]; exact below_new wr _
          have B0 : Below w.heap.size w W1 := below_then (unhide B2) BW
          obtain ⟨k0, k1⟩ := box_cells (w := W1) (p := wr.heap.size) (y := x) (by rw [hW1]; exact box_new wr x)
          have k2 := ((unhide HL).next B0).c1
          have k3 := (B0.cell (p := ⟨g, j * 2, none⟩) (unhide hgw)).trans (unhide F0)
          have k4 := (B0.cell (p := ⟨g, j * 2 + 1, none⟩) (unhide hgw)).trans (unhide F1)
          have hsz1 : Hid (wr.heap.size < W1.heap.size) := by rw [hW1]; show _ < _; simp
          have hbl : Hid (b < W1.heap.size) := ((unhide HL).next B0).lt
          have hgl : Hid (g < W1.heap.size) := Nat.lt_of_lt_of_le (unhide hgw) B0.size
          have HB0 := hide B0
          have HW1 := hide hW1
          have hjq : j < Q.length := hi
          clear hx r2 r3 B0 BW hW1
          go_wp2_with fail
          rw [← unhide HW1]
          clear d1 d2
          go_region_held3 (fun wz => wz.cell? ⟨wr.heap.size, 0, none⟩ = some (.int .i64 x.1) ∧ wz.cell? ⟨wr.heap.size, 1, none⟩ = some (.int .i64 x.2) ∧ wz.cell? ⟨b, 1, none⟩ = some (.slice (some ⟨g, 0, none⟩) Q.length cap) ∧ wz.cell? ⟨g, j * 2, none⟩ = some (.int .i64 y.1) ∧ wz.cell? ⟨g, j * 2 + 1, none⟩ = some (.int .i64 y.2))
            (first | exact ⟨k0, k1, k2, k3, k4⟩ | exact ⟨m0, m1, m2, m3, m4⟩)
            (first | (go_at_call 57; refine Calls.mono (hinders_any x y _) ?_; rintro e w5 ⟨rfl, hb5⟩; have m0 := (hb5.cell (p := ⟨wr.heap.size, 0, none⟩) (unhide hsz1)).trans k0; have m1 := (hb5.cell (p := ⟨wr.heap.size, 1, none⟩) (unhide hsz1)).trans k1; have m2 := (hb5.cell (p := ⟨b, 1, none⟩) (unhide hbl)).trans k2; have m3 := (hb5.cell (p := ⟨g, j * 2, none⟩) (unhide hgl)).trans k3; have m4 := (hb5.cell (p := ⟨g, j * 2 + 1, none⟩) (unhide hgl)).trans k4; replace hb5 := hide hb5))
          have hb6 : Below W1.heap.size W1 w5 := ⟨(unhide hb5).os, (unhide hb5).tape, (unhide hb5).output, (unhide hb5).size, (unhide hb5).block⟩
          have B6 := hide (below_then (unhide HB0) hb6)
          have hbw : Below wr.heap.size wr w5 := below_then (by rw [unhide HW1]; exact below_new wr _) hb6
          have G6 := hide ((unhide G2).next hbw)
          clear hb6 hbw k0 k1 k2 k3 k4 m2 m3 m4
          cases hh : hindD x y
          · have e1 : Hid (((H.take (t + 1)).filter (fun x => hindD x y)).map (·.1) = ((H.take t).filter (fun x => hindD x y)).map (·.1)) := by
              show _ = _
              rw [unhide hfs, ← unhide Hx, hh]; simp
            clear hh
            go_wp2
            go_roundw
            case rel => exact ⟨t + 1, n2, ag2, cg2, by omega, rfl, by go_num, by rw [unhide e1]; exact hl2, by omega, by rw [unhide e1]; exact unhide G6, unhide B6⟩
            case measure => simp [intOf]; omega
          · have e1 : Hid (M0 ++ ((H.take (t + 1)).filter (fun x => hindD x y)).map (·.1) = M0 ++ ((H.take t).filter (fun x => hindD x y)).map (·.1) ++ [x.1]) := by
              show _ = _
              rw [unhide hfs, ← unhide Hx, hh]; simp
            clear hh
            have hn29 : n2 < 10000000 := by omega
            go_wp2_with (at_builtin; refine wpList_push w5 rfl (.tmp 51) (.tmp 54) rfl w.heap.size ag2 n2 cg2 _ x.1 _ rfl rfl rfl (unhide hl2) (unhide G6) (unhide B6).size hn29 ?_; intro g5 cap5 w7 a1 a2; replace a1 := hide a1; replace a2 := hide a2)
            go_roundw
            case rel => exact ⟨t + 1, n2 + 1, some ⟨g5, 0, none⟩, cap5, by omega, rfl, by go_num, by
              show _ = _
              rw [unhide e1, List.length_append, unhide hl2]; rfl, by omega, by rw [unhide e1]; exact unhide a1, (unhide B6).trans (grown_below (unhide a2) (unhide B6).size (fun k hk => ((unhide G6).lt k hk).1))⟩
            case measure => simp [intOf]; omega
        · obtain rfl : t = nh := by omega
          have e9 : Hid (M0 ++ ((H.take t).filter (fun x => hindD x y)).map (·.1) = metD H Q j y) := by
            show _ = _
            have eH : H.take t = H := List.take_of_length_le (by have := unhide Hnh; omega)
            unfold metD
            rw [unhide HM0, eH]
          go_wp2_with fail
          refine (sort_any _ (unhide G2) (by rw [unhide hl2]; omega)).mono ?_
          rintro e w3 ⟨rfl, G3, gr3⟩
          have hl3 := sortI_len (M0 ++ ((H.take t).filter (fun x => hindD x y)).map (·.1))
          have B3 := hide ((unhide B2).trans (grown_below gr3 (unhide B2).size (fun k hk => ((unhide G2).lt k hk).1)))
          have C3 := hide (compact_any _ G3 (by rw [hl3, unhide hl2]; omega))
          have G3h := hide G3
          clear hl3 gr3 G3
          go_wp2_with fail
          refine (unhide C3).mono ?_
          rintro e w4 ⟨v4, rfl, G4, gr4⟩
          have B4 := hide ((unhide B3).trans (grown_below gr4 (unhide B3).size (fun k hk => ((unhide G3h).lt k hk).1)))
          have G4h := hide G4
          clear gr4 G4
          rw [unhide e9] at G4h
          go_wp2
          go_ret
          exact ⟨_, rfl, unhide G4h, unhide B4⟩
set_option maxRecDepth 100000 in
theorem blocks_any (w : World) (h : La B H Q b hv qv w) (hn : H.length + Q.length < 999999) (who : Int) :
    Calls Try.prog 21 #[.pointer (some ⟨b, 0, none⟩), .int .i64 who] w fun e w' => ∃ v, e = .returned v ∧ Is w.heap.size v (blocksD who H Q) w' ∧ Below w.heap.size w w' := by
  unfold blocksD
  rcases look_idx (k := who) (l := Q) with ⟨_, e⟩ | ⟨i, hi, _, e, _, _⟩
  · rw [e]
    show Calls Try.prog 21 _ w fun e w' => ∃ v, e = .returned v ∧ Is w.heap.size v [] w' ∧ Below w.heap.size w w'
    have HL := hide h
    have He := hide e
    clear h e
    go_enter Try.func21, Try.ntmps21
    go_wp2_with fail
    refine (place_any w (unhide HL) (by omega) who).mono ?_
    rw [unhide He]
    rintro e w1 ⟨rfl, hb⟩
    have B1 := hide hb
    clear hb
    go_wp2
    go_ret
    exact ⟨_, rfl, is_nil _ _, unhide B1⟩
  · rw [e]
    exact blocks_some w h hn who i hi e
end Go.Proofs.Ytmdbmkekdpbliaa
