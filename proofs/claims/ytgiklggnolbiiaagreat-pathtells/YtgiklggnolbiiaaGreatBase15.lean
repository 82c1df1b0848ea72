/- Texts of this claim, put together in their order. -/
import Derived.Shelf.SlSortCmp.WholeK
import Derived.Shelf.SlSortCmp.NoneTotal
import Derived.Shelf.SlLaysF0
import Derived.Ground.SlsfProg
import Derived.Test.YtgiklggnolbiiaaGreatProg
import Derived.Deep.RegionHeld3
import Derived.Test.YtgiklggnolbiiaaGreatBase1
import Derived.Test.YtgiklggnolbiiaaGreatBase2
import Derived.Test.YtgiklggnolbiiaaGreatBase3
import Derived.Test.YtgiklggnolbiiaaGreatBase4
import Derived.Test.YtgiklggnolbiiaaGreatBase5
import Derived.Test.YtgiklggnolbiiaaGreatBase6
import Derived.Test.YtgiklggnolbiiaaGreatBase7
import Derived.Test.YtgiklggnolbiiaaGreatBase8
import Derived.Test.YtgiklggnolbiiaaGreatBase9
import Derived.Test.YtgiklggnolbiiaaGreatBase10
import Derived.Test.YtgiklggnolbiiaaGreatBase11
import Derived.Test.YtgiklggnolbiiaaGreatBase12
import Derived.Test.YtgiklggnolbiiaaGreatBase13
import Derived.Test.YtgiklggnolbiiaaGreatBase14
/- The reference's table: Waits, Holds, Held, Len. -/
namespace Go.Proofs.YtgiklggnolbiiaaGreat
open Go.RowKit
variable {B n : Nat} {most : Int} {T : Nat → Lv} {b rb c : Nat} {lb : Nat → Nat} {hv qv : Nat → Value}

set_option maxRecDepth 100000 in
set_option maxHeartbeats 2000000 in
theorem rwaits_t (w : World) (h : Rt B n most T b rb c lb hv qv w) (hf : Few n 1000 T) (hn : n ≤ 10000) (who : Int) (s : Nat) (hs : s ≤ n) (h0 : ∀ j, j < s → lookD who (T j).2 = 0) (h1 : s < n → lookD who (T s).2 ≠ 0) :
    Calls Tryz.prog 14 #[.pointer (some ⟨b, 0, none⟩), .int .i64 who] w fun e w' => e = .returned (waitV who n T s) ∧ Below w.heap.size w w' := by
  have HT := hide h
  replace h0 := hide h0
  replace h1 := hide h1
  obtain ⟨W1, hW1⟩ : ∃ W1, W1 = w.alloc (.cells #[.int .i64 0, .int .i64 0] 39) := ⟨_, rfl⟩
  obtain ⟨p, hp⟩ : ∃ p, p = w.heap.size := ⟨_, rfl⟩
  have P1 : Hid (W1.heap[p]? = some (.cells #[.int .i64 0, .int .i64 0] 39 (0, 0))) := by rw [hW1, hp]; exact heap_alloc_new w _
  have B1 : Hid (Below w.heap.size w W1) := by rw [hW1]; exact below_new w _
  have hpl : Hid (p < W1.heap.size) := heap_lt (unhide P1)
  have hwp : Hid (w.heap.size = p) := hp.symm
  clear h
  go_enter Tryz.func14, Tryz.ntmps14
  go_wp2_with fail
  rw [← hW1, ← hp]
  replace hW1 := hide hW1
  replace hp := hide hp
  go_loopw [6] (fun s6 wr => ∃ t : Nat, t ≤ s ∧ s6 = .int .i64 t ∧ wr = W1) (fun s6 _ => n - (intOf s6).toNat)
  case atStart => exact ⟨0, Nat.zero_le _, rfl, rfl⟩
  case round =>
    obtain ⟨t, ht, rfl, rfl⟩ := hrel
    have T3 := (unhide HT).next (unhide B1)
    have c1 := T3.c1
    by_cases hlt : t < n
    · have d1 := T3.at_ hlt
      have L4 := hide (T3.lr t hlt)
      have f2 := hide (hf t hlt).2
      obtain ⟨m, hm⟩ : ∃ m, m = lookD who (T t).2 := ⟨_, rfl⟩
      have C := hide (rwaits_any wr (unhide L4) (by have := unhide f2; omega) who)
      rw [← hm] at C
      replace hm := hide hm
      clear T3
      go_wp2_with fail
      refine (unhide C).mono ?_
      rintro e w5 ⟨rfl, rfl⟩
      clear C d1
      by_cases hts : t = s
      · have hm0 : (m != 0) = true := by rw [unhide hm, hts]; simpa using unhide h1 (by omega)
        have hm1 : m ≠ 0 := by simpa using hm0
        obtain ⟨k0, k1, k2, k3⟩ := lock_cells (unhide P1)
        have PT : Hid (Below w.heap.size w ((w5.setCell ⟨p, 0, none⟩ (.int .i64 t)).setCell ⟨p, 1, none⟩ (.int .i64 m))) := ((unhide B1).setCell (p := ⟨p, 0, none⟩) (Nat.le_of_eq (unhide hwp)) _).setCell (p := ⟨p, 1, none⟩) (Nat.le_of_eq (unhide hwp)) _
        go_wp2
        (try simp only [Exit.inBlock, Exit.then])
        refine bodyPost_ret (v := waitV who n T s) ?_ rfl ⟨rfl, by have := unhide PT; rw [hts] at this; exact this⟩
        rw [results_cell_tmp rfl]
        unfold waitV
        rw [if_pos (by omega), if_pos (by omega), decide_eq_true (by omega : s < n), ← hts, ← unhide hm]
        go_simp
      · have hm0 : (m != 0) = false := by rw [unhide hm, unhide h0 t (by omega)]; rfl
        have hm1 : m = 0 := by simpa using hm0
        go_wp2
        go_roundw
        case rel => exact ⟨t + 1, by omega, by go_num, by first | rfl | trivial⟩
        case measure => simp [intOf]; omega
    · obtain rfl : t = n := by omega
      obtain rfl : t = s := by omega
      clear T3
      obtain ⟨k0, k1, k2, k3⟩ := lock_cells (unhide P1)
      have PT : Hid (Below w.heap.size w ((wr.setCell ⟨p, 0, none⟩ (.int .i64 0)).setCell ⟨p, 1, none⟩ (.int .i64 0))) := ((unhide B1).setCell (p := ⟨p, 0, none⟩) (Nat.le_of_eq (unhide hwp)) _).setCell (p := ⟨p, 1, none⟩) (Nat.le_of_eq (unhide hwp)) _
      go_wp2
      (try simp only [Exit.inBlock, Exit.then])
      refine bodyPost_ret (v := waitV who t T t) ?_ rfl ⟨rfl, unhide PT⟩
      rw [results_cell_tmp rfl]
      unfold waitV
      rw [if_neg (by omega), if_neg (by omega), decide_eq_false (by omega : ¬ t < t)]
      go_simp
theorem rwaits_tb (w : World) (h : Rt B n most T b rb c lb hv qv w) (hf : Few n 1000 T) (hn : n ≤ 10000) (who : Int) :
    Calls Tryz.prog 14 #[.pointer (some ⟨b, 0, none⟩), .int .i64 who] w fun e w' => e = .returned (waitV who n T (atW who T n)) ∧ Below w.heap.size w w' :=
  rwaits_t w h hf hn who _ (atW_le who T n) (atW_low who T n) (atW_at who T n)
/-- What who holds at node; 0 where there is none. -/
def holdN (n : Nat) (T : Nat → Lv) (who node : Int) : Int := if 0 ≤ node ∧ node < n then lookD who (T node.toNat).1 else 0
set_option maxRecDepth 100000 in
theorem rholds_t (w : World) (h : Rt B n most T b rb c lb hv qv w) (hf : Few n 1000 T) (who node : Int) :
    Calls Tryz.prog 16 #[.pointer (some ⟨b, 0, none⟩), .int .i64 who, .int .i64 node] w fun e w' => e = .returned (.int .i64 (holdN n T who node)) ∧ w' = w := by
  have c1 := h.c1
  unfold holdN
  by_cases e0 : node < 0
  · rw [if_neg (by omega)]
    clear h
    go_enter Tryz.func16, Tryz.ntmps16
    go_wp2
    go_ret
    exact ⟨rfl, rfl⟩
  · by_cases e1 : node < n
    · rw [if_pos ⟨by omega, e1⟩]
      obtain ⟨k, rfl⟩ : ∃ k : Nat, node = (k : Int) := ⟨node.toNat, by omega⟩
      have hk : k < n := by omega
      have d0 := h.at_ hk
      have C := hide (rholds_any w (h.lr k hk) (by have := (hf k hk).1; omega) who)
      have e2 : (k : Int).toNat = k := rfl
      rw [e2]
      clear h e2
      go_enter Tryz.func16, Tryz.ntmps16
      go_wp2_with fail
      refine (unhide C).mono ?_
      rintro e w5 ⟨rfl, rfl⟩
      go_wp2
      go_ret
      exact ⟨rfl, rfl⟩
    · rw [if_neg (by omega)]
      clear h
      go_enter Tryz.func16, Tryz.ntmps16
      go_wp2
      go_ret
      exact ⟨rfl, rfl⟩
set_option maxRecDepth 100000 in
set_option maxHeartbeats 2000000 in
theorem rheld_t (w : World) (h : Rt B n most T b rb c lb hv qv w) (hf : Few n 1000 T) (hn : n ≤ 10000) (who : Int) :
    Calls Tryz.prog 19 #[.pointer (some ⟨b, 0, none⟩), .int .i64 who] w fun e w' => ∃ v, e = .returned v ∧ Pr 39 w.heap.size v (heldD who T n) w' ∧ Below w.heap.size w w' := by
  have HT := hide h
  clear h
  go_enter Tryz.func19, Tryz.ntmps19
  go_wp2_with fail
  go_loopw [5, 6] (fun s5 s6 wr => ∃ (t k : Nat) (ag : Option Addr) (cg : Nat), t ≤ n ∧ k ≤ t ∧ s5 = .slice ag k cg ∧ s6 = .int .i64 t ∧ Hid ((heldD who T t).length = k) ∧ Hid (Pr 39 w.heap.size (.slice ag k cg) (heldD who T t) wr) ∧ Hid (Below w.heap.size w wr)) (fun _ s6 _ => n - (intOf s6).toNat)
  case atStart => exact ⟨0, 0, none, 0, Nat.zero_le _, Nat.le_refl _, rfl, rfl, rfl, Pr.nil _ _ _, Below.refl _ _⟩
  case round =>
    obtain ⟨t, k, ag, cg, ht, hkt, rfl, rfl, hl, P3, b3⟩ := hrel
    have T3 := (unhide HT).next (unhide b3)
    have c1 := T3.c1
    by_cases hlt : t < n
    · have d1 := T3.at_ hlt
      obtain ⟨f1, f2⟩ := hf t hlt
      obtain ⟨m, hm⟩ : ∃ m, m = lookD who (T t).1 := ⟨_, rfl⟩
      have hstep : Hid (heldD who T (t + 1) = if m = 0 then heldD who T t else heldD who T t ++ [((t : Int), m)]) := by show _ = _; rw [hm]; rfl
      have C := hide (rholds_any wr (T3.lr t hlt) (by omega) who)
      rw [← hm] at C
      replace hm := hide hm
      clear T3 f2 f1
      go_wp2_with fail
      refine (unhide C).mono ?_
      rintro e w5 ⟨rfl, rfl⟩
      clear d1 C
      by_cases h0 : m = 0
      · subst h0
        have e1 := unhide hstep
        rw [if_pos rfl] at e1
        replace e1 := hide e1
        go_wp2
        go_roundw
        case rel => exact ⟨t + 1, k, ag, cg, by omega, by omega, rfl, by go_num, by rw [unhide e1]; exact unhide hl, by rw [unhide e1]; exact unhide P3, unhide b3⟩
        case measure => simp [intOf]; omega
      · have e1 := unhide hstep
        rw [if_neg h0] at e1
        replace e1 := hide e1
        have hm0 : (m != 0) = true := by simpa using h0
        have hk9 : k < 10000000 := by omega
        clear c1
        go_wp2_with (at_builtin; refine wpList_pair 39 49 Tryz.underlying49 inf53 w5 rfl (.tmp 28) (.tmp 32) rfl w.heap.size ag k cg _ ((t : Int), m) _ rfl rfl rfl (unhide hl) (unhide P3) (unhide b3).size hk9 ?_; intro g7 cap7 w7 a1 a2; replace a1 := hide a1; replace a2 := hide a2)
        go_roundw
        case rel => exact ⟨t + 1, k + 1, some ⟨g7, 0, none⟩, cap7, by omega, by omega, rfl, by go_num, by
          show _ = _
          rw [unhide e1, List.length_append, unhide hl]; rfl, by rw [unhide e1]; exact unhide a1, (unhide b3).trans (grown_below (unhide a2) (unhide b3).size (fun j hj => ((unhide P3).lt j hj).1))⟩
        case measure => simp [intOf]; omega
    · obtain rfl : t = n := by omega
      clear T3
      go_wp2
      go_ret
      exact ⟨_, rfl, unhide P3, unhide b3⟩
/-- Those that wait, less those that hold something. -/
theorem new_cnv (H Q : List En) : (newD H Q).length + cnvD H Q = Q.length := by
  unfold newD cnvD
  induction Q with
  | nil => rfl
  | cons y r ih =>
    rw [List.filter_cons, List.filter_cons]
    cases h : (lookD y.1 H == 0)
    · have h2 : (lookD y.1 H != 0) = true := by simp [bne, h]
      rw [h2]
      simp only [if_true, List.length_cons]
      rw [if_neg (by simp)]
      omega
    · have h2 : (lookD y.1 H != 0) = false := by simp [bne, h]
      rw [h2]
      simp only [if_true, List.length_cons]
      rw [if_neg (by simp)]
      omega
theorem Lr.forms {B b : Nat} {H Q : List En} {hv qv : Value} {w : World} (h : Lr B H Q b hv qv w) : ∃ a c a' c', hv = .slice a H.length c ∧ qv = .slice a' Q.length c' := by
  obtain ⟨a, c, e⟩ := slice_form h.hr
  obtain ⟨a', c', e'⟩ := slice_form h.qr
  exact ⟨a, c, a', c', e, e'⟩
set_option maxRecDepth 100000 in
set_option maxHeartbeats 2000000 in
theorem rlen_t (w : World) (h : Rt B n most T b rb c lb hv qv w) (hf : Few n 1000 T) (hn : n ≤ 10000) :
    Calls Tryz.prog 24 #[.pointer (some ⟨b, 0, none⟩)] w fun e w' => e = .returned (.int .i64 (lenD T n : Nat)) ∧ Below w.heap.size w w' := by
  have HT := hide h
  clear h
  go_enter Tryz.func24, Tryz.ntmps24
  go_wp2_with fail
  go_loopw [3, 4] (fun s3 s4 wr => ∃ t : Nat, t ≤ n ∧ s3 = .int .i64 (lenD T t : Nat) ∧ s4 = .int .i64 t ∧ Hid (Below w.heap.size w wr)) (fun _ s4 _ => n - (intOf s4).toNat)
  case atStart => exact ⟨0, Nat.zero_le _, rfl, rfl, Below.refl _ _⟩
  case round =>
    obtain ⟨t, ht, rfl, rfl, b3⟩ := hrel
    have T3 := (unhide HT).next (unhide b3)
    have c1 := T3.c1
    by_cases hlt : t < n
    · have d1 := T3.at_ hlt
      obtain ⟨f1, f2⟩ := hf t hlt
      have hle := len_le hf t ht
      have hnc := new_cnv (T t).1 (T t).2
      have hlen : Hid (lenD T (t + 1) = lenD T t + ((T t).1.length + (newD (T t).1 (T t).2).length)) := rfl
      have l2 := (T3.lr t hlt).c0
      have l3 := (T3.lr t hlt).c1
      obtain ⟨ah, ch, aq, cq, eh, eq⟩ := (T3.lr t hlt).forms
      rw [eh] at l2
      rw [eq] at l3
      have hq := fun (m : Nat) => rconv_any (wr.drewN m) ((T3.drewN m).lr t hlt) (by omega) (by omega)
      generalize lenD T t = c0 at hle hlen ⊢
      have hc : c0 ≤ 20000000 := by
        have : t * (2 * 1000) ≤ 10000 * (2 * 1000) := Nat.mul_le_mul_right _ (by omega)
        omega
      generalize (T t).1.length = nh at f1 l2 hlen
      generalize (T t).2.length = nq at f2 l3 hnc
      generalize (newD (T t).1 (T t).2).length = nn at hnc hlen
      generalize cnvD (T t).1 (T t).2 = nc at hnc hq
      obtain rfl : nq = nn + nc := by omega
      replace hq := hide hq
      clear T3 hle eh eq hnc
      go_wp2_with fail
      go_quiet ((go_at_call 56; exact Calls.quiet_of_same (unhide hq _)))
      all_goals
        have b9 : Hid (Below w.heap.size w (wr.drewN nq)) := (unhide b3).trans ⟨rfl, rfl, rfl, Nat.le_refl _, fun _ _ => rfl⟩
        go_wp2
        go_roundw
        case rel => exact ⟨t + 1, by omega, by rw [unhide hlen]; go_num, by go_num, unhide b9⟩
        case measure => simp [intOf]; omega
    · obtain rfl : t = n := by omega
      clear T3
      go_wp2
      go_ret
      exact ⟨rfl, unhide b3⟩
end Go.Proofs.YtgiklggnolbiiaaGreat

/- The reference's table: Ask. -/
namespace Go.Proofs.YtgiklggnolbiiaaGreat
open Go.RowKit
variable {X : Nat → Prop} {B n : Nat} {most : Int} {T : Nat → Lv} {b rb c : Nat} {lb : Nat → Nat} {hv qv : Nat → Value}

/-- What an operation at the reference's table leaves: the table, and what X has stays. -/
def RtPost (X : Nat → Prop) (B n : Nat) (most : Int) (T : Nat → Lv) (b rb c : Nat) (lb : Nat → Nat) (w w' : World) : Prop :=
  (∃ hv' qv', Rt B n most T b rb c lb hv' qv' w' ∧ Fn X n w.heap.size lb hv' qv') ∧ Below B w w' ∧ Kx X w w'
theorem rtp_same {w w' : World} (h : Rt B n most T b rb c lb hv qv w) (hX : Fn X n w.heap.size lb hv qv) (k : Below w.heap.size w w') : RtPost X B n most T b rb c lb w w' :=
  ⟨⟨_, _, h.next k, hX⟩, k.mono h.low, Kx.of k⟩
set_option maxRecDepth 100000 in
set_option maxHeartbeats 4000000 in
theorem rask_t (w : World) (h : Rt B n most T b rb c lb hv qv w) (hg : Gd n 399 T) (hn : n ≤ 10000) (who node m : Int) (hX : Fn X n w.heap.size lb hv qv) {r : (Int × Int) × (Nat → Lv)} (hr : askT n most T who node m = r) :
    Calls Tryz.prog 9 #[.pointer (some ⟨b, 0, none⟩), .int .i64 who, .int .i64 node, .int .i64 m] w fun e w' => e = .returned (.tuple #[.int .i64 r.1.1, .int .i64 r.1.2]) ∧ RtPost X B n most r.2 b rb c lb w w' := by
  subst hr
  have hf : Few n 1000 T := hg.few (by decide)
  have HT := hide h
  have c1 := h.c1
  have fin := hide (fun (w' : World) (k : Below w.heap.size w w') => rtp_same h hX k)
  by_cases e0 : node < 0
  · rw [ask_err (x := 4) (by unfold errD; rw [if_pos (by simp; omega)]) (by decide)]
    clear h
    go_enter Tryz.func9, Tryz.ntmps9
    go_wp2
    go_ret2
    exact ⟨rfl, unhide fin _ (Below.refl _ _)⟩
  by_cases e1 : n ≤ node
  · rw [ask_err (x := 4) (by unfold errD; rw [if_pos (by simp; omega)]) (by decide)]
    clear h
    go_enter Tryz.func9, Tryz.ntmps9
    go_wp2
    go_ret2
    exact ⟨rfl, unhide fin _ (Below.refl _ _)⟩
  obtain ⟨k, rfl⟩ : ∃ k : Nat, node = (k : Int) := ⟨node.toNat, by omega⟩
  have hkn : k < n := by omega
  have hkd : (decide (0 ≤ (k : Int)) && decide ((k : Int) < n)) = true := by simp; omega
  have W := hide (fun w1 (hb : Below w.heap.size w w1) => rwaits_tb w1 ((unhide HT).next hb) hf hn who)
  obtain ⟨s, hs⟩ : ∃ s, s = atW who T n := ⟨_, rfl⟩
  rw [← hs] at W
  clear h
  by_cases hsn : s < n
  · rw [ask_err (x := 5) (by unfold errD; rw [hkd, ← hs, if_neg (by decide), if_pos hsn]) (by decide)]
    have hv : waitV who n T s = .tuple #[.agg #[.int .i64 s, .int .i64 (lookD who (T s).2)], .bool true] := by
      unfold waitV; rw [if_pos hsn, if_pos hsn, decide_eq_true hsn]
    rw [hv] at W
    replace hs := hide hs
    clear hv hkd
    go_enter Tryz.func9, Tryz.ntmps9
    go_wp2_with fail
    refine (unhide W _ (Below.refl _ _)).mono ?_
    rintro e w2 ⟨rfl, b2⟩
    have B3 := hide (below_add b2 (.cells #[.int .i64 s, .int .i64 (lookD who (T s).2)] 39))
    clear b2
    go_wp2
    go_ret2
    exact ⟨rfl, unhide fin _ (unhide B3)⟩
  have hnw : s = n := by have := atW_le who T n; omega
  have hv0 : waitV who n T s = .tuple #[.agg #[.int .i64 0, .int .i64 0], .bool false] := by
    unfold waitV; rw [if_neg hsn, if_neg hsn, decide_eq_false hsn]
  rw [hv0] at W
  clear hv0
  by_cases hbad : who < 0 ∨ m = 0 ∨ knownB m = false
  · rw [ask_err (x := 1) (by unfold errD; rw [hkd, ← hs, if_neg (by decide), if_neg hsn, if_pos hbad]) (by decide)]
    have hb3 : who < 0 ∨ (0 ≤ who ∧ knownB m = false) ∨ (0 ≤ who ∧ knownB m = true ∧ m = 0) := by
      by_cases h1 : who < 0
      · exact .inl h1
      · cases h2 : knownB m
        · exact .inr (.inl ⟨by omega, rfl⟩)
        · rcases hbad with h | h | h
          · exact absurd h h1
          · exact .inr (.inr ⟨by omega, rfl, h⟩)
          · rw [h] at h2; cases h2
    replace hs := hide hs
    clear hbad hkd hsn
    rcases hb3 with h1 | ⟨h1, h2⟩ | ⟨h1, h2, rfl⟩
    · go_enter Tryz.func9, Tryz.ntmps9
      go_wp2_with fail
      refine (unhide W _ (Below.refl _ _)).mono ?_
      rintro e w2 ⟨rfl, b2⟩
      have B3 := hide (below_add b2 (.cells #[.int .i64 0, .int .i64 0] 39))
      clear b2
      go_wp2
      go_ret2
      exact ⟨rfl, unhide fin _ (unhide B3)⟩
    · go_enter Tryz.func9, Tryz.ntmps9
      go_wp2_with fail
      refine (unhide W _ (Below.refl _ _)).mono ?_
      rintro e w2 ⟨rfl, b2⟩
      have B3 := hide (below_add b2 (.cells #[.int .i64 0, .int .i64 0] 39))
      clear b2
      go_wp2_with (first | (go_at_call 37; refine (mode_any m _).mono ?_; rw [h2]; rintro e w4 ⟨rfl, rfl⟩))
      go_ret2
      exact ⟨rfl, unhide fin _ (unhide B3)⟩
    · go_enter Tryz.func9, Tryz.ntmps9
      go_wp2_with fail
      refine (unhide W _ (Below.refl _ _)).mono ?_
      rintro e w2 ⟨rfl, b2⟩
      have B3 := hide (below_add b2 (.cells #[.int .i64 0, .int .i64 0] 39))
      clear b2
      go_wp2_with (first | (go_at_call 37; refine (mode_any 0 _).mono ?_; rw [h2]; rintro e w4 ⟨rfl, rfl⟩))
      go_ret2
      exact ⟨rfl, unhide fin _ (unhide B3)⟩
  have hw0 : 0 ≤ who := by omega
  have hm0 : m ≠ 0 := fun e => hbad (.inr (.inl e))
  have hkm : knownB m = true := by
    cases e : knownB m
    · exact absurd (.inr (.inr e)) hbad
    · rfl
  have hq0 : lookD who (T k).2 = 0 := atW_low who T n k (by omega)
  have hl0 : hasL who (T k) = (lookD who (T k).1 != 0) := by unfold hasL; rw [hq0]; simp
  have hm0' : (m == 0) = false := by simpa using hm0
  obtain ⟨f1, f2⟩ := hf k hkn
  have hfine := hide (hg.fine k hkn)
  have E3 : lookD who (T k).1 = 0 → most ≤ (lenD T n : Int) → askT n most T who k m = ((0, 3), T) := fun h1 h2 =>
    ask_err (by unfold errD; rw [hkd, ← hs, if_neg (by decide), if_neg hsn, if_neg hbad, if_pos ⟨by show hasL who (T k) = false; rw [hl0, h1]; rfl, h2⟩]) (by decide)
  have E0 : ¬ (lookD who (T k).1 = 0 ∧ most ≤ (lenD T n : Int)) → askT n most T who k m = (((askD who m (T k).1 (T k).2).1, 0), upd T k (askD who m (T k).1 (T k).2).2) := fun h1 =>
    ask_good (by
      unfold errD
      rw [hkd, ← hs, if_neg (by decide), if_neg hsn, if_neg hbad, if_neg]
      rintro ⟨h2, h3⟩
      refine h1 ⟨?_, h3⟩
      have h4 : hasL who (T k) = false := h2
      rw [hl0] at h4
      simpa using h4) k rfl rfl
  replace f1 := hide f1
  replace f2 := hide f2
  replace E3 := hide E3
  replace E0 := hide E0
  replace hX := hide hX
  replace hs := hide hs
  have hle := len_le hf n (Nat.le_refl _)
  have hl9 : lenD T n ≤ 20000000 := by
    have : n * (2 * 1000) ≤ 10000 * (2 * 1000) := Nat.mul_le_mul_right _ (by omega)
    omega
  clear hbad hkd hsn hl0 hq0 hle hnw
  obtain ⟨held, hheld⟩ : ∃ z, z = lookD who (T k).1 := ⟨_, rfl⟩
  rw [← hheld] at E3 E0
  -- the region's class of worlds
  have cL := hide (fun (w1 : World) (x : Wc (Rt B n most T b rb c lb hv qv) w1) => rlen_t x.w x.ok hf hn)
  have cH := hide (fun (w1 : World) (x : Wc (Rt B n most T b rb c lb hv qv) w1) => (rholds_any x.w (x.ok.lr k hkn) (by have := unhide f1; omega) who).mono (R' := fun e w' => e = .returned (.int .i64 held) ∧ Below x.w.heap.size x.w w') (fun e w' ⟨h1, h2⟩ => ⟨by rw [h1, hheld], by rw [h2]; exact Below.refl _ _⟩))
  replace hheld := hide hheld
  obtain ⟨r, hr⟩ : ∃ r, r = askT n most T who k m := ⟨_, rfl⟩
  rw [← hr] at E3 E0 ⊢
  replace hr := hide hr
  obtain ⟨L, hL⟩ : ∃ L, L = lenD T n := ⟨_, rfl⟩
  rw [← hL] at E3 E0 cL hl9
  replace hL := hide hL
  go_enter Tryz.func9, Tryz.ntmps9
  go_wp2_with fail
  refine (unhide W _ (Below.refl _ _)).mono ?_
  rintro e w2 ⟨rfl, b2⟩
  obtain ⟨W3, hW3⟩ : ∃ W3, W3 = w2.alloc (.cells #[.int .i64 0, .int .i64 0] 39) := ⟨_, rfl⟩
  have B3 := hide (below_add b2 (.cells #[.int .i64 0, .int .i64 0] 39))
  rw [← hW3] at B3
  have T3 := hide ((unhide HT).next (unhide B3))
  clear b2
  go_wp2_with (first | (go_at_call 37; refine (mode_any m _).mono ?_; rw [hkm]; rintro e w4 ⟨rfl, rfl⟩))
  rw [← hW3]
  replace hW3 := hide hW3
  clear c1
  have TD := (unhide T3).drew
  have hne : Nonempty (Wc (Rt B n most T b rb c lb hv qv) w) := ⟨⟨_, TD, (unhide B3).drew⟩⟩
  have q0 : ∀ x : Wc (Rt B n most T b rb c lb hv qv) w, x.w.cell? ⟨b, 0, none⟩ = some (.int .i64 most) := fun x => x.ok.c0
  have q1 : ∀ x : Wc (Rt B n most T b rb c lb hv qv) w, x.w.cell? ⟨b, 1, none⟩ = some (.slice (some ⟨rb, 0, none⟩) n c) := fun x => x.ok.c1
  have q2 : ∀ x : Wc (Rt B n most T b rb c lb hv qv) w, x.w.cell? ⟨rb, k, none⟩ = some (.pointer (some ⟨lb k, 0, none⟩)) := fun x => x.ok.at_ hkn
  have cL := hide (unhide cL w)
  have cH := hide (unhide cH w)
  -- what is behind the region: the lane's own Ask
  have good := hide (fun (w6 : World) (b6 : Below w.heap.size w w6) => rask_any w6 (((unhide HT).next b6).lr k hkn) (((unhide HT).next b6).dq k hkn) (((unhide HT).next b6).srt k hkn) (by have := hg.sum k hkn; omega) (by have := hg.sum k hkn; omega) who m)
  rw [rask_eq who m (unhide hfine)] at good
  by_cases h0 : held = 0
  · by_cases hmo : most ≤ (L : Int)
    · have er := hide (unhide E3 h0 hmo)
      subst h0
      refine wp_region_wc (S := Rt B n most T b rb c lb hv qv) TD (unhide B3) (by kernel_rfl) (by kernel_rfl) ?_
      try simp only [List.append]
      repeat (go_big_quiet_step (first | (go_at_call 38; with_reducible exact Wc.call (fun _ _ h k => h.next k) (unhide cH _)) | (go_at_call 24; with_reducible exact Wc.call (fun _ _ h k => h.next k) (unhide cL _))))
      refine wpQuiet_nil ?_
      intro w6 hw'
      have b6 : Hid (Below w.heap.size w w6) := by
        obtain ⟨x, hx⟩ := hw'
        rw [hx]
        exact x.bel
      clear hw' q0 q1 q2 hne cL cH TD
      go_wp2
      go_ret2
      rw [unhide er]
      exact ⟨rfl, unhide fin _ (unhide b6)⟩
    · have er := hide (unhide E0 (fun e => hmo e.2))
      subst h0
      refine wp_region_wc (S := Rt B n most T b rb c lb hv qv) TD (unhide B3) (by kernel_rfl) (by kernel_rfl) ?_
      try simp only [List.append]
      repeat (go_big_quiet_step (first | (go_at_call 38; with_reducible exact Wc.call (fun _ _ h k => h.next k) (unhide cH _)) | (go_at_call 24; with_reducible exact Wc.call (fun _ _ h k => h.next k) (unhide cL _))))
      refine wpQuiet_nil ?_
      intro w6 hw'
      have b6 : Hid (Below w.heap.size w w6) := by
        obtain ⟨x, hx⟩ := hw'
        rw [hx]
        exact x.bel
      have T6 := (unhide HT).next (unhide b6)
      have p1 := T6.c1
      have p2 := T6.at_ hkn
      replace T6 := hide T6
      clear hw' q0 q1 q2 hne cL cH TD
      go_wp2_with fail
      refine (unhide good w6 (unhide b6)).mono ?_
      rintro e w7 ⟨rfl, hv7, qv7, L7, D7, M7⟩
      have T7 := hide ((unhide T6).step hkn M7 L7 D7 (ask_srt who m ((unhide T6).srt k hkn)))
      have F7 := hide ((unhide hX).step hkn M7 (unhide b6).size)
      have B7 := hide (((unhide b6).mono (unhide HT).low).trans (M7.belowr ((unhide T6).lr k hkn)))
      have K7 := hide ((Kx.of (X := X) (unhide b6)).trans (M7.kx hkn (unhide hX)))
      clear L7 D7 M7 p1 p2
      go_wp2
      go_ret2
      rw [unhide er]
      exact ⟨rfl, ⟨_, _, unhide T7, unhide F7⟩, unhide B7, unhide K7⟩
  · have er := hide (unhide E0 (fun e => h0 e.1))
    have h01 : (held == 0) = false := by simpa using h0
    refine wp_region_wc (S := Rt B n most T b rb c lb hv qv) TD (unhide B3) (by kernel_rfl) (by kernel_rfl) ?_
    try simp only [List.append]
    repeat (go_big_quiet_step (first | (go_at_call 38; with_reducible exact Wc.call (fun _ _ h k => h.next k) (unhide cH _)) | (go_at_call 24; with_reducible exact Wc.call (fun _ _ h k => h.next k) (unhide cL _))))
    refine wpQuiet_nil ?_
    intro w6 hw'
    have b6 : Hid (Below w.heap.size w w6) := by
      obtain ⟨x, hx⟩ := hw'
      rw [hx]
      exact x.bel
    have T6 := (unhide HT).next (unhide b6)
    have p1 := T6.c1
    have p2 := T6.at_ hkn
    replace T6 := hide T6
    clear hw' q0 q1 q2 hne cL cH TD
    go_wp2_with fail
    refine (unhide good w6 (unhide b6)).mono ?_
    rintro e w7 ⟨rfl, hv7, qv7, L7, D7, M7⟩
    have T7 := hide ((unhide T6).step hkn M7 L7 D7 (ask_srt who m ((unhide T6).srt k hkn)))
    have F7 := hide ((unhide hX).step hkn M7 (unhide b6).size)
    have B7 := hide (((unhide b6).mono (unhide HT).low).trans (M7.belowr ((unhide T6).lr k hkn)))
    have K7 := hide ((Kx.of (X := X) (unhide b6)).trans (M7.kx hkn (unhide hX)))
    clear L7 D7 M7 p1 p2
    go_wp2
    go_ret2
    rw [unhide er]
    exact ⟨rfl, ⟨_, _, unhide T7, unhide F7⟩, unhide B7, unhide K7⟩
end Go.Proofs.YtgiklggnolbiiaaGreat

/- The reference's table: Drop. -/
namespace Go.Proofs.YtgiklggnolbiiaaGreat
open Go.RowKit
variable {X : Nat → Prop} {B n : Nat} {most : Int} {T : Nat → Lv} {b rb c : Nat} {lb : Nat → Nat} {hv qv : Nat → Value}

theorem wpList_appI {w w' : World} {ops : Array Oper} {rest : List Oper} {o : Oper} {a : Act} {Q : Exit → Act → World → Prop} {u v v' : Value} (hgd : o.guard = none) (s x : Operand)
    (ho : o.op = .call { callee := .builtin .append, args := #[s, x], argTypes := #[36, 36] }) (hs : a.eval s = u) (hx : a.eval x = v) (hr : (Builtin.append_ #[36, 36] o.type #[u, v]).run Tryz.prog w = .ok v' w')
    (h : wpList Tryz.prog ops Q rest (a.put o.dst v') w') : wpList Tryz.prog ops Q (o :: rest) a w :=
  wpList_plain hgd fun K hK => by
    unfold Oper.wp execOp
    simp only [ho, resolve, invoke, builtin, Sem.run_bind, Sem.run_pure, Result.andThen_ok, List.map_toArray, List.map_cons, List.map_nil, hs, hx, hr]
    exact hK _ _ h
theorem Lr.cy {B b : Nat} {H Q : List En} {hv qv : Value} {w w' : World} (h : Lr B H Q b hv qv w) (k : Cy w w') : Lr B H Q b hv qv w' := ⟨k _ _ _ _ h.blk (by decide) (by decide), h.hr.cy k, h.qr.cy k, h.bB⟩
theorem Rt.cy {w w' : World} (h : Rt B n most T b rb c lb hv qv w) (k : Cy w w') : Rt B n most T b rb c lb hv qv w' :=
  ⟨k _ _ _ _ h.blk (by decide) (by decide), ⟨_, k _ _ _ _ h.row.choose_spec.1 (by decide) (by decide), h.row.choose_spec.2⟩, fun i hi => (h.lr i hi).cy k, h.dq, h.srt, h.inj, h.apart, h.bB, h.rB⟩
/-- A row that lies above P grows: X, which lies below, stays. -/
theorem Kx.grown {w w' : World} {P : Nat} {v : Value} {l : List Int} (g : w.grownBy w' v.ownBlock) (h : Is P v l w) (hX : ∀ j, X j → j < P) : Kx X w w' := fun k cur t hk hc =>
  (g.block k (heap_lt hc) (fun e => by have h1 := (h.lt k e.symm).1; have h2 := hX k hk; omega)).trans hc
theorem leave_len9 (who : Int) (H Q : List En) : (leaveD who H Q).1.length ≤ Q.length := leave_few
set_option maxRecDepth 100000 in
set_option maxHeartbeats 4000000 in
theorem rdrop_t (w : World) (h : Rt B n most T b rb c lb hv qv w) (hg : Gd n 399 T) (hn : n ≤ 10000) (who : Int) (hX : Fn X n w.heap.size lb hv qv) {r : List Int × (Nat → Lv)} (hr : dropD who T (dn n 0) = r) :
    Calls Tryz.prog 12 #[.pointer (some ⟨b, 0, none⟩), .int .i64 who] w fun e w' => ∃ v, e = .returned v ∧ Is w.heap.size v r.1 w' ∧ RtPost X B n most r.2 b rb c lb w w' := by
  have c1 := h.c1
  have HT := hide h
  replace hX := hide hX
  have hlow := hide h.low
  replace hg := hide hg
  clear h
  obtain ⟨P, hP⟩ : ∃ P, P = w.heap.size := ⟨_, rfl⟩
  have hn9 : (n : Int) ≤ 10000 := by omega
  replace hr := hide hr
  go_enter Tryz.func12, Tryz.ntmps12
  go_wp2_with fail
  rw [← hP] at hX hlow
  replace hP := hide hP
  clear c1
  go_loopw [5, 6] (fun s5 s6 wr => ∃ (m nn : Nat) (ag : Option Addr) (cg : Nat) (hv1 qv1 : Nat → Value) (s : List Int × (Nat → Lv)), m ≤ n ∧ s5 = .slice ag nn cg ∧ s6 = .int .i64 ((m : Int) - 1) ∧ nn ≤ (n - m) * 399 ∧ Hid (s = dropD who T (dn n m)) ∧ Hid (s.1.length = nn) ∧ Hid (Is P (.slice ag nn cg) s.1 wr) ∧ Hid (Rt B n most s.2 b rb c lb hv1 qv1 wr) ∧ Hid (Fn X n P lb hv1 qv1) ∧ Hid (Gd n 399 s.2) ∧ Hid (P ≤ wr.heap.size) ∧ Hid (Below B w wr) ∧ Hid (Kx X w wr)) (fun _ s6 _ => (intOf s6 + 1).toNat)
  case atStart => exact ⟨n, 0, none, 0, hv, qv, ([], T), Nat.le_refl _, rfl, by first | rfl | go_num, Nat.zero_le _, by show _ = _; rw [dn_none]; rfl, rfl, is_nil _ _, unhide HT, unhide hX, unhide hg, Nat.le_of_eq (unhide hP), Below.refl _ _, Kx.of (Below.refl _ _)⟩
  case round =>
    obtain ⟨m, nn, ag, cg, hv1, qv1, s, hm, rfl, rfl, hnn, hs, hsl, I3, T3, F3, G3, Z3, b3, k3⟩ := hrel
    rcases m with _ | m
    · go_wp2
      go_ret
      have e : s = r := (unhide hs).trans (unhide hr)
      rw [← e, ← unhide hP]
      exact ⟨_, rfl, unhide I3, ⟨_, _, unhide T3, by rw [← unhide hP]; exact unhide F3⟩, unhide b3, unhide k3⟩
    · have e1 : ((m + 1 : Nat) : Int) - 1 = (m : Int) := by omega
      rw [e1]
      have hmn : m < n := by omega
      have p1 := (unhide T3).c1
      have p2 := (unhide T3).at_ hmn
      have hsum := (unhide G3).sum m hmn
      have C1 := hide (rholds_any wr ((unhide T3).lr m hmn) (by omega) who)
      have C2 := hide (rwaits_any wr ((unhide T3).lr m hmn) (by omega) who)
      have hnx : Hid (dropD who T (dn n m) = dropS who s m) := by show _ = _; rw [dn_step hmn, drop_snoc, ← unhide hs]
      have G4 := hide (gd_drop (who := who) hmn ((unhide T3).srt m hmn) (unhide G3))
      have fineq := hide ((unhide G3).fine m hmn).ok.once
      have C3 := hide (rleave_any wr ((unhide T3).lr m hmn) ((unhide T3).srt m hmn) (by omega) who)
      rw [rleave_eq who ((unhide T3).srt m hmn) (unhide fineq)] at C3
      have hll := leave_len9 who (s.2 m).1 (s.2 m).2
      have hmul : (n - m) * 399 = (n - (m + 1)) * 399 + 399 := by rw [show n - m = n - (m + 1) + 1 by omega, Nat.succ_mul]
      have hbig : (n - (m + 1)) * 399 ≤ 10000 * 399 := Nat.mul_le_mul_right _ (by omega)
      obtain ⟨x, hx⟩ : ∃ x, x = lookD who (s.2 m).1 := ⟨_, rfl⟩
      obtain ⟨y, hy⟩ : ∃ y, y = lookD who (s.2 m).2 := ⟨_, rfl⟩
      have hh : Hid (hasL who (s.2 m) = (x != 0 || y != 0)) := by show _ = _; unfold hasL; rw [← hx, ← hy]
      rw [← hx] at C1
      rw [← hy] at C2
      replace hx := hide hx
      replace hy := hide hy
      have stay : Hid ((x != 0 || y != 0) = false → dropS who s m = s) := fun e => by unfold dropS; rw [unhide hh, e]; rfl
      obtain ⟨z, hz⟩ : ∃ z, z = leaveD who (s.2 m).1 (s.2 m).2 := ⟨_, rfl⟩
      have go : Hid ((x != 0 || y != 0) = true → dropS who s m = (s.1 ++ z.1, upd s.2 m z.2)) := fun e => by unfold dropS; rw [unhide hh, e, hz]; rfl
      have hzs : Hid (Srt z.2.1) := by rw [hz]; exact leave_srt ((unhide T3).srt m hmn)
      rw [← hz] at C3 hll
      have hzl : z.1.length ≤ 399 := by omega
      replace hz := hide hz
      replace hmul := hide hmul
      clear hll hsum e1
      -- behind the test: the lane's Leave
      have after := hide (fun (e : Ending) (w5 : World) (hp : RLeavePost wr (lb m) (hv1 m) (qv1 m) B z e w5) => (show ∃ gv v' w7 hv2 qv2, e = .returned gv ∧ (Builtin.append_ #[36, 36] 36 #[.slice ag nn cg, gv]).run Tryz.prog w5 = .ok v' w7 ∧ Is P v' (s.1 ++ z.1) w7 ∧ Rt B n most (upd s.2 m z.2) b rb c lb hv2 qv2 w7 ∧ Fn X n P lb hv2 qv2 ∧ P ≤ w7.heap.size ∧ Below B w w7 ∧ Kx X w w7 ∧ Rt B n most (upd s.2 m z.2) b rb c lb hv2 qv2 w5 from by
        obtain ⟨gv, hv', qv', rfl, gi, L5, D5, M5⟩ := hp
        have I5 := (unhide I3).movedr ((unhide T3).lr m hmn) M5
        have T5 := (unhide T3).step hmn M5 L5 D5 (unhide hzs)
        have F5 := (unhide F3).step hmn M5 (unhide Z3)
        have b5 := (unhide b3).trans (M5.belowr ((unhide T3).lr m hmn))
        have k5 := (unhide k3).trans (M5.kx hmn (unhide F3))
        obtain ⟨v', w7, hr7, I7, g7⟩ := app_is 36 I5 gi (Nat.le_trans (unhide Z3) M5.size) (by have := unhide hsl; omega)
        exact ⟨gv, v', w7, _, _, rfl, hr7, I7, T5.cy (cy_is I5 g7), F5, Nat.le_trans (unhide Z3) (Nat.le_trans M5.size g7.size), b5.trans (grown_below g7 (Nat.le_trans (unhide hlow) (Nat.le_trans (unhide Z3) M5.size)) (fun j hj => Nat.le_trans (unhide hlow) (I5.lt j hj).1)), k5.trans (Kx.grown g7 I5 (fun j hj => ((unhide F3) j hj).1)), T5⟩))
      have fin : Hid (∀ v', ∃ a n' c', (∃ w7, Is P v' (s.1 ++ z.1) w7) → (v' = .slice a n' c' ∧ (s.1 ++ z.1).length = n' ∧ n' ≤ (n - m) * 399)) := fun v' => by
        by_cases e : ∃ w7, Is P v' (s.1 ++ z.1) w7
        · obtain ⟨w7, h7⟩ := e
          obtain ⟨a, c', e2⟩ := h7.form
          exact ⟨a, _, c', fun _ => ⟨e2, rfl, by rw [List.length_append, unhide hsl, unhide hmul]; omega⟩⟩
        · exact ⟨none, 0, 0, fun h => absurd h e⟩
      by_cases hx0 : x = 0
      · have hx1 : (x != 0) = false := by simp [hx0]
        by_cases hy0 : y = 0
        · have hy1 : (y != 0) = false := by simp [hy0]
          have est := hide (unhide stay (by rw [hx1, hy1]; rfl))
          replace hbig := hide hbig
          go_wp2_with (first | (go_at_call 38; refine (unhide C1).mono ?_; rintro e w5 ⟨rfl, rfl⟩) | (go_at_call 43; refine (unhide C2).mono ?_; rintro e w5 ⟨rfl, rfl⟩))
          go_roundw
          case rel => exact ⟨m, nn, ag, cg, hv1, qv1, s, by omega, rfl, by go_num, by have := unhide hmul; omega, (unhide est).symm.trans (unhide hnx).symm, unhide hsl, unhide I3, unhide T3, unhide F3, unhide G3, unhide Z3, unhide b3, unhide k3⟩
          case measure => simp [intOf] <;> omega
        · have hy1 : (y != 0) = true := by simp [hy0]
          have ego := hide (unhide go (by rw [hx1, hy1]; rfl))
          replace hbig := hide hbig
          go_wp2_with (first | (go_at_call 38; refine (unhide C1).mono ?_; rintro e w5 ⟨rfl, rfl⟩) | (go_at_call 43; refine (unhide C2).mono ?_; rintro e w5 ⟨rfl, rfl⟩) | (go_at_call 44; refine (unhide C3).mono ?_; intro e w5 hp; obtain ⟨gv, v', w7, hv2, qv2, rfl, hr7, I7, T7, F7, Z7, b7, k7, _⟩ := unhide after e w5 hp; obtain ⟨a9, n9, c9, f9⟩ := unhide fin v'; obtain ⟨rfl, hl9, hle9⟩ := f9 ⟨_, I7⟩; clear f9 after; replace I7 := hide I7; replace T7 := hide T7; replace F7 := hide F7; replace Z7 := hide Z7; replace b7 := hide b7; replace k7 := hide k7; replace hl9 := hide hl9; replace hle9 := hide hle9; clear hp) | (at_builtin; refine wpList_appI rfl (.tmp 39) (.tmp 48) rfl rfl rfl hr7 ?_; clear hr7))
          go_roundw
          case rel => exact ⟨m, n9, a9, c9, hv2, qv2, _, by omega, rfl, by go_num, unhide hle9, (unhide ego).symm.trans (unhide hnx).symm, unhide hl9, unhide I7, unhide T7, unhide F7, by have := unhide G4; rw [unhide ego] at this; exact this, unhide Z7, unhide b7, unhide k7⟩
          case measure => simp [intOf] <;> omega
      · have hx1 : (x != 0) = true := by simp [hx0]
        have ego := hide (unhide go (by rw [hx1]; rfl))
        replace hbig := hide hbig
        go_wp2_with (first | (go_at_call 38; refine (unhide C1).mono ?_; rintro e w5 ⟨rfl, rfl⟩) | (go_at_call 43; refine (unhide C2).mono ?_; rintro e w5 ⟨rfl, rfl⟩) | (go_at_call 44; refine (unhide C3).mono ?_; intro e w5 hp; obtain ⟨gv, v', w7, hv2, qv2, rfl, hr7, I7, T7, F7, Z7, b7, k7, _⟩ := unhide after e w5 hp; obtain ⟨a9, n9, c9, f9⟩ := unhide fin v'; obtain ⟨rfl, hl9, hle9⟩ := f9 ⟨_, I7⟩; clear f9 after; replace I7 := hide I7; replace T7 := hide T7; replace F7 := hide F7; replace Z7 := hide Z7; replace b7 := hide b7; replace k7 := hide k7; replace hl9 := hide hl9; replace hle9 := hide hle9; clear hp) | (at_builtin; refine wpList_appI rfl (.tmp 39) (.tmp 48) rfl rfl rfl hr7 ?_; clear hr7))
        go_roundw
        case rel => exact ⟨m, n9, a9, c9, hv2, qv2, _, by omega, rfl, by go_num, unhide hle9, (unhide ego).symm.trans (unhide hnx).symm, unhide hl9, unhide I7, unhide T7, unhide F7, by have := unhide G4; rw [unhide ego] at this; exact this, unhide Z7, unhide b7, unhide k7⟩
        case measure => simp [intOf] <;> omega
end Go.Proofs.YtgiklggnolbiiaaGreat

/- The library contract of SortFunc at edges, laid at this translation by the kit's command (plain words). -/
namespace Go.Proofs.YtgiklggnolbiiaaGreat
open Go.Shelf
def Tryz.laysE_ren : Go.Shelf.Ren := ⟨fun | 6 => 49 | 15 => 93 | 14 => 92 | 28 => 127 | 29 => 128 | 20 => 119 | 21 => 120 | 22 => 121 | 23 => 122 | 24 => 123 | 25 => 124 | 26 => 125 | 27 => 126 | 46 => 137 | 47 => 138 | 48 => 139 | 49 => 140 | 50 => 141 | 57 => 156 | n => n, fun | 22 => 52 | 24 => 87 | 25 => 90 | 3 => 3 | 39 => 119 | 0 => 0 | 53 => 136 | 55 => 138 | 4 => 4 | 46 => 130 | 45 => 129 | 50 => 112 | 5 => 5 | 9 => 9 | 66 => 143 | 70 => 147 | 76 => 155 | 77 => 156 | n => n, fun | n => n⟩
theorem Tryz.laysE : Go.Proofs.SlLaysF0.n6 Tryz.prog Tryz.laysE_ren := {
  mixed := by kernel_rfl
  f6 := ⟨Tryz.f49.name, by decide, Tryz.func49.trans (congrArg some (by kernel_rfl))⟩
  f14 := ⟨Tryz.f92.name, by decide, Tryz.func92.trans (congrArg some (by kernel_rfl))⟩
  f15 := Tryz.func93.trans (congrArg some (by kernel_rfl))
  f20 := ⟨Tryz.f119.name, by decide, Tryz.func119.trans (congrArg some (by kernel_rfl))⟩
  f21 := ⟨Tryz.f120.name, by decide, Tryz.func120.trans (congrArg some (by kernel_rfl))⟩
  f22 := ⟨Tryz.f121.name, by decide, Tryz.func121.trans (congrArg some (by kernel_rfl))⟩
  f23 := ⟨Tryz.f122.name, by decide, Tryz.func122.trans (congrArg some (by kernel_rfl))⟩
  f24 := ⟨Tryz.f123.name, by decide, Tryz.func123.trans (congrArg some (by kernel_rfl))⟩
  f25 := ⟨Tryz.f124.name, by decide, Tryz.func124.trans (congrArg some (by kernel_rfl))⟩
  f26 := ⟨Tryz.f125.name, by decide, Tryz.func125.trans (congrArg some (by kernel_rfl))⟩
  f27 := ⟨Tryz.f126.name, by decide, Tryz.func126.trans (congrArg some (by kernel_rfl))⟩
  f28 := Tryz.func127.trans (congrArg some (by kernel_rfl))
  f29 := Tryz.func128.trans (congrArg some (by kernel_rfl))
  f46 := ⟨Tryz.f137.name, by decide, Tryz.func137.trans (congrArg some (by kernel_rfl))⟩
  f47 := Tryz.func138.trans (congrArg some (by kernel_rfl))
  f48 := Tryz.func139.trans (congrArg some (by kernel_rfl))
  f49 := ⟨Tryz.f140.name, by decide, Tryz.func140.trans (congrArg some (by kernel_rfl))⟩
  f50 := ⟨Tryz.f141.name, by decide, Tryz.func141.trans (congrArg some (by kernel_rfl))⟩
  f57 := ⟨Tryz.f156.name, by decide, Tryz.func156.trans (congrArg some (by kernel_rfl))⟩
  t0 := Tryz.underlying0
  a0 := Tryz.isAgg0
  z0 := Tryz.sizeOf0
  v0 := Tryz.zeroValue0
  t3 := Tryz.underlying3
  a3 := Tryz.isAgg3
  z3 := Tryz.sizeOf3
  v3 := Tryz.zeroValue3
  t4 := Tryz.underlying4
  a4 := Tryz.isAgg4
  z4 := Tryz.sizeOf4
  v4 := Tryz.zeroValue4
  t5 := Tryz.underlying5
  a5 := Tryz.isAgg5
  z5 := Tryz.sizeOf5
  v5 := Tryz.zeroValue5
  t9 := Tryz.underlying9
  a9 := Tryz.isAgg9
  z9 := Tryz.sizeOf9
  v9 := Tryz.zeroValue9
  t22 := Tryz.underlying52
  a22 := Tryz.isAgg52
  z22 := Tryz.sizeOf52
  v22 := Tryz.zeroValue52
  t25 := Tryz.underlying90
  a25 := Tryz.isAgg90
  z25 := Tryz.sizeOf90
  v25 := Tryz.zeroValue90
  t39 := Tryz.underlying119
  a39 := Tryz.isAgg119
  z39 := Tryz.sizeOf119
  v39 := Tryz.zeroValue119
  t45 := Tryz.underlying129
  a45 := Tryz.isAgg129
  z45 := Tryz.sizeOf129
  v45 := Tryz.zeroValue129
  t46 := Tryz.underlying130
  a46 := Tryz.isAgg130
  z46 := Tryz.sizeOf130
  v46 := Tryz.zeroValue130
  t50 := Tryz.underlying112
  a50 := Tryz.isAgg112
  z50 := Tryz.sizeOf112
  v50 := Tryz.zeroValue112
  t53 := Tryz.underlying136
  a53 := Tryz.isAgg136
  z53 := Tryz.sizeOf136
  v53 := Tryz.zeroValue136
  t55 := Tryz.underlying138
  a55 := Tryz.isAgg138
  z55 := Tryz.sizeOf138
  v55 := Tryz.zeroValue138
  t66 := Tryz.underlying143
  a66 := Tryz.isAgg143
  z66 := Tryz.sizeOf143
  v66 := Tryz.zeroValue143
  t70 := Tryz.underlying147
  a70 := Tryz.isAgg147
  z70 := Tryz.sizeOf147
  v70 := Tryz.zeroValue147
  t76 := Tryz.underlying155
  a76 := Tryz.isAgg155
  z76 := Tryz.sizeOf155
  v76 := Tryz.zeroValue155
  t77 := Tryz.underlying156
  a77 := Tryz.isAgg156
  z77 := Tryz.sizeOf156
  v77 := Tryz.zeroValue156 }
end Go.Proofs.YtgiklggnolbiiaaGreat

/- SortFunc at edges: by From, then To. -/
namespace Go.Proofs.YtgiklggnolbiiaaGreat
open Go.RowKit Go.Sort

/-- By the first number, then by the second one. -/
def cfE (x y : En) : Int := if cmpD x.1 y.1 = 0 then cmpD x.2 y.2 else cmpD x.1 y.1
theorem lt_iff (x y : En) : Go.Proofs.ltOf cfE x y = true ↔ x.1 < y.1 ∨ (x.1 = y.1 ∧ x.2 < y.2) := by
  unfold Go.Proofs.ltOf cfE cmpD
  rw [decide_eq_true_eq]
  split <;> (repeat' split) <;> omega
theorem lt_no (x y : En) : Go.Proofs.ltOf cfE x y = false ↔ ¬ (x.1 < y.1 ∨ (x.1 = y.1 ∧ x.2 < y.2)) := by
  rw [← lt_iff]; simp
theorem swoE : SWO (Go.Proofs.ltOf cfE) := by
  refine ⟨fun x => ?_, fun x y z h1 h2 => ?_, fun x y z h1 h2 => ?_⟩
  · rw [lt_no]; omega
  · rw [lt_iff] at *; omega
  · rw [lt_no] at *; omega
theorem sepE (x y : En) (h1 : Go.Proofs.ltOf cfE x y = false) (h2 : Go.Proofs.ltOf cfE y x = false) : x = y := by
  rw [lt_no] at *
  have a : x.1 = y.1 := by omega
  have b : x.2 = y.2 := by omega
  exact Prod.ext a b
/-- The edges in order. -/
def srtE (l : List En) : List En := l.mergeSort fun x y => !(Go.Proofs.ltOf cfE) y x
theorem srtE_perm (l : List En) : (srtE l).Perm l := List.mergeSort_perm _ _
theorem srtE_len (l : List En) : (srtE l).length = l.length := (srtE_perm l).length_eq
theorem srtE_mem {l : List En} {x : En} : x ∈ srtE l ↔ x ∈ l := (srtE_perm l).mem_iff
def encE (x : En) : List Value := [.int .i64 x.1, .int .i64 x.2]
theorem flat_pairs (l : List En) : (flatK encE 2 l.toArray).toList = pairs l := by
  apply List.ext_getElem?
  intro t
  by_cases ht : t < l.length * 2
  · have h1 : (flatK encE 2 l.toArray)[t]! = (encE l.toArray[t / 2]!)[t % 2]! := get_flatK _ _ _ _ (by simpa using ht)
    have h2 : (flatK encE 2 l.toArray).toList[t]? = some (flatK encE 2 l.toArray)[t]! := by
      rw [Array.getElem?_toList, Array.getElem?_eq_getElem (by rw [size_flatK]; simpa using ht), getElem!_pos _ t (by rw [size_flatK]; simpa using ht)]
    have h3 : t / 2 < l.length := by omega
    have h4 : l.toArray[t / 2]! = l.getD (t / 2) (0, 0) := by simp [List.getD, h3]
    rw [h2, h1, h4]
    rcases (show t = t / 2 * 2 ∨ t = t / 2 * 2 + 1 by omega) with e | e
    · have e2 : t % 2 = 0 := by omega
      rw [e2]
      conv => rhs; rw [e]
      rw [pairs_fst l _ h3]; rfl
    · have e2 : t % 2 = 1 := by omega
      rw [e2]
      conv => rhs; rw [e]
      rw [pairs_snd l _ h3]; rfl
  · rw [List.getElem?_eq_none (by rw [Array.length_toList, size_flatK]; simpa using ht), List.getElem?_eq_none (by rw [pairs_len]; omega)]
set_option maxRecDepth 100000 in
theorem or_any (x y : Int) (N : Nat) (w : World) (h1 : w.cell? ⟨N, 0, none⟩ = some (.int .i64 x)) (h2 : w.cell? ⟨N, 1, none⟩ = some (.int .i64 y)) : Calls Tryz.prog 51 #[.slice (some ⟨N, 0, none⟩) 2 2] w fun e w' => e = .returned (.int .i64 (if x = 0 then y else x)) ∧ w' = w := by
  obtain ⟨r, hr⟩ : ∃ r, r = (if x = 0 then y else x) := ⟨_, rfl⟩
  rw [← hr]
  replace hr := hide hr
  go_enter Tryz.func51, Tryz.ntmps51
  go_wp2_with fail
  go_loopw [8] (fun s wr => ∃ k : Nat, k ≤ 2 ∧ s = .int .i64 k ∧ w = wr ∧ (0 < k → x = 0) ∧ (1 < k → y = 0)) (fun s _ => 2 - (intOf s).toNat)
  case atStart => exact ⟨0, by decide, rfl, rfl, fun h => absurd h (by decide), fun h => absurd h (by decide)⟩
  case round =>
    obtain ⟨k, hk, rfl, hw, hx, hy⟩ := hrel
    subst hw
    rcases (show k = 0 ∨ k = 1 ∨ k = 2 by omega) with rfl | rfl | rfl
    · clear hx hy
      by_cases h0 : x = 0
      · subst h0
        go_wp2
        go_roundw
        case rel => exact ⟨1, by decide, (by first | trivial | rfl), (by first | trivial | rfl), (by first | trivial | exact fun _ => rfl), fun h => absurd h (by decide)⟩
        case measure => simp [intOf]
      · have h3 : (x != 0) = true := by simpa using h0
        have e1 : Hid (r = x) := by show _ = _; rw [unhide hr, if_neg h0]
        go_wp2
        go_ret
        exact ⟨by rw [unhide e1]; rfl, rfl⟩
    · obtain rfl : x = 0 := hx (by decide)
      clear hx hy
      by_cases h0 : y = 0
      · subst h0
        go_wp2
        go_roundw
        case rel => exact ⟨2, by decide, (by first | trivial | rfl), (by first | trivial | rfl), (by first | trivial | exact fun _ => rfl), (by first | trivial | exact fun _ => rfl)⟩
        case measure => simp [intOf]
      · have h3 : (y != 0) = true := by simpa using h0
        have e1 : Hid (r = y) := by show _ = _; rw [unhide hr, if_pos rfl]
        go_wp2
        go_ret
        exact ⟨by rw [unhide e1]; rfl, rfl⟩
    · obtain rfl : x = 0 := hx (by decide)
      obtain rfl : y = 0 := hy (by decide)
      have e1 : Hid (r = 0) := by show _ = _; rw [unhide hr, if_pos rfl]
      clear hx hy
      go_wp2
      go_ret
      exact ⟨by rw [unhide e1]; rfl, rfl⟩
theorem or_r (x y : Int) (N : Nat) (w : World) {r : Int} (hr : r = if x = 0 then y else x) (h1 : w.cell? ⟨N, 0, none⟩ = some (.int .i64 x)) (h2 : w.cell? ⟨N, 1, none⟩ = some (.int .i64 y)) : Calls Tryz.prog 51 #[.slice (some ⟨N, 0, none⟩) 2 2] w fun e w' => e = .returned (.int .i64 r) ∧ w' = w := by
  subst hr; exact or_any x y N w h1 h2
theorem box69 {w : World} {p : Nat} {x : En} (h : w.heap[p]? = some (.cells #[.int .i64 x.1, .int .i64 x.2] 87 (0, 0))) : w.cell? ⟨p, 0, none⟩ = some (.int .i64 x.1) ∧ w.cell? ⟨p, 1, none⟩ = some (.int .i64 x.2) := by
  simp [World.cell?, h]
theorem cmp_r (a b : Int) (w : World) {r : Int} (hr : cmpD a b = r) : Calls Tryz.prog 52 #[.int .i64 a, .int .i64 b] w fun e w' => e = .returned (.int .i64 r) ∧ w' = w := by
  subst hr; exact cmp_any a b w
set_option maxRecDepth 100000 in
set_option maxHeartbeats 2000000 in
/-- The closure of Edges: three blocks are laid. -/
theorem closure71 (x y : En) (W : World) : Calls Tryz.prog 50 #[.agg #[.int .i64 x.1, .int .i64 x.2], .agg #[.int .i64 y.1, .int .i64 y.2]] W fun e w' => e = .returned (.int .i64 (cfE x y)) ∧ ∃ q os', w' = Go.Sort.grow (W.drewN q) os' := by
  obtain ⟨x1, x2⟩ := x
  obtain ⟨y1, y2⟩ := y
  obtain ⟨c1, hc1⟩ : ∃ c, cmpD x1 y1 = c := ⟨_, rfl⟩
  obtain ⟨c2, hc2⟩ : ∃ c, cmpD x2 y2 = c := ⟨_, rfl⟩
  have hr : Hid (cfE (x1, x2) (y1, y2) = if c1 = 0 then c2 else c1) := by show _ = _; rw [← hc1, ← hc2]; rfl
  dsimp only
  obtain ⟨r, hrr⟩ : ∃ r, r = cfE (x1, x2) (y1, y2) := ⟨_, rfl⟩
  rw [← hrr] at hr ⊢
  replace hrr := hide hrr
  obtain ⟨W2, hW2⟩ : ∃ W2, W2 = (W.alloc (.cells #[.int .i64 x1, .int .i64 x2] 87)).alloc (.cells #[.int .i64 y1, .int .i64 y2] 87) := ⟨_, rfl⟩
  have p1 : W2.heap[W.heap.size]? = some (.cells #[.int .i64 x1, .int .i64 x2] 87 (0, 0)) := by
    rw [hW2]
    exact ((below_new _ _).block _ (by simp)).trans (heap_alloc_new W _)
  have p2 : W2.heap[W.heap.size + 1]? = some (.cells #[.int .i64 y1, .int .i64 y2] 87 (0, 0)) := by
    rw [hW2]
    have := heap_alloc_new (W.alloc (.cells #[.int .i64 x1, .int .i64 x2] 87)) (.cells #[.int .i64 y1, .int .i64 y2] 87)
    rw [World.size_alloc] at this
    exact this
  obtain ⟨k0, k1⟩ := box69 (x := (x1, x2)) p1
  obtain ⟨k2, k3⟩ := box69 (x := (y1, y2)) p2
  dsimp only at k0 k1 k2 k3
  obtain ⟨n0, n1⟩ : (∀ o, ((W2.alloc o).drew).cell? ⟨W.heap.size, 0, none⟩ = some (.int .i64 x1)) ∧ (∀ o, ((W2.alloc o).drew).cell? ⟨W.heap.size, 1, none⟩ = some (.int .i64 x2)) := ⟨fun o => ((below_new W2 o).cell (p := ⟨W.heap.size, 0, none⟩) (heap_lt p1)).trans k0, fun o => ((below_new W2 o).cell (p := ⟨W.heap.size, 1, none⟩) (heap_lt p1)).trans k1⟩
  obtain ⟨n2, n3⟩ : (∀ o, ((W2.alloc o).drew).cell? ⟨W.heap.size + 1, 0, none⟩ = some (.int .i64 y1)) ∧ (∀ o, ((W2.alloc o).drew).cell? ⟨W.heap.size + 1, 1, none⟩ = some (.int .i64 y2)) := ⟨fun o => ((below_new W2 o).cell (p := ⟨W.heap.size + 1, 0, none⟩) (heap_lt p2)).trans k2, fun o => ((below_new W2 o).cell (p := ⟨W.heap.size + 1, 1, none⟩) (heap_lt p2)).trans k3⟩
  have fin : Hid (∀ o, ∃ q os', (W2.alloc o).drew = Go.Sort.grow (W.drewN q) os') := by
    intro o
    refine ⟨1, #[.cells #[.int .i64 x1, .int .i64 x2] 87, .cells #[.int .i64 y1, .int .i64 y2] 87, o], ?_⟩
    rw [hW2, alloc_eq_grow, alloc_eq_grow, alloc_eq_grow, grow_grow, grow_grow]
    rfl
  have hc1' := hide hc1
  have hc2' := hide hc2
  clear hc1 hc2
  go_enter Tryz.func50, Tryz.ntmps50
  go_wp2_with fail
  rw [← hW2]
  replace hW2 := hide hW2
  go_region_held3 (fun wz => wz.cell? ⟨W.heap.size, 0, none⟩ = some (.int .i64 x1) ∧ wz.cell? ⟨W.heap.size, 1, none⟩ = some (.int .i64 x2) ∧ wz.cell? ⟨W.heap.size + 1, 0, none⟩ = some (.int .i64 y1) ∧ wz.cell? ⟨W.heap.size + 1, 1, none⟩ = some (.int .i64 y2))
    (first | exact ⟨k0, k1, k2, k3⟩ | exact ⟨n0 _, n1 _, n2 _, n3 _⟩)
    (first | (go_at_call 52; with_reducible refine Calls.mono (cmp_r x1 y1 _ (unhide hc1')) ?_; rintro e w5 ⟨rfl, rfl⟩) | (go_at_call 52; with_reducible refine Calls.mono (cmp_r x2 y2 _ (unhide hc2')) ?_; rintro e w5 ⟨rfl, rfl⟩) | (go_at_call 51; refine Calls.mono (or_r c1 c2 _ _ (unhide hr) (show (W2.alloc (.cells #[.int .i64 c1, .int .i64 c2] 3)).cell? ⟨W2.heap.size, 0, none⟩ = _ from by rw [World.cell?_alloc_new]; rfl) (show (W2.alloc (.cells #[.int .i64 c1, .int .i64 c2] 3)).cell? ⟨W2.heap.size, 1, none⟩ = _ from by rw [World.cell?_alloc_new]; rfl)) ?_; rintro e w5 ⟨rfl, rfl⟩))
  all_goals
    go_wp2
    go_ret
    exact ⟨rfl, unhide fin _⟩
theorem isAgg69 (w : World) : (isAgg 87).run Tryz.prog w = .ok true w := by
  first | exact Tryz.isAgg87 w | simp [isAgg, run_underlying Tryz.underlying87]
theorem sortE_any (w : World) {M : Nat} {v : Value} {l : List En} (h : Pr 87 M v l w) (hl : l.length < 1000000000) :
    Calls Tryz.prog 49 #[v, .func (.func 50) #[] #[]] w fun e w' => e = .returned (.tuple #[]) ∧ Pr 87 M v (srtE l) w' ∧ w.grownBy w' v.ownBlock := by
  have e0 : srtE [] = [] := by unfold srtE; exact List.mergeSort_nil
  have triv : l = [] → Calls Tryz.prog 49 #[v, .func (.func 50) #[] #[]] w fun e w' => e = .returned (.tuple #[]) ∧ Pr 87 M v (srtE l) w' ∧ w.grownBy w' v.ownBlock := by
    rintro rfl
    obtain ⟨a, cap, rfl⟩ := h.form
    refine Calls.mono (AnyF.slices_SortFunc_none Tryz.laysE a cap _ w) ?_
    rintro e w' ⟨rfl, rfl⟩
    rw [e0]
    exact ⟨rfl, h, ⟨rfl, rfl, rfl, Nat.le_refl _, fun _ _ _ => rfl⟩⟩
  rcases h.2 with ⟨_, e⟩ | ⟨g, cap, cur, rfl, hB, hg, hn, hm, hs, ht⟩
  · exact triv (List.eq_nil_of_length_eq_zero e)
  · rcases Nat.eq_zero_or_pos l.length with h0 | h0
    · exact triv (List.eq_nil_of_length_eq_zero h0)
    · have hH : HoldsK encE 2 w g 0 l.toArray := by
        intro j hj
        rw [size_flatK] at hj
        have hj2 : j < l.length * 2 := by simpa using hj
        have h1 : (flatK encE 2 l.toArray)[j]! = (pairs l).getD j undef := by
          rw [← flat_pairs l]
          simp [getElem!_pos, List.getD, hj2]
        have h2 : (pairs l)[j]? = some ((pairs l).getD j undef) := by
          have : j < (pairs l).length := by rw [pairs_len]; exact hj2
          simp [List.getD, this]
        refine ⟨?_, by simp [World.frozen?, hg]⟩
        show w.cell? ⟨g, 0 + j, none⟩ = some (flatK encE 2 l.toArray)[j]!
        rw [h1, ← h2, ← ht, List.getElem?_take_of_lt hj2]
        simp [World.cell?, hg]
      have eg : ∀ args w, (callFunc 50 args).run Tryz.prog w = .ok (.enter 50 args) w := enters_of Tryz.func50 (by kernel_rfl) rfl
      have C := AnyQ.slices_SortFunc_total Tryz.laysE 2 isAgg69 Tryz.sizeOf87 encE (fun _ => rfl) (fun x v hv => by simp [encE] at hv; rcases hv with rfl | rfl <;> rfl) cfE swoE 50 #[] g 0 cap l.toArray w eg (fun m os dk _ x y => closure71 x y _) hH (heap_lt hg) (by simp; omega) sepE
      refine Calls.mono C ?_
      rintro e w' ⟨rfl, q, os, hw⟩
      subst hw
      have hlen := srtE_len l
      obtain ⟨F, hF⟩ : ∃ F, F = flatK encE 2 (srtE l).toArray := ⟨_, rfl⟩
      have hFl : F.toList = pairs (srtE l) := by rw [hF]; exact flat_pairs _
      have hFs : F.size = l.length * 2 := by rw [hF, size_flatK]; simp [hlen]
      have hg2 : (Go.Sort.putRow id (Go.Sort.ahead w q) g 0 F).heap[g]? = some (.cells (Go.Sort.putCells id 0 F cur) 87 (0, 0)) := by
        simp [Go.Sort.putRow, Go.Sort.mapBlock, Go.Sort.ahead, Array.getElem?_modify, hg, Go.Sort.onCells]
      have hsz : (Go.Sort.putRow id (Go.Sort.ahead w q) g 0 F).heap.size = w.heap.size := by simp [Go.Sort.putRow, Go.Sort.mapBlock, Go.Sort.ahead]
      have hw : sortWorldK encE 2 w g 0 q (l.toArray.toList.mergeSort fun x y => !(Go.Proofs.ltOf cfE) y x).toArray os = Go.Sort.grow (Go.Sort.putRow id (Go.Sort.ahead w q) g 0 F) os := by rw [hF]; rfl
      rw [hw]
      refine ⟨rfl, ⟨by rw [pairs_len], .inr ⟨g, cap, Go.Sort.putCells id 0 F cur, by rw [hlen], hB, ?_, by omega, hm, by simpa [Go.Sort.putCells] using hs, ?_⟩⟩, ⟨rfl, rfl, rfl, ?_, fun k hk hne => ?_⟩⟩
      · exact (grow_old _ os g (by rw [hsz]; exact heap_lt hg)).trans hg2
      · apply List.ext_getElem?
        intro j
        rw [List.getElem?_take, hlen, ← hFl]
        by_cases hj : j < l.length * 2
        · have hjc : j < cur.size := by omega
          rw [if_pos hj]
          simp only [Go.Sort.putCells, Array.getElem?_toList, Array.getElem?_mapIdx, Array.getElem?_eq_getElem hjc, Option.map_some]
          rw [if_pos (by omega), Array.getElem?_eq_getElem (by omega)]
          simp [getElem!_pos, hFs, hj]
        · rw [if_neg hj, List.getElem?_eq_none (by rw [Array.length_toList]; omega)]
      · show w.heap.size ≤ (_ ++ os).size
        rw [Array.size_append, hsz]; omega
      · refine (grow_old _ os k (by rw [hsz]; exact hk)).trans ?_
        have hgk : g ≠ k := fun e => hne (by rw [e]; rfl)
        simp [Go.Sort.putRow, Go.Sort.mapBlock, Go.Sort.ahead, Array.getElem?_modify, hgk]
end Go.Proofs.YtgiklggnolbiiaaGreat

/- Edges of a table. -/
namespace Go.Proofs.YtgiklggnolbiiaaGreat
open Go.RowKit

/-- Pairs behind pairs: append of a row that may be nil. -/
theorem app_pr {M M' : Nat} {u v : Value} {l m : List En} {w : World} (ty : TypeId) (hu : Pr 87 M u l w) (hv : Pr 87 M' v m w) (hM : M ≤ w.heap.size) (hl : l.length + m.length ≤ 100000000) :
    ∃ v' w', (Builtin.append_ #[52, 52] ty #[u, v]).run Tryz.prog w = .ok v' w' ∧ Pr 87 M v' (l ++ m) w' ∧ w.grownBy w' u.ownBlock := by
  obtain ⟨i0, hi, hz0, hz1, hz2⟩ := info_parts inf69
  have up : ∀ v' w', w'.ownsRow M 87 2 v' (l.length + m.length) (pairs l ++ pairs m) → Pr 87 M v' (l ++ m) w' := fun v' w' h => by
    unfold Pr
    rw [List.length_append, pairs_app]
    exact h
  rcases hv.2 with ⟨rfl, h0⟩ | ⟨g, cap, cur, rfl, hB, hg, h2, h3, h4, h5⟩
  · obtain rfl : m = [] := List.eq_nil_of_length_eq_zero h0
    have hr := run_append_owned_none (P := Tryz.prog) (w := w) M 52 ty 87 i0 2 Tryz.underlying52 hi u l.length _ hu
    exact ⟨u, w, hr, by rw [List.append_nil]; exact hu, ⟨rfl, rfl, rfl, Nat.le_refl _, fun _ _ _ => rfl⟩⟩
  · have hnews : ∀ j x, (pairs m)[j]? = some x → w.cell? ((⟨g, 0, none⟩ : Addr).add j) = some x := fun j x hj => by
      have hjl : j < m.length * 2 := by have := (List.getElem?_eq_some_iff.1 hj).1; rwa [pairs_len] at this
      rw [Addr.add_lit, Nat.zero_add, ← hj, ← h5, List.getElem?_take_of_lt hjl]
      simp [World.cell?, hg]
    obtain ⟨v', w', hr, o2, o3, _⟩ := run_append_own (P := Tryz.prog) w M 52 ty 87 i0 _ 2 16 Tryz.underlying52 hi hz0 hz1 hz2 rfl (by decide) u l.length _ hu ⟨g, 0, none⟩ m.length cap (pairs m) (pairs_len m) hnews (pairs_one m) (by unfold maxLen; omega) (by omega) hM
    exact ⟨v', w', hr, up v' w' o2, o3⟩
theorem wpList_appE {w w' : World} {ops : Array Oper} {rest : List Oper} {o : Oper} {a : Act} {Q : Exit → Act → World → Prop} {u v v' : Value} (hgd : o.guard = none) (s x : Operand)
    (ho : o.op = .call { callee := .builtin .append, args := #[s, x], argTypes := #[52, 52] }) (hs : a.eval s = u) (hx : a.eval x = v) (hr : (Builtin.append_ #[52, 52] o.type #[u, v]).run Tryz.prog w = .ok v' w')
    (h : wpList Tryz.prog ops Q rest (a.put o.dst v') w') : wpList Tryz.prog ops Q (o :: rest) a w :=
  wpList_plain hgd fun K hK => by
    unfold Oper.wp execOp
    simp only [ho, resolve, invoke, builtin, Sem.run_bind, Sem.run_pure, Result.andThen_ok, List.map_toArray, List.map_cons, List.map_nil, hs, hx, hr]
    exact hK _ _ h
/-- The edges of the first m nodes, node by node. -/
def rawE (T : Nat → Lv) : Nat → List En
  | 0 => []
  | m + 1 => rawE T m ++ edgeL (T m).1 (T m).2
theorem rawE_mem {T : Nat → Lv} {p : En} : ∀ n, p ∈ rawE T n ↔ ∃ i, i < n ∧ p ∈ edgeL (T i).1 (T i).2
  | 0 => by simp [rawE]
  | n + 1 => by
    unfold rawE
    rw [List.mem_append, rawE_mem n]
    constructor
    · rintro (⟨i, h1, h2⟩ | h)
      · exact ⟨i, by omega, h2⟩
      · exact ⟨n, by omega, h⟩
    · rintro ⟨i, h1, h2⟩
      rcases (show i < n ∨ i = n by omega) with h | rfl
      · exact .inl ⟨i, h, h2⟩
      · exact .inr h2
/-- All edges: by From, then To. -/
def edgesD (T : Nat → Lv) (n : Nat) : List En := srtE (rawE T n)
variable {B n : Nat} {most : Int} {T : Nat → Lv} {b rb : Nat} {lb : Nat → Nat} {hv qv : Nat → Value}
set_option maxRecDepth 100000 in
set_option maxHeartbeats 4000000 in
theorem edges_t (w : World) (h : Tb B n most T b rb lb hv qv w) (hs : ∀ i, i < n → (T i).1.length + (T i).2.length ≤ 400) (hn : n ≤ 600) :
    Calls Tryz.prog 21 #[.pointer (some ⟨b, 0, none⟩)] w fun e w' => ∃ v, e = .returned v ∧ Pr 87 w.heap.size v (edgesD T n) w' ∧ Below w.heap.size w w' := by
  have c0 := h.c0
  have HT := hide h
  clear h
  go_enter Tryz.func21, Tryz.ntmps21
  go_wp2_with fail
  clear c0
  go_loopw [3, 11] (fun s3 s11 wr => ∃ (t c : Nat) (ag : Option Addr) (cg : Nat), t ≤ n ∧ c ≤ t * 160000 ∧ s3 = .slice ag c cg ∧ s11 = .int .i64 t ∧ Hid ((rawE T t).length = c) ∧ Hid (Pr 87 w.heap.size (.slice ag c cg) (rawE T t) wr) ∧ Hid (Cw w wr) ∧ Hid (Below w.heap.size w wr)) (fun _ s11 _ => n - (intOf s11).toNat)
  case atStart => exact ⟨0, 0, none, 0, Nat.zero_le _, Nat.zero_le _, rfl, rfl, rfl, Pr.nil _ _ _, Cw.refl _, Below.refl _ _⟩
  case round =>
    obtain ⟨t, c, ag, cg, ht, hct, rfl, rfl, hl, P3, k3, b3⟩ := hrel
    by_cases hlt : t < n
    · have T3 := (unhide k3).tb (unhide HT)
      have d1 := T3.at_ hlt
      have L4 := hide (show Ln _ _ _ _ _ from ⟨_, _, (T3.ls.la t hlt).next (below_new wr (.cells #[.pointer (some ⟨lb t, 0, none⟩)] 78))⟩)
      have hsum := hide (hs t hlt)
      have hstep : Hid (rawE T (t + 1) = rawE T t ++ edgeL (T t).1 (T t).2) := rfl
      generalize rawE T t = L0 at hl P3 hstep
      clear T3
      go_wp2_with fail
      refine (edges_r _ (unhide L4) (unhide hsum)).mono ?_
      rintro e w5 ⟨v5, rfl, P5, b5, hle⟩
      have bw := below_then (below_new wr _) b5
      have P4 := (unhide P3).next bw
      obtain ⟨v6, w6, happ, P6, g6⟩ := app_pr 52 P4 P5 (Nat.le_trans (unhide b3).size bw.size) (by have := unhide hl; omega)
      obtain ⟨a6, n6, c6, hn6, rfl⟩ : ∃ a n c, (L0 ++ edgeL (T t).1 (T t).2).length = n ∧ v6 = .slice a n c := by
        obtain ⟨a, c, e⟩ := P6.form
        exact ⟨a, _, c, rfl, e⟩
      have hc6 : n6 ≤ c + 160000 := by rw [← hn6, List.length_append, unhide hl]; omega
      have k6 := hide ((unhide k3).trans ((Cw.of bw).trans (Cw.row P4 g6)))
      have b6 := hide ((below_then (unhide b3) bw).trans (grown_below g6 (Nat.le_trans (unhide b3).size bw.size) (fun j hj => (P4.lt j hj).1)))
      obtain ⟨a5, n5, c5, rfl⟩ : ∃ a n c, v5 = .slice a n c := by
        obtain ⟨a, c, e⟩ := P5.form
        exact ⟨a, _, c, e⟩
      replace P6 := hide P6
      replace hn6 := hide hn6
      clear d1 b5 bw P4 g6 P5 hle
      go_wp2_with (at_builtin; refine wpList_appE rfl (.tmp 15) (.tmp 17) rfl rfl rfl happ ?_; clear happ)
      go_roundw
      case rel => exact ⟨t + 1, n6, a6, c6, by omega, by omega, rfl, by go_num, by rw [unhide hstep]; exact unhide hn6, by rw [unhide hstep]; exact unhide P6, unhide k6, unhide b6⟩
      case measure => simp [intOf]; omega
    · obtain rfl : t = n := by omega
      have C := hide (sortE_any wr (unhide P3) (by have := unhide hl; omega))
      go_wp2_with fail
      refine (unhide C).mono ?_
      rintro e w5 ⟨rfl, P5, g5⟩
      have b5 := hide ((unhide b3).trans (grown_below g5 (unhide b3).size (fun j hj => ((unhide P3).lt j hj).1)))
      replace P5 := hide P5
      clear g5
      go_wp2
      go_ret
      exact ⟨_, rfl, unhide P5, unhide b5⟩
theorem edges_n (w : World) (h : Tn B n most T b w) (hs : ∀ i, i < n → (T i).1.length + (T i).2.length ≤ 400) (hn : n ≤ 600) {l : List En} (hl : edgesD T n = l) :
    Calls Tryz.prog 21 #[.pointer (some ⟨b, 0, none⟩)] w fun e w' => ∃ v, e = .returned v ∧ Pr 87 w.heap.size v l w' ∧ Below w.heap.size w w' := by
  subst hl
  obtain ⟨rb, lb, hv, qv, t⟩ := h
  exact edges_t w t hs hn
theorem drop_n (w : World) (h : Tn B n most T b w) (hg : Gd n 1000 T) (hn : n ≤ 10000) (who : Int) {r : List Int × (Nat → Lv)} (hr : dropD who T (dn n 0) = r) :
    Calls Tryz.prog 11 #[.pointer (some ⟨b, 0, none⟩), .int .i64 who] w fun e w' => ∃ gv, e = .returned gv ∧ Is w.heap.size gv r.1 w' ∧ Tn B n most r.2 b w' ∧ Below B w w' := by
  subst hr
  obtain ⟨rb, lb, hv, qv, t⟩ := h
  refine (drop_t (X := fun _ => False) w t hg hn who (fun _ h => h.elim)).mono ?_
  rintro e w' ⟨gv, hv', qv', M, h1, h2, h3, h4, h5⟩
  exact ⟨gv, h1, h3.down h2, ⟨_, _, _, _, h4⟩, h5.1⟩
theorem drop_k (w : World) (h : Tn B n most T b w) (hg : Gd n 1000 T) (hn : n ≤ 10000) (who : Int) {r : List Int × (Nat → Lv)} (hr : dropD who T (dn n 0) = r) :
    Calls Tryz.prog 11 #[.pointer (some ⟨b, 0, none⟩), .int .i64 who] w fun e w' => ∃ gv, e = .returned gv ∧ Tn B n most r.2 b w' ∧ Below B w w' ∧ Kr (fun _ => False) w w' := by
  subst hr
  obtain ⟨rb, lb, hv, qv, t⟩ := h
  refine (drop_t (X := fun _ => False) w t hg hn who (fun _ h => h.elim)).mono ?_
  rintro e w' ⟨gv, hv', qv', M, h1, h2, h3, h4, h5⟩
  exact ⟨gv, h1, ⟨_, _, _, _, h4⟩, h5.1, h5.2.1⟩
end Go.Proofs.YtgiklggnolbiiaaGreat
