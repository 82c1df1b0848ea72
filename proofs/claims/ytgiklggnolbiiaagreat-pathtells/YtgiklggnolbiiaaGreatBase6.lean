/- Texts of this claim, put together in their order. -/
import Derived.RangeFuncNested
import Derived.RangeFuncBound
import Derived.RangeFuncCalls
import Derived.RangeFuncLeaves
import Derived.Shelf.Abstract
import Derived.Shelf.RegionOpen
import Derived.WalkKit
import Derived.OwnWalkIn
import Derived.TacticsInMore
import Derived.LoopNIn
import Derived.LoopIn
import Derived.Test.YtgiklggnolbiiaaGreatBase1
import Derived.Test.YtgiklggnolbiiaaGreatBase2
import Derived.Test.YtgiklggnolbiiaaGreatBase3
import Derived.Test.YtgiklggnolbiiaaGreatBase4
import Derived.Test.YtgiklggnolbiiaaGreatBase5
/- Ask at a table. -/
namespace Go.Proofs.YtgiklggnolbiiaaGreat
open Go.RowKit
variable {B n : Nat} {most : Int} {T : Nat → Lv} {b rb : Nat} {lb : Nat → Nat} {hv qv : Nat → Value}

/-- What speaks against asking: 4 no node, 5 who waits, 1 no mode, 3 no room, 0 nothing. -/
def errD (n : Nat) (most : Int) (T : Nat → Lv) (who node m : Int) : Int :=
  if (decide (0 ≤ node) && decide (node < n)) = false then 4
  else if atW who T n < n then 5
  else if who < 0 ∨ m = 0 ∨ knownB m = false then 1
  else if hasL who (T node.toNat) = false ∧ most ≤ (lenD T n : Int) then 3 else 0
theorem Tb.drewN {w : World} (h : Tb B n most T b rb lb hv qv w) (k : Nat) : Tb B n most T b rb lb hv qv (w.drewN k) := h.next ⟨rfl, rfl, rfl, Nat.le_refl _, fun _ _ => rfl⟩
theorem Tb.drew {w : World} (h : Tb B n most T b rb lb hv qv w) : Tb B n most T b rb lb hv qv w.drew := h.next ⟨rfl, rfl, rfl, Nat.le_refl _, fun _ _ => rfl⟩
theorem Ln.drw {H Q : List En} {w : World} (h : Ln B H Q b w) : Ln B H Q b w.drew := h.next ⟨rfl, rfl, rfl, Nat.le_refl _, fun _ _ => rfl⟩
theorem has_r (w : World) {x : Lv} {l : Nat} (h : Ln B x.1 x.2 l w) (hn : x.1.length < 1000000) (hq : x.2.length < 1000000) (who : Int) {r : Bool} (hr : hasL who x = r) : Calls Tryz.prog 41 #[.agg #[.pointer (some ⟨l, 0, none⟩)], .int .i64 who] w fun e w' => e = .returned (.bool r) ∧ Below w.heap.size w w' := by
  subst hr; exact has_t w h hn hq who
set_option maxRecDepth 100000 in
set_option maxHeartbeats 2000000 in
theorem may_t (w : World) (h : Tb B n most T b rb lb hv qv w) (hf : Few n 1000 T) (hn : n ≤ 10000) (who node m : Int) :
    Calls Tryz.prog 35 #[.pointer (some ⟨b, 0, none⟩), .int .i64 who, .int .i64 node, .int .i64 m] w fun e w' => e = .returned (.int .i64 (errD n most T who node m)) ∧ Below w.heap.size w w' := by
  have HT := hide h
  have K := hide (known_t w h node)
  clear h
  unfold errD
  cases hk : (decide (0 ≤ node) && decide (node < n))
  · rw [hk] at K
    rw [if_pos rfl]
    clear hk
    go_enter Tryz.func35, Tryz.ntmps35
    go_wp2_with fail
    refine (unhide K).mono ?_
    rintro e w1 ⟨rfl, rfl⟩
    go_wp2
    go_ret
    exact ⟨rfl, Below.refl _ _⟩
  · rw [hk] at K
    rw [if_neg (by decide)]
    obtain ⟨k, rfl⟩ : ∃ k : Nat, node = (k : Int) := ⟨node.toNat, by simp at hk; omega⟩
    have hkn : k < n := by simp at hk; omega
    have e2 : (k : Int).toNat = k := rfl
    rw [e2]
    have W := hide (fun w1 (hb : Below w.heap.size w w1) => waits_tb w1 ((unhide HT).next hb) hf hn who)
    obtain ⟨s, hs⟩ : ∃ s, s = atW who T n := ⟨_, rfl⟩
    rw [← hs] at W ⊢
    clear hk e2
    by_cases hsn : s < n
    · rw [if_pos hsn]
      have hv : waitV who n T s = .tuple #[.agg #[.int .i64 s, .int .i64 (lookD who (T s).2)], .bool true] := by
        unfold waitV; rw [if_pos hsn, if_pos hsn, decide_eq_true hsn]
      rw [hv] at W
      replace hs := hide hs
      clear hv
      go_enter Tryz.func35, Tryz.ntmps35
      go_wp2_with fail
      refine (unhide K).mono ?_
      rintro e w1 ⟨rfl, rfl⟩
      go_wp2_with fail
      refine (unhide W _ (Below.refl _ _)).mono ?_
      rintro e w2 ⟨rfl, b2⟩
      have B3 := hide (below_add b2 (.cells #[.int .i64 s, .int .i64 (lookD who (T s).2)] 39))
      clear b2
      go_wp2
      go_ret
      exact ⟨rfl, unhide B3⟩
    · rw [if_neg hsn]
      have hv : waitV who n T s = .tuple #[.agg #[.int .i64 0, .int .i64 0], .bool false] := by
        unfold waitV; rw [if_neg hsn, if_neg hsn, decide_eq_false hsn]
      rw [hv] at W
      replace hs := hide hs
      clear hv hsn
      by_cases hbad : who < 0 ∨ m = 0 ∨ knownB m = false
      · rw [if_pos hbad]
        have hb3 : who < 0 ∨ (0 ≤ who ∧ m = 0) ∨ (0 ≤ who ∧ m ≠ 0 ∧ knownB m = false) := by
          by_cases h1 : who < 0
          · exact .inl h1
          · by_cases h2 : m = 0
            · exact .inr (.inl ⟨by omega, h2⟩)
            · rcases hbad with h | h | h
              · exact absurd h h1
              · exact absurd h h2
              · exact .inr (.inr ⟨by omega, h2, h⟩)
        rcases hb3 with h1 | ⟨h1, rfl⟩ | ⟨h1, h2, h3⟩
        all_goals
          clear hbad
          go_enter Tryz.func35, Tryz.ntmps35
          go_wp2_with fail
          refine (unhide K).mono ?_
          rintro e w1 ⟨rfl, rfl⟩
          go_wp2_with fail
          refine (unhide W _ (Below.refl _ _)).mono ?_
          rintro e w2 ⟨rfl, b2⟩
          have B3 := hide (below_add b2 (.cells #[.int .i64 0, .int .i64 0] 39))
          clear b2
          go_wp2_with (first | (go_at_call 76; refine (known_any m _).mono ?_; rw [h3]; rintro e w4 ⟨rfl, rfl⟩))
          go_ret
          exact ⟨rfl, unhide B3⟩
      · rw [if_neg hbad]
        have hw0 : 0 ≤ who := by omega
        have hm0 : m ≠ 0 := fun e => hbad (.inr (.inl e))
        have hkm : knownB m = true := by
          cases e : knownB m
          · exact absurd (.inr (.inr e)) hbad
          · rfl
        have hle := len_le hf n (Nat.le_refl _)
        have hl9 : lenD T n ≤ 20000000 := by
          have : n * (2 * 1000) ≤ 10000 * (2 * 1000) := Nat.mul_le_mul_right _ (by omega)
          omega
        have hm0' : (m == 0) = false := by simpa using hm0
        obtain ⟨f1, f2⟩ := hf k hkn
        replace f1 := hide f1
        replace f2 := hide f2
        clear hbad hle
        obtain ⟨r, hr⟩ : ∃ r : Int, r = (if hasL who (T k) = false ∧ most ≤ (lenD T n : Int) then 3 else 0) := ⟨_, rfl⟩
        rw [← hr]
        replace hr := hide hr
        go_enter Tryz.func35, Tryz.ntmps35
        go_wp2_with fail
        refine (unhide K).mono ?_
        rintro e w1 ⟨rfl, rfl⟩
        go_wp2_with fail
        refine (unhide W _ (Below.refl _ _)).mono ?_
        rintro e w2 ⟨rfl, b2⟩
        obtain ⟨W3, hW3⟩ : ∃ W3, W3 = w2.alloc (.cells #[.int .i64 0, .int .i64 0] 39) := ⟨_, rfl⟩
        have B3 := hide (below_add b2 (.cells #[.int .i64 0, .int .i64 0] 39))
        have T3 := (unhide HT).next (unhide B3)
        rw [← hW3] at B3 T3
        have q0 := T3.c0
        have q1 := T3.c1
        have q2 := T3.at_ hkn
        have hbl := hide T3.lt
        have hrl := hide T3.rlt
        have T3h := hide T3
        have L3 := hide (show Ln _ _ _ _ _ from ⟨_, _, T3.ls.la k hkn⟩)
        clear b2 T3
        go_wp2_with (first | (go_at_call 76; refine (known_any m _).mono ?_; rw [hkm]; rintro e w4 ⟨rfl, rfl⟩))
        rw [← hW3]
        replace hW3 := hide hW3
        clear q0 q1 q2
        have TD := (unhide T3h).drew
        have hne : Nonempty (Wc (Tb B n most T b rb lb hv qv) w1) := ⟨⟨_, TD, (unhide B3).drew⟩⟩
        have q0 : ∀ x : Wc (Tb B n most T b rb lb hv qv) w1, x.w.cell? ⟨b, 0, none⟩ = some (.slice (some ⟨rb, 0, none⟩) n n) := fun x => x.ok.c0
        have q1 : ∀ x : Wc (Tb B n most T b rb lb hv qv) w1, x.w.cell? ⟨b, 1, none⟩ = some (.int .i64 most) := fun x => x.ok.c1
        have q2 : ∀ x : Wc (Tb B n most T b rb lb hv qv) w1, x.w.cell? ⟨rb, k, none⟩ = some (.pointer (some ⟨lb k, 0, none⟩)) := fun x => x.ok.at_ hkn
        have cL := hide (fun x : Wc (Tb B n most T b rb lb hv qv) w1 => len_t x.w x.ok hf hn)
        cases hh : hasL who (T k)
        · have cH := hide (fun x : Wc (Tb B n most T b rb lb hv qv) w1 => has_r x.w (x := T k) ⟨_, _, x.ok.ls.la k hkn⟩ (by have := unhide f1; omega) (by have := unhide f2; omega) who hh)
          by_cases hmo : most ≤ (lenD T n : Int)
          · have er : Hid (r = 3) := by show _ = _; rw [unhide hr, hh, if_pos ⟨rfl, hmo⟩]
            clear hh
            refine wp_region_wc (S := Tb B n most T b rb lb hv qv) TD (unhide B3) (by kernel_rfl) (by kernel_rfl) ?_
            try simp only [List.append]
            repeat (go_big_quiet_step (first | (go_at_call 41; with_reducible exact Wc.call (fun _ _ h k => h.next k) (unhide cH _)) | (go_at_call 23; with_reducible exact Wc.call (fun _ _ h k => h.next k) (unhide cL _))))
            refine wpQuiet_nil ?_
            intro w6 hw'
            have b6 : Hid (Below w1.heap.size w1 w6) := by
              obtain ⟨x, hx⟩ := hw'
              rw [hx]
              exact x.bel
            clear hw' q0 q1 q2 hne cL cH TD
            go_wp2
            go_ret
            exact ⟨by rw [unhide er]; rfl, unhide b6⟩
          · have er : Hid (r = 0) := by show _ = _; rw [unhide hr, hh, if_neg (fun e => hmo e.2)]
            clear hh
            refine wp_region_wc (S := Tb B n most T b rb lb hv qv) TD (unhide B3) (by kernel_rfl) (by kernel_rfl) ?_
            try simp only [List.append]
            repeat (go_big_quiet_step (first | (go_at_call 41; with_reducible exact Wc.call (fun _ _ h k => h.next k) (unhide cH _)) | (go_at_call 23; with_reducible exact Wc.call (fun _ _ h k => h.next k) (unhide cL _))))
            refine wpQuiet_nil ?_
            intro w6 hw'
            have b6 : Hid (Below w1.heap.size w1 w6) := by
              obtain ⟨x, hx⟩ := hw'
              rw [hx]
              exact x.bel
            clear hw' q0 q1 q2 hne cL cH TD
            go_wp2
            go_ret
            exact ⟨by rw [unhide er]; rfl, unhide b6⟩
        · have cH := hide (fun x : Wc (Tb B n most T b rb lb hv qv) w1 => has_r x.w (x := T k) ⟨_, _, x.ok.ls.la k hkn⟩ (by have := unhide f1; omega) (by have := unhide f2; omega) who hh)
          have er : Hid (r = 0) := by show _ = _; rw [unhide hr, hh, if_neg (fun e => by cases e.1)]
          clear hh
          refine wp_region_wc (S := Tb B n most T b rb lb hv qv) TD (unhide B3) (by kernel_rfl) (by kernel_rfl) ?_
          try simp only [List.append]
          repeat (go_big_quiet_step (first | (go_at_call 41; with_reducible exact Wc.call (fun _ _ h k => h.next k) (unhide cH _)) | (go_at_call 23; with_reducible exact Wc.call (fun _ _ h k => h.next k) (unhide cL _))))
          refine wpQuiet_nil ?_
          intro w6 hw'
          have b6 : Hid (Below w1.heap.size w1 w6) := by
            obtain ⟨x, hx⟩ := hw'
            rw [hx]
            exact x.bel
          clear hw' q0 q1 q2 hne cL cH TD
          go_wp2
          go_ret
          exact ⟨by rw [unhide er]; rfl, unhide b6⟩
end Go.Proofs.YtgiklggnolbiiaaGreat

/- Ask at a table, with its rows left open; the examples of the chapter: first. -/
namespace Go.Proofs.YtgiklggnolbiiaaGreat
open Go.RowKit

/-- What is neither a lane nor entries stays. -/
def Stay (w w' : World) : Prop := ∀ (k : Nat) (cur : Array Value) (t : TypeId), w.heap[k]? = some (.cells cur t (0, 0)) → t ≠ 92 → t ≠ 96 → w'.heap[k]? = some (.cells cur t (0, 0))
theorem Stay.of {w w' : World} (h : Below w.heap.size w w') : Stay w w' := fun k _ _ hk _ _ => (h.block k (heap_lt hk)).trans hk
theorem Stay.trans {w w' w'' : World} (h : Stay w w') (k : Stay w' w'') : Stay w w'' := fun j c t hj h1 h2 => k j c t (h j c t hj h1 h2) h1 h2
theorem Pr.stay {t : TypeId} {B : Nat} {v : Value} {l : List En} {w w' : World} (h : Pr t B v l w) (s : Stay w w') (h1 : t ≠ 92) (h2 : t ≠ 96) : Pr t B v l w' :=
  h.keep fun g hg => by
    obtain ⟨cur, hc⟩ := h.ty g hg
    rw [s g cur t hc h1 h2, hc]
theorem Is.stay {B : Nat} {v : Value} {l : List Int} {w w' : World} (h : Is B v l w) (s : Stay w w') : Is B v l w' :=
  h.keep fun g hg => by
    obtain ⟨cur, hc⟩ := h.ty g hg
    rw [s g cur 3 hc (by decide) (by decide), hc]
/-- What Ask answers, and the lanes behind it. -/
def askT (n : Nat) (most : Int) (T : Nat → Lv) (who node m : Int) : (Int × Int) × (Nat → Lv) :=
  if errD n most T who node m = 0 then (((askD who m (T node.toNat).1 (T node.toNat).2).1, 0), upd T node.toNat (askD who m (T node.toNat).1 (T node.toNat).2).2) else ((0, errD n most T who node m), T)
theorem err_node {n : Nat} {most : Int} {T : Nat → Lv} {who node m : Int} (h : errD n most T who node m = 0) : 0 ≤ node ∧ node < n ∧ noneW who n T ∧ 0 ≤ who ∧ m ≠ 0 ∧ knownB m = true ∧ (hasL who (T node.toNat) = true ∨ (lenD T n : Int) < most) := by
  unfold errD at h
  split at h
  · omega
  · rename_i h1
    split at h
    · omega
    · rename_i h2
      split at h
      · omega
      · rename_i h3
        split at h
        · omega
        · rename_i h4
          have h5 : 0 ≤ node ∧ node < n := by simpa using h1
          have h6 := atW_le who T n
          refine ⟨h5.1, h5.2, fun i hi => atW_low who T n i (by omega), ?_, fun e => h3 (.inr (.inl e)), ?_, ?_⟩
          · by_cases e : who < 0
            · exact absurd (.inl e) h3
            · omega
          · cases e : knownB m
            · exact absurd (.inr (.inr e)) h3
            · rfl
          · cases e : hasL who (T node.toNat)
            · right
              by_cases e2 : most ≤ (lenD T n : Int)
              · exact absurd ⟨e, e2⟩ h4
              · omega
            · exact .inl rfl
/-- The table in block b, its rows left open. -/
def Tn (B n : Nat) (most : Int) (T : Nat → Lv) (b : Nat) (w : World) : Prop := ∃ rb lb hv qv, Tb B n most T b rb lb hv qv w
variable {B n : Nat} {most : Int} {T : Nat → Lv} {b : Nat}
theorem Tn.next {w w' : World} (h : Tn B n most T b w) (k : Below w.heap.size w w') : Tn B n most T b w' := by
  obtain ⟨rb, lb, hv, qv, t⟩ := h
  exact ⟨rb, lb, hv, qv, t.next k⟩
theorem Tn.drew {w : World} (h : Tn B n most T b w) : Tn B n most T b w.drew := h.next ⟨rfl, rfl, rfl, Nat.le_refl _, fun _ _ => rfl⟩
theorem Tn.low {w : World} (h : Tn B n most T b w) : B ≤ w.heap.size := by
  obtain ⟨rb, lb, hv, qv, t⟩ := h
  exact t.low
theorem Tn.srt {w : World} (h : Tn B n most T b w) {i : Nat} (hi : i < n) : Srt (T i).1 := by
  obtain ⟨rb, lb, hv, qv, t⟩ := h
  exact (t.ls.la i hi).srt
set_option maxRecDepth 100000 in
set_option maxHeartbeats 1000000 in
theorem ask_n (w : World) (h : Tn B n most T b w) (hf : Few n 1000 T) (hn : n ≤ 10000) (who node m : Int) {r : (Int × Int) × (Nat → Lv)} (hr : askT n most T who node m = r) :
    Calls Tryz.prog 8 #[.pointer (some ⟨b, 0, none⟩), .int .i64 who, .int .i64 node, .int .i64 m] w fun e w' => e = .returned (.tuple #[.int .i64 r.1.1, .int .i64 r.1.2]) ∧ Tn B n most r.2 b w' ∧ Below B w w' ∧ Stay w w' := by
  subst hr
  obtain ⟨rb, lb, hv, qv, t⟩ := h
  have HT := hide t
  have hm := hide (may_t w t hf hn who node m)
  unfold askT
  by_cases h0 : errD n most T who node m = 0
  · rw [h0] at hm
    rw [if_pos h0]
    obtain ⟨p1, p2, _⟩ := err_node h0
    clear h0 t
    obtain ⟨k, rfl⟩ : ∃ k : Nat, node = (k : Int) := ⟨node.toNat, by omega⟩
    have hk : k < n := by omega
    have e2 : (k : Int).toNat = k := rfl
    rw [e2]
    clear e2
    obtain ⟨f1, f2⟩ := hf k hk
    replace f1 := hide f1
    replace f2 := hide f2
    go_enter Tryz.func8, Tryz.ntmps8
    go_wp2_with fail
    refine (unhide hm).mono ?_
    rintro e w1 ⟨rfl, b1⟩
    have T1 := (unhide HT).next b1
    have c0 := T1.c0
    have d0 := T1.at_ hk
    replace T1 := hide T1
    replace b1 := hide b1
    go_wp2_with fail
    refine (ask_any w1 ((unhide T1).ls.la k hk) (by have := unhide f1; omega) (by have := unhide f2; omega) who m).mono ?_
    rintro e w2 ⟨rfl, hv', qv', L2, M2⟩
    have T2 := hide ((unhide T1).step hk M2 L2)
    have B2 := hide (((unhide b1).mono (unhide HT).low).trans (M2.below ((unhide T1).ls.la k hk)))
    have S2 := hide ((Stay.of (unhide b1)).trans (fun j c t hj h1 h2 => M2.stays ((unhide T1).ls.la k hk) hj h1 h2))
    clear L2 M2 c0 d0
    go_wp2
    go_ret2
    exact ⟨rfl, ⟨_, _, _, _, unhide T2⟩, unhide B2, unhide S2⟩
  · rw [if_neg h0]
    have h1 : (errD n most T who node m != 0) = true := by simpa using h0
    obtain ⟨x, hx⟩ : ∃ x, x = errD n most T who node m := ⟨_, rfl⟩
    rw [← hx] at hm h1 ⊢
    have h2 : x ≠ 0 := by rw [hx]; exact h0
    clear h0 t hx
    go_enter Tryz.func8, Tryz.ntmps8
    go_wp2_with fail
    refine (unhide hm).mono ?_
    rintro e w1 ⟨rfl, b1⟩
    replace b1 := hide b1
    go_wp2
    go_ret2
    exact ⟨rfl, ⟨_, _, _, _, (unhide HT).next (unhide b1)⟩, (unhide b1).mono (unhide HT).low, Stay.of (unhide b1)⟩
theorem len_n (w : World) (h : Tn B n most T b w) (hf : Few n 1000 T) (hn : n ≤ 10000) {r : Nat} (hr : lenD T n = r) : Calls Tryz.prog 23 #[.pointer (some ⟨b, 0, none⟩)] w fun e w' => e = .returned (.int .i64 (r : Nat)) ∧ Below w.heap.size w w' := by
  subst hr
  obtain ⟨rb, lb, hv, qv, t⟩ := h
  exact len_t w t hf hn
theorem held_n (w : World) (h : Tn B n most T b w) (hf : Few n 1000 T) (hn : n ≤ 10000) (who : Int) :
    Calls Tryz.prog 18 #[.pointer (some ⟨b, 0, none⟩), .int .i64 who] w fun e w' => ∃ v, e = .returned v ∧ Pr 39 w.heap.size v (heldD who T n) w' ∧ Below w.heap.size w w' := by
  obtain ⟨rb, lb, hv, qv, t⟩ := h
  exact held_t w t hf hn who
theorem holds_n (w : World) (h : Tn B n most T b w) (hf : Few n 1000 T) (who node : Int) (h0 : 0 ≤ node) (h1 : node < n) {r : Int} (hr : lookD who (T node.toNat).1 = r) :
    Calls Tryz.prog 15 #[.pointer (some ⟨b, 0, none⟩), .int .i64 who, .int .i64 node] w fun e w' => e = .returned (.int .i64 r) ∧ Below w.heap.size w w' := by
  subst hr
  obtain ⟨rb, lb, hv, qv, t⟩ := h
  exact holds_t w t hf who node h0 h1
theorem waits_n (w : World) (h : Tn B n most T b w) (hf : Few n 1000 T) (hn : n ≤ 10000) (who : Int) {s : Nat} (hs : atW who T n = s) :
    Calls Tryz.prog 13 #[.pointer (some ⟨b, 0, none⟩), .int .i64 who] w fun e w' => e = .returned (waitV who n T s) ∧ Below w.heap.size w w' := by
  subst hs
  obtain ⟨rb, lb, hv, qv, t⟩ := h
  exact waits_tb w t hf hn who
theorem new_n (n : Nat) (most : Int) (w : World) (h1 : 1 ≤ n) (h2 : n ≤ 10000) (h3 : 1 ≤ most) (h4 : most ≤ 4096) :
    Calls Tryz.prog 6 #[.int .i64 (n : Int), .int .i64 most] w fun e w' => ∃ b, e = .returned (.tuple #[.pointer (some ⟨b, 0, none⟩), .int .i64 0]) ∧ Tn w.heap.size n most none0 b w' ∧ Below w.heap.size w w' :=
  (newt_t n most w h1 h2 h3 h4).mono fun _ _ ⟨b, _, _, he, ht, hb⟩ => ⟨b, he, ⟨_, _, _, _, ht⟩, hb⟩
theorem few_none (n k : Nat) : Few n k none0 := fun _ _ => ⟨Nat.zero_le _, Nat.zero_le _⟩
theorem few_upd {k : Nat} (h : Few n k T) (i : Nat) {x : Lv} (h1 : x.1.length ≤ k) (h2 : x.2.length ≤ k) : Few n k (upd T i x) := fun j hj => by
  by_cases e : j = i
  · subst e; rw [upd_same]; exact ⟨h1, h2⟩
  · rw [upd_other T x e]; exact h j hj
theorem ask_good {who node m : Int} {x : Int × Lv} (h : errD n most T who node m = 0) (k : Nat) (hk : node.toNat = k) (e : askD who m (T k).1 (T k).2 = x) : askT n most T who node m = ((x.1, 0), upd T k x.2) := by
  unfold askT
  rw [if_pos h, hk, e]
theorem ask_err {who node m x : Int} (h : errD n most T who node m = x) (hx : x ≠ 0) : askT n most T who node m = ((0, x), T) := by
  unfold askT
  rw [if_neg (by rw [h]; exact hx), h]
def t1 : Nat → Lv := upd none0 1 ([(0, 3)], [])
def t2 : Nat → Lv := upd t1 1 ([(0, 5)], [])
theorem g1 : askT 3 1 none0 0 1 3 = ((1, 0), t1) := ask_good (x := (1, [(0, 3)], [])) (show errD 3 1 none0 0 1 3 = 0 by decide +kernel) 1 rfl (show askD 0 3 (none0 1).1 (none0 1).2 = (1, [(0, 3)], []) by decide +kernel)
theorem g2 : askT 3 1 t1 1 2 3 = ((0, 3), t1) := ask_err (by decide +kernel) (by decide)
theorem g3 : askT 3 1 t1 0 1 5 = ((1, 0), t2) := ask_good (x := (1, [(0, 5)], [])) (show errD 3 1 t1 0 1 5 = 0 by decide +kernel) 1 rfl (show askD 0 5 (t1 1).1 (t1 1).2 = (1, [(0, 5)], []) by decide +kernel)
theorem g4 : lenD t2 3 = 1 := by decide +kernel
theorem few1 : Few 3 1000 t1 := few_upd (few_none _ _) 1 (by decide) (by decide)
theorem few2 : Few 3 1000 t2 := few_upd few1 1 (by decide) (by decide)
set_option maxRecDepth 100000 in
set_option maxHeartbeats 2000000 in
theorem firstt_any (w : World) : Calls Tryz.prog 5 #[] w fun e w' => e = .returned (.bool true) ∧ Below w.heap.size w w' := by
  obtain ⟨N, hN⟩ : ∃ N, N = w.heap.size := ⟨_, rfl⟩
  go_enter Tryz.func5, Tryz.ntmps5
  go_wp2_with fail
  refine (new_n 3 1 w (by decide) (by decide) (by decide) (by decide)).mono ?_
  rw [← hN]
  rintro e w1 ⟨b, rfl, L1, B1⟩
  replace hN := hide hN
  replace L1 := hide L1
  replace B1 := hide B1
  go_wp2_with fail
  refine (ask_n w1 (unhide L1) (few_none _ _) (by decide) 0 1 3 g1).mono ?_
  rintro e w2 ⟨rfl, L2, b2, _⟩
  have B2 := hide ((unhide B1).trans b2)
  replace L2 := hide L2
  clear b2
  go_wp2_with fail
  refine (ask_n w2 (unhide L2) few1 (by decide) 1 2 3 g2).mono ?_
  rintro e w3 ⟨rfl, L3, b2, _⟩
  have B3 := hide ((unhide B2).trans b2)
  replace L3 := hide L3
  clear b2
  go_wp2_with fail
  refine (ask_n w3 (unhide L3) few1 (by decide) 0 1 5 g3).mono ?_
  rintro e w4 ⟨rfl, L4, b2, _⟩
  have B4 := hide ((unhide B3).trans b2)
  replace L4 := hide L4
  clear b2
  go_wp2_with fail
  refine (len_n w4 (unhide L4) few2 (by decide) g4).mono ?_
  rintro e w5 ⟨rfl, b2⟩
  have B5 := hide (bt (unhide B4) b2 (unhide L4).low)
  clear b2
  go_wp2
  go_ret
  exact ⟨rfl, by rw [← unhide hN]; exact unhide B5⟩
end Go.Proofs.YtgiklggnolbiiaaGreat

/- TableOrder: what the walk wants, plainly; SameLocks. -/
namespace Go.Proofs.YtgiklggnolbiiaaGreat
open Go.RowKit

/-- Each lane in order, of k entries at most. -/
structure Gd (n k : Nat) (T : Nat → Lv) : Prop where
  fine : ∀ i, i < n → Fine (T i).1 (T i).2
  sum : ∀ i, i < n → (T i).1.length + (T i).2.length ≤ k
variable {n k : Nat} {most : Int} {T : Nat → Lv} {who node m : Int}
theorem gd_none (n k : Nat) : Gd n k none0 := ⟨fun _ _ => fine_nil, fun _ _ => Nat.zero_le _⟩
theorem Gd.few (h : Gd n k T) (hk : k ≤ 1000) : Few n 1000 T := fun i hi => by have := h.sum i hi; omega
theorem Gd.up (h : Gd n k T) {k' : Nat} (hk : k ≤ k') : Gd n k' T := ⟨h.fine, fun i hi => Nat.le_trans (h.sum i hi) hk⟩
theorem Gd.set (h : Gd n k T) (i : Nat) {x : Lv} (hx : Fine x.1 x.2) (hl : x.1.length + x.2.length ≤ k) : Gd n k (upd T i x) := by
  refine ⟨fun j hj => ?_, fun j hj => ?_⟩
  · by_cases e : j = i
    · subst e; rw [upd_same]; exact hx
    · rw [upd_other T x e]; exact h.fine j hj
  · by_cases e : j = i
    · subst e; rw [upd_same]; exact hl
    · rw [upd_other T x e]; exact h.sum j hj
theorem ask_yes (h : errD n most T who node m = 0) : askT n most T who node m = (((askD who m (T node.toNat).1 (T node.toNat).2).1, 0), upd T node.toNat (askD who m (T node.toNat).1 (T node.toNat).2).2) := by
  unfold askT; rw [if_pos h]
theorem ask_not (h : errD n most T who node m ≠ 0) : askT n most T who node m = ((0, errD n most T who node m), T) := by
  unfold askT; rw [if_neg h]
theorem gd_ask (hs : ∀ i, i < n → Srt (T i).1) (h : Gd n k T) : Gd n (k + 1) (askT n most T who node m).2 := by
  by_cases h0 : errD n most T who node m = 0
  · obtain ⟨p1, p2, _⟩ := err_node h0
    rw [ask_yes h0]
    have hi : node.toNat < n := by omega
    have f := h.fine _ hi
    refine (h.up (Nat.le_succ k)).set _ (ask_fine who m (hs _ hi) f).1 ?_
    have h1 := (ask_ok who m (hs _ hi) f.ok).2.1
    have h2 := h.sum _ hi
    omega
  · rw [ask_not h0]
    exact h.up (Nat.le_succ k)
theorem ask_other {H Q : List En} {a b m : Int} (hs : Srt H) (h : b ≠ a) : lookD b (askD a m H Q).2.1 = lookD b H := by
  unfold askD
  split
  · dsimp only
    split
    · rfl
    · split
      · exact look_put hs h
      · rfl
  · rfl
theorem held_other {b : Int} (hs : ∀ i, i < n → Srt (T i).1) (hb : b ≠ who) : heldD b (askT n most T who node m).2 n = heldD b T n := by
  by_cases h0 : errD n most T who node m = 0
  · obtain ⟨p1, p2, _⟩ := err_node h0
    rw [ask_yes h0]
    refine held_same b n (fun i hi => ?_)
    by_cases e : i = node.toNat
    · subst e
      show lookD b (upd _ _ _ _).1 = _
      rw [upd_same]
      exact ask_other (hs _ hi) hb
    · show lookD b (upd _ _ _ _).1 = _
      rw [upd_other _ _ e]
  · rw [ask_not h0]
theorem ask_cov (hs : ∀ i, i < n → Srt (T i).1) (h : Gd n k T) (he : (askT n most T who node m).1.2 = 0) (hr : (askT n most T who node m).1.1 = 1) : 0 ≤ node ∧ node < n ∧ coversB (lookD who ((askT n most T who node m).2 node.toNat).1) m = true := by
  by_cases h0 : errD n most T who node m = 0
  · obtain ⟨p1, p2, _⟩ := err_node h0
    rw [ask_yes h0] at hr ⊢
    have hi : node.toNat < n := by omega
    refine ⟨p1, p2, ?_⟩
    show coversB (lookD who (upd _ _ _ _).1) m = true
    rw [upd_same]
    exact ((ask_fine who m (hs _ hi) (h.fine _ hi)).2.1 hr).1
  · rw [ask_not h0] at he
    exact absurd he h0
theorem held_at (who : Int) (T : Nat → Lv) (n : Nat) {i : Nat} (hi : i < (heldD who T n).length) : ∃ j : Nat, j < n ∧ ((heldD who T n).getD i (0, 0)).1 = (j : Int) ∧ ((heldD who T n).getD i (0, 0)).2 = lookD who (T j).1 := by
  obtain ⟨j, h1, h2⟩ := held_mem who T n _ (show (heldD who T n).getD i (0, 0) ∈ heldD who T n by simp [List.getD, hi])
  exact ⟨j, h1, by rw [h2], by rw [h2]⟩
theorem held_rise (who : Int) (T : Nat → Lv) (n : Nat) {i : Nat} (hi : i + 1 < (heldD who T n).length) : ((heldD who T n).getD i (0, 0)).1 < ((heldD who T n).getD (i + 1) (0, 0)).1 := by
  have := List.pairwise_iff_getElem.1 (held_srt who T n) i (i + 1) (by omega) hi (by omega)
  simpa [List.getD, hi, show i < (heldD who T n).length by omega] using this
end Go.Proofs.YtgiklggnolbiiaaGreat

/- slices.Backward over a table's rows: from the last one down. -/
namespace Go.Proofs.YtgiklggnolbiiaaGreat
open Go.RowKit Go.Shelf

attribute [local go_sem] Oper.semAt_some

variable {X : Nat → Prop}
/-- The rows of pointers and the boxes of slices of rows stay, and the blocks of X. -/
def Kr (X : Nat → Prop) (W W' : World) : Prop := ∀ (k : Nat) (cur : Array Value) (t : TypeId), W.heap[k]? = some (.cells cur t (0, 0)) → t = 78 ∨ t = 42 ∨ t = 32 ∨ X k → W'.heap[k]? = some (.cells cur t (0, 0))
theorem kr_refl (W : World) : Kr X W W := fun _ _ _ h _ => h
theorem kr_t {A B C : World} (h : Kr X A B) (k : Kr X B C) : Kr X A C := fun j c t hj ht => k j c t (h j c t hj ht) ht
theorem kr_b (W : World) (l : Nat) (o o' : Obj) (hl : W.heap[l]? = some o) (ho : o.isCells = false) : Kr X W (W.putObj l o') := fun j c t hj _ => by
  refine (World.putObj_heap_other (fun e => ?_)).trans hj
  subst e
  rw [hl] at hj
  cases hj
  cases ho
theorem kr_alloc (W : World) (o : Obj) : Kr X W (W.alloc o) := fun j _ _ hj _ => ((below_new W o).block j (heap_lt hj)).trans hj
/-- The blocks of X lie below P, and none of them is one of the lanes'. -/
def Fn (X : Nat → Prop) (N P : Nat) (lb : Nat → Nat) (hv qv : Nat → Value) : Prop := ∀ j, X j → j < P ∧ ∀ i, i < N → j ≠ lb i ∧ (hv i).ownBlock ≠ some j ∧ (qv i).ownBlock ≠ some j
/-- The places from N - 1 down to m. -/
def dn (N m : Nat) : List Nat := (List.range (N - m)).map (fun j => N - 1 - j)
theorem dn_step {N m : Nat} (hm : m < N) : dn N m = dn N (m + 1) ++ [m] := by
  unfold dn
  rw [show N - m = (N - (m + 1)) + 1 by omega, List.range_succ, List.map_append]
  congr 1
  simp
  omega
theorem dn_len (N m : Nat) : (dn N m).length = N - m := by simp [dn]
theorem dn_none (N : Nat) : dn N N = [] := by simp [dn]
theorem dn_lt {N m x : Nat} (h : x ∈ dn N m) : x < N := by
  unfold dn at h
  obtain ⟨j, hj, rfl⟩ := List.mem_map.1 h
  have := List.mem_range.1 hj
  omega
set_option maxRecDepth 100000 in
set_option maxHeartbeats 2000000 in
theorem back1_in (F : Fence) (n : Nat) (hF : F.fn 85) (hro : F.round = none) (hn : 1 ≤ n) (l Bs rb N : Nat) (lb : Nat → Nat) (hN : N ≤ 10000) (J Jx : List Nat → World → Prop)
    (hY : ∀ pre x W, x < N → J pre W → pre.length < N → YieldAt F (n - 1) Tryz.prog l #[.int .i64 ((x : Nat) : Int), .agg #[.pointer (some ⟨lb x, 0, none⟩)]] W fun e W' =>
      (e = .returned (.bool true) ∧ J (pre ++ [x]) W' ∧ Kr X W W') ∨ (e = .returned (.bool false) ∧ Jx (pre ++ [x]) W'))
    (W : World) (hBs : W.heap[Bs]? = some (.cells #[.slice (some ⟨rb, 0, none⟩) N N] 42 (0, 0))) (hrow : ∃ cur, W.heap[rb]? = some (.cells cur 78 (0, 0)) ∧ ∀ i, i < N → cur[i]? = some (.pointer (some ⟨lb i, 0, none⟩))) (h0 : J [] W) :
    CallsIn F n Tryz.prog 85 #[.func (.yield l) #[] #[], .pointer (some ⟨Bs, 0, none⟩)] W fun e W' => (∃ v, e = .returned v) ∧
      ((∃ ys, ys = dn N 0 ∧ J ys W') ∨ (∃ pre, True ∧ Jx pre W')) := by
  have cB : ∀ W', Kr X W W' → W'.cell? ⟨Bs, 0, none⟩ = some (.slice (some ⟨rb, 0, none⟩) N N) := fun W' hk => by
    have := hk Bs _ 42 hBs (.inr (.inl rfl))
    simp [World.cell?, this]
  have cR : ∀ W', Kr X W W' → ∀ i, i < N → W'.cell? ⟨rb, i, none⟩ = some (.pointer (some ⟨lb i, 0, none⟩)) := fun W' hk i hi => by
    obtain ⟨cur, h1, h2⟩ := hrow
    have := hk rb _ 78 h1 (.inl rfl)
    simp [World.cell?, this, h2 i hi]
  have c0 := cB W (kr_refl W)
  refine callsIn_of_wp Tryz.func85 rfl hF ?_ hro
  simp only [Tryz.ntmps85, List.size_toArray, List.length_cons, List.length_nil, Nat.reduceAdd, Nat.reduceSub, Array.replicate_succ, Array.replicate_zero, List.push_toArray, List.append_toArray, List.nil_append, List.cons_append]
  gi_wp2
  gi_loopw [3] (fun i wr => ∃ m : Nat, m ≤ N ∧ i = .int .i64 ((m : Int) - 1) ∧ J (dn N m) wr ∧ Kr X W wr)
    (fun i _ => (intOf i + 1).toNat)
  case atStart => exact ⟨N, Nat.le_refl _, rfl, by rw [dn_none]; exact h0, kr_refl _⟩
  case round =>
    obtain ⟨m, hm, rfl, hJs, hk⟩ := hrel
    rcases m with _ | m
    · gi_wp2
      go_end0
      exact ⟨⟨_, rfl⟩, .inl ⟨_, rfl, hJs⟩⟩
    · have e1 : ((m + 1 : Nat) : Int) - 1 = (m : Int) := by omega
      rw [e1]
      have b1 := cB _ hk
      have b2 := cR _ hk m (by omega)
      have hmN : (m : Int) < (N : Int) := by omega
      have hmN2 : m < N := by omega
      obtain ⟨fn, tmps, assign, body, hy, hR⟩ := hY _ m _ hmN2 hJs (by rw [dn_len]; omega)
      gi_wp2
      refine hR.mono ?_
      rintro e W3 (⟨rfl, hJ3, hk3⟩ | ⟨rfl, hJx3⟩)
      · gi_wp2
        go_roundw
        case rel => exact ⟨m, by omega, by go_num, by rw [dn_step hmN2]; exact hJ3, kr_t hk hk3⟩
        case measure => simp [intOf] <;> omega
      · gi_wp2
        refine bodyPost_ret (results_none rfl _ _ _) rfl ?_
        exact ⟨⟨_, rfl⟩, .inr ⟨_, trivial, hJx3⟩⟩
set_option maxHeartbeats 1000000 in
/-- slices.Backward(s): the slice value is boxed; the function value captures the box. -/
theorem back_in (F : Fence) (n : Nat) (hF : F.fn 40) (hro : F.round = none) (a : Option Addr) (len cap : Nat) (w : World) :
    CallsIn F n Tryz.prog 40 #[.slice a len cap] w fun e w' => e = .returned (.func (.func 85) #[] #[.pointer (some ⟨w.heap.size, 0, none⟩)]) ∧ w' = w.alloc (.cells #[.slice a len cap] 42) := by
  refine callsIn_of_wp Tryz.func40 rfl hF ?_ hro
  simp only [Tryz.ntmps40, List.size_toArray, List.length_cons, List.length_nil, Nat.reduceAdd, Nat.reduceSub, Array.replicate_succ, Array.replicate_zero, List.push_toArray, List.append_toArray, List.nil_append, List.cons_append]
  gi_wp2
  go_ret
  exact ⟨rfl, rfl⟩
theorem back_stops (F : Fence) (n : Nat) (hF : F.fn 85) (hro : F.round = none) (hn : 1 ≤ n) (Bs rb N : Nat) (lb : Nat → Nat) (hN : N ≤ 10000) (w : World)
    (hBs : w.heap[Bs]? = some (.cells #[.slice (some ⟨rb, 0, none⟩) N N] 42 (0, 0))) (hrow : ∃ cur, w.heap[rb]? = some (.cells cur 78 (0, 0)) ∧ ∀ i, i < N → cur[i]? = some (.pointer (some ⟨lb i, 0, none⟩))) :
    SeqStopsK F n Tryz.prog 85 #[.pointer (some ⟨Bs, 0, none⟩)] (fun x : { x : Nat // x < N } => #[Value.int .i64 (x.1 : Int), .agg #[.pointer (some ⟨lb x.1, 0, none⟩)]]) (Kr X) (fun ys => ys.map (·.1) = dn N 0) (fun _ => True) N w := fun l J Jx W hW _ _ hY h0 => by
  obtain ⟨cur, h1, h2⟩ := hrow
  refine (back1_in (X := X) F n hF hro hn l Bs rb N lb hN (fun pre W => ∃ p : List { x : Nat // x < N }, p.map (·.1) = pre ∧ J p W) (fun pre W => ∃ p : List { x : Nat // x < N }, p.map (·.1) = pre ∧ Jx p W) ?_ W ((hW.block _ (heap_lt hBs)).trans hBs) ⟨cur, (hW.block _ (heap_lt h1)).trans h1, h2⟩ ⟨[], rfl, h0⟩).mono ?_
  · rintro pre x W1 hx ⟨p, rfl, hp⟩ hl
    refine (hY p ⟨x, hx⟩ W1 hp (by simpa using hl)).mono ?_
    rintro e W' (⟨e1, e2, e3⟩ | ⟨e1, e2⟩)
    · exact .inl ⟨e1, ⟨_, by simp, e2⟩, e3⟩
    · exact .inr ⟨e1, ⟨_, by simp, e2⟩⟩
  · rintro e W' ⟨he, ⟨ys, rfl, p, hp, hJ⟩ | ⟨pre, _, p, _, hJ⟩⟩
    · exact ⟨he, .inl ⟨p, hp, hJ⟩⟩
    · exact ⟨he, .inr ⟨p, trivial, hJ⟩⟩
end Go.Proofs.YtgiklggnolbiiaaGreat

/- Drop: what it does, lane by lane; what stays where only lanes are turned. -/
namespace Go.Proofs.YtgiklggnolbiiaaGreat
open Go.RowKit
variable {X : Nat → Prop}

/-- One lane's turn: who were granted so far, and the lanes. -/
def dropS (who : Int) (s : List Int × (Nat → Lv)) (x : Nat) : List Int × (Nat → Lv) :=
  if hasL who (s.2 x) then (s.1 ++ (leaveD who (s.2 x).1 (s.2 x).2).1, upd s.2 x (leaveD who (s.2 x).1 (s.2 x).2).2) else s
def dropD (who : Int) (T : Nat → Lv) (xs : List Nat) : List Int × (Nat → Lv) := xs.foldl (dropS who) ([], T)
theorem drop_snoc (who : Int) (T : Nat → Lv) (xs : List Nat) (x : Nat) : dropD who T (xs ++ [x]) = dropS who (dropD who T xs) x := by
  unfold dropD; rw [List.foldl_append]; rfl
theorem leave_few {who : Int} {H Q : List En} : (leaveD who H Q).1.length ≤ Q.length := by
  unfold leaveD
  simp only [List.length_map, List.length_take]
  have := out_len who Q
  omega
theorem grant_srt : ∀ (Q H : List En), Srt H → Srt (grantD H Q).2
  | [], _, h => h
  | x :: r, H, h => by
    unfold grantD
    split
    · exact grant_srt r _ (srt_put h)
    · exact h
theorem leave_srt {who : Int} {H Q : List En} (hs : Srt H) : Srt (leaveD who H Q).2.1 := by
  unfold leaveD
  exact grant_srt (out1 who Q) (out1 who H) (out_srt hs)
theorem gd_drop {n k : Nat} {who : Int} {s : List Int × (Nat → Lv)} {x : Nat} (hx : x < n) (hs : Srt (s.2 x).1) (h : Gd n k s.2) : Gd n k (dropS who s x).2 := by
  unfold dropS
  split
  · have f := h.fine x hx
    refine h.set x (leave_fine who hs f).1 ?_
    have h1 := (leave_ok who hs f.ok).2.1
    have h2 := h.sum x hx
    exact Nat.le_trans h1 h2
  · exact h
theorem drop_len {n k : Nat} {who : Int} {s : List Int × (Nat → Lv)} {x : Nat} (hx : x < n) (h : Gd n k s.2) : (dropS who s x).1.length ≤ s.1.length + k := by
  unfold dropS
  split
  · have h1 := leave_few (who := who) (H := (s.2 x).1) (Q := (s.2 x).2)
    have h2 := h.sum x hx
    simp only [List.length_append]
    omega
  · omega
/-- All cells stay. -/
def Cz (W W' : World) : Prop := ∀ (k : Nat) (cur : Array Value) (t : TypeId) (f : Nat × Nat), W.heap[k]? = some (.cells cur t f) → W'.heap[k]? = some (.cells cur t f)
theorem cz_own {B : Nat} {W W' : World} {row : Option Nat} (hg : W.grownBy W' row) (hr : ∀ r, row = some r → B ≤ r ∧ ∃ o : Obj, W.heap[r]? = some o ∧ o.isCells = false) : Cz W W' := fun k cur t f hk =>
  (hg.block k (heap_lt hk) (fun e => by
    obtain ⟨_, o, ho, hc⟩ := hr k e.symm
    rw [hk] at ho
    cases ho
    cases hc)).trans hk
theorem Es.cz {B : Nat} {v : Value} {l : List En} {w w' : World} (h : Es B v l w) (k : Cz w w') : Es B v l w' := h.keep fun g hg => by
  obtain ⟨cur, hc⟩ := h.ty g hg
  rw [k g _ _ _ hc, hc]
theorem Is.cz {B : Nat} {v : Value} {l : List Int} {w w' : World} (h : Is B v l w) (k : Cz w w') : Is B v l w' := h.keep fun g hg => by
  obtain ⟨cur, hc⟩ := h.ty g hg
  rw [k g _ _ _ hc, hc]
theorem La.cz {B b : Nat} {H Q : List En} {hv qv : Value} {w w' : World} (h : La B H Q b hv qv w) (k : Cz w w') : La B H Q b hv qv w' := ⟨k _ _ _ _ h.blk, h.hr.cz k, h.qr.cz k, h.dq, h.bB, h.srt⟩
theorem Tb.cz {B n : Nat} {most : Int} {T : Nat → Lv} {b rb : Nat} {lb : Nat → Nat} {hv qv : Nat → Value} {w w' : World} (h : Tb B n most T b rb lb hv qv w) (k : Cz w w') : Tb B n most T b rb lb hv qv w' :=
  ⟨k _ _ _ _ h.blk, ⟨_, k _ _ _ _ h.row.choose_spec.1, h.row.choose_spec.2⟩, ⟨fun i hi => (h.ls.la i hi).cz k, h.ls.inj, h.ls.apart⟩, h.bB, h.rB⟩
theorem not_cells {o : Obj} {cur : Array Value} {t : TypeId} {f : Nat × Nat} (h : o = .cells cur t f) (ho : o.isCells = false) : False := by
  subst h; cases ho
/-- What is no cells stays where a lane is turned. -/
theorem Mv.others {B b : Nat} {H Q : List En} {hv qv hv' qv' : Value} {w w' : World} (m : Mv b hv qv hv' qv' w w') (l : La B H Q b hv qv w) : KeepsOthers w w' := by
  refine ⟨m.size, fun k o hk ho => (m.block k (heap_lt hk) (fun e => ?_) (fun e => ?_) (fun e => ?_)).trans hk⟩
  · rw [e, l.blk] at hk
    exact not_cells (Option.some.inj hk).symm ho
  · obtain ⟨c, hc⟩ := l.hr.ty k e
    rw [hc] at hk
    exact not_cells (Option.some.inj hk).symm ho
  · obtain ⟨c, hc⟩ := l.qr.ty k e
    rw [hc] at hk
    exact not_cells (Option.some.inj hk).symm ho
theorem Is.others {B : Nat} {v : Value} {l : List Int} {w w' : World} (h : Is B v l w) (g : w.grownBy w' v.ownBlock) : KeepsOthers w w' :=
  ⟨g.size, fun k o hk ho => (g.block k (heap_lt hk) (fun e => by
    obtain ⟨c, hc⟩ := h.ty k e.symm
    rw [hc] at hk
    exact not_cells (Option.some.inj hk).symm ho)).trans hk⟩
theorem below_others {w w' : World} (h : Below w.heap.size w w') : KeepsOthers w w' := ⟨h.size, fun k _ hk _ => (h.block k (heap_lt hk)).trans hk⟩
theorem below_kr {w w' : World} (h : Below w.heap.size w w') : Kr X w w' := fun k _ _ hk _ => (h.block k (heap_lt hk)).trans hk
/-- Numbers behind numbers: append of a row that may be nil. -/
theorem app_is {M M' : Nat} {u v : Value} {l m : List Int} {w : World} (ty : TypeId) (hu : Is M u l w) (hv : Is M' v m w) (hM : M ≤ w.heap.size) (hl : l.length + m.length ≤ 100000000) :
    ∃ v' w', (Builtin.append_ #[36, 36] ty #[u, v]).run Tryz.prog w = .ok v' w' ∧ Is M v' (l ++ m) w' ∧ w.grownBy w' u.ownBlock := by
  obtain ⟨i0, hi, hz0, hz1, hz2⟩ := info_parts inf3
  have up : ∀ v' w', w'.ownsRow M 3 1 v' (l.length + m.length) (vals l ++ vals m) → Is M v' (l ++ m) w' := fun v' w' h => by
    unfold Is vals
    rw [List.length_append, List.map_append]
    exact h
  rcases hv.2 with ⟨rfl, h0⟩ | ⟨g, cap, cur, rfl, hB, hg, h2, h3, h4, h5⟩
  · obtain rfl : m = [] := List.eq_nil_of_length_eq_zero h0
    have hr := run_append_owned_none (P := Tryz.prog) (w := w) M 36 ty 3 i0 1 Tryz.underlying36 hi u l.length _ hu
    exact ⟨u, w, hr, by rw [List.append_nil]; exact hu, ⟨rfl, rfl, rfl, Nat.le_refl _, fun _ _ _ => rfl⟩⟩
  · have hnews : ∀ j x, (vals m)[j]? = some x → w.cell? ((⟨g, 0, none⟩ : Addr).add j) = some x := fun j x hj => by
      have hjl : j < m.length := by have := (List.getElem?_eq_some_iff.1 hj).1; simpa [vals] using this
      rw [Addr.add_lit, Nat.zero_add, ← hj, ← h5, List.getElem?_take_of_lt (by omega)]
      simp [World.cell?, hg]
    obtain ⟨v', w', hr, o2, o3, _⟩ := run_append_own (P := Tryz.prog) w M 36 ty 3 i0 (.int .i64 0) 1 8 Tryz.underlying36 hi hz0 hz1 hz2 rfl (by decide) u l.length _ hu ⟨g, 0, none⟩ m.length cap (vals m) (by simp [vals]) hnews (vals_one m) (by unfold maxLen; omega) (by omega) hM
    exact ⟨v', w', hr, up v' w' o2, o3⟩
/-- append, its run being known. -/
theorem stepIn_app {F : Fence} {n : Nat} {P : Program} {w w' : World} {ops : Array Oper} {o : Oper} {a : Act} {K : Act → World → Prop} {Q : Exit → Act → World → Prop} {E : Prop} {u v v' : Value} (hg : o.guard = none) (s x : Operand)
    (hop : o.op = Op.call { callee := Callee.builtin Builtin.append, args := #[s, x], argTypes := #[36, 36] }) (hs : a.eval s = u) (hx : a.eval x = v) (hr : (Builtin.append_ #[36, 36] o.type #[u, v]).run P w = .ok v' w') (hK : K (a.put o.dst v') w') :
    if Region.wanted o (yielded ops a.tmps) = true then Oper.wpIn F n P o a w K Q else E := by
  have hw : Region.wanted o (yielded ops a.tmps) = true := by simp [Region.wanted, hg]
  rw [if_pos hw]
  unfold Oper.wpIn
  refine ⟨?_, ?_⟩
  · simp [Oper.about, hop, resolve, Target.leads, Sem.run_pure]
  · rw [Oper.semAt_plain F _ _ (by rw [hop]; intro c hc'; cases hc')]
    simp [execOp, hop, resolve, invoke, builtin, hs, hx, hr, Result.andThen]
    exact hK
/-- All cells stay but numbers and boxes of slices of numbers. -/
def Cy (W W' : World) : Prop := ∀ (k : Nat) (cur : Array Value) (t : TypeId) (f : Nat × Nat), W.heap[k]? = some (.cells cur t f) → t ≠ 3 → t ≠ 36 → W'.heap[k]? = some (.cells cur t f)
theorem Es.cy {B : Nat} {v : Value} {l : List En} {w w' : World} (h : Es B v l w) (k : Cy w w') : Es B v l w' := h.keep fun g hg => by
  obtain ⟨cur, hc⟩ := h.ty g hg
  rw [k g _ _ _ hc (by decide) (by decide), hc]
theorem La.cy {B b : Nat} {H Q : List En} {hv qv : Value} {w w' : World} (h : La B H Q b hv qv w) (k : Cy w w') : La B H Q b hv qv w' := ⟨k _ _ _ _ h.blk (by decide) (by decide), h.hr.cy k, h.qr.cy k, h.dq, h.bB, h.srt⟩
theorem Tb.cy {B n : Nat} {most : Int} {T : Nat → Lv} {b rb : Nat} {lb : Nat → Nat} {hv qv : Nat → Value} {w w' : World} (h : Tb B n most T b rb lb hv qv w) (k : Cy w w') : Tb B n most T b rb lb hv qv w' :=
  ⟨k _ _ _ _ h.blk (by decide) (by decide), ⟨_, k _ _ _ _ h.row.choose_spec.1 (by decide) (by decide), h.row.choose_spec.2⟩, ⟨fun i hi => (h.ls.la i hi).cy k, h.ls.inj, h.ls.apart⟩, h.bB, h.rB⟩
theorem cy_is {M : Nat} {v : Value} {l : List Int} {w w' : World} (h : Is M v l w) (g : w.grownBy w' v.ownBlock) : Cy w w' := fun k cur t f hk h3 _ =>
  (g.block k (heap_lt hk) (fun e => by
    obtain ⟨c, hc⟩ := h.ty k e.symm
    rw [hk] at hc
    cases hc
    exact h3 rfl)).trans hk
theorem cy_set {w : World} {G : Nat} {gv : Value} (h : w.heap[G]? = some (.cells #[gv] 36 (0, 0))) (v : Value) : Cy w (w.setCell ⟨G, 0, none⟩ v) := fun k cur t f hk _ h4 =>
  (set_other _ _ _ _ _ (fun e => by
    rw [e, h] at hk
    cases hk
    exact h4 rfl)).trans hk
/-- A lane that who leaves: what was granted goes behind what was granted before. -/
theorem drop_round {B N : Nat} {most : Int} {S : Nat → Lv} {a : List Int} {b rb : Nat} {lb : Nat → Nat} {hv qv : Nat → Value} {V : World} {P G M : Nat} {gv : Value} {who : Int}
    (t : Tb B N most S b rb lb hv qv V) (g1 : V.heap[G]? = some (.cells #[gv] 36 (0, 0))) (i1 : Is M gv a V) (p1 : V.heap[P]? = some (.cells #[.int .i64 who] 3 (0, 0))) (hPM : P < M) (hMV : M ≤ V.heap.size) (hX : Fn X N P lb hv qv) (hPG2 : P < G) {k : Nat} (hk : k < N) {gl hv' qv' : Value} {l : List Int} {x : Lv} {w6 : World}
    (I6 : Is V.heap.size gl l w6) (L6 : La B x.1 x.2 (lb k) hv' qv' w6) (M6 : Mv (lb k) (hv k) (qv k) hv' qv' V w6) (hl : a.length + l.length ≤ 100000000) (hBM : B ≤ M) :
    w6.cell? ⟨G, 0, none⟩ = some gv ∧ ∃ v' w7, (Builtin.append_ #[36, 36] 36 #[gv, gl]).run Tryz.prog w6 = .ok v' w7 ∧ w7.cell? ⟨G, 0, none⟩ = some gv ∧ w7.frozen? ⟨G, 0, none⟩ = false ∧
      KeepsOthers V (w7.setCell ⟨G, 0, none⟩ v') ∧ Kr X V (w7.setCell ⟨G, 0, none⟩ v') ∧ (Tb B N most (upd S k x) b rb lb (set1 hv k hv') (set1 qv k qv') (w7.setCell ⟨G, 0, none⟩ v') ∧ Fn X N P lb (set1 hv k hv') (set1 qv k qv')) ∧ (w7.setCell ⟨G, 0, none⟩ v').heap[G]? = some (.cells #[v'] 36 (0, 0)) ∧
      Is M v' (a ++ l) (w7.setCell ⟨G, 0, none⟩ v') ∧ (w7.setCell ⟨G, 0, none⟩ v').heap[P]? = some (.cells #[.int .i64 who] 3 (0, 0)) ∧ V.heap.size ≤ (w7.setCell ⟨G, 0, none⟩ v').heap.size ∧ (B ≤ G → Below B V (w7.setCell ⟨G, 0, none⟩ v')) := by
  have la := t.ls.la k hk
  have t6 := t.step hk M6 L6
  have g6 := M6.stays la g1 (by decide) (by decide)
  have p6 := M6.stays la p1 (by decide) (by decide)
  have i6 := i1.moved la M6
  obtain ⟨v', w7, hr, i7, gr⟩ := app_is (ty := 36) i6 I6 (Nat.le_trans hMV M6.size) hl
  have c7 := cy_is i6 gr
  have gne : gv.ownBlock ≠ some G := fun e => by
    obtain ⟨c, hc⟩ := i6.ty G e
    rw [g6] at hc; cases hc
  have pne : gv.ownBlock ≠ some P := fun e => by have := (i6.lt P e).1; omega
  have g7 : w7.heap[G]? = some (.cells #[gv] 36 (0, 0)) := (gr.block G (heap_lt g6) (fun e => gne e.symm)).trans g6
  have p7 : w7.heap[P]? = some (.cells #[.int .i64 who] 3 (0, 0)) := (gr.block P (heap_lt p6) (fun e => pne e.symm)).trans p6
  have c8 := cy_set g7 v'
  have sz : V.heap.size ≤ (w7.setCell ⟨G, 0, none⟩ v').heap.size := by
    show V.heap.size ≤ (w7.heap.modify G _).size
    rw [Array.size_modify]
    exact Nat.le_trans M6.size gr.size
  have hPG : P ≠ G := fun e => by rw [e, g7] at p7; cases p7
  have hF : Fn X N P lb (set1 hv k hv') (set1 qv k qv') := fun j hj => by
    obtain ⟨hjP, hjf⟩ := hX j hj
    refine ⟨hjP, fun i hi => ?_⟩
    by_cases e : i = k
    · subst e
      rw [set1_same, set1_same]
      refine ⟨(hjf i hi).1, fun e2 => ?_, fun e2 => ?_⟩
      · rcases M6.ha j e2 with h | h
        · exact (hjf i hi).2.1 h
        · omega
      · rcases M6.qa j e2 with h | h
        · exact (hjf i hi).2.2 h
        · omega
    · rw [set1_other hv hv' e, set1_other qv qv' e]
      exact hjf i hi
  refine ⟨by simp [World.cell?, g6], v', w7, hr, by simp [World.cell?, g7], by simp [World.frozen?, g7], ?_, ?_, ⟨(t6.cy c7).cy c8, hF⟩, ?_, ?_, (set_other _ _ _ _ _ hPG).trans p7, sz, fun hG => ?_⟩
  · exact ((M6.others la).trans (i6.others gr)).trans (KeepsOthers.setCell _ _ _)
  · intro j c ty hj ht
    have main : (ty = 78 ∨ ty = 42 ∨ ty = 32) → (w7.setCell ⟨G, 0, none⟩ v').heap[j]? = some (.cells c ty (0, 0)) := fun ht => by
      have h1 : ty ≠ 3 := by rcases ht with rfl | rfl | rfl <;> decide
      have h2 : ty ≠ 36 := by rcases ht with rfl | rfl | rfl <;> decide
      have h3 : ty ≠ 92 := by rcases ht with rfl | rfl | rfl <;> decide
      have h4 : ty ≠ 96 := by rcases ht with rfl | rfl | rfl <;> decide
      exact c8 j c ty _ (c7 j c ty _ (M6.stays la hj h3 h4) h1 h2) h1 h2
    rcases ht with h | h | h | h
    · exact main (.inl h)
    · exact main (.inr (.inl h))
    · exact main (.inr (.inr h))
    · obtain ⟨hjP, hjf⟩ := hX j h
      obtain ⟨e1, e2, e3⟩ := hjf k hk
      have h6 := (M6.block j (heap_lt hj) e1 e2 e3).trans hj
      have h7 := (gr.block j (heap_lt h6) (fun e => by have := (i6.lt j e.symm).1; omega)).trans h6
      exact (set_other _ _ _ _ _ (by omega)).trans h7
  · show (w7.heap.modify G _)[G]? = _
    rw [Array.getElem?_modify, if_pos rfl, g7]; rfl
  · refine i7.keep fun j hj => set_other _ _ _ _ _ (fun e => ?_)
    obtain ⟨c, hc⟩ := i7.ty j hj
    rw [e, g7] at hc; cases hc
  · exact (((M6.below la).trans (grown_below gr (Nat.le_trans hBM (Nat.le_trans hMV M6.size)) (fun j hj => Nat.le_trans hBM (i6.lt j hj).1)))).setCell (p := ⟨G, 0, none⟩) hG _
end Go.Proofs.YtgiklggnolbiiaaGreat

/- A slice of integers that comes in, as the walks read it. -/
namespace Go.Proofs.YtgiklggnolbiiaaGreat
open Go.RowKit

/-- A slice of integers that came in: nil, or 'cap' cells that hold the numbers 'zs', of which the first 'len' are its elements. -/
def IsRow (k : IntKind) (w : World) (a : Option Addr) (len cap : Nat) (zs : List Int) : Prop :=
  (a = none ∧ len = 0 ∧ cap = 0 ∧ zs = []) ∨
  ∃ x, a = some x ∧ len ≤ cap ∧ cap ≤ maxLen ∧ zs.length = cap ∧ (∀ i, i < zs.length → w.cell? (x.add i) = some (.int k (zs.getD i 0))) ∧ ∀ n ∈ zs, (Lit.int k n).wf = true

theorem isRow_seg {k : IntKind} {w : World} {a : Option Addr} {len cap : Nat} {zs : List Int} (h : IsRow k w a len cap zs) :
    SegK k w a len (zs.take len) ∧ len ≤ cap ∧ cap ≤ maxLen ∧ ∀ n ∈ zs.take len, (Lit.int k n).wf = true := by
  rcases h with ⟨rfl, rfl, rfl, rfl⟩ | ⟨x, rfl, hl, hm, hz, hcell, hwz⟩
  · exact ⟨⟨rfl, .inl rfl⟩, Nat.le_refl _, Nat.zero_le _, by simp⟩
  · refine ⟨⟨by simp; omega, ?_⟩, hl, hm, fun n hn => hwz n (List.mem_of_mem_take hn)⟩
    by_cases h0 : len = 0
    · exact .inl h0
    · obtain ⟨b, off, spot⟩ := x
      have hc := hcell 0 (by omega)
      have hspot : spot = none := by simpa [Addr.add] using World.cell?_spot hc
      subst hspot
      refine .inr ⟨b, off, rfl, fun i hi => ?_⟩
      have := hcell i (by omega)
      simp [Addr.add] at this
      have e : (if i = 0 then (⟨b, off, none⟩ : Addr) else ⟨b, off + i, none⟩) = ⟨b, off + i, none⟩ := by
        by_cases h : i = 0 <;> simp [h]
      rw [e] at this
      rw [this]
      simp [hi]
end Go.Proofs.YtgiklggnolbiiaaGreat

/- append of what was handed in: a slice that is read, nil or not. -/
namespace Go.Proofs.YtgiklggnolbiiaaGreat
open Go.RowKit

theorem addr_add (b off i : Nat) : (⟨b, off, none⟩ : Addr).add i = ⟨b, off + i, none⟩ := by
  by_cases h : i = 0 <;> simp [Addr.add, h]
/-- The cells that hold the numbers of a list. -/
theorem seg_news {w : World} {b off len : Nat} {l : List Int} (hs : SegK .i64 w (some ⟨b, off, none⟩) len l) :
    ∀ j u, (vals l)[j]? = some u → w.cell? ((⟨b, off, none⟩ : Addr).add j) = some u := by
  intro j u hj
  unfold vals at hj
  rw [List.getElem?_map] at hj
  have hjl : j < l.length := by
    rcases Nat.lt_or_ge j l.length with h | h
    · exact h
    · rw [List.getElem?_eq_none (by omega)] at hj; simp at hj
  rw [List.getElem?_eq_getElem hjl] at hj
  obtain rfl : Value.int .i64 l[j] = u := by simpa using hj
  rcases hs.2 with h | ⟨b', off', he, hc⟩
  · have := hs.1; omega
  · obtain ⟨rfl, rfl⟩ : b = b' ∧ off = off' := by simpa using he
    rw [addr_add, hc j (by rw [← hs.1]; exact hjl), List.getD_eq_getElem?_getD, List.getElem?_eq_getElem hjl]
    rfl
theorem vals_len (l : List Int) (n : Nat) (h : l.length = n) : (vals l).length = n * 1 := by simp [vals, h]
/-- What append asks of its second argument: a slice that is read, nil or not. -/
theorem run_append_seg (w : World) (ty : TypeId) (base : Nat) (i0 : TypeInfo) (hi : Tryz.prog.info? 3 = some i0) (hz0 : i0.zero = some (.int .i64 0)) (hz1 : i0.size = 1) (hz2 : i0.bytes = 8)
    (v : Value) (n : Nat) (k : List Int) (hown : w.ownsRow base 3 1 v n (vals k)) (va : Option Addr) (m c : Nat) (l : List Int) (hs : SegK .i64 w va m l) (hnil : va = none → c = 0)
    (hm : n + m ≤ 2000) (hbase : base ≤ w.heap.size) :
    ∃ v' w', (Builtin.append_ #[36, 36] ty #[v, .slice va m c]).run Tryz.prog w = .ok v' w' ∧ w'.ownsRow base 3 1 v' (n + m) (vals (k ++ l)) ∧ w.grownBy w' v.ownBlock := by
  cases va with
  | none =>
    obtain rfl := hnil rfl
    have hm0 : m = 0 := by
      rcases hs.2 with h | ⟨_, _, h, _⟩
      · exact h
      · cases h
    subst hm0
    obtain rfl : l = [] := List.eq_nil_of_length_eq_zero hs.1
    have hr := run_append_owned_none (P := Tryz.prog) (w := w) base 36 ty 3 i0 1 Tryz.underlying36 hi v n _ hown
    exact ⟨v, w, hr, by simpa using hown, ⟨rfl, rfl, rfl, Nat.le_refl _, fun _ _ _ => rfl⟩⟩
  | some ad =>
    have hnews : ∀ j u, (vals l)[j]? = some u → w.cell? (ad.add j) = some u := by
      rcases hs.2 with h | ⟨b, off, h, _⟩
      · subst h
        obtain rfl : l = [] := List.eq_nil_of_length_eq_zero hs.1
        intro j u hj
        simp [vals] at hj
      · obtain rfl : ad = ⟨b, off, none⟩ := by simpa using h
        exact seg_news hs
    obtain ⟨v', w', hr, h2, h3, _⟩ := run_append_own (P := Tryz.prog) w base 36 ty 3 i0 (.int .i64 0) 1 8 Tryz.underlying36 hi hz0 hz1 hz2 rfl (by decide) v n _ hown ad m c _ (vals_len l m hs.1) hnews (ints_oneCell _ _) (by unfold maxLen; omega) (by omega) hbase
    exact ⟨v', w', hr, by unfold vals at *; rw [List.map_append]; exact h2, h3⟩
theorem wp_append_seg (w : World) {o : Oper} {a : Act} {K : Act → World → Prop} {Q : Exit → Act → World → Prop} (s x : Operand)
    (ho : o.op = .call { callee := .builtin .append, args := #[s, x], argTypes := #[36, 36] })
    (base : Nat) (v : Value) (n : Nat) (k : List Int) (hv : a.eval s = v) (hown : w.ownsRow base 3 1 v n (vals k)) (va : Option Addr) (m c : Nat) (l : List Int) (hx : a.eval x = .slice va m c) (hs : SegK .i64 w va m l) (hnil : va = none → c = 0)
    (hm : n + m ≤ 2000) (hbase : base ≤ w.heap.size)
    (h : ∀ v' w', w'.ownsRow base 3 1 v' (n + m) (vals (k ++ l)) → w.grownBy w' v.ownBlock → K (a.put o.dst v') w') : o.wp Tryz.prog a w K Q := by
  obtain ⟨i0, hi, hz0, hz1, hz2⟩ := info_parts inf3
  obtain ⟨v', w', hr, h2, h3⟩ := run_append_seg w o.type base i0 hi hz0 hz1 hz2 v n k hown va m c l hs hnil hm hbase
  unfold Oper.wp execOp
  simp only [ho, resolve, invoke, builtin, Sem.run_bind, Sem.run_pure, Result.andThen_ok, List.map_toArray, List.map_cons, List.map_nil, hv, hx, hr]
  exact h v' w' h2 h3
theorem wpList_append_seg (w : World) {ops : Array Oper} {rest : List Oper} {o : Oper} {a : Act} {Q : Exit → Act → World → Prop} (hw : Region.wanted o (yielded ops a.tmps) = true) (s x : Operand)
    (ho : o.op = .call { callee := .builtin .append, args := #[s, x], argTypes := #[36, 36] })
    (base : Nat) (v : Value) (n : Nat) (k : List Int) (hv : a.eval s = v) (hown : w.ownsRow base 3 1 v n (vals k)) (va : Option Addr) (m c : Nat) (l : List Int) (hx : a.eval x = .slice va m c) (hs : SegK .i64 w va m l) (hnil : va = none → c = 0)
    (hm : n + m ≤ 2000) (hbase : base ≤ w.heap.size)
    (h : ∀ v' w', w'.ownsRow base 3 1 v' (n + m) (vals (k ++ l)) → w.grownBy w' v.ownBlock → wpList Tryz.prog ops Q rest (a.put o.dst v') w') : wpList Tryz.prog ops Q (o :: rest) a w :=
  wpList_step fun K hK => by
    rw [if_pos hw]
    exact wp_append_seg w s x ho base v n k hv hown va m c l hx hs hnil hm hbase fun v' w' h2 h3 => hK _ _ (h v' w' h2 h3)
theorem isRow_nil {k : IntKind} {w : World} {a : Option Addr} {len cap : Nat} {zs : List Int} (h : IsRow k w a len cap zs) : a = none → cap = 0 := by
  rcases h with ⟨_, _, h, _⟩ | ⟨x, h, _⟩
  · exact fun _ => h
  · rintro rfl; cases h
theorem SegK.at {k : IntKind} {w : World} {a : Option Addr} {len : Nat} {l : List Int} (h : SegK k w a len l) {i : Nat} (hi : i < len) :
    ∃ b off, a = some ⟨b, off, none⟩ ∧ w.cell? ⟨b, off + i, none⟩ = some (.int k (l.getD i 0)) := by
  rcases h.2 with h0 | ⟨b, off, rfl, hc⟩
  · omega
  · exact ⟨b, off, rfl, hc i hi⟩
end Go.Proofs.YtgiklggnolbiiaaGreat

/- LaneFits: the plain facts. -/
namespace Go.Proofs.YtgiklggnolbiiaaGreat
open Go.RowKit
variable {H Q : List En}

theorem once_ne {l : List En} (h : Once l) {i j : Nat} (hij : i < j) (hj : j < l.length) : (l.getD i (0, 0)).1 ≠ (l.getD j (0, 0)).1 := by
  have := List.pairwise_iff_getElem.1 h i j (by omega) hj hij
  simpa [List.getD, hj, show i < l.length by omega] using this
theorem getD_mem {l : List En} {i : Nat} (hi : i < l.length) : l.getD i (0, 0) ∈ l := by simp [List.getD, hi]
theorem blocks_at (h : Once Q) {x : Nat} (hx : x < Q.length) : blocksD (Q.getD x (0, 0)).1 H Q = canon (metD H Q x (Q.getD x (0, 0))) := by
  have e : idxD (isWho (Q.getD x (0, 0)).1) Q = (x : Int) := idx_at hx (fun t ht => by
    have := once_ne h ht hx
    simpa [isWho] using this) (by simp [isWho])
  unfold blocksD
  rw [e]; rfl
theorem take_who {x z : Nat} (hz : z < x) (hx : x ≤ Q.length) : (Q.getD z (0, 0)).1 ∈ (Q.take x).map (·.1) := by
  rw [List.mem_map]
  refine ⟨Q.getD z (0, 0), ?_, rfl⟩
  rw [List.mem_take_iff_getElem]
  exact ⟨z, by omega, by simp [List.getD, show z < Q.length by omega]⟩
theorem wait_facts (h : Fine H Q) {x : Nat} (hx : x < Q.length) (bl : List Int) (hb : bl = blocksD (Q.getD x (0, 0)).1 H Q) :
    0 < bl.length ∧ bl.length ≤ H.length + Q.length ∧ bl.any (fun y => y == (Q.getD x (0, 0)).1) = false ∧ lookD (Q.getD x (0, 0)).1 Q = (Q.getD x (0, 0)).2 ∧ coversB (Q.getD x (0, 0)).2 (lookD (Q.getD x (0, 0)).1 H) = true ∧
    ∀ z, z < x → bl.any (fun y => y == (Q.getD z (0, 0)).1) = true ∧ (lookD (Q.getD x (0, 0)).1 H = 0 ∨ (lookD (Q.getD z (0, 0)).1 H == 0) = false) := by
  rw [blocks_at h.ok.once hx] at hb
  obtain ⟨c1, _⟩ := canon_facts (metD H Q x (Q.getD x (0, 0)))
  rw [← hb] at c1
  have hlen : bl.length ≤ H.length + Q.length := by
    rw [hb]
    unfold canon
    refine Nat.le_trans (Lib.compact_length_le _) ?_
    rw [sortI_len]
    unfold metD
    rw [List.length_append, List.length_map, List.length_map, List.length_take]
    have := List.length_filter_le (fun z => hindD z (Q.getD x (0, 0))) H
    omega
  refine ⟨?_, hlen, ?_, ?_, h.cov _ (getD_mem hx), fun z hz => ⟨?_, ?_⟩⟩
  · have hex : ∃ a, a ∈ metD H Q x (Q.getD x (0, 0)) := by
      unfold metD
      cases x with
      | succ n => exact ⟨_, List.mem_append_left _ (take_who (z := 0) (by omega) (by omega))⟩
      | zero =>
        cases hQ : Q with
        | nil => rw [hQ] at hx; simp at hx
        | cons q r =>
          obtain ⟨a, ha, ha2⟩ := fits_no.1 (h.ok.first q r hQ)
          refine ⟨a.1, List.mem_append_right _ ?_⟩
          rw [List.mem_map]
          exact ⟨a, by rw [List.mem_filter]; exact ⟨ha, by simpa using ha2⟩, rfl⟩
    obtain ⟨a, ha⟩ := hex
    exact List.length_pos_of_mem ((c1 a).2 ha)
  · rw [List.any_eq_false]
    intro a ha e
    have e2 : a = (Q.getD x (0, 0)).1 := by simpa using e
    have := (c1 a).1 ha
    unfold metD at this
    rcases List.mem_append.1 this with h2 | h2
    · obtain ⟨q, hq, e3⟩ := List.mem_map.1 h2
      obtain ⟨j, hj, rfl⟩ := List.mem_take_iff_getElem.1 hq
      have := once_ne h.ok.once (show j < x by omega) hx
      apply this
      rw [← e2, ← e3]
      simp [List.getD, show j < Q.length by omega]
    · obtain ⟨q, hq, e3⟩ := List.mem_map.1 h2
      rw [List.mem_filter] at hq
      have h5 := hq.2
      unfold hindD at h5
      simp only [Bool.and_eq_true, bne_iff_ne] at h5
      exact h5.1 (e3.trans e2)
  · refine (look_at hx (fun t ht => ?_) (by simp [isWho])).symm
    have := once_ne h.ok.once ht hx
    simpa [isWho] using this
  · rw [List.any_eq_true]
    exact ⟨_, (c1 _).2 (by unfold metD; exact List.mem_append_left _ (take_who hz (by omega))), by simp⟩
  · cases e : hasD (Q.getD x (0, 0)).1 H
    · exact .inl (look_no e)
    · right
      have h6 := List.pairwise_iff_getElem.1 h.ahead z x (by omega) hx hz
      have e1 : Q[z] = Q.getD z (0, 0) := by simp [List.getD, show z < Q.length by omega]
      have e2 : Q[x] = Q.getD x (0, 0) := by simp [List.getD, hx]
      rw [e1, e2] at h6
      have h7 := h6 e
      rw [beq_eq_false_iff_ne]
      intro e3
      rw [(look_zero h.ok.hm).1 e3] at h7; cases h7
theorem hold_facts (hs : Srt H) (h : Fine H Q) {x z : Nat} (hz : z < x) (hx : x < H.length) : fitsB (H.getD x (0, 0)).2 (H.getD z (0, 0)).2 = true ∧ (H.getD z (0, 0)).1 < (H.getD x (0, 0)).1 := by
  have := srt_lt hs hz hx
  exact ⟨h.fit _ (getD_mem hx) _ (getD_mem (by omega)) (by omega), this⟩
end Go.Proofs.YtgiklggnolbiiaaGreat

/- LaneEdges: the plain facts. -/
namespace Go.Proofs.YtgiklggnolbiiaaGreat
open Go.RowKit
variable {H Q : List En}

theorem out_last {c : Int} {y : En} (h : y.1 ≠ c) : ∀ (P : List En), out1 c (P ++ [y]) = out1 c P ++ [y]
  | [] => by
    unfold out1
    have e : isWho c y = false := by simpa [isWho] using h
    simp [e]
  | p :: r => by
    have ih := out_last h r
    unfold out1 at ih ⊢
    rw [List.cons_append, List.eraseP_cons, List.eraseP_cons]
    cases e : isWho c p
    · simp only [cond_false, List.cons_append]; rw [ih]
    · simp only [cond_true]
/-- y waits last; whoever waits ahead of it, or holds against it, is in b. -/
def Wt (y : En) (b : List Int) (H Q : List En) : Prop := (∃ P, Q = P ++ [y] ∧ ∀ x ∈ P, x.1 ∈ b) ∧ ∀ h ∈ H, hindD h y = true → h.1 ∈ b
theorem edge_step {y : En} {c : Int} {b : List Int} (hs : Srt H) (h : Fine H Q) (hw : Wt y (c :: b) H Q) (hc : y.1 ≠ c) :
    Wt y b (leaveD c H Q).2.1 (leaveD c H Q).2.2 ∨ (lookD y.1 (leaveD c H Q).2.2 = 0 ∧ lookD y.1 (leaveD c H Q).2.1 = y.2) := by
  obtain ⟨⟨P, hQ, hP⟩, hh⟩ := hw
  have hs1 := out_srt (who := c) hs
  have ho1 := out_once (who := c) h.ok.once
  obtain ⟨i1, _, _, i4, _⟩ := grant_facts (out1 c Q) (out1 c H) hs1 ho1 (fun x hx => h.ok.hm x (out_mem hx)) (fun x hx => h.ok.qm x (out_mem hx))
  obtain ⟨_, k2⟩ := grant_keep (out1 c Q) (out1 c H) hs1
  have hle := grant_le (out1 c Q) (out1 c H)
  have hQ1 : out1 c Q = out1 c P ++ [y] := by rw [hQ]; exact out_last hc P
  have hP1 : ∀ x ∈ out1 c P, x.1 ∈ b := fun x hx => by
    have hx2 : x ∈ out1 c Q := by rw [hQ1]; exact List.mem_append_left _ hx
    have hne := out_gone h.ok.once x hx2
    rcases List.mem_cons.1 (hP x (out_mem hx)) with e | e
    · exact absurd e hne
    · exact e
  have hlen : (out1 c Q).length = (out1 c P).length + 1 := by rw [hQ1]; simp
  unfold leaveD
  by_cases hn : (grantD (out1 c H) (out1 c Q)).1 = (out1 c Q).length
  · right
    constructor
    · show lookD y.1 ((out1 c Q).drop _) = 0
      rw [List.drop_eq_nil_of_le (by omega)]; rfl
    · refine look_uniq i4 (i1 y ?_)
      rw [List.take_of_length_le (by omega), hQ1]
      exact List.mem_append_right _ (List.mem_singleton.2 rfl)
  · left
    have hnp : (grantD (out1 c H) (out1 c Q)).1 ≤ (out1 c P).length := by omega
    refine ⟨⟨(out1 c P).drop (grantD (out1 c H) (out1 c Q)).1, ?_, fun x hx => hP1 x (List.mem_of_mem_drop hx)⟩, fun z hz hz2 => ?_⟩
    · show (out1 c Q).drop (grantD (out1 c H) (out1 c Q)).1 = _
      generalize (grantD (out1 c H) (out1 c Q)).1 = n at hnp ⊢
      rw [hQ1, List.drop_append_of_le_length hnp]
    · rcases k2 z hz with h5 | h5
      · have hne := out_gone (srt_once hs) z h5
        rcases List.mem_cons.1 (hh z (out_mem h5) hz2) with e | e
        · exact absurd e hne
        · exact e
      · refine hP1 z ?_
        generalize (grantD (out1 c H) (out1 c Q)).1 = n at hnp h5
        rw [hQ1, List.take_append_of_le_length hnp] at h5
        exact List.mem_of_mem_take h5
/-- When nobody is left that it waits for, it does not wait. -/
theorem edge_end {y : En} (h : Fine H Q) : ¬ Wt y [] H Q := by
  rintro ⟨⟨P, hQ, hP⟩, hh⟩
  have hPn : P = [] := by
    cases P with
    | nil => rfl
    | cons p r => have := hP p List.mem_cons_self; cases this
  rw [hPn, List.nil_append] at hQ
  obtain ⟨z, hz, hz2⟩ := fits_no.1 (h.ok.first y [] hQ)
  have := hh z hz hz2
  cases this
theorem edge_start (h : Once Q) (hq : 0 < Q.length) : Wt (Q.getD (Q.length - 1) (0, 0)) (blocksD (Q.getD (Q.length - 1) (0, 0)).1 H Q) H Q ∧ ∀ c ∈ blocksD (Q.getD (Q.length - 1) (0, 0)).1 H Q, (Q.getD (Q.length - 1) (0, 0)).1 ≠ c := by
  have hx : Q.length - 1 < Q.length := by omega
  rw [blocks_at h hx]
  obtain ⟨c1, _⟩ := canon_facts (metD H Q (Q.length - 1) (Q.getD (Q.length - 1) (0, 0)))
  refine ⟨⟨⟨Q.take (Q.length - 1), ?_, fun x hx2 => ?_⟩, fun z hz hz2 => ?_⟩, fun c hc e => ?_⟩
  · have e := drop_at hx
    rw [show Q.length - 1 + 1 = Q.length by omega, List.drop_length] at e
    conv => lhs; rw [← List.take_append_drop (Q.length - 1) Q]
    rw [e]
  · refine (c1 _).2 ?_
    unfold metD
    exact List.mem_append_left _ (List.mem_map.2 ⟨x, hx2, rfl⟩)
  · refine (c1 _).2 ?_
    unfold metD
    exact List.mem_append_right _ (List.mem_map.2 ⟨z, List.mem_filter.2 ⟨hz, by simpa using hz2⟩, rfl⟩)
  · have := (c1 c).1 hc
    unfold metD at this
    rcases List.mem_append.1 this with h2 | h2
    · obtain ⟨q, hq2, e3⟩ := List.mem_map.1 h2
      obtain ⟨j, hj, rfl⟩ := List.mem_take_iff_getElem.1 hq2
      have h4 := once_ne h (show j < Q.length - 1 by omega) hx
      apply h4
      rw [e, ← e3]
      simp [List.getD, show j < Q.length by omega]
    · obtain ⟨q, hq2, e3⟩ := List.mem_map.1 h2
      rw [List.mem_filter] at hq2
      have h5 := hq2.2
      unfold hindD at h5
      simp only [Bool.and_eq_true, bne_iff_ne] at h5
      exact h5.1 (e3.trans e.symm)
end Go.Proofs.YtgiklggnolbiiaaGreat

/- LaneEdges: a round, plainly. -/
namespace Go.Proofs.YtgiklggnolbiiaaGreat
open Go.RowKit
variable {H Q : List En}

theorem look_once : ∀ {l : List En} {y : En}, Once l → y ∈ l → lookD y.1 l = y.2
  | [], y, _, h => by cases h
  | p :: r, y, ho, h => by
    obtain ⟨h1, h2⟩ := List.pairwise_cons.1 ho
    unfold lookD
    rcases List.mem_cons.1 h with rfl | h3
    · simp
    · have hne := h1 y h3
      rw [if_neg (by simpa using hne)]
      exact look_once h2 h3
theorem fits_none : ∀ i : Fin 6, fitsB (i.val : Int) 0 = true := by decide +kernel
theorem fits_zero {m : Int} (h : md m) : fitsB m 0 = true := by
  obtain ⟨h1, h2⟩ := h
  obtain ⟨k, rfl⟩ : ∃ k : Nat, m = (k : Int) := ⟨m.toNat, by omega⟩
  exact fits_none ⟨k, by omega⟩
theorem edge_round {y : En} {bl : List Int} {i : Nat} (hi : i < bl.length) (hy : md y.2) (hs : Srt H) (h : Fine H Q) (hne : ∀ c ∈ bl, y.1 ≠ c)
    (hI : Wt y (bl.drop i) H Q ∨ (lookD y.1 Q = 0 ∧ lookD y.1 H = y.2)) :
    (lookD y.1 Q = 0 → fitsB y.2 (lookD (bl.getD i 0) H) = true ∧ (Wt y (bl.drop (i + 1)) H Q ∨ (lookD y.1 Q = 0 ∧ lookD y.1 H = y.2))) ∧
    (lookD y.1 Q ≠ 0 → Wt y (bl.drop (i + 1)) (leaveD (bl.getD i 0) H Q).2.1 (leaveD (bl.getD i 0) H Q).2.2 ∨ (lookD y.1 (leaveD (bl.getD i 0) H Q).2.2 = 0 ∧ lookD y.1 (leaveD (bl.getD i 0) H Q).2.1 = y.2)) := by
  have hmem : bl.getD i 0 ∈ bl := by simp [List.getD, hi]
  have hd : bl.drop i = bl.getD i 0 :: bl.drop (i + 1) := by rw [List.drop_eq_getElem_cons hi]; simp [List.getD, hi]
  have hyn : y.2 ≠ 0 := by have := hy.1; omega
  constructor
  · intro h0
    rcases hI with hw | hr
    · obtain ⟨⟨P, hQ, _⟩, _⟩ := hw
      have : y ∈ Q := by rw [hQ]; exact List.mem_append_right _ (List.mem_singleton.2 rfl)
      have := look_once h.ok.once this
      omega
    · refine ⟨?_, .inr hr⟩
      have hyH : (y.1, y.2) ∈ H := by
        cases hh : hasD y.1 H
        · have := look_no hh; omega
        · have := look_mem hh; rw [hr.2] at this; exact this
      cases hc : hasD (bl.getD i 0) H
      · rw [look_no hc]; exact fits_zero hy
      · exact h.fit _ hyH _ (look_mem hc) (hne _ hmem)
  · intro h0
    rcases hI with hw | hr
    · rw [hd] at hw
      exact edge_step hs h hw (hne _ hmem)
    · exact absurd hr.1 h0
theorem edge_last {y : En} {bl : List Int} (h : Fine H Q) (hI : Wt y (bl.drop bl.length) H Q ∨ (lookD y.1 Q = 0 ∧ lookD y.1 H = y.2)) : lookD y.1 Q = 0 ∧ lookD y.1 H = y.2 := by
  rcases hI with hw | hr
  · rw [List.drop_length] at hw
    exact absurd hw (edge_end h)
  · exact hr
theorem met_len (i : Nat) (y : En) : (metD H Q i y).length ≤ Q.length + H.length := by
  unfold metD
  rw [List.length_append, List.length_map, List.length_map, List.length_take]
  have := List.length_filter_le (fun x => hindD x y) H
  omega
theorem blocks_len (who : Int) : (blocksD who H Q).length ≤ Q.length + H.length := by
  unfold blocksD
  split
  · rename_i i _
    refine Nat.le_trans (Lib.compact_length_le _) ?_
    rw [sortI_len]
    exact met_len _ _
  · simp
end Go.Proofs.YtgiklggnolbiiaaGreat
