/- conversions, mayPass, hold, wait. -/
import Derived.Test.YtmdbmkekdpbliaaTurn
import Derived.Deep.RegionHeld3
import Derived.BigRegion
namespace Go.Proofs.Ytmdbmkekdpbliaa
open Go.RowKit
variable {B : Nat} {H Q : List En} {b : Nat} {hv qv : Value}

/-- How many of those that wait, from the first on, hold something. -/
def convD (H : List En) : List En → Nat
  | [] => 0
  | x :: r => if lookD x.1 H == 0 then 0 else convD H r + 1
theorem conv_at (H : List En) : ∀ (l : List En) (i : Nat), i < l.length → (∀ t, t < i → (lookD (l.getD t (0, 0)).1 H == 0) = false) → (lookD (l.getD i (0, 0)).1 H == 0) = true → convD H l = i
  | [], i, h, _, _ => by simp at h
  | x :: r, 0, _, _, h => by
    have h2 : (lookD x.1 H == 0) = true := h
    unfold convD; rw [h2]; rfl
  | x :: r, i + 1, hi, h1, h2 => by
    have h0 : (lookD x.1 H == 0) = false := h1 0 (by omega)
    unfold convD
    rw [h0, conv_at H r i (by simpa using hi) (fun t ht => by simpa using h1 (t + 1) (by omega)) (by simpa using h2)]; rfl
theorem conv_all (H : List En) : ∀ (l : List En), (∀ t, t < l.length → (lookD (l.getD t (0, 0)).1 H == 0) = false) → convD H l = l.length
  | [], _ => rfl
  | x :: r, h1 => by
    have h0 : (lookD x.1 H == 0) = false := h1 0 (by simp)
    unfold convD
    rw [h0, conv_all H r (fun t ht => by simpa using h1 (t + 1) (by simpa using ht))]; rfl
theorem conv_le (H : List En) : ∀ l : List En, convD H l ≤ l.length
  | [] => Nat.le_refl _
  | x :: r => by
    have := conv_le H r
    unfold convD
    split <;> simp <;> omega
set_option maxRecDepth 100000 in
set_option maxHeartbeats 1000000 in
theorem conv_any (w : World) (h : La B H Q b hv qv w) (hH : H.length < 1000000) (hQ : Q.length < 1000000) :
    Calls Try.prog 75 #[.pointer (some ⟨b, 0, none⟩)] w fun e w' => e = .returned (.int .i64 (convD H Q : Nat)) ∧ Below w.heap.size w w' := by
  have c1 := h.c1
  obtain ⟨a, cap, rfl⟩ := slice_form h.qr
  have HL := hide h
  clear h
  go_enter Try.func75, Try.ntmps75
  go_wp2
  clear c1
  go_loopw [10] (fun s wr => ∃ i : Nat, i ≤ Q.length ∧ s = .int .i64 i ∧ Below w.heap.size w wr ∧ Hid (∀ t, t < i → (lookD (Q.getD t (0, 0)).1 H == 0) = false)) (fun s _ => Q.length - (intOf s).toNat)
  case atStart => exact ⟨0, Nat.zero_le _, rfl, Below.refl _ _, fun t ht => absurd ht (by omega)⟩
  case round =>
    obtain ⟨i, hi, rfl, hb, I1⟩ := hrel
    by_cases hlt : i < Q.length
    · obtain ⟨g, rfl, r⟩ : ∃ g, a = some ⟨g, 0, none⟩ ∧ Rb g cap Q wr := by
        rcases (unhide HL).qr with ⟨_, rfl⟩ | ⟨g, cap', e, _, r⟩
        · simp at hlt
        · injection e with e1 _ e2
          subst e1 e2
          exact ⟨g, rfl, r.next hb⟩
      obtain ⟨x, hx⟩ : ∃ x, x = Q.getD i (0, 0) := ⟨_, rfl⟩
      have c1 : wr.cell? ⟨g, i * 2, none⟩ = some (.int .i64 x.1) := by rw [hx]; exact r.fst (by omega)
      have c2 : wr.cell? ⟨g, i * 2 + 1, none⟩ = some (.int .i64 x.2) := by rw [hx]; exact r.snd (by omega)
      have Hx := hide hx
      clear hx r
      go_wp2_with fail
      refine (holds_any _ (((unhide HL).next hb).next (below_new wr _)) hH x.1).mono ?_
      rintro e w' ⟨rfl, hb'⟩
      have HB := hide (below_then hb (below_then (below_new wr _) hb'))
      clear hb hb' c1 c2
      cases hk : (lookD x.1 H == 0)
      · have Hk : Hid ((lookD (Q.getD i (0, 0)).1 H == 0) = false) := by rw [← unhide Hx]; exact hk
        generalize lookD x.1 H = y at hk ⊢
        go_wp2
        go_roundw
        case rel => exact ⟨i + 1, by omega, by go_num, unhide HB, fun t ht => by
          rcases (show t < i ∨ t = i by omega) with h | rfl
          · exact unhide I1 t h
          · exact unhide Hk⟩
        case measure => simp [intOf]; omega
      · have Hk := hide hk
        generalize lookD x.1 H = y at hk
        go_wp2
        go_ret
        exact ⟨by rw [conv_at H Q i hlt (unhide I1) (by rw [← unhide Hx]; exact unhide Hk)]; rfl, unhide HB⟩
    · have e0 := hide (conv_all H Q (fun t ht => unhide I1 t (by omega)))
      have c1 := ((unhide HL).next hb).c1
      have HB := hide hb
      clear hb
      go_wp2
      go_ret
      exact ⟨by rw [unhide e0]; rfl, unhide HB⟩
/-- May one that holds 'held' pass those that wait? -/
def passD (held : Int) (H Q : List En) : Bool := if held == 0 then Q.length == 0 else convD H Q == 0
theorem eqz (n : Nat) : ((n : Int) == 0) = (n == 0) := by
  by_cases h : n = 0
  · subst h; rfl
  · have h2 : ¬ ((n : Int) = 0) := by omega
    rw [beq_eq_false_iff_ne.2 h, beq_eq_false_iff_ne.2 h2]
set_option maxRecDepth 100000 in
theorem pass_any (w : World) (h : La B H Q b hv qv w) (hH : H.length < 1000000) (hQ : Q.length < 1000000) (held : Int) :
    Calls Try.prog 43 #[.pointer (some ⟨b, 0, none⟩), .int .i64 held] w fun e w' => e = .returned (.bool (passD held H Q)) ∧ Below w.heap.size w w' := by
  unfold passD
  cases he : (held == 0)
  · have HL := hide h
    clear h
    go_enter Try.func43, Try.ntmps43
    go_wp2_with fail
    refine (conv_any w (unhide HL) hH hQ).mono ?_
    rintro e w' ⟨rfl, hb⟩
    have HB := hide hb
    clear hb
    have hz := hide (eqz (convD H Q))
    go_wp2
    go_ret
    exact ⟨ret_bool (unhide hz), unhide HB⟩
  · have c1 := h.c1
    obtain ⟨a, cap, rfl⟩ := slice_form h.qr
    have HL := hide h
    clear h
    have hz := hide (eqz Q.length)
    go_enter Try.func43, Try.ntmps43
    go_wp2
    go_ret
    exact ⟨ret_bool (unhide hz), Below.refl _ _⟩
theorem box_new (w : World) (y : En) : (w.alloc (.cells #[.int .i64 y.1, .int .i64 y.2] 41)).heap[w.heap.size]? = some (.cells #[.int .i64 y.1, .int .i64 y.2] 41 (0, 0)) := heap_alloc_new w _
theorem box_cells {w : World} {p : Nat} {y : En} (h : w.heap[p]? = some (.cells #[.int .i64 y.1, .int .i64 y.2] 41 (0, 0))) : w.cell? ⟨p, 0, none⟩ = some (.int .i64 y.1) ∧ w.cell? ⟨p, 1, none⟩ = some (.int .i64 y.2) := by
  simp [World.cell?, h]
theorem La.same {w w' : World} (h : La B H Q b hv qv w) (e : w'.heap = w.heap) : La B H Q b hv qv w' :=
  ⟨by rw [e]; exact h.blk, h.hr.keep fun _ _ => by rw [e], h.qr.keep fun _ _ => by rw [e], h.dq, h.bB, h.srt⟩
theorem la_new {w w2 W : World} (h : La B H Q b hv qv w2) (hb : Below w.heap.size w w2) (y : En) (e : W.heap = (w2.alloc (.cells #[.int .i64 y.1, .int .i64 y.2] 41)).heap) (e1 : W.os = w2.os) (e2 : W.tape = w2.tape) (e3 : W.output = w2.output) :
    La B H Q b hv qv W ∧ W.heap[w2.heap.size]? = some (.cells #[.int .i64 y.1, .int .i64 y.2] 41 (0, 0)) ∧ Mv b hv qv hv qv w W ∧ hv.ownBlock ≠ some w2.heap.size ∧ qv.ownBlock ≠ some w2.heap.size := by
  have hn := below_new w2 (.cells #[.int .i64 y.1, .int .i64 y.2] 41)
  refine ⟨(h.next hn).same e, by rw [e]; exact box_new w2 y, ⟨e1.trans hb.os, e2.trans hb.tape, e3.trans hb.output, ?_, fun k hk _ _ _ => ?_, At.refl _ _, At.refl _ _⟩, fun e => ?_, fun e => ?_⟩
  · rw [e]; exact Nat.le_trans hb.size hn.size
  · rw [e]; exact (hn.block k (Nat.lt_of_lt_of_le hk hb.size)).trans (hb.block k hk)
  · have := (h.hr.lt _ e).2; omega
  · have := (h.qr.lt _ e).2; omega
theorem slice_form' {B : Nat} {v : Value} {l : List En} {w : World} (h : Es B v l w) : ∃ a n cap, v = .slice a n cap ∧ n = l.length := by
  obtain ⟨a, cap, rfl⟩ := slice_form h
  exact ⟨a, _, cap, rfl, rfl⟩
theorem box_set {w : World} {p : Nat} {y : En} (h : w.heap[p]? = some (.cells #[.int .i64 y.1, .int .i64 y.2] 41 (0, 0))) {b j : Nat} (hb : p ≠ b) (v : Value) : (w.setCell ⟨b, j, none⟩ v).cell? ⟨p, 0, none⟩ = some (.int .i64 y.1) ∧ (w.setCell ⟨b, j, none⟩ v).cell? ⟨p, 1, none⟩ = some (.int .i64 y.2) :=
  box_cells ((set_other w b j p v hb).trans h)
theorem La.over {g cap : Nat} {w : World} (h : La B H Q b (.slice (some ⟨g, 0, none⟩) H.length cap) qv w) (hB : B ≤ g) (r : Rb g cap H w) (i : Nat) (y : En) (hs : Srt (H.set i y)) :
    La B (H.set i y) Q b (.slice (some ⟨g, 0, none⟩) H.length cap) qv ((w.setCell ⟨g, i * 2, none⟩ (.int .i64 y.1)).setCell ⟨g, i * 2 + 1, none⟩ (.int .i64 y.2)) ∧
    Mv b (.slice (some ⟨g, 0, none⟩) H.length cap) qv (.slice (some ⟨g, 0, none⟩) H.length cap) qv w ((w.setCell ⟨g, i * 2, none⟩ (.int .i64 y.1)).setCell ⟨g, i * 2 + 1, none⟩ (.int .i64 y.2)) := by
  have hgb : b ≠ g := fun e => h.ne_h (by rw [e]; rfl)
  have far : ∀ k, k ≠ g → ((w.setCell ⟨g, i * 2, none⟩ (.int .i64 y.1)).setCell ⟨g, i * 2 + 1, none⟩ (.int .i64 y.2)).heap[k]? = w.heap[k]? := fun k hk => (set_other _ _ _ _ _ hk).trans (set_other _ _ _ _ _ hk)
  refine ⟨⟨(far b hgb).trans h.blk, .inr ⟨g, cap, by rw [List.length_set], hB, r.set i y⟩, h.qr.keep fun k hk => far k (fun e => h.dq k (by rw [e]; rfl) hk), h.dq, h.bB, hs⟩, ⟨rfl, rfl, rfl, ?_, fun k _ _ hk _ => far k (fun e => hk (by rw [e]; rfl)), At.refl _ _, At.refl _ _⟩⟩
  show w.heap.size ≤ ((w.setCell ⟨g, i * 2, none⟩ (.int .i64 y.1)).heap.modify g _).size
  rw [Array.size_modify]
  show w.heap.size ≤ (w.heap.modify g _).size
  rw [Array.size_modify]; exact Nat.le_refl _
set_option maxRecDepth 100000 in
set_option maxHeartbeats 2000000 in
theorem hold_new (w : World) (h : La B H Q b hv qv w) (hH : H.length < 999999) (y : En) (hh : hasD y.1 H = false) :
    Calls Try.prog 45 #[.pointer (some ⟨b, 0, none⟩), .agg #[.int .i64 y.1, .int .i64 y.2]] w fun e w' => e = .returned (.tuple #[]) ∧ ∃ hv', La B (putD y H) Q b hv' qv w' ∧ Mv b hv qv hv' qv w w' := by
  have HL := hide h
  have hbn := hide h.lt
  have hs := hide (srt_put (y := y) h.srt)
  have e0 : Hid (putD y H = H.take (posD y.1 H) ++ y :: H.drop (posD y.1 H)) := by show _ = _; unfold putD; rw [hh]; rfl
  have hh2 := hide hh
  clear hh h
  go_enter Try.func45, Try.ntmps45
  go_wp2_with fail
  refine (holder_any _ ((unhide HL).next (below_new w _)) (by omega) y.1).mono ?_
  rw [unhide hh2]
  rintro e w2 ⟨rfl, hb⟩
  have l2 := ((unhide HL).next (below_new w _)).next hb
  have hb2 := hide (below_then (below_new w _) hb)
  have bx : w2.heap[w.heap.size]? = some (.cells #[.int .i64 y.1, .int .i64 y.2] 41 (0, 0)) := (hb.block _ (by simp)).trans (box_new w y)
  obtain ⟨d0, d1⟩ := box_cells bx
  have c0 := l2.c0
  have ca : ∀ o, (w2.alloc o).cell? ⟨w.heap.size, 0, none⟩ = some (.int .i64 y.1) ∧ (w2.alloc o).cell? ⟨w.heap.size, 1, none⟩ = some (.int .i64 y.2) := fun o => box_cells (((below_new w2 o).block _ (heap_lt bx)).trans bx)
  have cb : ∀ o, (w2.alloc o).cell? ⟨b, 0, none⟩ = some hv := fun o => (l2.next (below_new w2 o)).c0
  have hp := posD_le y.1 H
  generalize posD y.1 H = i at *
  have hne : Hid (w.heap.size ≠ b) := fun e => Nat.lt_irrefl _ (by have := unhide hbn; rw [e] at this; exact this)
  have HW := hide (la_new (W := (w2.alloc (.cells #[.int .i64 y.1, .int .i64 y.2] 41)).drew) l2 (unhide hb2) y rfl rfl rfl rfl)
  have hbw := hide (heap_lt bx)
  have L2 := hide l2
  have Bx := hide bx
  clear l2 bx hb
  replace ca := hide ca
  go_wp2_with fail
  have ca0 := fun o => (unhide ca o).1
  have ca1 := fun o => (unhide ca o).2
  go_region_with (first | (go_at_call 78; refine Calls.mono (insert_any (B := B) _ (unhide HW).1.hr i hp y _ (unhide HW).2.1 (unhide HW).2.2.2.1 (unhide HW).1.low (by omega)) ?_; rintro e w4 ⟨v', rfl, es, gr, at4⟩; obtain ⟨a4, n4, cap4, rfl, hn4⟩ := slice_form' es; replace hn4 := hide hn4; have q0 := (unhide HW).1.grown0 gr; have m0 : w4.cell? ⟨b, 0, none⟩ = some hv := (by simp [World.cell?, q0]); have q1 : w4.heap[w.heap.size]? = some (.cells #[.int .i64 y.1, .int .i64 y.2] 41 (0, 0)) := ((gr.block _ (Nat.lt_of_lt_of_le (unhide hbw) (Nat.le_of_lt (heap_lt (unhide HW).2.1))) (fun e => Nat.lt_irrefl _ ((unhide HL).hr.lt _ e.symm).2)).trans (((below_new w2 _).block _ (unhide hbw)).trans (unhide Bx))); have m1 := (box_cells q1).1; have m2 := (box_cells q1).2; have m3 : w4.frozen? ⟨b, 0, none⟩ = false := (by simp [World.frozen?, q0]); have m4 := hide (box_set (j := 0) q1 (unhide hne)); have PT := hide ((unhide HW).1.put0 gr es at4 (by rw [← unhide e0]; exact unhide hs)); clear gr es at4 q0 q1))
  all_goals
    go_wp2
    go_end0
    exact ⟨rfl, _, by rw [unhide e0]; exact (unhide PT).1, (unhide HW).2.2.1.trans (unhide PT).2⟩
set_option maxRecDepth 100000 in
set_option maxHeartbeats 2000000 in
theorem hold_old (w : World) (h : La B H Q b hv qv w) (hH : H.length < 999999) (y : En) (hh : hasD y.1 H = true) :
    Calls Try.prog 45 #[.pointer (some ⟨b, 0, none⟩), .agg #[.int .i64 y.1, .int .i64 y.2]] w fun e w' => e = .returned (.tuple #[]) ∧ ∃ hv', La B (putD y H) Q b hv' qv w' ∧ Mv b hv qv hv' qv w w' := by
  obtain ⟨p1, _, _⟩ := look_pos h.srt hh
  rcases h.hr with ⟨_, rfl⟩ | ⟨g, cap, rfl, hBg, r⟩
  · simp at p1
  have HL := hide h
  have R := hide r
  have hs := hide (srt_put (y := y) h.srt)
  have e0 : Hid (putD y H = H.set (posD y.1 H) y) := by show _ = _; unfold putD; rw [hh]; rfl
  have hh2 := hide hh
  clear hh h r
  go_enter Try.func45, Try.ntmps45
  go_wp2_with fail
  refine (holder_any _ ((unhide HL).next (below_new w _)) (by omega) y.1).mono ?_
  rw [unhide hh2]
  rintro e w2 ⟨rfl, hb⟩
  have hb2 := hide (below_then (below_new w _) hb)
  have l2 := (unhide HL).next (unhide hb2)
  have r2 := (unhide R).next (unhide hb2)
  have bx : w2.heap[w.heap.size]? = some (.cells #[.int .i64 y.1, .int .i64 y.2] 41 (0, 0)) := (hb.block _ (by simp)).trans (box_new w y)
  obtain ⟨d0, d1⟩ := box_cells bx
  have c0 := l2.c0
  generalize posD y.1 H = i at *
  have f0 := r2.fst p1
  have f1 := r2.snd p1
  have z0 := r2.free (i * 2)
  have z1 := r2.free (i * 2 + 1)
  generalize (H.getD i (0, 0)).1 = x1 at f0
  generalize (H.getD i (0, 0)).2 = x2 at f1
  have L2 := hide l2
  have R2 := hide r2
  have Bx := hide bx
  clear l2 r2 bx hb
  go_wp2_with fail
  go_region
  go_wp2
  (try simp only [Exit.inBlock, Exit.then])
  refine bodyPost_ret (results_none rfl _ _ _) rfl ?_
  have hS : Srt (H.set i y) := by rw [← unhide e0]; exact unhide hs
  obtain ⟨k1, k2⟩ := La.over (unhide L2) hBg (unhide R2) i y hS
  exact ⟨rfl, _, by rw [unhide e0]; exact k1.drew, (Mv.of_below (unhide hb2)).trans (k2.then_ ((Below.refl _ _).drew))⟩
theorem hold_any (w : World) (h : La B H Q b hv qv w) (hH : H.length < 999999) (y : En) :
    Calls Try.prog 45 #[.pointer (some ⟨b, 0, none⟩), .agg #[.int .i64 y.1, .int .i64 y.2]] w fun e w' => e = .returned (.tuple #[]) ∧ ∃ hv', La B (putD y H) Q b hv' qv w' ∧ Mv b hv qv hv' qv w w' := by
  cases hh : hasD y.1 H
  · exact hold_new w h hH y hh
  · exact hold_old w h hH y hh
end Go.Proofs.Ytmdbmkekdpbliaa
