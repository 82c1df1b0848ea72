/- Ask at a table, with its rows left open; the examples of the chapter: first. -/
import Derived.Test.YtmdbmkekdpbliaaTaba
import Derived.Test.YtmdbmkekdpbliaaPrs
import Derived.Test.YtmdbmkekdpbliaaInv2
namespace Go.Proofs.Ytmdbmkekdpbliaa
open Go.RowKit

/-- What is neither a lane nor entries stays. -/
def Stay (w w' : World) : Prop := ∀ (k : Nat) (cur : Array Value) (t : TypeId), w.heap[k]? = some (.cells cur t (0, 0)) → t ≠ 41 → t ≠ 76 → w'.heap[k]? = some (.cells cur t (0, 0))
theorem Stay.of {w w' : World} (h : Below w.heap.size w w') : Stay w w' := fun k _ _ hk _ _ => (h.block k (heap_lt hk)).trans hk
theorem Stay.trans {w w' w'' : World} (h : Stay w w') (k : Stay w' w'') : Stay w w'' := fun j c t hj h1 h2 => k j c t (h j c t hj h1 h2) h1 h2
theorem Pr.stay {t : TypeId} {B : Nat} {v : Value} {l : List En} {w w' : World} (h : Pr t B v l w) (s : Stay w w') (h1 : t ≠ 41) (h2 : t ≠ 76) : Pr t B v l w' :=
  h.keep fun g hg => by
    obtain ⟨cur, hc⟩ := h.ty g hg
    rw [s g cur t hc h1 h2, hc]
theorem Is.stay {B : Nat} {v : Value} {l : List Int} {w w' : World} (h : Is B v l w) (s : Stay w w') : Is B v l w' :=
  h.keep fun g hg => by
    obtain ⟨cur, hc⟩ := h.ty g hg
    rw [s g cur 3 hc (by decide) (by decide), hc]
/-- What Ask answers, and the lanes behind it. -/
def askT (n : Nat) (most : Int) (T : Nat → Lv) (who node m : Int) : (Int × Int) × (Nat → Lv) :=
  if errD n most T who node m = 0 then (((askD who m (T node.toNat).1 (T node.toNat).2).1, 0), upd T node.toNat (askD who m (T node.toNat).1 (T node.toNat).2).2) else ((0, errD n most T who node m), T)
theorem err_node {n : Nat} {most : Int} {T : Nat → Lv} {who node m : Int} (h : errD n most T who node m = 0) : 0 ≤ node ∧ node < n ∧ noneW who n T ∧ 0 ≤ who ∧ m ≠ 0 ∧ knownB m = true ∧ (hasL who (T node.toNat) = true ∨ (lenD T n : Int) < most) := by
  unfold errD at h
  split at h
  · omega
  · rename_i h1
    split at h
    · omega
    · rename_i h2
      split at h
      · omega
      · rename_i h3
        split at h
        · omega
        · rename_i h4
          have h5 : 0 ≤ node ∧ node < n := by simpa using h1
          have h6 := atW_le who T n
          refine ⟨h5.1, h5.2, fun i hi => atW_low who T n i (by omega), ?_, fun e => h3 (.inr (.inl e)), ?_, ?_⟩
          · by_cases e : who < 0
            · exact absurd (.inl e) h3
            · omega
          · cases e : knownB m
            · exact absurd (.inr (.inr e)) h3
            · rfl
          · cases e : hasL who (T node.toNat)
            · right
              by_cases e2 : most ≤ (lenD T n : Int)
              · exact absurd ⟨e, e2⟩ h4
              · omega
            · exact .inl rfl
/-- The table in block b, its rows left open. -/
def Tn (B n : Nat) (most : Int) (T : Nat → Lv) (b : Nat) (w : World) : Prop := ∃ rb lb hv qv, Tb B n most T b rb lb hv qv w
variable {B n : Nat} {most : Int} {T : Nat → Lv} {b : Nat}
theorem Tn.next {w w' : World} (h : Tn B n most T b w) (k : Below w.heap.size w w') : Tn B n most T b w' := by
  obtain ⟨rb, lb, hv, qv, t⟩ := h
  exact ⟨rb, lb, hv, qv, t.next k⟩
theorem Tn.drew {w : World} (h : Tn B n most T b w) : Tn B n most T b w.drew := h.next ⟨rfl, rfl, rfl, Nat.le_refl _, fun _ _ => rfl⟩
theorem Tn.low {w : World} (h : Tn B n most T b w) : B ≤ w.heap.size := by
  obtain ⟨rb, lb, hv, qv, t⟩ := h
  exact t.low
theorem Tn.srt {w : World} (h : Tn B n most T b w) {i : Nat} (hi : i < n) : Srt (T i).1 := by
  obtain ⟨rb, lb, hv, qv, t⟩ := h
  exact (t.ls.la i hi).srt
set_option maxRecDepth 100000 in
set_option maxHeartbeats 1000000 in
theorem ask_n (w : World) (h : Tn B n most T b w) (hf : Few n 1000 T) (hn : n ≤ 10000) (who node m : Int) {r : (Int × Int) × (Nat → Lv)} (hr : askT n most T who node m = r) :
    Calls Try.prog 30 #[.pointer (some ⟨b, 0, none⟩), .int .i64 who, .int .i64 node, .int .i64 m] w fun e w' => e = .returned (.tuple #[.int .i64 r.1.1, .int .i64 r.1.2]) ∧ Tn B n most r.2 b w' ∧ Below B w w' ∧ Stay w w' := by
  subst hr
  obtain ⟨rb, lb, hv, qv, t⟩ := h
  have HT := hide t
  have hm := hide (may_t w t hf hn who node m)
  unfold askT
  by_cases h0 : errD n most T who node m = 0
  · rw [h0] at hm
    rw [if_pos h0]
    obtain ⟨p1, p2, _⟩ := err_node h0
    clear h0 t
    obtain ⟨k, rfl⟩ : ∃ k : Nat, node = (k : Int) := ⟨node.toNat, by omega⟩
    have hk : k < n := by omega
    have e2 : (k : Int).toNat = k := rfl
    rw [e2]
    clear e2
    obtain ⟨f1, f2⟩ := hf k hk
    replace f1 := hide f1
    replace f2 := hide f2
    go_enter Try.func30, Try.ntmps30
    go_wp2_with fail
    refine (unhide hm).mono ?_
    rintro e w1 ⟨rfl, b1⟩
    have T1 := (unhide HT).next b1
    have c0 := T1.c0
    have d0 := T1.at_ hk
    replace T1 := hide T1
    replace b1 := hide b1
    go_wp2_with fail
    refine (ask_any w1 ((unhide T1).ls.la k hk) (by have := unhide f1; omega) (by have := unhide f2; omega) who m).mono ?_
    rintro e w2 ⟨rfl, hv', qv', L2, M2⟩
    have T2 := hide ((unhide T1).step hk M2 L2)
    have B2 := hide (((unhide b1).mono (unhide HT).low).trans (M2.below ((unhide T1).ls.la k hk)))
    have S2 := hide ((Stay.of (unhide b1)).trans (fun j c t hj h1 h2 => M2.stays ((unhide T1).ls.la k hk) hj h1 h2))
    clear L2 M2 c0 d0
    go_wp2
    go_ret2
    exact ⟨rfl, ⟨_, _, _, _, unhide T2⟩, unhide B2, unhide S2⟩
  · rw [if_neg h0]
    have h1 : (errD n most T who node m != 0) = true := by simpa using h0
    obtain ⟨x, hx⟩ : ∃ x, x = errD n most T who node m := ⟨_, rfl⟩
    rw [← hx] at hm h1 ⊢
    have h2 : x ≠ 0 := by rw [hx]; exact h0
    clear h0 t hx
    go_enter Try.func30, Try.ntmps30
    go_wp2_with fail
    refine (unhide hm).mono ?_
    rintro e w1 ⟨rfl, b1⟩
    replace b1 := hide b1
    go_wp2
    go_ret2
    exact ⟨rfl, ⟨_, _, _, _, (unhide HT).next (unhide b1)⟩, (unhide b1).mono (unhide HT).low, Stay.of (unhide b1)⟩
theorem len_n (w : World) (h : Tn B n most T b w) (hf : Few n 1000 T) (hn : n ≤ 10000) {r : Nat} (hr : lenD T n = r) : Calls Try.prog 36 #[.pointer (some ⟨b, 0, none⟩)] w fun e w' => e = .returned (.int .i64 (r : Nat)) ∧ Below w.heap.size w w' := by
  subst hr
  obtain ⟨rb, lb, hv, qv, t⟩ := h
  exact len_t w t hf hn
theorem held_n (w : World) (h : Tn B n most T b w) (hf : Few n 1000 T) (hn : n ≤ 10000) (who : Int) :
    Calls Try.prog 33 #[.pointer (some ⟨b, 0, none⟩), .int .i64 who] w fun e w' => ∃ v, e = .returned v ∧ Pr 53 w.heap.size v (heldD who T n) w' ∧ Below w.heap.size w w' := by
  obtain ⟨rb, lb, hv, qv, t⟩ := h
  exact held_t w t hf hn who
theorem holds_n (w : World) (h : Tn B n most T b w) (hf : Few n 1000 T) (who node : Int) (h0 : 0 ≤ node) (h1 : node < n) {r : Int} (hr : lookD who (T node.toNat).1 = r) :
    Calls Try.prog 38 #[.pointer (some ⟨b, 0, none⟩), .int .i64 who, .int .i64 node] w fun e w' => e = .returned (.int .i64 r) ∧ Below w.heap.size w w' := by
  subst hr
  obtain ⟨rb, lb, hv, qv, t⟩ := h
  exact holds_t w t hf who node h0 h1
theorem waits_n (w : World) (h : Tn B n most T b w) (hf : Few n 1000 T) (hn : n ≤ 10000) (who : Int) {s : Nat} (hs : atW who T n = s) :
    Calls Try.prog 32 #[.pointer (some ⟨b, 0, none⟩), .int .i64 who] w fun e w' => e = .returned (waitV who n T s) ∧ Below w.heap.size w w' := by
  subst hs
  obtain ⟨rb, lb, hv, qv, t⟩ := h
  exact waits_tb w t hf hn who
theorem new_n (n : Nat) (most : Int) (w : World) (h1 : 1 ≤ n) (h2 : n ≤ 10000) (h3 : 1 ≤ most) (h4 : most ≤ 4096) :
    Calls Try.prog 29 #[.int .i64 (n : Int), .int .i64 most] w fun e w' => ∃ b, e = .returned (.tuple #[.pointer (some ⟨b, 0, none⟩), .int .i64 0]) ∧ Tn w.heap.size n most none0 b w' ∧ Below w.heap.size w w' :=
  (newt_t n most w h1 h2 h3 h4).mono fun _ _ ⟨b, _, _, he, ht, hb⟩ => ⟨b, he, ⟨_, _, _, _, ht⟩, hb⟩
theorem few_none (n k : Nat) : Few n k none0 := fun _ _ => ⟨Nat.zero_le _, Nat.zero_le _⟩
theorem few_upd {k : Nat} (h : Few n k T) (i : Nat) {x : Lv} (h1 : x.1.length ≤ k) (h2 : x.2.length ≤ k) : Few n k (upd T i x) := fun j hj => by
  by_cases e : j = i
  · subst e; rw [upd_same]; exact ⟨h1, h2⟩
  · rw [upd_other T x e]; exact h j hj
theorem ask_good {who node m : Int} {x : Int × Lv} (h : errD n most T who node m = 0) (k : Nat) (hk : node.toNat = k) (e : askD who m (T k).1 (T k).2 = x) : askT n most T who node m = ((x.1, 0), upd T k x.2) := by
  unfold askT
  rw [if_pos h, hk, e]
theorem ask_err {who node m x : Int} (h : errD n most T who node m = x) (hx : x ≠ 0) : askT n most T who node m = ((0, x), T) := by
  unfold askT
  rw [if_neg (by rw [h]; exact hx), h]
def t1 : Nat → Lv := upd none0 1 ([(0, 3)], [])
def t2 : Nat → Lv := upd t1 1 ([(0, 5)], [])
theorem g1 : askT 3 1 none0 0 1 3 = ((1, 0), t1) := ask_good (x := (1, [(0, 3)], [])) (show errD 3 1 none0 0 1 3 = 0 by decide +kernel) 1 rfl (show askD 0 3 (none0 1).1 (none0 1).2 = (1, [(0, 3)], []) by decide +kernel)
theorem g2 : askT 3 1 t1 1 2 3 = ((0, 3), t1) := ask_err (by decide +kernel) (by decide)
theorem g3 : askT 3 1 t1 0 1 5 = ((1, 0), t2) := ask_good (x := (1, [(0, 5)], [])) (show errD 3 1 t1 0 1 5 = 0 by decide +kernel) 1 rfl (show askD 0 5 (t1 1).1 (t1 1).2 = (1, [(0, 5)], []) by decide +kernel)
theorem g4 : lenD t2 3 = 1 := by decide +kernel
theorem few1 : Few 3 1000 t1 := few_upd (few_none _ _) 1 (by decide) (by decide)
theorem few2 : Few 3 1000 t2 := few_upd few1 1 (by decide) (by decide)
set_option maxRecDepth 100000 in
set_option maxHeartbeats 2000000 in
theorem firstt_any (w : World) : Calls Try.prog 28 #[] w fun e w' => e = .returned (.bool true) ∧ Below w.heap.size w w' := by
  obtain ⟨N, hN⟩ : ∃ N, N = w.heap.size := ⟨_, rfl⟩
  go_enter Try.func28, Try.ntmps28
  go_wp2_with fail
  refine (new_n 3 1 w (by decide) (by decide) (by decide) (by decide)).mono ?_
  rw [← hN]
  rintro e w1 ⟨b, rfl, L1, B1⟩
  replace hN := hide hN
  replace L1 := hide L1
  replace B1 := hide B1
  go_wp2_with fail
  refine (ask_n w1 (unhide L1) (few_none _ _) (by decide) 0 1 3 g1).mono ?_
  rintro e w2 ⟨rfl, L2, b2, _⟩
  have B2 := hide ((unhide B1).trans b2)
  replace L2 := hide L2
  clear b2
  go_wp2_with fail
  refine (ask_n w2 (unhide L2) few1 (by decide) 1 2 3 g2).mono ?_
  rintro e w3 ⟨rfl, L3, b2, _⟩
  have B3 := hide ((unhide B2).trans b2)
  replace L3 := hide L3
  clear b2
  go_wp2_with fail
  refine (ask_n w3 (unhide L3) few1 (by decide) 0 1 5 g3).mono ?_
  rintro e w4 ⟨rfl, L4, b2, _⟩
  have B4 := hide ((unhide B3).trans b2)
  replace L4 := hide L4
  clear b2
  go_wp2_with fail
  refine (len_n w4 (unhide L4) few2 (by decide) g4).mono ?_
  rintro e w5 ⟨rfl, b2⟩
  have B5 := hide (bt (unhide B4) b2 (unhide L4).low)
  clear b2
  go_wp2
  go_ret
  exact ⟨rfl, by rw [← unhide hN]; exact unhide B5⟩
end Go.Proofs.Ytmdbmkekdpbliaa
