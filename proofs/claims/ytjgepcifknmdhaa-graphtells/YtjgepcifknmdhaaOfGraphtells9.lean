/- Texts of this claim, put together in their order. -/
import Derived.BigQuiet
import Derived.Test.YtjgepcifknmdhaaBase1
import Derived.Test.YtjgepcifknmdhaaBase2
import Derived.Test.YtjgepcifknmdhaaBase3
import Derived.Test.YtjgepcifknmdhaaBase4
import Derived.Test.YtjgepcifknmdhaaBase5
import Derived.Test.YtjgepcifknmdhaaBase6
import Derived.Test.YtjgepcifknmdhaaBase7
import Derived.Test.YtjgepcifknmdhaaBase8
/- The reference: Copy, Without, SameEdges. -/
namespace Go.Proofs.Ytjgepcifknmdhaa
open Go.RowKit
set_option linter.unusedVariables false

theorem hasB_dec (x : Int) (l : List Int) : hasB x l = decide (x ∈ l) := by
  by_cases h : x ∈ l
  · obtain ⟨i, hi, e⟩ := mem_at h
    rw [has_yes x l i hi e.symm]
    simp [h]
  · rw [hasB_false h]
    simp [h]
set_option maxRecDepth 100000 in
theorem rcopy_any (w : World) {v : Value} {l : List Int} (h : Rd w v l) (hz : Nz v) (hn : l.length ≤ 1500) :
    Calls Try.prog 64 #[v] w fun e w' => ∃ v', e = .returned v' ∧ Is w.heap.size v' l w' ∧ Below w.heap.size w w' := by
  obtain ⟨a, cap, rfl, hs⟩ := h
  have BW := below_new w (.cells #[] 3)
  have own : Hid ((w.alloc (.cells #[] 3)).ownsRow w.heap.size 3 1 (.slice (some ⟨w.heap.size, 0, none⟩) 0 0) 0 (vals [])) := World.ownsRow_lit w #[] 0 (Nat.le_refl _) (Nat.zero_le _) rfl
  have hs1 := hide (hs.later BW)
  have HBW := hide BW
  have hn2 : Hid (0 + l.length ≤ 2000) := by show _ ≤ _; omega
  have hnil : Hid (a = none → cap = 0) := fun e => by subst e; exact hz _ _ rfl
  clear BW hs hz
  generalize l.length = n at *
  go_enter Try.func64, Try.ntmps64
  go_wp2_with (at_builtin; refine wpList_append_seg _ (by rfl) (.tmp 3) (.tmp 4) rfl w.heap.size _ 0 [] rfl (unhide own) _ _ _ l rfl (unhide hs1) (unhide hnil) (unhide hn2) (unhide HBW).size ?_; intro v' w' a1 a2; replace a1 := hide a1; replace a2 := hide a2)
  go_ret
  have a3 := unhide a1
  rw [Nat.zero_add, List.nil_append] at a3
  refine ⟨v', rfl, ?_, (unhide HBW).trans (grown_below (unhide a2) (unhide HBW).size (fun k hk => ((unhide own).lt k hk).1))⟩
  have e := (unhide hs1).1
  unfold Is
  rw [e]
  exact a3
set_option maxRecDepth 100000 in
set_option maxHeartbeats 2000000 in
theorem rwithout_any (w : World) {u v : Value} {gone : List Int} {l : List En} (hg : Rd w u gone) (hgn : gone.length ≤ 1500) (h : Re w v l) (hn : l.length ≤ 700) :
    Calls Try.prog 18 #[u, v] w fun e w' => ∃ v', e = .returned v' ∧ Pr 41 w.heap.size v' (woL gone l) w' ∧ Below w.heap.size w w' := by
  obtain ⟨a, cap, rfl⟩ := h.form
  have R := hide h
  have Gd := hide hg
  have hg9 : Hid (gone.length ≤ 100000) := by show _ ≤ _; omega
  clear h hg
  go_enter Try.func18, Try.ntmps18
  go_wp2
  go_loopw [5, 6] (fun s5 s6 wr => ∃ (t k : Nat) (ag : Option Addr) (cg : Nat), t ≤ l.length ∧ k ≤ t ∧ s5 = .slice ag k cg ∧ s6 = .int .i64 t ∧ Hid ((woL gone (l.take t)).length = k) ∧ Hid (Pr 41 w.heap.size (.slice ag k cg) (woL gone (l.take t)) wr) ∧ Hid (Below w.heap.size w wr)) (fun _ s6 _ => l.length - (intOf s6).toNat)
  case atStart => exact ⟨0, 0, none, 0, Nat.zero_le _, Nat.le_refl _, rfl, rfl, rfl, Pr.nil _ _ _, Below.refl _ _⟩
  case round =>
    obtain ⟨t, k, ag, cg, ht, hk, rfl, rfl, hl3, I3, b3⟩ := hrel
    have hk9 : k < 10000000 := by omega
    by_cases hlt : t < l.length
    · obtain ⟨g, o, rfl, _, d1, d2⟩ := ((unhide R).next (unhide b3)).at hlt
      obtain ⟨x, hx⟩ : ∃ x, x = l.getD t (0, 0) := ⟨_, rfl⟩
      have hs := wol_succ gone l t hlt
      rw [← hx] at d1 d2 hs
      replace hx := hide hx
      have C1 := hide (has_any x.1 wr ((unhide Gd).next (unhide b3)) (unhide hg9))
      have C2 := hide (has_any x.2 wr ((unhide Gd).next (unhide b3)) (unhide hg9))
      have hb4 : Hid (w.heap.size ≤ wr.heap.size) := (unhide b3).size
      rw [hasB_dec] at C1 C2
      cases h1 : decide (x.1 ∈ gone)
      · rw [h1] at C1 hs
        clear h1
        cases h2 : decide (x.2 ∈ gone)
        · rw [h2, if_neg (by decide)] at hs
          rw [h2] at C2
          replace hs := hide hs
          clear h2
          go_wp2_with fail
          refine (unhide C1).mono ?_
          rintro e w5 ⟨rfl, rfl⟩
          clear C1
          go_wp2_with fail
          refine (unhide C2).mono ?_
          rintro e w6 ⟨rfl, rfl⟩
          clear C2
          go_wp2_with (at_builtin; refine wpList_pair 41 22 Try.underlying22 inf39 w6 rfl (.tmp 31) (.tmp 36) rfl w.heap.size ag k cg _ x _ rfl rfl rfl (unhide hl3) (unhide I3) (unhide hb4) hk9 ?_; intro g7 cap7 w7 a1 a2; replace a1 := hide a1; replace a2 := hide a2)
          go_roundw
          case rel => exact ⟨t + 1, k + 1, some ⟨g7, 0, none⟩, cap7, by omega, by omega, rfl, by go_num, by
            show _ = _
            rw [unhide hs, List.length_append, unhide hl3]; rfl, by rw [unhide hs]; exact unhide a1, (unhide b3).trans (grown_below (unhide a2) (unhide b3).size (fun j hj => ((unhide I3).lt j hj).1))⟩
          case measure => simp [intOf]; omega
        · rw [h2, if_pos (by decide), List.append_nil] at hs
          rw [h2] at C2
          replace hs := hide hs
          clear h2
          go_wp2_with fail
          refine (unhide C1).mono ?_
          rintro e w5 ⟨rfl, rfl⟩
          clear C1
          go_wp2_with fail
          refine (unhide C2).mono ?_
          rintro e w6 ⟨rfl, rfl⟩
          clear C2
          go_wp2
          go_roundw
          case rel => exact ⟨t + 1, k, ag, cg, by omega, by omega, rfl, by go_num, by rw [unhide hs]; exact unhide hl3, by rw [unhide hs]; exact unhide I3, unhide b3⟩
          case measure => simp [intOf]; omega
      · rw [h1] at C1
        rw [h1, Bool.true_or, if_pos rfl, List.append_nil] at hs
        replace hs := hide hs
        clear h1 C2
        go_wp2_with fail
        refine (unhide C1).mono ?_
        rintro e w5 ⟨rfl, rfl⟩
        clear C1
        go_wp2
        go_roundw
        case rel => exact ⟨t + 1, k, ag, cg, by omega, by omega, rfl, by go_num, by rw [unhide hs]; exact unhide hl3, by rw [unhide hs]; exact unhide I3, unhide b3⟩
        case measure => simp [intOf]; omega
    · obtain rfl : t = l.length := by omega
      rw [List.take_length] at I3 hl3
      go_wp2
      go_ret
      exact ⟨_, rfl, unhide I3, unhide b3⟩
set_option maxRecDepth 100000 in
set_option maxHeartbeats 2000000 in
theorem same_any (w : World) {u v : Value} {l : List En} (hu : Re w u l) (hv : Re w v l) (hn : l.length ≤ 700) :
    Calls Try.prog 16 #[u, v] w fun e w' => e = .returned (.bool true) ∧ Below w.heap.size w w' := by
  obtain ⟨a, cap, rfl⟩ := hu.form
  obtain ⟨b, cb, rfl⟩ := hv.form
  have R := hide hu
  have Q := hide hv
  clear hu hv
  go_enter Try.func16, Try.ntmps16
  go_wp2
  go_loopw [5] (fun s5 wr => ∃ t : Nat, t ≤ l.length ∧ s5 = .int .i64 t ∧ Hid (Below w.heap.size w wr)) (fun s5 _ => l.length - (intOf s5).toNat)
  case atStart => exact ⟨0, Nat.zero_le _, rfl, Below.refl _ _⟩
  case round =>
    obtain ⟨t, ht, rfl, b3⟩ := hrel
    by_cases hlt : t < l.length
    · obtain ⟨g, o, rfl, _, d1, d2⟩ := ((unhide R).next (unhide b3)).at hlt
      obtain ⟨g', o', rfl, _, f1, f2⟩ := ((unhide Q).next (unhide b3)).at hlt
      obtain ⟨x, hx⟩ : ∃ x, x = l.getD t (0, 0) := ⟨_, rfl⟩
      rw [← hx] at d1 d2 f1 f2
      replace hx := hide hx
      go_wp2_with fail
      go_region
      all_goals
        go_wp2
        go_roundw
        case rel => exact ⟨t + 1, by omega, by go_num, (unhide b3).drew⟩
        case measure => simp [intOf] <;> omega
    · go_wp2
      go_ret
      exact ⟨rfl, unhide b3⟩
end Go.Proofs.Ytjgepcifknmdhaa

/- The reference: Sorted. -/
namespace Go.Proofs.Ytjgepcifknmdhaa
open Go.RowKit
set_option linter.unusedVariables false

theorem canon_in {L : List Int} {x : Int} (h : x ∈ canon L) : canon (L ++ [x]) = canon L := by
  have hx : x ∈ L := ((canon_facts _).1 _).1 h
  refine canon_congr fun y => ?_
  rw [List.mem_append, List.mem_singleton]
  exact ⟨fun k => k.elim id (fun e => e ▸ hx), .inl⟩
theorem canon_out {L C : List Int} {x : Int} {k : Nat} (hC : C = canon L) (h1 : ∀ j, j < k → C.getD j 0 < x) (h2 : ∀ j, k ≤ j → j < C.length → x < C.getD j 0) (hk : k ≤ C.length) : canon (L ++ [x]) = C.take k ++ [x] ++ C.drop k := by
  have hu : Up C := by rw [hC]; exact (canon_facts L).2
  have t1 : ∀ y ∈ C.take k, y < x := fun y hy => by
    obtain ⟨j, hj, e⟩ := mem_at hy
    rw [List.length_take] at hj
    have := h1 j (by omega)
    rw [← e, List.getD_eq_getElem?_getD, List.getElem?_take_of_lt (by omega), ← List.getD_eq_getElem?_getD]
    exact this
  have t2 : ∀ y ∈ C.drop k, x < y := fun y hy => by
    obtain ⟨j, hj, e⟩ := mem_at hy
    rw [List.length_drop] at hj
    have := h2 (k + j) (by omega) (by omega)
    rw [← e, List.getD_eq_getElem?_getD, List.getElem?_drop, ← List.getD_eq_getElem?_getD]
    exact this
  refine up_ext _ _ (canon_facts _).2 ?_ fun y => ?_
  · unfold Up
    rw [List.pairwise_append, List.pairwise_append]
    refine ⟨⟨hu.sublist (List.take_sublist _ _), List.pairwise_singleton _ _, fun a ha b hb => by rw [List.mem_singleton.1 hb]; exact t1 a ha⟩, hu.sublist (List.drop_sublist _ _), fun a ha b hb => ?_⟩
    rcases List.mem_append.1 ha with h | h
    · have := t1 a h; have := t2 b hb; omega
    · rw [List.mem_singleton.1 h]; exact t2 b hb
  · have hy : y ∈ C ↔ y ∈ C.take k ∨ y ∈ C.drop k := by rw [← List.mem_append, List.take_append_drop]
    rw [(canon_facts _).1, List.mem_append, List.mem_append, List.mem_append, List.mem_singleton, ← (canon_facts L).1, ← hC, hy]
    constructor
    · rintro ((h | h) | h)
      · exact .inl (.inl h)
      · exact .inr h
      · exact .inl (.inr h)
    · rintro ((h | h) | h)
      · exact .inl (.inl h)
      · exact .inr h
      · exact .inl (.inr h)
theorem is_lit (w : World) : Is w.heap.size (.slice (some ⟨w.heap.size, 0, none⟩) 0 0) [] (w.alloc (.cells #[] 3)) := World.ownsRow_lit w #[] 0 (Nat.le_refl _) (Nat.zero_le _) rfl
theorem is_lit2 (w : World) (z : Array Value) (t : TypeId) : Is w.heap.size (.slice (some ⟨w.heap.size + 1, 0, none⟩) 0 0) [] ((w.drew.alloc (.cells z t)).alloc (.cells #[] 3)) := by
  have h := (is_lit (w.drew.alloc (.cells z t))).down (B' := (w.drew.alloc (.cells z t)).heap.size) (B := w.heap.size) (below_dnew w _).size
  rw [show (w.drew.alloc (.cells z t)).heap.size = w.heap.size + 1 by simp] at h
  exact h
theorem seg_one {w : World} {N : Nat} {z : Int} (h : w.heap[N]? = some (.cells #[.int .i64 z] 3 (0, 0))) : SegK .i64 w (some ⟨N, 0, none⟩) 1 [z] :=
  ⟨rfl, .inr ⟨N, 0, rfl, fun i hi => by
    have : i = 0 := by have : i < 1 := hi; omega
    subst this
    simp [World.cell?, h]⟩⟩
/-- A part of a slice. -/
theorem seg_take {w : World} {a : Option Addr} {n : Nat} {l : List Int} (h : SegK .i64 w a n l) (k : Nat) (hk : k ≤ n) : SegK .i64 w a k (l.take k) := by
  refine ⟨by rw [List.length_take, h.1]; omega, ?_⟩
  rcases h.2 with e | ⟨b, off, e, hc⟩
  · exact .inl (by omega)
  · refine .inr ⟨b, off, e, fun i hi => ?_⟩
    rw [hc i (by omega), List.getD_eq_getElem?_getD, List.getD_eq_getElem?_getD, List.getElem?_take_of_lt hi]
theorem seg_drop {w : World} {b off n : Nat} {l : List Int} (h : SegK .i64 w (some ⟨b, off, none⟩) n l) (k : Nat) (hk : k ≤ n) : SegK .i64 w (some ⟨b, off + k, none⟩) (n - k) (l.drop k) := by
  refine ⟨by rw [List.length_drop, h.1], ?_⟩
  rcases h.2 with e | ⟨b', off', e, hc⟩
  · exact .inl (by omega)
  · injection e with e
    have e1 : b = b' := by injection e
    have e2 : off = off' := by injection e
    subst e1 e2
    refine .inr ⟨b, off + k, rfl, fun i hi => ?_⟩
    rw [Nat.add_assoc, hc (k + i) (by omega), List.getD_eq_getElem?_getD, List.getD_eq_getElem?_getD, List.getElem?_drop]
set_option maxRecDepth 100000 in
/-- Numbers more, behind the others; w0 is the world ahead of the region. -/
theorem istep (w0 : World) {w : World} {ops : Array Oper} {o : Oper} {a : Act} {K : Act → World → Prop} {Q : Exit → Act → World → Prop} {E : Prop} (hgd : o.guard = none) (dst : Option Nat) (hdst : o.dst = dst) (s x : Operand)
    (ho : o.op = .call { callee := .builtin .append, args := #[s, x], argTypes := #[23, 23] }) (v : Value) (k : List Int) (hs : a.eval s = v) (hw0 : Below w0.heap.size w0 w) (hown : Is w0.heap.size v k w) (va : Option Addr) (n c : Nat) (l : List Int)
    (hx : a.eval x = .slice va n c) (hr : SegK .i64 w va n l) (hnil : va = none → c = 0) (hn : k.length + n ≤ 2000)
    (h : ∀ v' w', Is w0.heap.size v' (k ++ l) w' → Below w0.heap.size w0 w' → (∀ j o, w.heap[j]? = some o → v.ownBlock ≠ some j → w'.heap[j]? = some o) → K (a.put dst v') w') :
    if Region.wanted o (yielded ops a.tmps) = true then Oper.wp Try.prog o a w K Q else E := by
  subst hdst
  have hw : Region.wanted o (yielded ops a.tmps) = true := by simp [Region.wanted, hgd]
  rw [if_pos hw]
  obtain ⟨i0, hi, hz0, hz1, hz2⟩ := info_parts inf3
  obtain ⟨v', w', e, h2, h3⟩ := run_append_seg w o.type w0.heap.size i0 hi hz0 hz1 hz2 v k.length k hown va n c l hr hnil hn hw0.size
  unfold Oper.wp execOp
  simp only [ho, resolve, invoke, builtin, Sem.run_bind, Sem.run_pure, Result.andThen_ok, List.map_toArray, List.map_cons, List.map_nil, hs, hx, e]
  refine h v' w' ?_ (hw0.trans (grown_below h3 hw0.size fun g hg => (hown.lt g hg).1)) fun j o hj hne => (h3.block j (heap_lt hj) (fun e => hne e.symm)).trans hj
  unfold Is
  rw [List.length_append, hr.1]
  exact h2
/-- Numbers behind an empty slice literal. -/
theorem istep0 (w0 : World) {w : World} {ops : Array Oper} {o : Oper} {a : Act} {K : Act → World → Prop} {Q : Exit → Act → World → Prop} {E : Prop} (hgd : o.guard = none) (dst : Option Nat) (hdst : o.dst = dst) (s x : Operand)
    (ho : o.op = .call { callee := .builtin .append, args := #[s, x], argTypes := #[23, 23] }) (N : Nat) (hs : a.eval s = .slice (some ⟨N, 0, none⟩) 0 0) (hw0 : Below w0.heap.size w0 w) (hown : Is w0.heap.size (.slice (some ⟨N, 0, none⟩) 0 0) [] w) (va : Option Addr) (n c : Nat) (l : List Int)
    (hx : a.eval x = .slice va n c) (hr : SegK .i64 w va n l) (hnil : va = none → c = 0) (hn : n ≤ 2000)
    (h : ∀ v' w', Is w0.heap.size v' l w' → Below w0.heap.size w0 w' → (∀ j o, w.heap[j]? = some o → j ≠ N → w'.heap[j]? = some o) → K (a.put dst v') w') :
    if Region.wanted o (yielded ops a.tmps) = true then Oper.wp Try.prog o a w K Q else E := by
  refine istep w0 hgd dst hdst s x ho _ [] hs hw0 hown va n c l hx hr hnil (by show 0 + n ≤ _; omega) ?_
  intro v' w' a1 a2 a3
  refine h v' w' (by rw [List.nil_append] at a1; exact a1) a2 fun j o hj hne => a3 j o hj fun e => ?_
  have : some N = some j := e
  injection this with this
  exact hne this.symm
end Go.Proofs.Ytjgepcifknmdhaa

/- The reference: Sorted, the walk. -/
namespace Go.Proofs.Ytjgepcifknmdhaa
open Go.RowKit
set_option linter.unusedVariables false

theorem below_drewN (w : World) (n : Nat) : Below w.heap.size w (w.drewN n) := ⟨rfl, rfl, rfl, Nat.le_refl _, fun _ _ => rfl⟩
set_option maxRecDepth 100000 in
set_option maxHeartbeats 4000000 in
theorem rsorted_any (w : World) {v : Value} {l : List Int} (h : Rd w v l) (hn : l.length ≤ 900) :
    Calls Try.prog 34 #[v] w fun e w' => ∃ v', e = .returned v' ∧ Is w.heap.size v' (canon l) w' ∧ Below w.heap.size w w' := by
  obtain ⟨a, cap, rfl, hs⟩ := h
  obtain ⟨n0, hn0⟩ : ∃ n0, n0 = l.length := ⟨_, rfl⟩
  rw [← hn0] at hs hn ⊢
  replace hs := hide hs
  replace hn0 := hide hn0
  go_enter Try.func34, Try.ntmps34
  go_wp2
  go_loopw [3, 4] (fun s3 s4 wr => ∃ (t k : Nat) (C : List Int) (ag : Option Addr) (cg : Nat), t ≤ n0 ∧ k ≤ t ∧ s3 = .slice ag k cg ∧ s4 = .int .i64 t ∧ Hid (C.length = k) ∧ Hid (C = canon (l.take t)) ∧ Hid (Is w.heap.size (.slice ag k cg) C wr) ∧ Hid (Below w.heap.size w wr)) (fun _ s4 _ => n0 - (intOf s4).toNat)
  case atStart => exact ⟨0, 0, [], none, 0, Nat.zero_le _, Nat.le_refl _, rfl, rfl, rfl, (canon_nil (by simp)).symm, is_nil _ _, Below.refl _ _⟩
  case round =>
    obtain ⟨t, k, C, ag, cg, ht, hk, rfl, rfl, hCk, hC, I3, b3⟩ := hrel
    by_cases hlt : t < n0
    · have sl := (unhide hs).later (unhide b3)
      obtain ⟨gl, ol, rfl, d1⟩ := sl.at hlt
      obtain ⟨x, hx⟩ : ∃ x, x = l.getD t 0 := ⟨_, rfl⟩
      rw [← hx] at d1
      have tk : Hid (l.take (t + 1) = l.take t ++ [x]) := by
        have h1 : t < l.length := by rw [← unhide hn0]; exact hlt
        show _ = _
        rw [List.take_succ_eq_append_getElem h1, hx]
        simp [List.getD, h1]
      have C1 := hide (has_any x wr (unhide I3).rd (by rw [unhide hCk]; omega))
      replace hx := hide hx
      by_cases hm : x ∈ C
      · rw [hasB_dec, decide_eq_true hm] at C1
        have hC2 : Hid (C = canon (l.take (t + 1))) := by
          show _ = _
          rw [unhide tk, canon_in (by rw [← unhide hC]; exact hm)]
          exact unhide hC
        clear hm sl
        go_wp2_with fail
        refine (unhide C1).mono ?_
        rintro e w5 ⟨rfl, rfl⟩
        clear C1
        go_wp2
        go_roundw
        case rel => exact ⟨t + 1, k, C, ag, cg, by omega, by omega, rfl, by go_num, unhide hCk, unhide hC2, unhide I3, unhide b3⟩
        case measure => simp [intOf] <;> omega
      · rw [hasB_dec, decide_eq_false hm] at C1
        have hm' := hide hm
        clear hm sl
        go_wp2_with fail
        refine (unhide C1).mono ?_
        rintro e w5 ⟨rfl, rfl⟩
        clear C1
        have hup : Hid (Up C) := by rw [unhide hC]; exact (canon_facts _).2
        go_wp2
        go_loopw [5] (fun s5 wr => ∃ p : Nat, p ≤ k ∧ s5 = .int .i64 p ∧ Hid (∀ j, p ≤ j → j < k → x < C.getD j 0) ∧ Hid (Below w5.heap.size w5 wr)) (fun s5 _ => (intOf s5).toNat)
        case atStart => exact ⟨k, Nat.le_refl _, rfl, fun j h1 h2 => by omega, Below.refl _ _⟩
        case round =>
          obtain ⟨p, hp, rfl, hab, b6⟩ := hrel
          have e1 := ((unhide b6).cell (p := ⟨gl, ol + t, none⟩) (World.block_lt_of_cell? _ _ d1)).trans d1
          have I6 := hide ((unhide I3).next (unhide b6))
          obtain ⟨bb, hbb⟩ : ∃ bb, bb = (decide (0 < p) && decide (x < C.getD (p - 1) 0)) := ⟨_, rfl⟩
          clear d1
          go_upto_region 7 with fail
          go_cut [33] from 20 to 35 (fun t33 wc => t33 = .bool bb ∧ Hid (Below wr.heap.size wr wc))
          case first =>
            cases p with
            | zero =>
              have hb0 : bb = false := by rw [hbb]; rfl
              subst hb0
              clear hbb hab
              go_wp2_with fail
              go_quiet (fail)
              all_goals
                go_wp2_with fail
                go_meet
                case rel => exact ⟨rfl, below_drewN wr _⟩
            | succ q =>
              obtain ⟨g, o, rfl, f1, _⟩ := (unhide I6).elem' (i := q) (by rw [unhide hCk]; omega)
              obtain ⟨y, hy⟩ : ∃ y, y = C.getD q 0 := ⟨_, rfl⟩
              rw [← hy] at f1
              have hb0 : bb = decide (x < y) := by rw [hbb, show q + 1 - 1 = q from rfl, ← hy, decide_eq_true (show 0 < q + 1 by omega), Bool.true_and]
              have e9 : ((q + 1 : Nat) : Int) - 1 = (q : Int) := by omega
              have e8 : IntKind.i64.wrap ((q : Int) + 1 - 1) = (q : Int) := by rw [IntKind.wrap_i64]; omega
              have e7 : q < k := by omega
              have q0 : decide ((0 : Int) < ((q + 1 : Nat) : Int)) = true := decide_eq_true (by omega)
              replace hy := hide hy
              subst hb0
              clear hbb hab
              go_wp2_with fail
              go_quiet (fail)
              all_goals
                go_wp2_with fail
                go_meet
                case rel => exact ⟨rfl, below_drewN wr _⟩
          case rest =>
            obtain ⟨rfl, b7⟩ := hcut
            cases hb : bb with
            | true =>
              rw [hb] at hbb
              cases p with
              | zero => cases hbb
              | succ q =>
                rw [show q + 1 - 1 = q from rfl, decide_eq_true (show 0 < q + 1 by omega), Bool.true_and] at hbb
                have hq : x < C.getD q 0 := of_decide_eq_true hbb.symm
                have hab2 : Hid (∀ j, q ≤ j → j < k → x < C.getD j 0) := fun j h1 h2 => by
                  rcases (show j = q ∨ q + 1 ≤ j by omega) with rfl | h3
                  · exact hq
                  · exact unhide hab j h3 h2
                have b8 := hide (below_then (unhide b6) (unhide b7))
                have e8 : IntKind.i64.wrap (((q + 1 : Nat) : Int) - 1) = (q : Int) := by rw [IntKind.wrap_i64]; omega
                have e7 : ((q + 1 : Nat) : Int) - 1 = (q : Int) := by omega
                clear hbb hq hb hab
                go_wp2
                go_roundw
                case rel => exact ⟨q, by omega, by first | go_num | (rw [e7]), unhide hab2, unhide b8⟩
                case measure => simp [intOf] <;> omega
            | false =>
              rw [hb] at hbb
              have lo : ∀ j, j < p → C.getD j 0 < x := fun j hj => by
                have h1 : ¬ x < C.getD (p - 1) 0 := by
                  rw [decide_eq_true (show 0 < p by omega), Bool.true_and] at hbb
                  exact of_decide_eq_false hbb.symm
                have h2 : C.getD (p - 1) 0 ≠ x := fun e => unhide hm' (by rw [← e]; exact at_mem (by rw [unhide hCk]; omega))
                rcases (show j = p - 1 ∨ j < p - 1 by omega) with rfl | h3
                · omega
                · have := up_lt (unhide hup) h3 (by rw [unhide hCk]; omega)
                  omega
              have fin : Hid (C.take p ++ [x] ++ C.drop p = canon (l.take (t + 1))) := by
                show _ = _
                rw [unhide tk]
                exact (canon_out (unhide hC) lo (fun j h1 h2 => unhide hab j h1 (by rw [← unhide hCk]; exact h2)) (by rw [unhide hCk]; exact hp)).symm
              have finl : Hid ((canon (l.take (t + 1))).length = k + 1) := by
                show _ = _
                rw [← unhide fin, List.length_append, List.length_append, List.length_take, List.length_drop, unhide hCk]
                simp; omega
              have bw := hide ((unhide b3).trans ((below_then (unhide b6) (unhide b7)).mono (unhide b3).size))
              have d2 := ((unhide b7).cell (p := ⟨gl, ol + t, none⟩) (World.block_lt_of_cell? _ _ e1)).trans e1
              have hS : Hid (∀ W', Below wc.heap.size wc W' → W'.cell? ⟨gl, ol + t, none⟩ = some (.int .i64 x)) := fun W' b => (b.cell (p := ⟨gl, ol + t, none⟩) (World.block_lt_of_cell? _ _ d2)).trans d2
              have I7 := (unhide I6).next (unhide b7)
              have z1 : Hid (p ≤ 2000) := by show _ ≤ _; omega
              have z2 : Hid ((C.take p).length + 1 ≤ 2000) := by show _ ≤ _; rw [List.length_take]; omega
              have z3 : Hid ((C.take p ++ [x]).length + (k - p) ≤ 2000) := by show _ ≤ _; rw [List.length_append, List.length_take]; simp; omega
              have cl := unhide hCk
              clear hbb lo hab b6 b3 e1 hb hC
              rcases I7.2 with ⟨e, ek⟩ | ⟨g, cap2, cur, e, hBg, hgb, y1, y2, y3, hcc⟩
              · have k0 : k = 0 := by rw [← cl]; exact ek
                have p0 : p = 0 := by omega
                have c0 : C = [] := List.eq_nil_of_length_eq_zero ek
                injection e with e1 _ e3
                subst k0 p0 c0 e1 e3
                have sA := hide (seg_nil wc none)
                have nA : Hid ((none : Option Addr) = none → 0 = 0) := fun _ => rfl
                have z4 : Hid (([] ++ [x] : List Int).length + 0 ≤ 2000) := by show 1 ≤ 2000; omega
                clear I7 cl ek z3
                have z3 := z4
                have fin2 : Hid (([] : List Int) ++ [x] ++ [] = canon (l.take (t + 1))) := unhide fin
                clear z4 fin
                have fin := fin2
                clear fin2
                go_wp2_with fail
                go_region_held_law (fun wz => wz.cell? ⟨gl, ol + t, none⟩ = some (.int .i64 x)) (exact unhide hS _ (by repeat (first | exact unhide ba3 | exact unhide ba2 | exact unhide ba1 | exact Below.refl _ _ | refine Below.drew ?_ | refine below_add ?_ _)))
                  (first
                    | (refine istep0 wc rfl (some 40) rfl (.tmp 36) (.tmp 39) rfl _ rfl (by repeat (first | exact unhide ba3 | exact unhide ba2 | exact unhide ba1 | exact Below.refl _ _ | refine Below.drew ?_ | refine below_add ?_ _)) (by first | exact is_lit wc.drew | exact (is_lit wc.drew).next (below_new _ _) | exact is_lit2 wc _ _) _ _ _ [] rfl ((unhide sA).later (by repeat (first | exact unhide ba3 | exact unhide ba2 | exact unhide ba1 | exact Below.refl _ _ | refine Below.drew ?_ | refine below_add ?_ _))) (unhide nA) (unhide z1) ?_; intro v9 w9 x1 ba1 kp1; replace x1 := hide x1; replace ba1 := hide ba1; replace kp1 := hide kp1)
                    | (refine istep wc rfl (some 46) rfl (.tmp 40) (.tmp 45) rfl _ [] rfl (by repeat (first | exact unhide ba3 | exact unhide ba2 | exact unhide ba1 | exact Below.refl _ _ | refine Below.drew ?_ | refine below_add ?_ _)) (by first | exact (is_lit wc.drew).next (below_new _ _) | exact is_lit2 wc _ _) _ _ _ [x] rfl (by first | exact seg_one (heap_d2a wc _ _ _ _) | exact seg_one (heap_d2b wc _ _ _ _)) (fun h => by cases h) (unhide z3) ?_; intro v10 w10 x2 ba2 kp2; replace x2 := hide x2; replace ba2 := hide ba2; clear kp2)
                    | (refine istep wc rfl (some 46) rfl (.tmp 40) (.tmp 45) rfl v9 _ rfl (by repeat (first | exact unhide ba3 | exact unhide ba2 | exact unhide ba1 | exact Below.refl _ _ | refine Below.drew ?_ | refine below_add ?_ _)) (by first | exact unhide x1 | exact (unhide x1).next (below_new _ _)) _ _ _ [x] rfl (by first | exact seg_one (heap_alloc_new w9 _) | exact seg_one (unhide kp1 _ _ (heap_d2a wc _ _ _ _) (by omega)) | exact seg_one (unhide kp1 _ _ (heap_d2b wc _ _ _ _) (by omega))) (fun h => by cases h) (unhide z2) ?_; intro v10 w10 x2 ba2 kp2; replace x2 := hide x2; replace ba2 := hide ba2; clear kp2)
                    | (refine istep wc rfl (some 50) rfl (.tmp 46) (.tmp 49) rfl v10 _ rfl (by repeat (first | exact unhide ba3 | exact unhide ba2 | exact unhide ba1 | exact Below.refl _ _ | refine Below.drew ?_ | refine below_add ?_ _)) (unhide x2) _ _ _ [] rfl (by first | exact seg_nil _ _ | (simp only [Nat.sub_self]; exact seg_nil _ _)) (by first | exact fun _ => rfl | exact fun h => by cases h) (unhide z3) ?_; intro v11 w11 x3 ba3 kp3; replace x3 := hide x3; replace ba3 := hide ba3; clear kp3))
                all_goals
                  have f1 := unhide x3
                  rw [unhide fin] at f1
                  obtain ⟨a11, c11, rfl⟩ := f1.form
                  rw [unhide finl] at f1 ⊢
                  have f2 := hide (f1.down (unhide bw).size)
                  have f3 := hide ((unhide bw).trans ((unhide ba3).mono (unhide bw).size))
                  clear f1 x2 x3 ba2 ba3
                  go_wp2
                  go_roundw
                  case rel => exact ⟨t + 1, 0 + 1, canon (l.take (t + 1)), a11, c11, by omega, by omega, rfl, by go_num, unhide finl, rfl, unhide f2, unhide f3⟩
                  case measure => simp [intOf] <;> omega
              · have sg : SegK .i64 wc (some ⟨g, 0, none⟩) k C := by
                  obtain ⟨a', c', e', s'⟩ := I7.rd
                  rw [e] at e'
                  injection e' with e1 e2 e3
                  subst e1
                  rw [cl] at s'
                  exact s'
                have hkc : k ≤ cap2 := by rw [← cl]; first | exact y1 | exact y2 | exact y3 | omega
                rw [cl] at e
                injection e with e1 _ e3
                subst e1 e3
                have sA := hide (seg_take sg p hp)
                have nA : Hid (some (⟨g, 0, none⟩ : Addr) = none → cg = 0) := fun h => by cases h
                have pc : p ≤ cg := by omega
                rcases Nat.lt_or_ge p k with hpc | hpc
                · have sB := hide (seg_drop sg p hp)
                  have nB : Hid (some (⟨g, 0 + p, none⟩ : Addr) = none → cg - p = 0) := fun h => by cases h
                  rw [Nat.zero_add] at sB nB
                  have q9 : ¬ cg = p := by omega
                  have q8 : p < cg := by omega
                  clear sg I7 y1 y2 y3 hcc hgb hBg hkc pc hpc
                  go_wp2_with fail
                  go_region_held_law (fun wz => wz.cell? ⟨gl, ol + t, none⟩ = some (.int .i64 x)) (exact unhide hS _ (by repeat (first | exact unhide ba3 | exact unhide ba2 | exact unhide ba1 | exact Below.refl _ _ | refine Below.drew ?_ | refine below_add ?_ _)))
                    (first
                      | (refine istep0 wc rfl (some 40) rfl (.tmp 36) (.tmp 39) rfl _ rfl (by repeat (first | exact unhide ba3 | exact unhide ba2 | exact unhide ba1 | exact Below.refl _ _ | refine Below.drew ?_ | refine below_add ?_ _)) (by first | exact is_lit wc.drew | exact (is_lit wc.drew).next (below_new _ _) | exact is_lit2 wc _ _) _ _ _ (C.take p) rfl ((unhide sA).later (by repeat (first | exact unhide ba3 | exact unhide ba2 | exact unhide ba1 | exact Below.refl _ _ | refine Below.drew ?_ | refine below_add ?_ _))) (unhide nA) (unhide z1) ?_; intro v9 w9 x1 ba1 kp1; replace x1 := hide x1; replace ba1 := hide ba1; replace kp1 := hide kp1)
                      | (refine istep wc rfl (some 46) rfl (.tmp 40) (.tmp 45) rfl v9 _ rfl (by repeat (first | exact unhide ba3 | exact unhide ba2 | exact unhide ba1 | exact Below.refl _ _ | refine Below.drew ?_ | refine below_add ?_ _)) (by first | exact unhide x1 | exact (unhide x1).next (below_new _ _)) _ _ _ [x] rfl (by first | exact seg_one (heap_alloc_new w9 _) | exact seg_one (unhide kp1 _ _ (heap_d2a wc _ _ _ _) (by omega)) | exact seg_one (unhide kp1 _ _ (heap_d2b wc _ _ _ _) (by omega))) (fun h => by cases h) (unhide z2) ?_; intro v10 w10 x2 ba2 kp2; replace x2 := hide x2; replace ba2 := hide ba2; clear kp2)
                      | (refine istep wc rfl (some 50) rfl (.tmp 46) (.tmp 49) rfl v10 _ rfl (by repeat (first | exact unhide ba3 | exact unhide ba2 | exact unhide ba1 | exact Below.refl _ _ | refine Below.drew ?_ | refine below_add ?_ _)) (unhide x2) _ _ _ (C.drop p) rfl ((unhide sB).later (by repeat (first | exact unhide ba3 | exact unhide ba2 | exact unhide ba1 | exact Below.refl _ _ | refine Below.drew ?_ | refine below_add ?_ _))) (unhide nB) (unhide z3) ?_; intro v11 w11 x3 ba3 kp3; replace x3 := hide x3; replace ba3 := hide ba3; clear kp3))
                  all_goals
                    have f1 := unhide x3
                    rw [unhide fin] at f1
                    obtain ⟨a11, c11, rfl⟩ := f1.form
                    rw [unhide finl] at f1 ⊢
                    have f2 := hide (f1.down (unhide bw).size)
                    have f3 := hide ((unhide bw).trans ((unhide ba3).mono (unhide bw).size))
                    clear f1 x1 x2 x3 ba1 ba2 ba3 kp1
                    go_wp2
                    go_roundw
                    case rel => exact ⟨t + 1, k + 1, canon (l.take (t + 1)), a11, c11, by omega, by omega, rfl, by go_num, unhide finl, rfl, unhide f2, unhide f3⟩
                    case measure => simp [intOf] <;> omega
                · have hpk : p = k := by omega
                  have d0 : C.drop p = [] := List.drop_eq_nil_of_le (by omega)
                  rw [d0] at fin
                  subst hpk
                  have z4 : Hid ((C.take p ++ [x]).length + 0 ≤ 2000) := by have := unhide z3; show _ ≤ _; omega
                  clear z3
                  have z3 := z4
                  clear z4 sg I7 y1 y2 y3 hcc hgb hBg d0 hkc hpc cl
                  by_cases q9 : cg = p
                  · have q7 := q9.symm
                    subst q7
                    go_wp2_with fail
                    go_region_held_law (fun wz => wz.cell? ⟨gl, ol + t, none⟩ = some (.int .i64 x)) (exact unhide hS _ (by repeat (first | exact unhide ba3 | exact unhide ba2 | exact unhide ba1 | exact Below.refl _ _ | refine Below.drew ?_ | refine below_add ?_ _)))
                      (first
                        | (refine istep0 wc rfl (some 40) rfl (.tmp 36) (.tmp 39) rfl _ rfl (by repeat (first | exact unhide ba3 | exact unhide ba2 | exact unhide ba1 | exact Below.refl _ _ | refine Below.drew ?_ | refine below_add ?_ _)) (by first | exact is_lit wc.drew | exact (is_lit wc.drew).next (below_new _ _) | exact is_lit2 wc _ _) _ _ _ (C.take p) rfl ((unhide sA).later (by repeat (first | exact unhide ba3 | exact unhide ba2 | exact unhide ba1 | exact Below.refl _ _ | refine Below.drew ?_ | refine below_add ?_ _))) (unhide nA) (unhide z1) ?_; intro v9 w9 x1 ba1 kp1; replace x1 := hide x1; replace ba1 := hide ba1; replace kp1 := hide kp1)
                        | (refine istep wc rfl (some 46) rfl (.tmp 40) (.tmp 45) rfl v9 _ rfl (by repeat (first | exact unhide ba3 | exact unhide ba2 | exact unhide ba1 | exact Below.refl _ _ | refine Below.drew ?_ | refine below_add ?_ _)) (by first | exact unhide x1 | exact (unhide x1).next (below_new _ _)) _ _ _ [x] rfl (by first | exact seg_one (heap_alloc_new w9 _) | exact seg_one (unhide kp1 _ _ (heap_d2a wc _ _ _ _) (by omega)) | exact seg_one (unhide kp1 _ _ (heap_d2b wc _ _ _ _) (by omega))) (fun h => by cases h) (unhide z2) ?_; intro v10 w10 x2 ba2 kp2; replace x2 := hide x2; replace ba2 := hide ba2; clear kp2)
                        | (refine istep wc rfl (some 50) rfl (.tmp 46) (.tmp 49) rfl v10 _ rfl (by repeat (first | exact unhide ba3 | exact unhide ba2 | exact unhide ba1 | exact Below.refl _ _ | refine Below.drew ?_ | refine below_add ?_ _)) (unhide x2) _ _ _ [] rfl (by first | exact seg_nil _ _ | (simp only [Nat.sub_self]; exact seg_nil _ _)) (by first | exact fun _ => rfl | exact fun h => by cases h) (unhide z3) ?_; intro v11 w11 x3 ba3 kp3; replace x3 := hide x3; replace ba3 := hide ba3; clear kp3))
                    all_goals
                      have f1 := unhide x3
                      rw [unhide fin] at f1
                      obtain ⟨a11, c11, rfl⟩ := f1.form
                      rw [unhide finl] at f1 ⊢
                      have f2 := hide (f1.down (unhide bw).size)
                      have f3 := hide ((unhide bw).trans ((unhide ba3).mono (unhide bw).size))
                      clear f1 x1 x2 x3 ba1 ba2 ba3 kp1
                      go_wp2
                      go_roundw
                      case rel => exact ⟨t + 1, p + 1, canon (l.take (t + 1)), a11, c11, by omega, by omega, rfl, by go_num, unhide finl, rfl, unhide f2, unhide f3⟩
                      case measure => simp [intOf] <;> omega
                  · have q8 : p < cg := by omega
                    go_wp2_with fail
                    go_region_held_law (fun wz => wz.cell? ⟨gl, ol + t, none⟩ = some (.int .i64 x)) (exact unhide hS _ (by repeat (first | exact unhide ba3 | exact unhide ba2 | exact unhide ba1 | exact Below.refl _ _ | refine Below.drew ?_ | refine below_add ?_ _)))
                      (first
                        | (refine istep0 wc rfl (some 40) rfl (.tmp 36) (.tmp 39) rfl _ rfl (by repeat (first | exact unhide ba3 | exact unhide ba2 | exact unhide ba1 | exact Below.refl _ _ | refine Below.drew ?_ | refine below_add ?_ _)) (by first | exact is_lit wc.drew | exact (is_lit wc.drew).next (below_new _ _) | exact is_lit2 wc _ _) _ _ _ (C.take p) rfl ((unhide sA).later (by repeat (first | exact unhide ba3 | exact unhide ba2 | exact unhide ba1 | exact Below.refl _ _ | refine Below.drew ?_ | refine below_add ?_ _))) (unhide nA) (unhide z1) ?_; intro v9 w9 x1 ba1 kp1; replace x1 := hide x1; replace ba1 := hide ba1; replace kp1 := hide kp1)
                        | (refine istep wc rfl (some 46) rfl (.tmp 40) (.tmp 45) rfl v9 _ rfl (by repeat (first | exact unhide ba3 | exact unhide ba2 | exact unhide ba1 | exact Below.refl _ _ | refine Below.drew ?_ | refine below_add ?_ _)) (by first | exact unhide x1 | exact (unhide x1).next (below_new _ _)) _ _ _ [x] rfl (by first | exact seg_one (heap_alloc_new w9 _) | exact seg_one (unhide kp1 _ _ (heap_d2a wc _ _ _ _) (by omega)) | exact seg_one (unhide kp1 _ _ (heap_d2b wc _ _ _ _) (by omega))) (fun h => by cases h) (unhide z2) ?_; intro v10 w10 x2 ba2 kp2; replace x2 := hide x2; replace ba2 := hide ba2; clear kp2)
                        | (refine istep wc rfl (some 50) rfl (.tmp 46) (.tmp 49) rfl v10 _ rfl (by repeat (first | exact unhide ba3 | exact unhide ba2 | exact unhide ba1 | exact Below.refl _ _ | refine Below.drew ?_ | refine below_add ?_ _)) (unhide x2) _ _ _ [] rfl (by first | exact seg_nil _ _ | (simp only [Nat.sub_self]; exact seg_nil _ _)) (by first | exact fun _ => rfl | exact fun h => by cases h) (unhide z3) ?_; intro v11 w11 x3 ba3 kp3; replace x3 := hide x3; replace ba3 := hide ba3; clear kp3))
                    all_goals
                      have f1 := unhide x3
                      rw [unhide fin] at f1
                      obtain ⟨a11, c11, rfl⟩ := f1.form
                      rw [unhide finl] at f1 ⊢
                      have f2 := hide (f1.down (unhide bw).size)
                      have f3 := hide ((unhide bw).trans ((unhide ba3).mono (unhide bw).size))
                      clear f1 x1 x2 x3 ba1 ba2 ba3 kp1
                      go_wp2
                      go_roundw
                      case rel => exact ⟨t + 1, p + 1, canon (l.take (t + 1)), a11, c11, by omega, by omega, rfl, by go_num, unhide finl, rfl, unhide f2, unhide f3⟩
                      case measure => simp [intOf] <;> omega
    · obtain rfl : t = n0 := by omega
      have e9 : l.take t = l := by rw [unhide hn0]; exact List.take_length
      rw [e9] at hC
      have I9 := unhide I3
      rw [unhide hC] at I9
      replace I9 := hide I9
      clear e9
      go_wp2
      go_ret
      exact ⟨_, rfl, unhide I9, unhide b3⟩
end Go.Proofs.Ytjgepcifknmdhaa

/- RuleNone. -/
namespace Go.Proofs.Ytjgepcifknmdhaa
open Go.RowKit
set_option linter.unusedVariables false

/-- The edges that go the one way. -/
def noL (T : List Int) (up : Bool) (l : List En) : List En := l.filter (fun e => !(e.1 == e.2) && (ygB T e.1 e.2 == up))
theorem no_succ (T : List Int) (up : Bool) (l : List En) (t : Nat) (ht : t < l.length) : noL T up (l.take (t + 1)) = noL T up (l.take t) ++ (if (!((l.getD t (0, 0)).1 == (l.getD t (0, 0)).2) && (ygB T (l.getD t (0, 0)).1 (l.getD t (0, 0)).2 == up)) = true then [l.getD t (0, 0)] else []) := by
  unfold noL
  rw [List.take_succ_eq_append_getElem ht, List.filter_append]
  have e : l.getD t (0, 0) = l[t] := by simp [List.getD, ht]
  rw [e]
  cases h : (!(l[t].1 == l[t].2) && (ygB T l[t].1 l[t].2 == up)) <;> simp [h]
theorem no_le (T : List Int) (up : Bool) (l : List En) : (noL T up l).length ≤ l.length := List.length_filter_le _ _
theorem no_mem {T : List Int} {up : Bool} {l : List En} {a b : Int} (h : CE (noL T up l) a b) : a ≠ b ∧ ygB T a b = up := by
  have := (List.mem_filter.1 h).2
  simpa using this
theorem no_plain (T : List Int) (up : Bool) (l : List En) : circD (noL T up l) = [] ∧ (up = true → canon (wouL T (noL T up l)) = []) ∧ (up = false → canon (deaL T (noL T up l)) = []) := by
  refine ⟨?_, fun e => canon_nil ?_, fun e => canon_nil ?_⟩
  · cases up
    · exact oneway_down fun a b h => yg_tot (no_mem h).1 (no_mem h).2
    · exact oneway_up fun a b h => (no_mem h).2
  · rw [List.eq_nil_iff_forall_not_mem]
    intro x hx
    obtain ⟨a, h1, h2⟩ := wou_mem.1 hx
    have h3 := (no_mem h1).2
    rw [e] at h3
    rw [yg_asym h3] at h2
    cases h2
  · rw [List.eq_nil_iff_forall_not_mem]
    intro x hx
    obtain ⟨a, h1, h2⟩ := dea_mem.1 hx
    have h3 := (no_mem h1).2
    rw [e] at h3
    rw [h3] at h2
    cases h2
theorem blw_drewN (w : World) (n : Nat) : Below w.heap.size w (w.drewN n) := ⟨rfl, rfl, rfl, Nat.le_refl _, fun _ _ => rfl⟩
set_option maxRecDepth 100000 in
set_option maxHeartbeats 2000000 in
theorem ruleNone_walk (a0 : Option Addr) (len0 cap0 : Nat) (T : List Int) (a1 : Option Addr) (len1 cap1 : Nat) (Z1 : Nat → Nat → Int) (up : Bool) (W : World) (s0 : SegK .i64 W a0 len0 T) (lc0 : len0 ≤ cap0) (cm0 : cap0 ≤ maxLen) (wz0 : ∀ z ∈ T, (Lit.int .i64 z).wf = true)
    (s1 : RecsB 2 W.heap.size W a1 len1 Z1) (lc1 : len1 ≤ cap1) (cm1 : cap1 ≤ maxLen) (wz1 : ∀ i, i < len1 → ∀ j, j < 2 → (Lit.int .i64 (Z1 i j)).wf = true) :
    Calls Try.prog 7 #[.slice a0 len0 cap0, .slice a1 len1 cap1, .bool up] W fun e w' => e = .returned (.bool true) ∧ Below W.heap.size W w' := by
  have R0 : Re W (.slice a1 len1 cap1) (edgesOf len1 Z1) := re_recs s1
  have hl1 := edges_len len1 Z1
  generalize edgesOf len1 Z1 = l at R0 hl1
  have G0 : Rd W (.slice a0 len0 cap0) T := rd_seg s0
  have hl0 : T.length = len0 := s0.1
  unfold maxLen at cm0 cm1
  clear s0 wz0 s1 wz1
  have C1 := hide (frs_any W)
  replace hl0 := hide hl0
  replace hl1 := hide hl1
  replace R0 := hide R0
  replace G0 := hide G0
  go_enter Try.func7, Try.ntmps7
  go_wp2_with fail
  refine (unhide C1).mono ?_
  rintro e w1 ⟨rfl, b1⟩
  have R1 := hide ((unhide R0).next b1)
  have G1 := hide ((unhide G0).next b1)
  replace b1 := hide b1
  have last : Hid (∀ P : Ending → World → Prop, (∀ w', Below W.heap.size W w' → P (.returned (.bool true)) w') → Calls Try.prog 23 #[] w1 P) := fun P h => (frs_any w1).mono (by rintro e w' ⟨rfl, b⟩; exact h _ (below_then (unhide b1) b))
  clear C1 R0 G0
  by_cases h60 : len1 ≤ 60
  · by_cases h100 : len0 ≤ 100
    · have hT : Hid (T.length ≤ 1000) := by show _ ≤ _; rw [unhide hl0]; omega
      have f1 : decide (60 < (len1 : Int)) = false := by simp; omega
      have f2 : decide (100 < (len0 : Int)) = false := by simp; omega
      go_wp2
      clear last f1 f2
      go_loopw [7, 8] (fun s7 s8 wr => ∃ (t k : Nat) (ag : Option Addr) (cg : Nat), t ≤ len1 ∧ k ≤ t ∧ s7 = .slice ag k cg ∧ s8 = .int .i64 t ∧ Hid ((noL T up (l.take t)).length = k) ∧ Hid (Pr 41 w1.heap.size (.slice ag k cg) (noL T up (l.take t)) wr) ∧ Hid (Below w1.heap.size w1 wr)) (fun _ s8 _ => len1 - (intOf s8).toNat)
      case atStart => exact ⟨0, 0, none, 0, Nat.zero_le _, Nat.le_refl _, rfl, rfl, rfl, Pr.nil _ _ _, Below.refl _ _⟩
      case round =>
        obtain ⟨t, k, ag, cg, ht, hk, rfl, rfl, hl3, I3, b3⟩ := hrel
        have hk9 : k < 10000000 := by omega
        by_cases hlt : t < len1
        · have hlt2 : t < l.length := by rw [unhide hl1]; exact hlt
          obtain ⟨g, o, rfl, _, d1, d2⟩ := ((unhide R1).next (unhide b3)).at hlt2
          obtain ⟨x, hx⟩ : ∃ x, x = l.getD t (0, 0) := ⟨_, rfl⟩
          have hs := no_succ T up l t hlt2
          rw [← hx] at d1 d2 hs
          replace hx := hide hx
          have G3 := hide ((unhide G1).next (unhide b3))
          have Y : Hid (∀ n, Calls Try.prog 31 #[.slice a0 len0 cap0, .int .i64 x.1, .int .i64 x.2] (wr.drewN n) fun e w' => e = .returned (.bool (ygB T x.1 x.2)) ∧ w' = wr.drewN n) := fun n => lyounger_any _ ((unhide G3).next (blw_drewN _ n)) (unhide hT) _ _
          cases hne : (x.1 == x.2)
          · have hne2 : (x.1 != x.2) = true := by show (!(x.1 == x.2)) = _; rw [hne]; rfl
            cases hup : (ygB T x.1 x.2 == up)
            · rw [hne, hup] at hs
              replace hs := hide (show noL T up (l.take (t + 1)) = noL T up (l.take t) by simpa using hs)
              generalize ygB T x.1 x.2 = y at *
              clear G3
              go_wp2_with fail
              go_quiet ((go_at_call 31; exact Calls.quiet_of_same (unhide Y _)))
              go_wp2
              go_roundw
              case rel => exact ⟨t + 1, k, ag, cg, by omega, by omega, rfl, by go_num, by rw [unhide hs]; exact unhide hl3, by rw [unhide hs]; exact (unhide I3).drewN nq, bt (unhide b3) (blw_drewN wr nq) (unhide b3).size⟩
              case measure => simp [intOf]; omega
            · rw [hne, hup] at hs
              replace hs := hide (show noL T up (l.take (t + 1)) = noL T up (l.take t) ++ [x] by simpa using hs)
              generalize ygB T x.1 x.2 = y at *
              clear G3
              go_wp2_with fail
              go_quiet ((go_at_call 31; exact Calls.quiet_of_same (unhide Y _)))
              obtain ⟨w5, hw5⟩ : ∃ w5, w5 = wr.drewN nq := ⟨_, rfl⟩
              rw [← hw5]
              have b5 : Below w1.heap.size w1 w5 := by rw [hw5]; exact bt (unhide b3) (blw_drewN wr nq) (unhide b3).size
              have I5 : Pr 41 w1.heap.size (.slice ag k cg) (noL T up (l.take t)) w5 := by rw [hw5]; exact (unhide I3).drewN nq
              have d1' : w5.cell? ⟨g, o + t * 2, none⟩ = some (.int .i64 x.1) := by rw [hw5]; exact d1
              have d2' : w5.cell? ⟨g, o + t * 2 + 1, none⟩ = some (.int .i64 x.2) := by rw [hw5]; exact d2
              replace b5 := hide b5
              replace I5 := hide I5
              have hb5 : Hid (w1.heap.size ≤ w5.heap.size) := (unhide b5).size
              clear hw5 d1 d2 I3 b3 Y
              go_wp2_with (at_builtin; refine wpList_pair 41 22 Try.underlying22 inf39 w5 rfl (.tmp 53) (.tmp 58) rfl w1.heap.size ag k cg _ x _ rfl rfl rfl (unhide hl3) (unhide I5) (unhide hb5) hk9 ?_; intro g7 cap7 w7 a1 a2; replace a1 := hide a1; replace a2 := hide a2)
              go_roundw
              case rel => exact ⟨t + 1, k + 1, some ⟨g7, 0, none⟩, cap7, by omega, by omega, rfl, by go_num, by
                show _ = _
                rw [unhide hs, List.length_append, unhide hl3]; rfl, by rw [unhide hs]; exact unhide a1, (unhide b5).grown (unhide a2) (unhide b5).size (fun k hk => ((unhide I5).lt k hk).1)⟩
              case measure => simp [intOf]; omega
          · rw [hne] at hs
            replace hs := hide (show noL T up (l.take (t + 1)) = noL T up (l.take t) by simpa using hs)
            have hne2 : (x.1 != x.2) = false := by show (!(x.1 == x.2)) = _; rw [hne]; rfl
            clear G3 Y
            go_wp2_with fail
            go_quiet (fail)
            go_wp2
            go_roundw
            case rel => exact ⟨t + 1, k, ag, cg, by omega, by omega, rfl, by go_num, by rw [unhide hs]; exact unhide hl3, by rw [unhide hs]; exact (unhide I3).drewN nq, bt (unhide b3) (blw_drewN wr nq) (unhide b3).size⟩
            case measure => simp [intOf]; omega
        · have e1 : l.take t = l := List.take_of_length_le (by rw [unhide hl1]; omega)
          rw [e1] at hl3 I3
          obtain ⟨m, hm⟩ : ∃ m, m = noL T up l := ⟨_, rfl⟩
          have hp := no_plain T up l
          rw [← hm] at hl3 I3 hp
          have hm9 : Hid (m.length ≤ 300) := by have := no_le T up l; show _ ≤ _; rw [hm]; have := unhide hl1; omega
          replace hl3 := hide (unhide hl3)
          replace hm := hide hm
          obtain ⟨hc, hw, hd⟩ := hp
          have hv : Hid (vicD T m = []) := vic_no hc
          replace hc := hide hc
          have G3 := hide ((unhide G1).next (unhide b3))
          have M3 := hide (unhide I3).re
          have B3 := hide (below_then (unhide b1) (unhide b3))
          clear e1 I3 b3 G1 R1
          cases up
          · have hd := hd rfl
            have C2 := hide (deaths_any wr (unhide G3) (unhide hT) (unhide M3) (Nat.le_trans (unhide hm9) (by decide)))
            rw [hd] at C2
            clear hw hd
            go_wp2_with fail
            refine (unhide C2).mono ?_
            rintro e w4 ⟨v4, rfl, i4, b4⟩
            obtain ⟨a4, c4, rfl⟩ := i4.form
            rw [show ([] : List Int).length = 0 from rfl]
            have G4 := hide ((unhide G3).next b4)
            have M4 := hide ((unhide M3).next b4)
            have B4 := hide (below_then (unhide B3) b4)
            clear i4 b4 C2 G3 M3 B3
            have C5 := hide (frs_any w4)
            go_wp2_with fail
            refine (unhide C5).mono ?_
            rintro e w5 ⟨rfl, b5⟩
            have G5 := hide ((unhide G4).next b5)
            have M5 := hide ((unhide M4).next b5)
            have B5 := hide (below_then (unhide B4) b5)
            have C6 := hide (acyclic_any w5 (unhide M5) (unhide hm9))
            rw [unhide hc] at C6
            clear G4 M4 B4 C5 b5
            go_wp2_with fail
            refine (unhide C6).mono ?_
            rintro e w6 ⟨rfl, b6⟩
            rw [show (([] : List Int).length == 0) = true from rfl]
            have G6 := hide ((unhide G5).next b6)
            have M6 := hide ((unhide M5).next b6)
            have B6 := hide (below_then (unhide B5) b6)
            have C7 := hide (victims_any w6 (unhide G6) (unhide hT) (unhide M6) (unhide hm9))
            rw [unhide hv] at C7
            clear G5 M5 B5 C6 b6
            go_wp2_with fail
            refine (unhide C7).mono ?_
            rintro e w7 ⟨v7, rfl, i7, b7⟩
            obtain ⟨a7, c7, rfl⟩ := i7.form
            rw [show ([] : List Int).length = 0 from rfl]
            have B7 := hide (below_then (unhide B6) b7)
            clear i7 b7 C7 G6 M6 B6
            go_wp2
            go_ret
            exact ⟨rfl, unhide B7⟩
          · have hw := hw rfl
            have C2 := hide (wounds_any wr (unhide G3) (unhide hT) (unhide M3) (Nat.le_trans (unhide hm9) (by decide)))
            rw [hw] at C2
            clear hw hd
            go_wp2_with fail
            refine (unhide C2).mono ?_
            rintro e w4 ⟨v4, rfl, i4, b4⟩
            obtain ⟨a4, c4, rfl⟩ := i4.form
            rw [show ([] : List Int).length = 0 from rfl]
            have G4 := hide ((unhide G3).next b4)
            have M4 := hide ((unhide M3).next b4)
            have B4 := hide (below_then (unhide B3) b4)
            clear i4 b4 C2 G3 M3 B3
            have C5 := hide (frs_any w4)
            go_wp2_with fail
            refine (unhide C5).mono ?_
            rintro e w5 ⟨rfl, b5⟩
            have G5 := hide ((unhide G4).next b5)
            have M5 := hide ((unhide M4).next b5)
            have B5 := hide (below_then (unhide B4) b5)
            have C6 := hide (acyclic_any w5 (unhide M5) (unhide hm9))
            rw [unhide hc] at C6
            clear G4 M4 B4 C5 b5
            go_wp2_with fail
            refine (unhide C6).mono ?_
            rintro e w6 ⟨rfl, b6⟩
            rw [show (([] : List Int).length == 0) = true from rfl]
            have G6 := hide ((unhide G5).next b6)
            have M6 := hide ((unhide M5).next b6)
            have B6 := hide (below_then (unhide B5) b6)
            have C7 := hide (victims_any w6 (unhide G6) (unhide hT) (unhide M6) (unhide hm9))
            rw [unhide hv] at C7
            clear G5 M5 B5 C6 b6
            go_wp2_with fail
            refine (unhide C7).mono ?_
            rintro e w7 ⟨v7, rfl, i7, b7⟩
            obtain ⟨a7, c7, rfl⟩ := i7.form
            rw [show ([] : List Int).length = 0 from rfl]
            have B7 := hide (below_then (unhide B6) b7)
            clear i7 b7 C7 G6 M6 B6
            go_wp2
            go_ret
            exact ⟨rfl, unhide B7⟩
    · go_wp2_with (go_at_call 23; refine unhide last _ ?_; intro w' hb)
      go_ret
      exact ⟨rfl, hb⟩
  · go_wp2_with (go_at_call 23; refine unhide last _ ?_; intro w' hb)
    go_ret
    exact ⟨rfl, hb⟩
end Go.Proofs.Ytjgepcifknmdhaa

/- The reference's Nodes and Next. -/
namespace Go.Proofs.Ytjgepcifknmdhaa
open Go.RowKit
set_option linter.unusedVariables false

set_option maxRecDepth 100000 in
/-- Numbers more, behind the others, in a region of open order; the row is our own since B. -/
theorem jstep {w : World} {ops : Array Oper} {o : Oper} {a : Act} {K : Act → World → Prop} {Q : Exit → Act → World → Prop} {E : Prop} (hgd : o.guard = none) (dst : Option Nat) (hdst : o.dst = dst) (s x : Operand)
    (ho : o.op = .call { callee := .builtin .append, args := #[s, x], argTypes := #[23, 23] }) (B : Nat) (v : Value) (k : List Int) (hs : a.eval s = v) (hB : B ≤ w.heap.size) (hown : Is B v k w) (va : Option Addr) (n c : Nat) (l : List Int)
    (hx : a.eval x = .slice va n c) (hr : SegK .i64 w va n l) (hnil : va = none → c = 0) (hn : k.length + n ≤ 2000)
    (h : ∀ v' w', Is B v' (k ++ l) w' → w.grownBy w' v.ownBlock → K (a.put dst v') w') :
    if Region.wanted o (yielded ops a.tmps) = true then Oper.wp Try.prog o a w K Q else E := by
  subst hdst
  have hw : Region.wanted o (yielded ops a.tmps) = true := by simp [Region.wanted, hgd]
  rw [if_pos hw]
  obtain ⟨i0, hi, hz0, hz1, hz2⟩ := info_parts inf3
  obtain ⟨v', w', e, h2, h3⟩ := run_append_seg w o.type B i0 hi hz0 hz1 hz2 v k.length k hown va n c l hr hnil hn hB
  unfold Oper.wp execOp
  simp only [ho, resolve, invoke, builtin, Sem.run_bind, Sem.run_pure, Result.andThen_ok, List.map_toArray, List.map_cons, List.map_nil, hs, hx, e]
  refine h v' w' ?_ h3
  unfold Is
  rw [List.length_append, hr.1]
  exact h2
set_option maxRecDepth 100000 in
set_option maxHeartbeats 1000000 in
theorem rnodes_any (w : World) {v : Value} {l : List En} (h : Re w v l) (hn : l.length ≤ 400) :
    Calls Try.prog 13 #[v] w fun e w' => ∃ v', e = .returned v' ∧ Is w.heap.size v' (canon (nodL l)) w' ∧ Below w.heap.size w w' := by
  obtain ⟨a, cap, rfl⟩ := h.form
  have R := hide h
  clear h
  go_enter Try.func13, Try.ntmps13
  go_wp2
  go_loopw [3, 4] (fun s3 s4 wr => ∃ (t k : Nat) (ag : Option Addr) (cg : Nat), t ≤ l.length ∧ k ≤ t * 2 ∧ s3 = .slice ag k cg ∧ s4 = .int .i64 t ∧ Hid ((nodL (l.take t)).length = k) ∧ Hid (Is w.heap.size (.slice ag k cg) (nodL (l.take t)) wr) ∧ Hid (Below w.heap.size w wr)) (fun _ s4 _ => l.length - (intOf s4).toNat)
  case atStart => exact ⟨0, 0, none, 0, Nat.zero_le _, Nat.le_refl _, rfl, rfl, rfl, is_nil _ _, Below.refl _ _⟩
  case round =>
    obtain ⟨t, k, ag, cg, ht, hk, rfl, rfl, hl3, I3, b3⟩ := hrel
    by_cases hlt : t < l.length
    · obtain ⟨g, o, rfl, _, d1, d2⟩ := ((unhide R).next (unhide b3)).at hlt
      obtain ⟨x, hx⟩ : ∃ x, x = l.getD t (0, 0) := ⟨_, rfl⟩
      have hs := nod_succ l t hlt
      rw [← hx] at d1 d2 hs
      replace hs := hide hs
      replace hx := hide hx
      have bd := hide (below_dnew wr (.cells #[.int .i64 x.1, .int .i64 x.2] 3))
      have I4 := hide ((unhide I3).next (unhide bd))
      have hb4 : Hid (w.heap.size ≤ (wr.drew.alloc (.cells #[.int .i64 x.1, .int .i64 x.2] 3)).heap.size) := Nat.le_trans (unhide b3).size (unhide bd).size
      have hk9 : Hid ((nodL (l.take t)).length + 2 ≤ 2000) := by have := unhide hl3; show _ ≤ _; omega
      go_wp2_with fail
      go_region_law (refine jstep rfl (some 23) rfl (.tmp 11) (.tmp 22) rfl w.heap.size (.slice ag k cg) _ rfl (unhide hb4) (unhide I4) _ _ _ [x.1, x.2] rfl (seg2 wr.drew x.1 x.2) (fun h => by cases h) (unhide hk9) ?_; intro v5 w5 a1 a2; replace a1 := hide a1; replace a2 := hide a2)
      all_goals
        have a3 := unhide a1
        rw [← unhide hs] at a3
        obtain ⟨ag5, cg5, rfl⟩ := a3.form
        obtain ⟨k5, hk5⟩ : ∃ k5, k5 = (nodL (l.take (t + 1))).length := ⟨_, rfl⟩
        rw [← hk5] at a3 ⊢
        have hk6 : k5 ≤ (t + 1) * 2 := by rw [hk5, nod_len, List.length_take]; omega
        replace a3 := hide a3
        replace hk5 := hide hk5
        clear a1
        go_wp2
        go_roundw
        case rel => exact ⟨t + 1, k5, ag5, cg5, by omega, by omega, rfl, by go_num, (unhide hk5).symm, unhide a3, (unhide b3).trans (grown_below (grown_trans (grown_of_below (unhide bd) _) (unhide a2)) (unhide b3).size (fun k hk => ((unhide I3).lt k hk).1))⟩
        case measure => simp [intOf]; omega
    · obtain rfl : t = l.length := by omega
      rw [List.take_length] at I3 hl3
      have hl4 : Hid ((nodL l).length ≤ 900) := by show _ ≤ _; rw [nod_len]; omega
      clear hk
      go_wp2_with fail
      refine (rsorted_any wr (unhide I3).rd (unhide hl4)).mono ?_
      rintro e w5 ⟨v5, rfl, I5, b5⟩
      have b6 := hide ((unhide b3).trans (b5.mono (unhide b3).size))
      have I6 := hide (I5.down (unhide b3).size)
      clear I5 b5
      go_wp2
      go_ret
      exact ⟨v5, rfl, unhide I6, unhide b6⟩
set_option maxRecDepth 100000 in
set_option maxHeartbeats 1000000 in
theorem rnext_any (w : World) {v : Value} {l : List En} (n : Int) (h : Re w v l) (hn : l.length ≤ 700) :
    Calls Try.prog 15 #[.int .i64 n, v] w fun e w' => ∃ v', e = .returned v' ∧ Is w.heap.size v' (canon (nexL n l)) w' ∧ Below w.heap.size w w' := by
  obtain ⟨a, cap, rfl⟩ := h.form
  have R := hide h
  clear h
  go_enter Try.func15, Try.ntmps15
  go_wp2
  go_loopw [5, 6] (fun s5 s6 wr => ∃ (t k : Nat) (ag : Option Addr) (cg : Nat), t ≤ l.length ∧ k ≤ t ∧ s5 = .slice ag k cg ∧ s6 = .int .i64 t ∧ Hid ((nexL n (l.take t)).length = k) ∧ Hid (Is w.heap.size (.slice ag k cg) (nexL n (l.take t)) wr) ∧ Hid (Below w.heap.size w wr)) (fun _ s6 _ => l.length - (intOf s6).toNat)
  case atStart => exact ⟨0, 0, none, 0, Nat.zero_le _, Nat.le_refl _, rfl, rfl, rfl, is_nil _ _, Below.refl _ _⟩
  case round =>
    obtain ⟨t, k, ag, cg, ht, hk, rfl, rfl, hl3, I3, b3⟩ := hrel
    have hk9 : k < 10000000 := by omega
    by_cases hlt : t < l.length
    · obtain ⟨g, o, rfl, _, d1, d2⟩ := ((unhide R).next (unhide b3)).at hlt
      obtain ⟨x, hx⟩ : ∃ x, x = l.getD t (0, 0) := ⟨_, rfl⟩
      have hs := nex_succ n l t hlt
      rw [← hx] at d1 d2 hs
      replace hx := hide hx
      have hb4 : Hid (w.heap.size ≤ wr.heap.size) := (unhide b3).size
      cases hq : (x.1 == n)
      · rw [hq, if_neg (by decide), List.append_nil] at hs
        replace hs := hide hs
        go_wp2
        go_roundw
        case rel => exact ⟨t + 1, k, ag, cg, by omega, by omega, rfl, by go_num, by rw [unhide hs]; exact unhide hl3, by rw [unhide hs]; exact unhide I3, unhide b3⟩
        case measure => simp [intOf]; omega
      · rw [hq, if_pos rfl] at hs
        replace hs := hide hs
        go_wp2_with (at_builtin; refine wpList_push wr rfl (.tmp 20) (.tmp 26) rfl w.heap.size ag k cg _ x.2 _ rfl rfl rfl (unhide hl3) (unhide I3) (unhide hb4) hk9 ?_; intro g5 cap5 w5 a1 a2; replace a1 := hide a1; replace a2 := hide a2)
        go_roundw
        case rel => exact ⟨t + 1, k + 1, some ⟨g5, 0, none⟩, cap5, by omega, by omega, rfl, by go_num, by
          show _ = _
          rw [unhide hs, List.length_append, unhide hl3]; rfl, by rw [unhide hs]; exact unhide a1, (unhide b3).grown (unhide a2) (unhide b3).size (fun k hk => ((unhide I3).lt k hk).1)⟩
        case measure => simp [intOf]; omega
    · obtain rfl : t = l.length := by omega
      rw [List.take_length] at I3 hl3
      have hl4 : Hid ((nexL n l).length ≤ 900) := by have := unhide hl3; show _ ≤ _; omega
      go_wp2_with fail
      refine (rsorted_any wr (unhide I3).rd (unhide hl4)).mono ?_
      rintro e w5 ⟨v5, rfl, I5, b5⟩
      have b6 := hide ((unhide b3).trans (b5.mono (unhide b3).size))
      have I6 := hide (I5.down (unhide b3).size)
      clear I5 b5
      go_wp2
      go_ret
      exact ⟨v5, rfl, unhide I6, unhide b6⟩
end Go.Proofs.Ytjgepcifknmdhaa

/- What the reference reaches: plain words. -/
namespace Go.Proofs.Ytjgepcifknmdhaa

/-- What has been reached from some, through none of A. -/
structure Rcd (E : Int → Int → Prop) (A : Int → Prop) (F o : List Int) : Prop where
  nd : o.Nodup
  sub : ∀ x ∈ F, x ∈ o
  got : ∀ y ∈ o, ∃ x, x ∈ F ∧ Av E A x y
theorem Rcd.begin {E : Int → Int → Prop} {A : Int → Prop} {F : List Int} (h : F.Nodup) (hA : ∀ x ∈ F, ¬ A x) : Rcd E A F F := ⟨h, fun _ h => h, fun y hy => ⟨y, hy, .refl (hA y hy)⟩⟩
theorem Rcd.add {E : Int → Int → Prop} {A : Int → Prop} {F o : List Int} (h : Rcd E A F o) {y z : Int} (hy : y ∈ o) (e : E y z) (hz : ¬ A z) (hn : z ∉ o) : Rcd E A F (o ++ [z]) := by
  refine ⟨?_, fun x hx => List.mem_append_left _ (h.sub x hx), fun u hu => ?_⟩
  · rw [List.nodup_append]
    refine ⟨h.nd, by simp, fun a ha b hb => ?_⟩
    rw [List.mem_singleton.1 hb]
    rintro rfl
    exact hn ha
  · rcases List.mem_append.1 hu with k | k
    · exact h.got u k
    · rw [List.mem_singleton.1 k]
      obtain ⟨x, h1, h2⟩ := h.got y hy
      exact ⟨x, h1, h2.snoc e hz⟩
/-- All of it, once nothing more leads out. -/
theorem Rcd.done {E : Int → Int → Prop} {A : Int → Prop} {F o : List Int} (h : Rcd E A F o) (hc : ∀ y ∈ o, ∀ z, E y z → ¬ A z → z ∈ o) (s : Int) : s ∈ o ↔ ∃ x, x ∈ F ∧ Av E A x s := by
  refine ⟨h.got s, fun ⟨x, h1, h2⟩ => ?_⟩
  have key : ∀ a b, Av E A a b → a ∈ o → b ∈ o := by
    intro a b hab
    induction hab with
    | refl _ => exact id
    | step k e r ih => exact fun ha => ih (hc _ ha _ e r.fst)
  exact key x s h2 (h.sub x h1)
theorem Rcd.small {l : List En} {A : Int → Prop} {F o : List Int} (h : Rcd (CE l) A F o) : o.length ≤ F.length + 2 * l.length := by
  have := nd_sub o (F ++ nodL l) h.nd fun y hy => by
    obtain ⟨x, h1, h2⟩ := h.got y hy
    have key : ∀ a b, Av (CE l) A a b → a = b ∨ b ∈ nodL l := by
      intro a b hab
      induction hab with
      | refl _ => exact .inl rfl
      | step k e r ih =>
        rcases ih with rfl | ih
        · exact .inr (nod_mem.2 ⟨_, e, .inr rfl⟩)
        · exact .inr ih
    rcases key x y h2 with rfl | k
    · exact List.mem_append_left _ h1
    · exact List.mem_append_right _ k
  rw [List.length_append, nod_len] at this
  omega
/-- The way's ones but the first. -/
theorem way_tail {E : Int → Int → Prop} {s : Int} {c : List Int} (h : Way E s c) (x : Int) : x ∈ c.drop 1 ↔ x ∈ c ∧ x ≠ s := by
  obtain ⟨r, e⟩ := h.head
  have nd := h.nodup
  rw [e] at nd ⊢
  have h1 := List.nodup_cons.1 nd
  show x ∈ r ↔ _
  constructor
  · intro hx
    exact ⟨List.mem_cons_of_mem _ hx, fun e => h1.1 (by rw [← e]; exact hx)⟩
  · rintro ⟨h2, h3⟩
    rcases List.mem_cons.1 h2 with e | h2
    · exact absurd e h3
    · exact h2
/-- The first ones of a way are a way. -/
theorem Way.pre {E : Int → Int → Prop} {s : Int} {c : List Int} (h : Way E s c) {k : Nat} (h0 : 0 < k) (hk : k ≤ c.length) : Way E s (c.take k) := by
  rcases (show k < c.length ∨ k = c.length by omega) with h1 | rfl
  · obtain ⟨p, v, e, w, _⟩ := h.cut k h1 h0
    rw [e]; exact w
  · rw [List.take_length]; exact h
/-- Of a circle's way: whether it is at its end, and who is next. -/
theorem circ_step {l : List En} {s : Int} {c : List Int} (hw : Way (CE l) s c) (hlast : CE l (c.getD (c.length - 1) 0) s) {k : Nat} (h0 : 0 < k) (hk : k ≤ c.length) :
    (CE l (c.getD (k - 1) 0) s ↔ k = c.length) ∧ (k < c.length → CE l (c.getD (k - 1) 0) (c.getD k 0) ∧ c.getD k 0 ∉ c.take k ∧ Av (CE l) (fun x => x ∈ c.take k ∧ x ≠ s) (c.getD k 0) s ∧
      ∀ m', m' < c.getD k 0 → CE l (c.getD (k - 1) 0) m' → m' ∉ c.take k → ¬ Av (CE l) (fun x => x ∈ c.take k ∧ x ≠ s) m' s) := by
  have key : k < c.length → ¬ CE l (c.getD (k - 1) 0) s ∧ CE l (c.getD (k - 1) 0) (c.getD k 0) ∧ c.getD k 0 ∉ c.take k ∧ Av (CE l) (fun x => x ∈ c.take k ∧ x ≠ s) (c.getD k 0) s ∧
      ∀ m', m' < c.getD k 0 → CE l (c.getD (k - 1) 0) m' → m' ∉ c.take k → ¬ Av (CE l) (fun x => x ∈ c.take k ∧ x ≠ s) m' s := by
    intro h1
    obtain ⟨p, v, e, _⟩ := hw.cut k h1 h0
    have hp : p.length + 1 = k := by
      have := congrArg List.length e
      rw [List.length_take, List.length_append] at this
      simp at this
      omega
    have hc : c = p ++ [v] ++ c.getD k 0 :: c.drop (k + 1) := by
      have h2 := List.take_append_drop k c
      rw [List.drop_eq_getElem_cons h1, e] at h2
      rw [List.getD_eq_getElem?_getD, List.getElem?_eq_getElem h1]
      exact h2.symm
    have hv : c.getD (k - 1) 0 = v := by
      have h3 : (c.take k).getD (k - 1) 0 = c.getD (k - 1) 0 := by
        rw [List.getD_eq_getElem?_getD, List.getD_eq_getElem?_getD, List.getElem?_take_of_lt (by omega)]
      rw [← h3, e, show k - 1 = p.length by omega, snoc_last]
    obtain ⟨g1, g2, g3, g4, g5⟩ := hw.next p v _ _ hc
    rw [hv, e]
    exact ⟨g1, g2, g3, g4, g5⟩
  refine ⟨⟨fun h => ?_, fun h => by rw [h]; exact hlast⟩, fun h => (key h).2⟩
  rcases (show k < c.length ∨ k = c.length by omega) with h1 | h1
  · exact absurd h (key h1).1
  · exact h1
/-- The circle, from who stands at its head. -/
theorem circ_head {l : List En} {s : Int} (h1 : On (CE l) s) (h2 : ∀ n, On (CE l) n → s ≤ n) : Way (CE l) s (circD l) ∧ CE l ((circD l).getD ((circD l).length - 1) 0) s ∧ 0 < (circD l).length := by
  rcases circ_is l with ⟨_, h⟩ | ⟨s', p, v, e, k1, k2, k3, k4⟩
  · exact absurd h1 (h s)
  · obtain rfl : s = s' := by have := h2 _ k1; have := k2 _ h1; omega
    rw [e]
    refine ⟨k3, ?_, by simp⟩
    rw [show (p ++ [v]).length - 1 = p.length by simp, snoc_last]
    exact k4
end Go.Proofs.Ytjgepcifknmdhaa
