/- Texts of this claim, put together in their order. -/
import Derived.Test.YtfnepbpopemonaaOfGraphcircle1
import Derived.Test.YtfnepbpopemonaaOfGraphcircle2
import Derived.Test.YtfnepbpopemonaaOfGraphcircle3
import Derived.Test.YtfnepbpopemonaaOfGraphcircle4
import Derived.Test.YtfnepbpopemonaaOfGraphcircle5
import Derived.Test.YtfnepbpopemonaaOfGraphcircle6
import Derived.Test.YtfnepbpopemonaaOfGraphcircle7
/- GraphCircle: the walk. -/
namespace Go.Proofs.Ytfnepbpopemonaa
open Go.RowKit
set_option linter.unusedVariables false
set_option linter.unusedSimpArgs false

theorem tmod_nat (a b : Nat) : Int.tmod (a : Int) (b : Int) = ((a % b : Nat) : Int) := by
  rw [Int.tmod_eq_emod_of_nonneg (by omega)]; omega
theorem hasB_true {x : Int} {l : List Int} (h : x ∈ l) : hasB x l = true := by
  obtain ⟨i, hi, e⟩ := mem_at h
  exact has_yes x l i hi e.symm
theorem hasB_iff {x : Int} {l : List Int} : hasB x l = true ↔ x ∈ l := by
  constructor
  · intro h
    exact Classical.byContradiction fun k => by rw [hasB_false k] at h; cases h
  · exact hasB_true
set_option maxRecDepth 100000 in
set_option maxHeartbeats 8000000 in
theorem graphCircle_walk (a0 : Option Addr) (len0 cap0 : Nat) (Z0 : Nat → Nat → Int) (W : World) (s0 : RecsB 2 W.heap.size W a0 len0 Z0) (lc0 : len0 ≤ cap0) (cm0 : cap0 ≤ maxLen)
    (wz0 : ∀ i, i < len0 → ∀ j, j < 2 → (Lit.int .i64 (Z0 i j)).wf = true) :
    Calls Try.prog 4 #[.slice a0 len0 cap0] W fun e w' => e = .returned (.bool true) ∧ Below W.heap.size W w' := by
  have R0 : Re W (.slice a0 len0 cap0) (edgesOf len0 Z0) := re_recs s0
  have hl0 := edges_len len0 Z0
  generalize edgesOf len0 Z0 = l at R0 hl0
  unfold maxLen at cm0
  clear s0 wz0
  have C1 := hide (fst_any W)
  replace hl0 := hide hl0
  replace R0 := hide R0
  go_enter Try.func4, Try.ntmps4
  go_wp2_with fail
  refine (unhide C1).mono ?_
  rintro e w1 ⟨rfl, b1⟩
  have R1 := hide ((unhide R0).next b1)
  replace b1 := hide b1
  clear C1 R0
  by_cases h60 : len0 ≤ 60
  · have h60z : decide ((60 : Int) < (len0 : Int)) = false := by simp; omega
    have hn0 : Hid (l.length ≤ 300) := by show _ ≤ _; rw [unhide hl0]; omega
    have hn1 : Hid (l.length ≤ 60) := by show _ ≤ _; rw [unhide hl0]; omega
    have C2 := hide (circle_any w1 (unhide R1) (unhide hn0))
    go_wp2_with fail
    refine (unhide C2).mono ?_
    rintro e w2 ⟨v3, rfl, I3, hc, n3, k2⟩
    have R2 := hide ((unhide R1).next k2)
    replace k2 := hide (below_then (unhide b1) k2)
    obtain ⟨a3, q3, rfl⟩ := I3.form
    generalize circD l = c at I3 hc n3
    obtain ⟨nc, hnc⟩ : ∃ nc, nc = c.length := ⟨_, rfl⟩
    rw [← hnc] at n3 I3 ⊢
    obtain ⟨t1, t2, t3⟩ := hc.tells
    have t4 := hc.on
    replace t1 := hide t1
    replace t2 := hide t2
    replace t3 := hide t3
    replace t4 := hide t4
    replace I3 := hide I3
    replace hc := hide hc
    replace hnc := hide hnc
    clear C2 R1 b1 h60z
    go_wp2
    go_loopw [4] (fun s4 wr => ∃ i : Nat, i ≤ nc ∧ s4 = .int .i64 i ∧ Hid (Below w2.heap.size w2 wr)) (fun s4 _ => nc - (intOf s4).toNat)
    case atStart => exact ⟨0, Nat.zero_le _, rfl, Below.refl _ _⟩
    case round =>
      obtain ⟨i, hi, rfl, b4⟩ := hrel
      by_cases hlt : i < nc
      · have J3 := hide ((unhide I3).next (unhide b4))
        have hic : i < c.length := by rw [← unhide hnc]; exact hlt
        obtain ⟨j, hj⟩ : ∃ j, j = (i + 1) % nc := ⟨_, rfl⟩
        have hjn : j < nc := by rw [hj]; exact Nat.mod_lt _ (by omega)
        obtain ⟨g, o, rfl, d1, _⟩ := (unhide J3).elem' (i := i) hic
        obtain ⟨g', o', e1, d2, _⟩ := (unhide J3).elem' (i := j) (by rw [← unhide hnc]; exact hjn)
        obtain ⟨g'', o'', e2, d3, _⟩ := (unhide J3).elem' (i := 0) (by rw [← unhide hnc]; omega)
        have e11 : g = g' := by injection e1 with e1; injection e1
        have e12 : o = o' := by injection e1 with e1; injection e1
        have e21 : g = g'' := by injection e2 with e2; injection e2
        have e22 : o = o'' := by injection e2 with e2; injection e2
        subst e11 e12 e21 e22
        clear e1 e2
        rw [Nat.add_zero] at d3
        obtain ⟨x, hx⟩ : ∃ x, x = c.getD i 0 := ⟨_, rfl⟩
        obtain ⟨y, hy⟩ : ∃ y, y = c.getD j 0 := ⟨_, rfl⟩
        obtain ⟨z, hz⟩ : ∃ z, z = c.getD 0 0 := ⟨_, rfl⟩
        rw [← hx] at d1
        rw [← hy] at d2
        rw [← hz] at d3
        have edge : CE l x y := by
          have := unhide t1 i hic
          rw [← unhide hnc, ← hj, ← hx, ← hy] at this
          exact this
        have hhas : hasB y (canon (nexL x l)) = true := hasB_true (((canon_facts _).1 _).2 (nex_mem.2 edge))
        have hon : onB l x = true := onB_iff.2 (unhide t4 x (by rw [hx]; exact at_mem hic))
        have hgt : 0 < i → z < x := fun h => by rw [hz, hx]; exact unhide t3 i h hic
        have hS : Hid (∀ W', Below wr.heap.size wr W' → W'.cell? ⟨g, o + i, none⟩ = some (.int .i64 x) ∧ W'.cell? ⟨g, o + j, none⟩ = some (.int .i64 y) ∧ W'.cell? ⟨g, o, none⟩ = some (.int .i64 z)) := fun W' b =>
          ⟨(b.cell (p := ⟨g, o + i, none⟩) (World.block_lt_of_cell? _ _ d1)).trans d1, (b.cell (p := ⟨g, o + j, none⟩) (World.block_lt_of_cell? _ _ d2)).trans d2, (b.cell (p := ⟨g, o, none⟩) (World.block_lt_of_cell? _ _ d3)).trans d3⟩
        have Rr := hide ((unhide R2).next (unhide b4))
        have cNext : Hid (∀ w, Below wr.heap.size wr w → Calls Try.prog 13 #[.int .i64 x, .slice a0 len0 cap0] w fun e w' => ∃ v', e = .returned v' ∧ Rd w' v' (canon (nexL x l)) ∧ Below wr.heap.size wr w') := fun w b =>
          (next_any w x ((unhide Rr).next b) (Nat.le_trans (unhide hn0) (by decide))).mono fun e w' ⟨v', h1, h2, h3⟩ => ⟨v', h1, h2.rd, below_then b h3⟩
        have hnl : (canon (nexL x l)).length ≤ 100000 := by
          have h1 := canon_le (nexL x l)
          have h2 := nex_le x l
          have h3 := unhide hn0
          omega
        have cHas : Hid (∀ w v, Rd w v (canon (nexL x l)) → Calls Try.prog 22 #[v, .int .i64 y] w fun e w' => e = .returned (.bool true) ∧ w' = w) := fun w v h => by
          have := has_any y w h hnl
          rw [hhas] at this
          exact this
        have cOn : Hid (∀ w, Below wr.heap.size wr w → Calls Try.prog 20 #[.int .i64 x, .slice a0 len0 cap0] w fun e w' => e = .returned (.bool true) ∧ Below wr.heap.size wr w') := fun w b => by
          have := on_any w ((unhide Rr).next b) (unhide hn0) x
          rw [hon] at this
          exact this.mono fun e w' ⟨h1, h2⟩ => ⟨h1, below_then b h2⟩
        have q1 : Int.tmod ((i : Int) + 1) (nc : Int) = (j : Int) := by rw [hj]; exact by have := tmod_nat (i + 1) nc; exact this
        have q2 : IntKind.i64.wrap (j : Int) = (j : Int) := by rw [IntKind.wrap_i64]; omega
        have q3 : IntKind.i64.wrap ((i : Int) + 1) = (i : Int) + 1 := by rw [IntKind.wrap_i64]; omega
        have q5 : ¬ nc = 0 := by omega
        have q6 : 0 < nc := by omega
        have b4' := b4
        obtain ⟨wb, hwb⟩ : ∃ wb, wb = wr := ⟨_, rfl⟩
        replace hj := hide hj
        replace hx := hide hx
        replace hy := hide hy
        replace hz := hide hz
        clear edge hhas hon hnl
        by_cases h0 : 0 < i
        · have q7 : decide ((0 : Int) < (i : Int)) = true := by simp; omega
          have q8 : decide (x ≤ z) = false := by have := hgt h0; simp; omega
          clear hgt
          go_wp2_with fail
          refine wp_region_held_drew (S := (fun wz => wz.cell? ⟨g, o + i, none⟩ = some (.int .i64 x) ∧ wz.cell? ⟨g, o + j, none⟩ = some (.int .i64 y) ∧ wz.cell? ⟨g, o, none⟩ = some (.int .i64 z))) (by kernel_rfl) ?hS0 (fun hHeld => ?_)
          case hS0 => exact unhide hS _ (by repeat (first | exact unhide kz3 | exact unhide kz2 | exact unhide kz1 | exact Below.refl _ _ | refine Below.drew ?_))
          refine wpAnyH_take (i := 0) (v := ?_) rfl (by kernel_rfl) (by kernel_rfl) (by kernel_rfl) (fun _ _ _ h => h) (Or.inl ⟨by rfl, ?_⟩) (by assumption) ?_
          rotate_left
          · (intro w hSw; (try dsimp only at hSw); go_simp; first | done | with_reducible rfl)
          try simp only [Act.put, List.setIfInBounds_toArray, List.set_cons_zero, List.set_cons_succ, List.getElem_toArray, List.getElem_cons_succ, List.getElem_cons_zero]
          refine wpAnyH_take (i := 1) (v := ?_) rfl (by kernel_rfl) (by kernel_rfl) (by kernel_rfl) (fun _ _ _ h => h) (Or.inl ⟨by rfl, ?_⟩) (by assumption) ?_
          rotate_left
          · (intro w hSw; (try dsimp only at hSw); go_simp; first | done | with_reducible rfl)
          try simp only [Act.put, List.setIfInBounds_toArray, List.set_cons_zero, List.set_cons_succ, List.getElem_toArray, List.getElem_cons_succ, List.getElem_cons_zero]
          refine wpAnyH_take (i := 2) (v := ?_) rfl (by kernel_rfl) (by kernel_rfl) (by kernel_rfl) (fun _ _ _ h => h) (Or.inl ⟨by rfl, ?_⟩) (by assumption) ?_
          rotate_left
          · (intro w hSw; (try dsimp only at hSw); go_simp; first | done | with_reducible rfl)
          try simp only [Act.put, List.setIfInBounds_toArray, List.set_cons_zero, List.set_cons_succ, List.getElem_toArray, List.getElem_cons_succ, List.getElem_cons_zero]
          refine wpAnyH_take (i := 3) (v := ?_) rfl (by kernel_rfl) (by kernel_rfl) (by kernel_rfl) (fun _ _ _ h => h) (Or.inl ⟨by rfl, ?_⟩) (by assumption) ?_
          rotate_left
          · (intro w hSw; (try dsimp only at hSw); go_simp; first | done | with_reducible rfl)
          try simp only [Act.put, List.setIfInBounds_toArray, List.set_cons_zero, List.set_cons_succ, List.getElem_toArray, List.getElem_cons_succ, List.getElem_cons_zero]
          refine wpAnyH_take (i := 4) (v := ?_) rfl (by kernel_rfl) (by kernel_rfl) (by kernel_rfl) (fun _ _ _ h => h) (Or.inl ⟨by rfl, ?_⟩) (by assumption) ?_
          rotate_left
          · (intro w hSw; (try dsimp only at hSw); go_simp; first | done | with_reducible rfl)
          try simp only [Act.put, List.setIfInBounds_toArray, List.set_cons_zero, List.set_cons_succ, List.getElem_toArray, List.getElem_cons_succ, List.getElem_cons_zero]
          refine wpAnyH_take (i := 6) (v := ?_) rfl (by kernel_rfl) (by kernel_rfl) (by kernel_rfl) (fun _ _ _ h => h) (Or.inl ⟨by rfl, ?_⟩) (by assumption) ?_
          rotate_left
          · (intro w hSw; (try dsimp only at hSw); go_simp; first | done | with_reducible rfl)
          try simp only [Act.put, List.setIfInBounds_toArray, List.set_cons_zero, List.set_cons_succ, List.getElem_toArray, List.getElem_cons_succ, List.getElem_cons_zero]
          refine wpAnyH_take (i := 7) (v := ?_) rfl (by kernel_rfl) (by kernel_rfl) (by kernel_rfl) (fun _ _ _ h => h) (Or.inl ⟨by rfl, ?_⟩) (by assumption) ?_
          rotate_left
          · (intro w hSw; (try dsimp only at hSw); go_simp; first | done | with_reducible rfl)
          try simp only [Act.put, List.setIfInBounds_toArray, List.set_cons_zero, List.set_cons_succ, List.getElem_toArray, List.getElem_cons_succ, List.getElem_cons_zero]
          refine wpAnyH_take (i := 8) (v := ?_) rfl (by kernel_rfl) (by kernel_rfl) (by kernel_rfl) (fun _ _ _ h => h) (Or.inl ⟨by rfl, ?_⟩) (by assumption) ?_
          rotate_left
          · (intro w hSw; (try dsimp only at hSw); go_simp; first | done | with_reducible rfl)
          try simp only [Act.put, List.setIfInBounds_toArray, List.set_cons_zero, List.set_cons_succ, List.getElem_toArray, List.getElem_cons_succ, List.getElem_cons_zero]
          refine wpAnyH_take (i := 9) (v := ?_) rfl (by kernel_rfl) (by kernel_rfl) (by kernel_rfl) (fun _ _ _ h => h) (Or.inl ⟨by rfl, ?_⟩) (by assumption) ?_
          rotate_left
          · (intro w hSw; (try dsimp only at hSw); go_simp; first | done | with_reducible rfl)
          try simp only [Act.put, List.setIfInBounds_toArray, List.set_cons_zero, List.set_cons_succ, List.getElem_toArray, List.getElem_cons_succ, List.getElem_cons_zero]
          refine wpAnyH_take (i := 10) (v := ?_) rfl (by kernel_rfl) (by kernel_rfl) (by kernel_rfl) (fun _ _ _ h => h) (Or.inl ⟨by rfl, ?_⟩) (by assumption) ?_
          rotate_left
          · (intro w hSw; (try dsimp only at hSw); go_simp; first | done | with_reducible rfl)
          try simp only [Act.put, List.setIfInBounds_toArray, List.set_cons_zero, List.set_cons_succ, List.getElem_toArray, List.getElem_cons_succ, List.getElem_cons_zero]
          refine wpAnyH_take (i := 11) (v := ?_) rfl (by kernel_rfl) (by kernel_rfl) (by kernel_rfl) (fun _ _ _ h => h) (Or.inl ⟨by rfl, ?_⟩) (by assumption) ?_
          rotate_left
          · (intro w hSw; (try dsimp only at hSw); go_simp; first | done | with_reducible rfl)
          try simp only [Act.put, List.setIfInBounds_toArray, List.set_cons_zero, List.set_cons_succ, List.getElem_toArray, List.getElem_cons_succ, List.getElem_cons_zero]
          refine wpAnyH_take (i := 12) (v := ?_) rfl (by kernel_rfl) (by kernel_rfl) (by kernel_rfl) (fun _ _ _ h => h) (Or.inl ⟨by rfl, ?_⟩) (by assumption) ?_
          rotate_left
          · (intro w hSw; (try dsimp only at hSw); go_simp; first | done | with_reducible rfl)
          try simp only [Act.put, List.setIfInBounds_toArray, List.set_cons_zero, List.set_cons_succ, List.getElem_toArray, List.getElem_cons_succ, List.getElem_cons_zero]
          refine wpAnyH_take (i := 13) (v := ?_) rfl (by kernel_rfl) (by kernel_rfl) (by kernel_rfl) (fun _ _ _ h => h) (Or.inl ⟨by rfl, ?_⟩) (by assumption) ?_
          rotate_left
          · (intro w hSw; (try dsimp only at hSw); go_simp; first | done | with_reducible rfl)
          try simp only [Act.put, List.setIfInBounds_toArray, List.set_cons_zero, List.set_cons_succ, List.getElem_toArray, List.getElem_cons_succ, List.getElem_cons_zero]
          refine wpAnyH_ready (rs := [5]) (by kernel_rfl) (by simp) ?_
          refine AllReadyH.cons rfl (fun K hK => ?_) AllReadyH.nil
          go_simp
          go_wp2_with (go_at_call 13; refine (unhide cNext _ (by repeat (first | exact unhide kz3 | exact unhide kz2 | exact unhide kz1 | exact Below.refl _ _ | refine Below.drew ?_))).mono ?_; rintro e wz1 ⟨v28, rfl, i28, kz1⟩; replace i28 := hide i28; replace kz1 := hide kz1)
          refine hK.out _ _ (by (try dsimp only); exact unhide hS _ (by repeat (first | exact unhide kz3 | exact unhide kz2 | exact unhide kz1 | exact Below.refl _ _ | refine Below.drew ?_))) (fun hHeld => ?_)
          clear hK K
          refine wpAnyH_ready (rs := [14]) (by kernel_rfl) (by simp) ?_
          refine AllReadyH.cons rfl (fun K hK => ?_) AllReadyH.nil
          go_simp
          go_wp2_with (go_at_call 22; refine (unhide cHas _ _ (unhide i28)).mono ?_; rintro e wh ⟨rfl, rfl⟩)
          refine hK.out _ _ (by (try dsimp only); exact unhide hS _ (by repeat (first | exact unhide kz3 | exact unhide kz2 | exact unhide kz1 | exact Below.refl _ _ | refine Below.drew ?_))) (fun hHeld => ?_)
          clear hK K
          refine wpAnyH_take (i := 15) (v := ?_) rfl (by kernel_rfl) (by kernel_rfl) (by kernel_rfl) (fun _ _ _ h => h) (Or.inl ⟨by rfl, ?_⟩) (by assumption) ?_
          rotate_left
          · (intro w hSw; (try dsimp only at hSw); go_simp; first | done | with_reducible rfl)
          try simp only [Act.put, List.setIfInBounds_toArray, List.set_cons_zero, List.set_cons_succ, List.getElem_toArray, List.getElem_cons_succ, List.getElem_cons_zero]
          refine wpAnyH_take (i := 16) (v := ?_) rfl (by kernel_rfl) (by kernel_rfl) (by kernel_rfl) (fun _ _ _ h => h) (Or.inl ⟨by rfl, ?_⟩) (by assumption) ?_
          rotate_left
          · (intro w hSw; (try dsimp only at hSw); go_simp; first | done | with_reducible rfl)
          try simp only [Act.put, List.setIfInBounds_toArray, List.set_cons_zero, List.set_cons_succ, List.getElem_toArray, List.getElem_cons_succ, List.getElem_cons_zero]
          refine wpAnyH_take (i := 17) (v := ?_) rfl (by kernel_rfl) (by kernel_rfl) (by kernel_rfl) (fun _ _ _ h => h) (Or.inl ⟨by rfl, ?_⟩) (by assumption) ?_
          rotate_left
          · (intro w hSw; (try dsimp only at hSw); go_simp; first | done | with_reducible rfl)
          try simp only [Act.put, List.setIfInBounds_toArray, List.set_cons_zero, List.set_cons_succ, List.getElem_toArray, List.getElem_cons_succ, List.getElem_cons_zero]
          refine wpAnyH_take (i := 18) (v := ?_) rfl (by kernel_rfl) (by kernel_rfl) (by kernel_rfl) (fun _ _ _ h => h) (Or.inl ⟨by rfl, ?_⟩) (by assumption) ?_
          rotate_left
          · (intro w hSw; (try dsimp only at hSw); go_simp; first | done | with_reducible rfl)
          try simp only [Act.put, List.setIfInBounds_toArray, List.set_cons_zero, List.set_cons_succ, List.getElem_toArray, List.getElem_cons_succ, List.getElem_cons_zero]
          refine wpAnyH_take (i := 19) (v := ?_) rfl (by kernel_rfl) (by kernel_rfl) (by kernel_rfl) (fun _ _ _ h => h) (Or.inl ⟨by rfl, ?_⟩) (by assumption) ?_
          rotate_left
          · (intro w hSw; (try dsimp only at hSw); go_simp; first | done | with_reducible rfl)
          try simp only [Act.put, List.setIfInBounds_toArray, List.set_cons_zero, List.set_cons_succ, List.getElem_toArray, List.getElem_cons_succ, List.getElem_cons_zero]
          refine wpAnyH_take (i := 20) (v := ?_) rfl (by kernel_rfl) (by kernel_rfl) (by kernel_rfl) (fun _ _ _ h => h) (Or.inl ⟨by rfl, ?_⟩) (by assumption) ?_
          rotate_left
          · (intro w hSw; (try dsimp only at hSw); go_simp; first | done | with_reducible rfl)
          try simp only [Act.put, List.setIfInBounds_toArray, List.set_cons_zero, List.set_cons_succ, List.getElem_toArray, List.getElem_cons_succ, List.getElem_cons_zero]
          refine wpAnyH_take (i := 21) (v := ?_) rfl (by kernel_rfl) (by kernel_rfl) (by kernel_rfl) (fun _ _ _ h => h) (Or.inl ⟨by rfl, ?_⟩) (by assumption) ?_
          rotate_left
          · (intro w hSw; (try dsimp only at hSw); go_simp; first | done | with_reducible rfl)
          try simp only [Act.put, List.setIfInBounds_toArray, List.set_cons_zero, List.set_cons_succ, List.getElem_toArray, List.getElem_cons_succ, List.getElem_cons_zero]
          refine wpAnyH_ready (rs := [22]) (by kernel_rfl) (by simp) ?_
          refine AllReadyH.cons rfl (fun K hK => ?_) AllReadyH.nil
          go_simp
          go_wp2_with (go_at_call 20; refine (unhide cOn _ (by repeat (first | exact unhide kz3 | exact unhide kz2 | exact unhide kz1 | exact Below.refl _ _ | refine Below.drew ?_))).mono ?_; rintro e wz2 ⟨rfl, kz2⟩; replace kz2 := hide kz2)
          refine hK.out _ _ (by (try dsimp only); exact unhide hS _ (by repeat (first | exact unhide kz3 | exact unhide kz2 | exact unhide kz1 | exact Below.refl _ _ | refine Below.drew ?_))) (fun hHeld => ?_)
          clear hK K
          refine wpAnyH_take (i := 23) (v := ?_) rfl (by kernel_rfl) (by kernel_rfl) (by kernel_rfl) (fun _ _ _ h => h) (Or.inl ⟨by rfl, ?_⟩) (by assumption) ?_
          rotate_left
          · (intro w hSw; (try dsimp only at hSw); go_simp; first | done | with_reducible rfl)
          try simp only [Act.put, List.setIfInBounds_toArray, List.set_cons_zero, List.set_cons_succ, List.getElem_toArray, List.getElem_cons_succ, List.getElem_cons_zero]
          refine wpAnyH_take (i := 24) (v := ?_) rfl (by kernel_rfl) (by kernel_rfl) (by kernel_rfl) (fun _ _ _ h => h) (Or.inl ⟨by rfl, ?_⟩) (by assumption) ?_
          rotate_left
          · (intro w hSw; (try dsimp only at hSw); go_simp; first | done | with_reducible rfl)
          try simp only [Act.put, List.setIfInBounds_toArray, List.set_cons_zero, List.set_cons_succ, List.getElem_toArray, List.getElem_cons_succ, List.getElem_cons_zero]
          refine wpAnyH_take (i := 25) (v := ?_) rfl (by kernel_rfl) (by kernel_rfl) (by kernel_rfl) (fun _ _ _ h => h) (Or.inl ⟨by rfl, ?_⟩) (by assumption) ?_
          rotate_left
          · (intro w hSw; (try dsimp only at hSw); go_simp; first | done | with_reducible rfl)
          try simp only [Act.put, List.setIfInBounds_toArray, List.set_cons_zero, List.set_cons_succ, List.getElem_toArray, List.getElem_cons_succ, List.getElem_cons_zero]
          refine wpAnyH_take (i := 26) (v := ?_) rfl (by kernel_rfl) (by kernel_rfl) (by kernel_rfl) (fun _ _ _ h => h) (Or.inl ⟨by rfl, ?_⟩) (by assumption) ?_
          rotate_left
          · (intro w hSw; (try dsimp only at hSw); go_simp; first | done | with_reducible rfl)
          try simp only [Act.put, List.setIfInBounds_toArray, List.set_cons_zero, List.set_cons_succ, List.getElem_toArray, List.getElem_cons_succ, List.getElem_cons_zero]
          refine wpAnyH_take (i := 27) (v := ?_) rfl (by kernel_rfl) (by kernel_rfl) (by kernel_rfl) (fun _ _ _ h => h) (Or.inl ⟨by rfl, ?_⟩) (by assumption) ?_
          rotate_left
          · (intro w hSw; (try dsimp only at hSw); go_simp; first | done | with_reducible rfl)
          try simp only [Act.put, List.setIfInBounds_toArray, List.set_cons_zero, List.set_cons_succ, List.getElem_toArray, List.getElem_cons_succ, List.getElem_cons_zero]
          refine wpAnyH_take (i := 28) (v := ?_) rfl (by kernel_rfl) (by kernel_rfl) (by kernel_rfl) (fun _ _ _ h => h) (Or.inl ⟨by rfl, ?_⟩) (by assumption) ?_
          rotate_left
          · (intro w hSw; (try dsimp only at hSw); go_simp; first | done | with_reducible rfl)
          try simp only [Act.put, List.setIfInBounds_toArray, List.set_cons_zero, List.set_cons_succ, List.getElem_toArray, List.getElem_cons_succ, List.getElem_cons_zero]
          refine wpAnyH_take (i := 29) (v := ?_) rfl (by kernel_rfl) (by kernel_rfl) (by kernel_rfl) (fun _ _ _ h => h) (Or.inl ⟨by rfl, ?_⟩) (by assumption) ?_
          rotate_left
          · (intro w hSw; (try dsimp only at hSw); go_simp; first | done | with_reducible rfl)
          try simp only [Act.put, List.setIfInBounds_toArray, List.set_cons_zero, List.set_cons_succ, List.getElem_toArray, List.getElem_cons_succ, List.getElem_cons_zero]
          refine wpAnyH_take (i := 30) (v := ?_) rfl (by kernel_rfl) (by kernel_rfl) (by kernel_rfl) (fun _ _ _ h => h) (Or.inl ⟨by rfl, ?_⟩) (by assumption) ?_
          rotate_left
          · (intro w hSw; (try dsimp only at hSw); go_simp; first | done | with_reducible rfl)
          try simp only [Act.put, List.setIfInBounds_toArray, List.set_cons_zero, List.set_cons_succ, List.getElem_toArray, List.getElem_cons_succ, List.getElem_cons_zero]
          refine wpAnyH_take (i := 31) (v := ?_) rfl (by kernel_rfl) (by kernel_rfl) (by kernel_rfl) (fun _ _ _ h => h) (Or.inl ⟨by rfl, ?_⟩) (by assumption) ?_
          rotate_left
          · (intro w hSw; (try dsimp only at hSw); go_simp; first | done | with_reducible rfl)
          try simp only [Act.put, List.setIfInBounds_toArray, List.set_cons_zero, List.set_cons_succ, List.getElem_toArray, List.getElem_cons_succ, List.getElem_cons_zero]
          refine wpAnyH_take (i := 32) (v := ?_) rfl (by kernel_rfl) (by kernel_rfl) (by kernel_rfl) (fun _ _ _ h => h) (Or.inl ⟨by rfl, ?_⟩) (by assumption) ?_
          rotate_left
          · (intro w hSw; (try dsimp only at hSw); go_simp; first | done | with_reducible rfl)
          try simp only [Act.put, List.setIfInBounds_toArray, List.set_cons_zero, List.set_cons_succ, List.getElem_toArray, List.getElem_cons_succ, List.getElem_cons_zero]
          refine wpAnyH_take (i := 33) (v := ?_) rfl (by kernel_rfl) (by kernel_rfl) (by kernel_rfl) (fun _ _ _ h => h) (Or.inl ⟨by rfl, ?_⟩) (by assumption) ?_
          rotate_left
          · (intro w hSw; (try dsimp only at hSw); go_simp; first | done | with_reducible rfl)
          try simp only [Act.put, List.setIfInBounds_toArray, List.set_cons_zero, List.set_cons_succ, List.getElem_toArray, List.getElem_cons_succ, List.getElem_cons_zero]
          refine wpAnyH_take (i := 34) (v := ?_) rfl (by kernel_rfl) (by kernel_rfl) (by kernel_rfl) (fun _ _ _ h => h) (Or.inl ⟨by rfl, ?_⟩) (by assumption) ?_
          rotate_left
          · (intro w hSw; (try dsimp only at hSw); go_simp; first | done | with_reducible rfl)
          try simp only [Act.put, List.setIfInBounds_toArray, List.set_cons_zero, List.set_cons_succ, List.getElem_toArray, List.getElem_cons_succ, List.getElem_cons_zero]
          refine wpAnyH_take (i := 35) (v := ?_) rfl (by kernel_rfl) (by kernel_rfl) (by kernel_rfl) (fun _ _ _ h => h) (Or.inl ⟨by rfl, ?_⟩) (by assumption) ?_
          rotate_left
          · (intro w hSw; (try dsimp only at hSw); go_simp; first | done | with_reducible rfl)
          try simp only [Act.put, List.setIfInBounds_toArray, List.set_cons_zero, List.set_cons_succ, List.getElem_toArray, List.getElem_cons_succ, List.getElem_cons_zero]
          refine wpAnyH_take (i := 36) (v := ?_) rfl (by kernel_rfl) (by kernel_rfl) (by kernel_rfl) (fun _ _ _ h => h) (Or.inl ⟨by rfl, ?_⟩) (by assumption) ?_
          rotate_left
          · (intro w hSw; (try dsimp only at hSw); go_simp; first | done | with_reducible rfl)
          try simp only [Act.put, List.setIfInBounds_toArray, List.set_cons_zero, List.set_cons_succ, List.getElem_toArray, List.getElem_cons_succ, List.getElem_cons_zero]
          refine wpAnyH_take (i := 37) (v := ?_) rfl (by kernel_rfl) (by kernel_rfl) (by kernel_rfl) (fun _ _ _ h => h) (Or.inl ⟨by rfl, ?_⟩) (by assumption) ?_
          rotate_left
          · (intro w hSw; (try dsimp only at hSw); go_simp; first | done | with_reducible rfl)
          try simp only [Act.put, List.setIfInBounds_toArray, List.set_cons_zero, List.set_cons_succ, List.getElem_toArray, List.getElem_cons_succ, List.getElem_cons_zero]
          refine wpAnyH_take (i := 38) (v := ?_) rfl (by kernel_rfl) (by kernel_rfl) (by kernel_rfl) (fun _ _ _ h => h) (Or.inl ⟨by rfl, ?_⟩) (by assumption) ?_
          rotate_left
          · (intro w hSw; (try dsimp only at hSw); go_simp; first | done | with_reducible rfl)
          try simp only [Act.put, List.setIfInBounds_toArray, List.set_cons_zero, List.set_cons_succ, List.getElem_toArray, List.getElem_cons_succ, List.getElem_cons_zero]
          refine wpAnyH_done (by kernel_rfl) ?_ _
          have b5 := hide (below_then (unhide b4) (unhide kz2))
          clear cNext cHas cOn hS d1 d2 d3 q1 q2 q3 q5 q6 q7 q8 i28 kz1 kz2 hHeld Rr
          go_wp2
          go_loopw [5] (fun s5 wr => ∃ k : Nat, k ≤ i ∧ s5 = .int .i64 k ∧ Hid (Below w2.heap.size w2 wr)) (fun s5 _ => i - (intOf s5).toNat)
          case atStart => exact ⟨0, Nat.zero_le _, rfl, unhide b5⟩
          case round =>
            obtain ⟨k, hk, rfl, b6⟩ := hrel
            by_cases hki : k < i
            · have J6 := (unhide I3).next (unhide b6)
              obtain ⟨g1, o1, e1, f1, _⟩ := J6.elem' (i := k) (by omega)
              obtain ⟨g2, o2, e2, f2, _⟩ := J6.elem' (i := i) hic
              have e11 : g = g1 := by injection e1 with e1; injection e1
              have e12 : o = o1 := by injection e1 with e1; injection e1
              have e21 : g = g2 := by injection e2 with e2; injection e2
              have e22 : o = o2 := by injection e2 with e2; injection e2
              subst e11 e12 e21 e22
              obtain ⟨u, hu⟩ : ∃ u, u = c.getD k 0 := ⟨_, rfl⟩
              rw [← hu] at f1
              rw [← unhide hx] at f2
              have ne : (u == x) = false := by
                rw [beq_eq_false_iff_ne, hu, unhide hx]
                exact unhide t2 i k hki hic
              have hkn : k < nc := by omega
              replace hu := hide hu
              clear e1 e2 J6
              go_wp2_with fail
              go_region
              all_goals
                go_wp2
                go_roundw
                case rel => exact ⟨k + 1, by omega, by go_num, (unhide b6).drew⟩
                case measure => simp [intOf] <;> omega
            · obtain rfl : k = i := by omega
              go_wp2
              go_roundw
              case rel => exact ⟨k + 1, by omega, by go_num, unhide b6⟩
              case measure => simp [intOf] <;> omega
        · have q7 : decide ((0 : Int) < (i : Int)) = false := by simp; omega
          have q7b : decide (0 < i) = false := by simp; omega
          clear hgt
          go_wp2_with fail
          refine wp_region_held_drew (S := (fun wz => wz.cell? ⟨g, o + i, none⟩ = some (.int .i64 x) ∧ wz.cell? ⟨g, o + j, none⟩ = some (.int .i64 y) ∧ wz.cell? ⟨g, o, none⟩ = some (.int .i64 z))) (by kernel_rfl) ?hS0 (fun hHeld => ?_)
          case hS0 => exact unhide hS _ (by repeat (first | exact unhide kz3 | exact unhide kz2 | exact unhide kz1 | exact Below.refl _ _ | refine Below.drew ?_))
          refine wpAnyH_take (i := 0) (v := ?_) rfl (by kernel_rfl) (by kernel_rfl) (by kernel_rfl) (fun _ _ _ h => h) (Or.inl ⟨by rfl, ?_⟩) (by assumption) ?_
          rotate_left
          · (intro w hSw; (try dsimp only at hSw); go_simp; first | done | with_reducible rfl)
          try simp only [Act.put, List.setIfInBounds_toArray, List.set_cons_zero, List.set_cons_succ, List.getElem_toArray, List.getElem_cons_succ, List.getElem_cons_zero]
          refine wpAnyH_take (i := 1) (v := ?_) rfl (by kernel_rfl) (by kernel_rfl) (by kernel_rfl) (fun _ _ _ h => h) (Or.inl ⟨by rfl, ?_⟩) (by assumption) ?_
          rotate_left
          · (intro w hSw; (try dsimp only at hSw); go_simp; first | done | with_reducible rfl)
          try simp only [Act.put, List.setIfInBounds_toArray, List.set_cons_zero, List.set_cons_succ, List.getElem_toArray, List.getElem_cons_succ, List.getElem_cons_zero]
          refine wpAnyH_take (i := 2) (v := ?_) rfl (by kernel_rfl) (by kernel_rfl) (by kernel_rfl) (fun _ _ _ h => h) (Or.inl ⟨by rfl, ?_⟩) (by assumption) ?_
          rotate_left
          · (intro w hSw; (try dsimp only at hSw); go_simp; first | done | with_reducible rfl)
          try simp only [Act.put, List.setIfInBounds_toArray, List.set_cons_zero, List.set_cons_succ, List.getElem_toArray, List.getElem_cons_succ, List.getElem_cons_zero]
          refine wpAnyH_take (i := 3) (v := ?_) rfl (by kernel_rfl) (by kernel_rfl) (by kernel_rfl) (fun _ _ _ h => h) (Or.inl ⟨by rfl, ?_⟩) (by assumption) ?_
          rotate_left
          · (intro w hSw; (try dsimp only at hSw); go_simp; first | done | with_reducible rfl)
          try simp only [Act.put, List.setIfInBounds_toArray, List.set_cons_zero, List.set_cons_succ, List.getElem_toArray, List.getElem_cons_succ, List.getElem_cons_zero]
          refine wpAnyH_take (i := 4) (v := ?_) rfl (by kernel_rfl) (by kernel_rfl) (by kernel_rfl) (fun _ _ _ h => h) (Or.inl ⟨by rfl, ?_⟩) (by assumption) ?_
          rotate_left
          · (intro w hSw; (try dsimp only at hSw); go_simp; first | done | with_reducible rfl)
          try simp only [Act.put, List.setIfInBounds_toArray, List.set_cons_zero, List.set_cons_succ, List.getElem_toArray, List.getElem_cons_succ, List.getElem_cons_zero]
          refine wpAnyH_take (i := 6) (v := ?_) rfl (by kernel_rfl) (by kernel_rfl) (by kernel_rfl) (fun _ _ _ h => h) (Or.inl ⟨by rfl, ?_⟩) (by assumption) ?_
          rotate_left
          · (intro w hSw; (try dsimp only at hSw); go_simp; first | done | with_reducible rfl)
          try simp only [Act.put, List.setIfInBounds_toArray, List.set_cons_zero, List.set_cons_succ, List.getElem_toArray, List.getElem_cons_succ, List.getElem_cons_zero]
          refine wpAnyH_take (i := 7) (v := ?_) rfl (by kernel_rfl) (by kernel_rfl) (by kernel_rfl) (fun _ _ _ h => h) (Or.inl ⟨by rfl, ?_⟩) (by assumption) ?_
          rotate_left
          · (intro w hSw; (try dsimp only at hSw); go_simp; first | done | with_reducible rfl)
          try simp only [Act.put, List.setIfInBounds_toArray, List.set_cons_zero, List.set_cons_succ, List.getElem_toArray, List.getElem_cons_succ, List.getElem_cons_zero]
          refine wpAnyH_take (i := 8) (v := ?_) rfl (by kernel_rfl) (by kernel_rfl) (by kernel_rfl) (fun _ _ _ h => h) (Or.inl ⟨by rfl, ?_⟩) (by assumption) ?_
          rotate_left
          · (intro w hSw; (try dsimp only at hSw); go_simp; first | done | with_reducible rfl)
          try simp only [Act.put, List.setIfInBounds_toArray, List.set_cons_zero, List.set_cons_succ, List.getElem_toArray, List.getElem_cons_succ, List.getElem_cons_zero]
          refine wpAnyH_take (i := 9) (v := ?_) rfl (by kernel_rfl) (by kernel_rfl) (by kernel_rfl) (fun _ _ _ h => h) (Or.inl ⟨by rfl, ?_⟩) (by assumption) ?_
          rotate_left
          · (intro w hSw; (try dsimp only at hSw); go_simp; first | done | with_reducible rfl)
          try simp only [Act.put, List.setIfInBounds_toArray, List.set_cons_zero, List.set_cons_succ, List.getElem_toArray, List.getElem_cons_succ, List.getElem_cons_zero]
          refine wpAnyH_take (i := 10) (v := ?_) rfl (by kernel_rfl) (by kernel_rfl) (by kernel_rfl) (fun _ _ _ h => h) (Or.inl ⟨by rfl, ?_⟩) (by assumption) ?_
          rotate_left
          · (intro w hSw; (try dsimp only at hSw); go_simp; first | done | with_reducible rfl)
          try simp only [Act.put, List.setIfInBounds_toArray, List.set_cons_zero, List.set_cons_succ, List.getElem_toArray, List.getElem_cons_succ, List.getElem_cons_zero]
          refine wpAnyH_take (i := 11) (v := ?_) rfl (by kernel_rfl) (by kernel_rfl) (by kernel_rfl) (fun _ _ _ h => h) (Or.inl ⟨by rfl, ?_⟩) (by assumption) ?_
          rotate_left
          · (intro w hSw; (try dsimp only at hSw); go_simp; first | done | with_reducible rfl)
          try simp only [Act.put, List.setIfInBounds_toArray, List.set_cons_zero, List.set_cons_succ, List.getElem_toArray, List.getElem_cons_succ, List.getElem_cons_zero]
          refine wpAnyH_take (i := 12) (v := ?_) rfl (by kernel_rfl) (by kernel_rfl) (by kernel_rfl) (fun _ _ _ h => h) (Or.inl ⟨by rfl, ?_⟩) (by assumption) ?_
          rotate_left
          · (intro w hSw; (try dsimp only at hSw); go_simp; first | done | with_reducible rfl)
          try simp only [Act.put, List.setIfInBounds_toArray, List.set_cons_zero, List.set_cons_succ, List.getElem_toArray, List.getElem_cons_succ, List.getElem_cons_zero]
          refine wpAnyH_take (i := 13) (v := ?_) rfl (by kernel_rfl) (by kernel_rfl) (by kernel_rfl) (fun _ _ _ h => h) (Or.inl ⟨by rfl, ?_⟩) (by assumption) ?_
          rotate_left
          · (intro w hSw; (try dsimp only at hSw); go_simp; first | done | with_reducible rfl)
          try simp only [Act.put, List.setIfInBounds_toArray, List.set_cons_zero, List.set_cons_succ, List.getElem_toArray, List.getElem_cons_succ, List.getElem_cons_zero]
          refine wpAnyH_ready (rs := [5]) (by kernel_rfl) (by simp) ?_
          refine AllReadyH.cons rfl (fun K hK => ?_) AllReadyH.nil
          go_simp
          go_wp2_with (go_at_call 13; refine (unhide cNext _ (by repeat (first | exact unhide kz3 | exact unhide kz2 | exact unhide kz1 | exact Below.refl _ _ | refine Below.drew ?_))).mono ?_; rintro e wz1 ⟨v28, rfl, i28, kz1⟩; replace i28 := hide i28; replace kz1 := hide kz1)
          refine hK.out _ _ (by (try dsimp only); exact unhide hS _ (by repeat (first | exact unhide kz3 | exact unhide kz2 | exact unhide kz1 | exact Below.refl _ _ | refine Below.drew ?_))) (fun hHeld => ?_)
          clear hK K
          refine wpAnyH_ready (rs := [14]) (by kernel_rfl) (by simp) ?_
          refine AllReadyH.cons rfl (fun K hK => ?_) AllReadyH.nil
          go_simp
          go_wp2_with (go_at_call 22; refine (unhide cHas _ _ (unhide i28)).mono ?_; rintro e wh ⟨rfl, rfl⟩)
          refine hK.out _ _ (by (try dsimp only); exact unhide hS _ (by repeat (first | exact unhide kz3 | exact unhide kz2 | exact unhide kz1 | exact Below.refl _ _ | refine Below.drew ?_))) (fun hHeld => ?_)
          clear hK K
          refine wpAnyH_take (i := 15) (v := ?_) rfl (by kernel_rfl) (by kernel_rfl) (by kernel_rfl) (fun _ _ _ h => h) (Or.inl ⟨by rfl, ?_⟩) (by assumption) ?_
          rotate_left
          · (intro w hSw; (try dsimp only at hSw); go_simp; first | done | with_reducible rfl)
          try simp only [Act.put, List.setIfInBounds_toArray, List.set_cons_zero, List.set_cons_succ, List.getElem_toArray, List.getElem_cons_succ, List.getElem_cons_zero]
          refine wpAnyH_take (i := 16) (v := ?_) rfl (by kernel_rfl) (by kernel_rfl) (by kernel_rfl) (fun _ _ _ h => h) (Or.inl ⟨by rfl, ?_⟩) (by assumption) ?_
          rotate_left
          · (intro w hSw; (try dsimp only at hSw); go_simp; first | done | with_reducible rfl)
          try simp only [Act.put, List.setIfInBounds_toArray, List.set_cons_zero, List.set_cons_succ, List.getElem_toArray, List.getElem_cons_succ, List.getElem_cons_zero]
          refine wpAnyH_take (i := 17) (v := ?_) rfl (by kernel_rfl) (by kernel_rfl) (by kernel_rfl) (fun _ _ _ h => h) (Or.inl ⟨by rfl, ?_⟩) (by assumption) ?_
          rotate_left
          · (intro w hSw; (try dsimp only at hSw); go_simp; first | done | with_reducible rfl)
          try simp only [Act.put, List.setIfInBounds_toArray, List.set_cons_zero, List.set_cons_succ, List.getElem_toArray, List.getElem_cons_succ, List.getElem_cons_zero]
          refine wpAnyH_take (i := 18) (v := ?_) rfl (by kernel_rfl) (by kernel_rfl) (by kernel_rfl) (fun _ _ _ h => h) (Or.inl ⟨by rfl, ?_⟩) (by assumption) ?_
          rotate_left
          · (intro w hSw; (try dsimp only at hSw); go_simp; first | done | with_reducible rfl)
          try simp only [Act.put, List.setIfInBounds_toArray, List.set_cons_zero, List.set_cons_succ, List.getElem_toArray, List.getElem_cons_succ, List.getElem_cons_zero]
          refine wpAnyH_take (i := 19) (v := ?_) rfl (by kernel_rfl) (by kernel_rfl) (by kernel_rfl) (fun _ _ _ h => h) (Or.inl ⟨by rfl, ?_⟩) (by assumption) ?_
          rotate_left
          · (intro w hSw; (try dsimp only at hSw); go_simp; first | done | with_reducible rfl)
          try simp only [Act.put, List.setIfInBounds_toArray, List.set_cons_zero, List.set_cons_succ, List.getElem_toArray, List.getElem_cons_succ, List.getElem_cons_zero]
          refine wpAnyH_take (i := 20) (v := ?_) rfl (by kernel_rfl) (by kernel_rfl) (by kernel_rfl) (fun _ _ _ h => h) (Or.inl ⟨by rfl, ?_⟩) (by assumption) ?_
          rotate_left
          · (intro w hSw; (try dsimp only at hSw); go_simp; first | done | with_reducible rfl)
          try simp only [Act.put, List.setIfInBounds_toArray, List.set_cons_zero, List.set_cons_succ, List.getElem_toArray, List.getElem_cons_succ, List.getElem_cons_zero]
          refine wpAnyH_take (i := 21) (v := ?_) rfl (by kernel_rfl) (by kernel_rfl) (by kernel_rfl) (fun _ _ _ h => h) (Or.inl ⟨by rfl, ?_⟩) (by assumption) ?_
          rotate_left
          · (intro w hSw; (try dsimp only at hSw); go_simp; first | done | with_reducible rfl)
          try simp only [Act.put, List.setIfInBounds_toArray, List.set_cons_zero, List.set_cons_succ, List.getElem_toArray, List.getElem_cons_succ, List.getElem_cons_zero]
          refine wpAnyH_ready (rs := [22]) (by kernel_rfl) (by simp) ?_
          refine AllReadyH.cons rfl (fun K hK => ?_) AllReadyH.nil
          go_simp
          go_wp2_with (go_at_call 20; refine (unhide cOn _ (by repeat (first | exact unhide kz3 | exact unhide kz2 | exact unhide kz1 | exact Below.refl _ _ | refine Below.drew ?_))).mono ?_; rintro e wz2 ⟨rfl, kz2⟩; replace kz2 := hide kz2)
          refine hK.out _ _ (by (try dsimp only); exact unhide hS _ (by repeat (first | exact unhide kz3 | exact unhide kz2 | exact unhide kz1 | exact Below.refl _ _ | refine Below.drew ?_))) (fun hHeld => ?_)
          clear hK K
          refine wpAnyH_take (i := 23) (v := ?_) rfl (by kernel_rfl) (by kernel_rfl) (by kernel_rfl) (fun _ _ _ h => h) (Or.inl ⟨by rfl, ?_⟩) (by assumption) ?_
          rotate_left
          · (intro w hSw; (try dsimp only at hSw); go_simp; first | done | with_reducible rfl)
          try simp only [Act.put, List.setIfInBounds_toArray, List.set_cons_zero, List.set_cons_succ, List.getElem_toArray, List.getElem_cons_succ, List.getElem_cons_zero]
          refine wpAnyH_take (i := 24) (v := ?_) rfl (by kernel_rfl) (by kernel_rfl) (by kernel_rfl) (fun _ _ _ h => h) (Or.inl ⟨by rfl, ?_⟩) (by assumption) ?_
          rotate_left
          · (intro w hSw; (try dsimp only at hSw); go_simp; first | done | with_reducible rfl)
          try simp only [Act.put, List.setIfInBounds_toArray, List.set_cons_zero, List.set_cons_succ, List.getElem_toArray, List.getElem_cons_succ, List.getElem_cons_zero]
          refine wpAnyH_take (i := 25) (v := ?_) rfl (by kernel_rfl) (by kernel_rfl) (by kernel_rfl) (fun _ _ _ h => h) (Or.inl ⟨by rfl, ?_⟩) (by assumption) ?_
          rotate_left
          · (intro w hSw; (try dsimp only at hSw); go_simp; first | done | with_reducible rfl)
          try simp only [Act.put, List.setIfInBounds_toArray, List.set_cons_zero, List.set_cons_succ, List.getElem_toArray, List.getElem_cons_succ, List.getElem_cons_zero]
          refine wpAnyH_take (i := 26) (v := ?_) rfl (by kernel_rfl) (by kernel_rfl) (by kernel_rfl) (fun _ _ _ h => h) (Or.inl ⟨by rfl, ?_⟩) (by assumption) ?_
          rotate_left
          · (intro w hSw; (try dsimp only at hSw); go_simp; first | done | with_reducible rfl)
          try simp only [Act.put, List.setIfInBounds_toArray, List.set_cons_zero, List.set_cons_succ, List.getElem_toArray, List.getElem_cons_succ, List.getElem_cons_zero]
          refine wpAnyH_take (i := 27) (v := ?_) rfl (by kernel_rfl) (by kernel_rfl) (by kernel_rfl) (fun _ _ _ h => h) (Or.inl ⟨by rfl, ?_⟩) (by assumption) ?_
          rotate_left
          · (intro w hSw; (try dsimp only at hSw); go_simp; first | done | with_reducible rfl)
          try simp only [Act.put, List.setIfInBounds_toArray, List.set_cons_zero, List.set_cons_succ, List.getElem_toArray, List.getElem_cons_succ, List.getElem_cons_zero]
          refine wpAnyH_take (i := 28) (v := ?_) rfl (by kernel_rfl) (by kernel_rfl) (by kernel_rfl) (fun _ _ _ h => h) (Or.inl ⟨by rfl, ?_⟩) (by assumption) ?_
          rotate_left
          · (intro w hSw; (try dsimp only at hSw); go_simp; first | done | with_reducible rfl)
          try simp only [Act.put, List.setIfInBounds_toArray, List.set_cons_zero, List.set_cons_succ, List.getElem_toArray, List.getElem_cons_succ, List.getElem_cons_zero]
          refine wpAnyH_take (i := 29) (v := undef) rfl (by kernel_rfl) (by kernel_rfl) (by kernel_rfl) (fun _ _ _ h => h) (Or.inr ⟨by rfl, rfl⟩) (by assumption) ?_
          try simp only [Act.put, List.setIfInBounds_toArray, List.set_cons_zero, List.set_cons_succ, List.getElem_toArray, List.getElem_cons_succ, List.getElem_cons_zero]
          refine wpAnyH_take (i := 30) (v := undef) rfl (by kernel_rfl) (by kernel_rfl) (by kernel_rfl) (fun _ _ _ h => h) (Or.inr ⟨by rfl, rfl⟩) (by assumption) ?_
          try simp only [Act.put, List.setIfInBounds_toArray, List.set_cons_zero, List.set_cons_succ, List.getElem_toArray, List.getElem_cons_succ, List.getElem_cons_zero]
          refine wpAnyH_take (i := 31) (v := undef) rfl (by kernel_rfl) (by kernel_rfl) (by kernel_rfl) (fun _ _ _ h => h) (Or.inr ⟨by rfl, rfl⟩) (by assumption) ?_
          try simp only [Act.put, List.setIfInBounds_toArray, List.set_cons_zero, List.set_cons_succ, List.getElem_toArray, List.getElem_cons_succ, List.getElem_cons_zero]
          refine wpAnyH_take (i := 32) (v := undef) rfl (by kernel_rfl) (by kernel_rfl) (by kernel_rfl) (fun _ _ _ h => h) (Or.inr ⟨by rfl, rfl⟩) (by assumption) ?_
          try simp only [Act.put, List.setIfInBounds_toArray, List.set_cons_zero, List.set_cons_succ, List.getElem_toArray, List.getElem_cons_succ, List.getElem_cons_zero]
          refine wpAnyH_take (i := 33) (v := undef) rfl (by kernel_rfl) (by kernel_rfl) (by kernel_rfl) (fun _ _ _ h => h) (Or.inr ⟨by rfl, rfl⟩) (by assumption) ?_
          try simp only [Act.put, List.setIfInBounds_toArray, List.set_cons_zero, List.set_cons_succ, List.getElem_toArray, List.getElem_cons_succ, List.getElem_cons_zero]
          refine wpAnyH_take (i := 34) (v := undef) rfl (by kernel_rfl) (by kernel_rfl) (by kernel_rfl) (fun _ _ _ h => h) (Or.inr ⟨by rfl, rfl⟩) (by assumption) ?_
          try simp only [Act.put, List.setIfInBounds_toArray, List.set_cons_zero, List.set_cons_succ, List.getElem_toArray, List.getElem_cons_succ, List.getElem_cons_zero]
          refine wpAnyH_take (i := 35) (v := undef) rfl (by kernel_rfl) (by kernel_rfl) (by kernel_rfl) (fun _ _ _ h => h) (Or.inr ⟨by rfl, rfl⟩) (by assumption) ?_
          try simp only [Act.put, List.setIfInBounds_toArray, List.set_cons_zero, List.set_cons_succ, List.getElem_toArray, List.getElem_cons_succ, List.getElem_cons_zero]
          refine wpAnyH_take (i := 36) (v := undef) rfl (by kernel_rfl) (by kernel_rfl) (by kernel_rfl) (fun _ _ _ h => h) (Or.inr ⟨by rfl, rfl⟩) (by assumption) ?_
          try simp only [Act.put, List.setIfInBounds_toArray, List.set_cons_zero, List.set_cons_succ, List.getElem_toArray, List.getElem_cons_succ, List.getElem_cons_zero]
          refine wpAnyH_take (i := 37) (v := ?_) rfl (by kernel_rfl) (by kernel_rfl) (by kernel_rfl) (fun _ _ _ h => h) (Or.inl ⟨by rfl, ?_⟩) (by assumption) ?_
          rotate_left
          · (intro w hSw; (try dsimp only at hSw); go_simp; first | done | with_reducible rfl)
          try simp only [Act.put, List.setIfInBounds_toArray, List.set_cons_zero, List.set_cons_succ, List.getElem_toArray, List.getElem_cons_succ, List.getElem_cons_zero]
          refine wpAnyH_take (i := 38) (v := ?_) rfl (by kernel_rfl) (by kernel_rfl) (by kernel_rfl) (fun _ _ _ h => h) (Or.inl ⟨by rfl, ?_⟩) (by assumption) ?_
          rotate_left
          · (intro w hSw; (try dsimp only at hSw); go_simp; first | done | with_reducible rfl)
          try simp only [Act.put, List.setIfInBounds_toArray, List.set_cons_zero, List.set_cons_succ, List.getElem_toArray, List.getElem_cons_succ, List.getElem_cons_zero]
          refine wpAnyH_done (by kernel_rfl) ?_ _
          have b5 := hide (below_then (unhide b4) (unhide kz2))
          clear cNext cHas cOn hS d1 d2 d3 q1 q2 q3 q5 q6 q7 q7b i28 kz1 kz2 hHeld Rr
          go_wp2
          go_loopw [5] (fun s5 wr => ∃ k : Nat, k ≤ i ∧ s5 = .int .i64 k ∧ Hid (Below w2.heap.size w2 wr)) (fun s5 _ => i - (intOf s5).toNat)
          case atStart => exact ⟨0, Nat.zero_le _, rfl, unhide b5⟩
          case round =>
            obtain ⟨k, hk, rfl, b6⟩ := hrel
            by_cases hki : k < i
            · have J6 := (unhide I3).next (unhide b6)
              obtain ⟨g1, o1, e1, f1, _⟩ := J6.elem' (i := k) (by omega)
              obtain ⟨g2, o2, e2, f2, _⟩ := J6.elem' (i := i) hic
              have e11 : g = g1 := by injection e1 with e1; injection e1
              have e12 : o = o1 := by injection e1 with e1; injection e1
              have e21 : g = g2 := by injection e2 with e2; injection e2
              have e22 : o = o2 := by injection e2 with e2; injection e2
              subst e11 e12 e21 e22
              obtain ⟨u, hu⟩ : ∃ u, u = c.getD k 0 := ⟨_, rfl⟩
              rw [← hu] at f1
              rw [← unhide hx] at f2
              have ne : (u == x) = false := by
                rw [beq_eq_false_iff_ne, hu, unhide hx]
                exact unhide t2 i k hki hic
              have hkn : k < nc := by omega
              replace hu := hide hu
              clear e1 e2 J6
              go_wp2_with fail
              go_region
              all_goals
                go_wp2
                go_roundw
                case rel => exact ⟨k + 1, by omega, by go_num, (unhide b6).drew⟩
                case measure => simp [intOf] <;> omega
            · obtain rfl : k = i := by omega
              go_wp2
              go_roundw
              case rel => exact ⟨k + 1, by omega, by go_num, unhide b6⟩
              case measure => simp [intOf] <;> omega
      · have hin : i = nc := by omega
        have R4 := hide ((unhide R2).next (unhide b4))
        have k4 := hide (below_then (unhide k2) (unhide b4))
        have C5 := hide (nodes_any wr (unhide R4) (Nat.le_trans (unhide hn0) (by decide)))
        clear R2 k2 b4 I3 t1 t2 t3 t4
        go_wp2_with fail
        refine (unhide C5).mono ?_
        rintro e w6 ⟨v7, rfl, I7, k6⟩
        have R6 := hide ((unhide R4).next k6)
        replace k6 := hide (below_then (unhide k4) k6)
        obtain ⟨a7, q7, rfl⟩ := I7.form
        obtain ⟨N, hN⟩ : ∃ N, N = canon (nodL l) := ⟨_, rfl⟩
        rw [← hN] at I7 ⊢
        obtain ⟨n, hn⟩ : ∃ n, n = N.length := ⟨_, rfl⟩
        rw [← hn] at I7 ⊢
        have hn6 : n ≤ 600 := by
          have h1 := canon_le (nodL l)
          rw [nod_len, ← hN, ← hn] at h1
          have h2 := unhide hn0
          omega
        replace I7 := hide I7
        replace hN := hide hN
        replace hn := hide hn
        clear C5 R4 k4
        go_wp2
        go_loopw [6, 8] (fun s6 s8 wr => ∃ (r k : Nat) (G : List Int) (ag : Option Addr) (cg : Nat), r ≤ n + 1 ∧ k ≤ n ∧ s6 = .slice ag k cg ∧ s8 = .int .i64 r ∧ Hid (G.length = k) ∧ Hid (Is w6.heap.size (.slice ag k cg) G wr) ∧ Hid (Tk l G) ∧ Hid ((∀ x, ¬ On (CE l) x) → r ≤ k ∨ k = n) ∧ Hid (Below w6.heap.size w6 wr)) (fun _ s8 _ => n + 1 - (intOf s8).toNat)
        case atStart => exact ⟨0, 0, [], none, 0, Nat.zero_le _, Nat.zero_le _, rfl, rfl, rfl, is_nil _ _, Tk.nil l, fun _ => .inl (Nat.zero_le _), Below.refl _ _⟩
        case round =>
          obtain ⟨r, k, G, ag, cg, hr, hk, rfl, rfl, hGk, IG, TG, hno, b7⟩ := hrel
          by_cases hrn : r ≤ n
          · go_wp2
            go_loopw [6, 9] (fun s6 s9 wr => ∃ (i k1 : Nat) (G1 : List Int) (ah : Option Addr) (ch : Nat), i ≤ n ∧ k1 ≤ n ∧ s6 = .slice ah k1 ch ∧ s9 = .int .i64 i ∧ Hid (G1.length = k1) ∧ Hid (Is w6.heap.size (.slice ah k1 ch) G1 wr) ∧ Hid (Tk l G1) ∧ Hid (Rnd l G G1 i) ∧ Hid (Below w6.heap.size w6 wr)) (fun _ s9 _ => n - (intOf s9).toNat)
            case atStart => exact ⟨0, k, G, ag, cg, Nat.zero_le _, hk, rfl, rfl, unhide hGk, unhide IG, unhide TG, Rnd.start l G, unhide b7⟩
            case round =>
              clear IG b7
              obtain ⟨i, k1, G1, ah, ch, hi, hk1, rfl, rfl, hG1, I1, T1, D1, b8⟩ := hrel
              by_cases hlt : i < n
              · obtain ⟨g, o, rfl, d1, _⟩ := ((unhide I7).next (unhide b8)).elem' (i := i) (by rw [← unhide hn]; exact hlt)
                obtain ⟨x, hx⟩ : ∃ x, x = N.getD i 0 := ⟨_, rfl⟩
                rw [← hx] at d1
                have hxN : Hid (x ∈ canon (nodL l)) := by show _ ∈ _; rw [← unhide hN, hx]; exact at_mem (by rw [← unhide hn]; exact hlt)
                have hxg : Hid ((canon (nodL l)).getD i 0 = x) := by show _ = _; rw [← unhide hN, hx]
                have C6 := hide (has_any x wr (unhide I1).rd (by have := unhide hG1; omega))
                replace hx := hide hx
                by_cases hm : x ∈ G1
                · rw [hasB_true hm] at C6
                  have D2 := hide ((unhide D1).has (by rw [unhide hxg]; exact hm))
                  clear hm
                  go_wp2_with fail
                  refine (unhide C6).mono ?_
                  rintro e w9 ⟨rfl, rfl⟩
                  clear C6
                  go_wp2
                  go_roundw
                  case rel => exact ⟨i + 1, k1, G1, ah, ch, by omega, hk1, rfl, by go_num, unhide hG1, unhide I1, unhide T1, unhide D2, unhide b8⟩
                  case measure => simp [intOf] <;> omega
                · rw [hasB_false hm] at C6
                  have hm' := hide hm
                  obtain ⟨mm, hmm⟩ : ∃ mm, mm = (canon (nexL x (woL G1 l))).length := ⟨_, rfl⟩
                  have snk : Hid (mm = 0 ↔ Snk l G1 x) := by show _ ↔ _; rw [hmm]; exact nex_wo hm
                  replace hmm := hide hmm
                  have hS : Hid (∀ W', Below wr.heap.size wr W' → W'.cell? ⟨g, o + i, none⟩ = some (.int .i64 x)) := fun W' b => (b.cell (p := ⟨g, o + i, none⟩) (World.block_lt_of_cell? _ _ d1)).trans d1
                  have Rr := hide ((unhide R6).next (unhide b8))
                  have cWo : Hid (∀ w, Below wr.heap.size wr w → Calls Try.prog 16 #[.slice ah k1 ch, .slice a0 len0 cap0] w fun e w' => ∃ v', e = .returned v' ∧ Re w' v' (woL G1 l) ∧ Below wr.heap.size wr w') := fun w b =>
                    (without_any w ((unhide I1).next b).rd (unhide I1).nz (by have := unhide hG1; omega) ((unhide Rr).next b) (Nat.le_trans (unhide hn0) (by decide))).mono fun e w' ⟨v', h1, h2, h3⟩ => ⟨v', h1, h2.re, below_then b h3⟩
                  have cNx : Hid (∀ w v, Re w v (woL G1 l) → Below wr.heap.size wr w → Calls Try.prog 13 #[.int .i64 x, v] w fun e w' => ∃ a c, e = .returned (.slice a mm c) ∧ Below wr.heap.size wr w') := fun w v h b =>
                    (next_any w x h (Nat.le_trans (wol_le _ _) (Nat.le_trans (unhide hn0) (by decide)))).mono fun e w' ⟨v', h1, h2, h3⟩ => by
                      obtain ⟨a, c, e2⟩ := h2.form
                      rw [← unhide hmm] at e2
                      exact ⟨a, c, by rw [h1, e2], below_then b h3⟩
                  clear hm
                  go_wp2_with fail
                  refine (unhide C6).mono ?_
                  rintro e w9 ⟨rfl, rfl⟩
                  clear C6
                  by_cases hz : mm = 0
                  · have sk := hide ((unhide snk).1 hz)
                    have T2 := hide ((unhide T1).add (unhide hxN) (unhide hm') (unhide sk))
                    have D2 := (unhide D1).goes
                    rw [unhide hxg] at D2
                    replace D2 := hide D2
                    have hk2 : k1 + 1 ≤ n := by
                      have h1 := (unhide T2).le
                      rw [List.length_append, unhide hG1, ← unhide hN, ← unhide hn] at h1
                      exact h1
                    subst hz
                    go_wp2_with fail
                    refine wp_region_held_drew (S := (fun wz => wz.cell? ⟨g, o + i, none⟩ = some (.int .i64 x))) (by kernel_rfl) ?hS0 (fun hHeld => ?_)
                    case hS0 => exact unhide hS _ (by repeat (first | exact unhide kz3 | exact unhide kz2 | exact unhide kz1 | exact Below.refl _ _ | refine Below.drew ?_))
                    refine wpAnyH_take (i := 0) (v := ?_) rfl (by kernel_rfl) (by kernel_rfl) (by kernel_rfl) (fun _ _ _ h => h) (Or.inl ⟨by rfl, ?_⟩) (by assumption) ?_
                    rotate_left
                    · (intro w hSw; (try dsimp only at hSw); go_simp; first | done | with_reducible rfl)
                    try simp only [Act.put, List.setIfInBounds_toArray, List.set_cons_zero, List.set_cons_succ, List.getElem_toArray, List.getElem_cons_succ, List.getElem_cons_zero]
                    refine wpAnyH_take (i := 1) (v := ?_) rfl (by kernel_rfl) (by kernel_rfl) (by kernel_rfl) (fun _ _ _ h => h) (Or.inl ⟨by rfl, ?_⟩) (by assumption) ?_
                    rotate_left
                    · (intro w hSw; (try dsimp only at hSw); go_simp; first | done | with_reducible rfl)
                    try simp only [Act.put, List.setIfInBounds_toArray, List.set_cons_zero, List.set_cons_succ, List.getElem_toArray, List.getElem_cons_succ, List.getElem_cons_zero]
                    refine wpAnyH_take (i := 2) (v := ?_) rfl (by kernel_rfl) (by kernel_rfl) (by kernel_rfl) (fun _ _ _ h => h) (Or.inl ⟨by rfl, ?_⟩) (by assumption) ?_
                    rotate_left
                    · (intro w hSw; (try dsimp only at hSw); go_simp; first | done | with_reducible rfl)
                    try simp only [Act.put, List.setIfInBounds_toArray, List.set_cons_zero, List.set_cons_succ, List.getElem_toArray, List.getElem_cons_succ, List.getElem_cons_zero]
                    refine wpAnyH_take (i := 3) (v := ?_) rfl (by kernel_rfl) (by kernel_rfl) (by kernel_rfl) (fun _ _ _ h => h) (Or.inl ⟨by rfl, ?_⟩) (by assumption) ?_
                    rotate_left
                    · (intro w hSw; (try dsimp only at hSw); go_simp; first | done | with_reducible rfl)
                    try simp only [Act.put, List.setIfInBounds_toArray, List.set_cons_zero, List.set_cons_succ, List.getElem_toArray, List.getElem_cons_succ, List.getElem_cons_zero]
                    refine wpAnyH_take (i := 4) (v := ?_) rfl (by kernel_rfl) (by kernel_rfl) (by kernel_rfl) (fun _ _ _ h => h) (Or.inl ⟨by rfl, ?_⟩) (by assumption) ?_
                    rotate_left
                    · (intro w hSw; (try dsimp only at hSw); go_simp; first | done | with_reducible rfl)
                    try simp only [Act.put, List.setIfInBounds_toArray, List.set_cons_zero, List.set_cons_succ, List.getElem_toArray, List.getElem_cons_succ, List.getElem_cons_zero]
                    refine wpAnyH_take (i := 5) (v := ?_) rfl (by kernel_rfl) (by kernel_rfl) (by kernel_rfl) (fun _ _ _ h => h) (Or.inl ⟨by rfl, ?_⟩) (by assumption) ?_
                    rotate_left
                    · (intro w hSw; (try dsimp only at hSw); go_simp; first | done | with_reducible rfl)
                    try simp only [Act.put, List.setIfInBounds_toArray, List.set_cons_zero, List.set_cons_succ, List.getElem_toArray, List.getElem_cons_succ, List.getElem_cons_zero]
                    refine wpAnyH_ready (rs := [6]) (by kernel_rfl) (by simp) ?_
                    refine AllReadyH.cons rfl (fun K hK => ?_) AllReadyH.nil
                    go_simp
                    go_wp2_with (go_at_call 16; refine (unhide cWo _ (by repeat (first | exact unhide kz3 | exact unhide kz2 | exact unhide kz1 | exact Below.refl _ _ | refine Below.drew ?_))).mono ?_; rintro e wz1 ⟨v28, rfl, i28, kz1⟩; replace i28 := hide i28; replace kz1 := hide kz1)
                    refine hK.out _ _ (by (try dsimp only); exact unhide hS _ (by repeat (first | exact unhide kz3 | exact unhide kz2 | exact unhide kz1 | exact Below.refl _ _ | refine Below.drew ?_))) (fun hHeld => ?_)
                    clear hK K
                    refine wpAnyH_ready (rs := [7]) (by kernel_rfl) (by simp) ?_
                    refine AllReadyH.cons rfl (fun K hK => ?_) AllReadyH.nil
                    go_simp
                    go_wp2_with (go_at_call 13; refine (unhide cNx _ _ (unhide i28) (unhide kz1)).mono ?_; rintro e wz2 ⟨a28, c28, rfl, kz2⟩; replace kz2 := hide kz2)
                    refine hK.out _ _ (by (try dsimp only); exact unhide hS _ (by repeat (first | exact unhide kz3 | exact unhide kz2 | exact unhide kz1 | exact Below.refl _ _ | refine Below.drew ?_))) (fun hHeld => ?_)
                    clear hK K
                    refine wpAnyH_take (i := 8) (v := ?_) rfl (by kernel_rfl) (by kernel_rfl) (by kernel_rfl) (fun _ _ _ h => h) (Or.inl ⟨by rfl, ?_⟩) (by assumption) ?_
                    rotate_left
                    · (intro w hSw; (try dsimp only at hSw); go_simp; first | done | with_reducible rfl)
                    try simp only [Act.put, List.setIfInBounds_toArray, List.set_cons_zero, List.set_cons_succ, List.getElem_toArray, List.getElem_cons_succ, List.getElem_cons_zero]
                    refine wpAnyH_take (i := 9) (v := ?_) rfl (by kernel_rfl) (by kernel_rfl) (by kernel_rfl) (fun _ _ _ h => h) (Or.inl ⟨by rfl, ?_⟩) (by assumption) ?_
                    rotate_left
                    · (intro w hSw; (try dsimp only at hSw); go_simp; first | done | with_reducible rfl)
                    try simp only [Act.put, List.setIfInBounds_toArray, List.set_cons_zero, List.set_cons_succ, List.getElem_toArray, List.getElem_cons_succ, List.getElem_cons_zero]
                    refine wpAnyH_done (by kernel_rfl) ?_ _
                    have d2 := unhide hS _ (unhide kz2)
                    have b9 := hide (below_then (unhide b8) (unhide kz2))
                    have I2 := hide ((unhide I1).next (unhide kz2))
                    have hb9 : Hid (w6.heap.size ≤ wz2.heap.size) := (unhide b9).size
                    have hk9 : k1 < 10000000 := by omega
                    clear cWo cNx hS d1 kz1 kz2 i28 hHeld snk
                    go_wp2_with (at_builtin; refine wpList_push _ rfl (.tmp 107) (.tmp 112) rfl w6.heap.size ah k1 ch G1 x _ rfl rfl rfl (unhide hG1) (unhide I2) (unhide hb9) hk9 ?_; intro g7 cap7 w7 a1 a2; replace a1 := hide a1; replace a2 := hide a2)
                    go_roundw
                    case rel => exact ⟨i + 1, k1 + 1, G1 ++ [x], some ⟨g7, 0, none⟩, cap7, by omega, hk2, rfl, by go_num, by show _ = _; rw [List.length_append, unhide hG1]; rfl, unhide a1, unhide T2, unhide D2, (unhide b9).trans (grown_below (unhide a2) (unhide b9).size (fun j hj => ((unhide I2).lt j hj).1))⟩
                    case measure => simp [intOf] <;> omega
                  · have D2 := hide ((unhide D1).stays (by rw [unhide hxg]; exact fun k => hz ((unhide snk).2 k)))
                    have hz2 : (mm == 0) = false := by simpa using hz
                    go_wp2_with fail
                    refine wp_region_held_drew (S := (fun wz => wz.cell? ⟨g, o + i, none⟩ = some (.int .i64 x))) (by kernel_rfl) ?hS0 (fun hHeld => ?_)
                    case hS0 => exact unhide hS _ (by repeat (first | exact unhide kz3 | exact unhide kz2 | exact unhide kz1 | exact Below.refl _ _ | refine Below.drew ?_))
                    refine wpAnyH_take (i := 0) (v := ?_) rfl (by kernel_rfl) (by kernel_rfl) (by kernel_rfl) (fun _ _ _ h => h) (Or.inl ⟨by rfl, ?_⟩) (by assumption) ?_
                    rotate_left
                    · (intro w hSw; (try dsimp only at hSw); go_simp; first | done | with_reducible rfl)
                    try simp only [Act.put, List.setIfInBounds_toArray, List.set_cons_zero, List.set_cons_succ, List.getElem_toArray, List.getElem_cons_succ, List.getElem_cons_zero]
                    refine wpAnyH_take (i := 1) (v := ?_) rfl (by kernel_rfl) (by kernel_rfl) (by kernel_rfl) (fun _ _ _ h => h) (Or.inl ⟨by rfl, ?_⟩) (by assumption) ?_
                    rotate_left
                    · (intro w hSw; (try dsimp only at hSw); go_simp; first | done | with_reducible rfl)
                    try simp only [Act.put, List.setIfInBounds_toArray, List.set_cons_zero, List.set_cons_succ, List.getElem_toArray, List.getElem_cons_succ, List.getElem_cons_zero]
                    refine wpAnyH_take (i := 2) (v := ?_) rfl (by kernel_rfl) (by kernel_rfl) (by kernel_rfl) (fun _ _ _ h => h) (Or.inl ⟨by rfl, ?_⟩) (by assumption) ?_
                    rotate_left
                    · (intro w hSw; (try dsimp only at hSw); go_simp; first | done | with_reducible rfl)
                    try simp only [Act.put, List.setIfInBounds_toArray, List.set_cons_zero, List.set_cons_succ, List.getElem_toArray, List.getElem_cons_succ, List.getElem_cons_zero]
                    refine wpAnyH_take (i := 3) (v := ?_) rfl (by kernel_rfl) (by kernel_rfl) (by kernel_rfl) (fun _ _ _ h => h) (Or.inl ⟨by rfl, ?_⟩) (by assumption) ?_
                    rotate_left
                    · (intro w hSw; (try dsimp only at hSw); go_simp; first | done | with_reducible rfl)
                    try simp only [Act.put, List.setIfInBounds_toArray, List.set_cons_zero, List.set_cons_succ, List.getElem_toArray, List.getElem_cons_succ, List.getElem_cons_zero]
                    refine wpAnyH_take (i := 4) (v := ?_) rfl (by kernel_rfl) (by kernel_rfl) (by kernel_rfl) (fun _ _ _ h => h) (Or.inl ⟨by rfl, ?_⟩) (by assumption) ?_
                    rotate_left
                    · (intro w hSw; (try dsimp only at hSw); go_simp; first | done | with_reducible rfl)
                    try simp only [Act.put, List.setIfInBounds_toArray, List.set_cons_zero, List.set_cons_succ, List.getElem_toArray, List.getElem_cons_succ, List.getElem_cons_zero]
                    refine wpAnyH_take (i := 5) (v := ?_) rfl (by kernel_rfl) (by kernel_rfl) (by kernel_rfl) (fun _ _ _ h => h) (Or.inl ⟨by rfl, ?_⟩) (by assumption) ?_
                    rotate_left
                    · (intro w hSw; (try dsimp only at hSw); go_simp; first | done | with_reducible rfl)
                    try simp only [Act.put, List.setIfInBounds_toArray, List.set_cons_zero, List.set_cons_succ, List.getElem_toArray, List.getElem_cons_succ, List.getElem_cons_zero]
                    refine wpAnyH_ready (rs := [6]) (by kernel_rfl) (by simp) ?_
                    refine AllReadyH.cons rfl (fun K hK => ?_) AllReadyH.nil
                    go_simp
                    go_wp2_with (go_at_call 16; refine (unhide cWo _ (by repeat (first | exact unhide kz3 | exact unhide kz2 | exact unhide kz1 | exact Below.refl _ _ | refine Below.drew ?_))).mono ?_; rintro e wz1 ⟨v28, rfl, i28, kz1⟩; replace i28 := hide i28; replace kz1 := hide kz1)
                    refine hK.out _ _ (by (try dsimp only); exact unhide hS _ (by repeat (first | exact unhide kz3 | exact unhide kz2 | exact unhide kz1 | exact Below.refl _ _ | refine Below.drew ?_))) (fun hHeld => ?_)
                    clear hK K
                    refine wpAnyH_ready (rs := [7]) (by kernel_rfl) (by simp) ?_
                    refine AllReadyH.cons rfl (fun K hK => ?_) AllReadyH.nil
                    go_simp
                    go_wp2_with (go_at_call 13; refine (unhide cNx _ _ (unhide i28) (unhide kz1)).mono ?_; rintro e wz2 ⟨a28, c28, rfl, kz2⟩; replace kz2 := hide kz2)
                    refine hK.out _ _ (by (try dsimp only); exact unhide hS _ (by repeat (first | exact unhide kz3 | exact unhide kz2 | exact unhide kz1 | exact Below.refl _ _ | refine Below.drew ?_))) (fun hHeld => ?_)
                    clear hK K
                    refine wpAnyH_take (i := 8) (v := ?_) rfl (by kernel_rfl) (by kernel_rfl) (by kernel_rfl) (fun _ _ _ h => h) (Or.inl ⟨by rfl, ?_⟩) (by assumption) ?_
                    rotate_left
                    · (intro w hSw; (try dsimp only at hSw); go_simp; first | done | with_reducible rfl)
                    try simp only [Act.put, List.setIfInBounds_toArray, List.set_cons_zero, List.set_cons_succ, List.getElem_toArray, List.getElem_cons_succ, List.getElem_cons_zero]
                    refine wpAnyH_take (i := 9) (v := ?_) rfl (by kernel_rfl) (by kernel_rfl) (by kernel_rfl) (fun _ _ _ h => h) (Or.inl ⟨by rfl, ?_⟩) (by assumption) ?_
                    rotate_left
                    · (intro w hSw; (try dsimp only at hSw); go_simp; first | done | with_reducible rfl)
                    try simp only [Act.put, List.setIfInBounds_toArray, List.set_cons_zero, List.set_cons_succ, List.getElem_toArray, List.getElem_cons_succ, List.getElem_cons_zero]
                    refine wpAnyH_done (by kernel_rfl) ?_ _
                    have b9 := hide (below_then (unhide b8) (unhide kz2))
                    have I2 := hide ((unhide I1).next (unhide kz2))
                    clear cWo cNx hS d1 kz1 kz2 i28 hHeld snk
                    go_wp2
                    go_roundw
                    case rel => exact ⟨i + 1, k1, G1, ah, ch, by omega, hk1, rfl, by go_num, unhide hG1, unhide I2, unhide T1, unhide D2, unhide b9⟩
                    case measure => simp [intOf] <;> omega
              · have hin : i = n := by omega
                have D3 : Rnd l G G1 (canon (nodL l)).length := by rw [← unhide hN, ← unhide hn, ← hin]; exact unhide D1
                have hno2 : Hid ((∀ x, ¬ On (CE l) x) → r + 1 ≤ k1 ∨ k1 = n) := fun h => by
                  have h1 := D3.over (unhide TG) h
                  have h2 := unhide hno h
                  have h3 := (unhide T1).le
                  obtain ⟨⟨q, e⟩, _⟩ := D3
                  have h4 : G1.length = G.length + q.length := by rw [e, List.length_append]
                  rw [unhide hG1, unhide hGk, ← unhide hN, ← unhide hn] at *
                  omega
                clear D3 hlt
                go_wp2
                go_roundw
                case rel => exact ⟨r + 1, k1, G1, ah, ch, by omega, hk1, rfl, by go_num, unhide hG1, unhide I1, unhide T1, unhide hno2, unhide b8⟩
                case measure => simp [intOf] <;> omega
          · have hr2 : Hid ((∀ x, ¬ On (CE l) x) → k = n) := fun h => by
              have := unhide hno h
              omega
            have fin := tk_end (unhide hc) (unhide TG) (fun h => by rw [unhide hGk, ← unhide hN, ← unhide hn]; exact unhide hr2 h)
            rw [unhide hGk, ← unhide hN, ← unhide hn, ← unhide hnc] at fin
            have k8 := hide (below_then (unhide k6) (unhide b7))
            have T1 := hide (fst_any wr)
            clear IG TG hno b7 hr2 R6 I7 k6
            go_wp2_with fail
            refine (unhide T1).mono ?_
            rintro e w13 ⟨rfl, k13⟩
            replace k13 := hide (below_then (unhide k8) k13)
            clear T1 k8
            by_cases h0 : nc = 0
            · have hkn := fin.2 h0
              subst h0 hkn
              clear fin
              go_wp2
              go_ret
              exact ⟨rfl, unhide k13⟩
            · have hkn : ¬ k = n := fun h => h0 (fin.1 h)
              have z1 : (k == n) = false := by simpa using hkn
              have z2 : (nc == 0) = false := by simpa using h0
              have z3 : ((k : Int) == (n : Int)) = false := by simp; omega
              have z4 : ((nc : Int) == 0) = false := by simp; omega
              clear fin
              go_wp2
              go_ret
              exact ⟨by simp [z1, z2, z3, z4], unhide k13⟩
  · have C2 := hide (fst_any w1)
    go_wp2_with fail
    refine (unhide C2).mono ?_
    rintro e w3 ⟨rfl, k3⟩
    replace k3 := hide (below_then (unhide b1) k3)
    go_wp2
    go_ret
    exact ⟨rfl, unhide k3⟩
end Go.Proofs.Ytfnepbpopemonaa
