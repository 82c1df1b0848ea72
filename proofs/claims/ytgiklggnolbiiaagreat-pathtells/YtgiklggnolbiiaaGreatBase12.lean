/- Texts of this claim, put together in their order. -/
import Derived.Deep.RegionHeld3
import Derived.Test.YtgiklggnolbiiaaGreatBase1
import Derived.Test.YtgiklggnolbiiaaGreatBase2
import Derived.Test.YtgiklggnolbiiaaGreatBase3
import Derived.Test.YtgiklggnolbiiaaGreatBase4
import Derived.Test.YtgiklggnolbiiaaGreatBase5
import Derived.Test.YtgiklggnolbiiaaGreatBase6
import Derived.Test.YtgiklggnolbiiaaGreatBase7
import Derived.Test.YtgiklggnolbiiaaGreatBase8
import Derived.Test.YtgiklggnolbiiaaGreatBase9
import Derived.Test.YtgiklggnolbiiaaGreatBase10
import Derived.Test.YtgiklggnolbiiaaGreatBase11
/- The reference's Ask. -/
namespace Go.Proofs.YtgiklggnolbiiaaGreat
open Go.RowKit
set_option linter.unusedVariables false
set_option linter.unusedSimpArgs false
variable {B : Nat} {H Q : List En} {b : Nat} {hv qv : Value}
set_option maxHeartbeats 8000000 in
theorem rask_any (w : World) (h : Lr B H Q b hv qv w) (hd : Dq hv qv) (hs : Srt H) (hH : H.length < 1000) (hQ : Q.length < 1000) (who m : Int) :
    Calls Tryz.prog 39 #[.pointer (some ⟨b, 0, none⟩), .int .i64 who, .int .i64 m] w (RAskPost w b hv qv B (raskD who m H Q)) := by
  unfold raskD
  cases hk : okD who m Q
  · exact rask_bad w h hd hH hQ who m hk
  · rw [if_pos rfl]
    dsimp only
    by_cases e0 : lookD who H = 0
    · have b0 : (lookD who H == 0) = true := beq_iff_eq.2 e0
      rw [if_neg (by omega), if_pos e0]
      by_cases e1 : Q.length = 0
      · cases e2 : fitsL (who, goal (lookD who H) m) H
        · rw [if_neg (by simp)]
          exact rask_waitz w h hd hH hQ who m _ _ hk rfl rfl b0 (fun _ => e2)
        · rw [if_pos ⟨e1, rfl⟩]
          exact rask_holdz w h hd hH hQ who m _ _ hk rfl rfl b0 (by omega) hs e2
      · rw [if_neg (fun h => e1 h.1)]
        exact rask_waitz w h hd hH hQ who m _ _ hk rfl rfl b0 (fun h => absurd h e1)
    · have b0 : (lookD who H == 0) = false := beq_eq_false_iff_ne.2 e0
      by_cases e3 : goal (lookD who H) m = lookD who H
      · rw [if_pos ⟨e0, e3⟩]
        exact rask_same w h hd hH hQ who m _ _ hk rfl rfl b0 (beq_iff_eq.2 e3)
      · have b3 : (goal (lookD who H) m == lookD who H) = false := beq_eq_false_iff_ne.2 e3
        rw [if_neg (fun h => e3 h.2), if_neg e0]
        by_cases e1 : cnvD H Q = 0
        · cases e2 : fitsL (who, goal (lookD who H) m) H
          · rw [if_neg (by simp)]
            exact rask_waitn w h hd hH hQ who m _ _ hk rfl rfl _ b0 b3 rfl (fun _ => e2)
          · rw [if_pos ⟨e1, rfl⟩]
            exact rask_holdn w h hd hH hQ who m _ _ hk rfl rfl b0 b3 e1 hs e2
        · rw [if_neg (fun h => e1 h.1)]
          exact rask_waitn w h hd hH hQ who m _ _ hk rfl rfl _ b0 b3 rfl (fun h => absurd h e1)
end Go.Proofs.YtgiklggnolbiiaaGreat

/- The reference's Leave: what its walk leans on. -/
namespace Go.Proofs.YtgiklggnolbiiaaGreat
open Go.RowKit
set_option linter.unusedVariables false
set_option linter.unusedSimpArgs false
section
variable {P : Program} {ops : Array Oper} {Q : Exit → Act → World → Prop} {md : Region.Mode} {S : World → Prop} {z : Nat}
/-- One that yields its value in every world may be taken first, though z does not wait for it. -/
theorem Lw.firstp {i : Nat} {o : Oper} {v : Value} (hiz : i ≠ z) (hi : ops[i]? = some o) (hs : Region.noSelect ops = true)
    (hQ : ∀ c a w, Q (.panic c) (a.put o.dst v) w → Q (.panic c) a w) : ∀ (n : Nat) (l : Array Bool) (a : Act) (w : World),
      (∀ j oj, ops[j]? = some oj → j ≠ i → l.getD j true = false → (∀ e ∈ oj.after, Region.binds md e = true → e.on ≠ i) → o.apart ops oj = true) →
      i ∈ Region.ready md ops l → YieldsIf P ops (fun _ => True) o v a → (l.getD z false = false → S w) → Lw P md ops Q S z n (l.setIfInBounds i true) (a.put o.dst v) w → Lw P md ops Q S z (n + 1) l a w := by
  intro n
  induction n with
  | zero =>
    intro l a w _ hr hy hS H
    refine ⟨fun h => (by rw [h] at hr; cases hr), fun j hj => ?_⟩
    by_cases e : j = i
    · subst e; exact hy.wpOp hi trivial ⟨fun h => hS (by rw [getD_set_ne false hiz] at h; exact h), H⟩
    · have := ready_mono hj e
      rw [H.1] at this
      cases this
  | succ n ih =>
    intro l a w hf hr hy hS H
    refine ⟨fun h => (by rw [h] at hr; cases hr), fun j hj => ?_⟩
    by_cases e : j = i
    · subst e; exact hy.wpOp hi trivial ⟨fun h => hS (by rw [getD_set_ne false hiz] at h; exact h), H⟩
    · obtain ⟨hju, oj, hoj, hall⟩ := mem_ready.1 hj
      have hni : ∀ e ∈ oj.after, Region.binds md e = true → e.on ≠ i := fun e he hb heq => by
        have h1 := hall e he hb
        rw [heq, unl (mem_ready.1 hr).1] at h1
        cases h1
      have h2 := wpOp_putIf hoj (hf j oj hoj e hju hni) (fun cs b => Region.noSelect_spec hs i o cs b hi) (fun cs b => Region.noSelect_spec hs j oj cs b hoj) hQ hy (H.2 j (ready_mono hj e))
      have hr2 := ready_mono hr (Ne.symm e)
      have hf2 : ∀ k ok, ops[k]? = some ok → k ≠ i → (l.setIfInBounds j true).getD k true = false → (∀ e ∈ ok.after, Region.binds md e = true → e.on ≠ i) → o.apart ops ok = true := fun k ok hk hki hun hno => by
        refine hf k ok hk hki ?_ hno
        by_cases hjk : j = k
        · subst hjk; exact hju
        · rw [getD_set_ne true hjk] at hun; exact hun
      have hz2 : ∀ b : Bool, (l.setIfInBounds j true).getD z false = b → ((l.setIfInBounds i true).setIfInBounds j true).getD z false = b := fun b hb => by
        rw [Array.setIfInBounds_comm _ _ (Ne.symm e), getD_set_ne false hiz]
        exact hb
      refine wpOp_mono (fun b u h3 => ⟨fun hz => h3.2.1 (hz2 _ hz), ih (l.setIfInBounds j true) b u hf2 hr2 h3.1 (fun hz => h3.2.1 (hz2 _ hz)) ?_⟩) h2
      rw [Array.setIfInBounds_comm _ _ e]
      exact h3.2.2
theorem Lw.takep {i : Nat} {o : Oper} {v : Value} {n : Nat} {l : Array Bool} {a : Act} {w : World} (hiz : i ≠ z) (hi : ops[i]? = some o) (hs : Region.noSelect ops = true) (hf : Region.free md ops l i = true)
    (hr : (Region.ready md ops l).contains i = true) (hQ : ∀ c a w, Q (.panic c) (a.put o.dst v) w → Q (.panic c) a w) (hc : Cld md ops l) (hy : YieldsIf P ops (fun _ => True) o v a) (hS : l.getD z false = false → S w)
    (h : Cld md ops (l.setIfInBounds i true) → Lw P md ops Q S z n (l.setIfInBounds i true) (a.put o.dst v) w) : Lw P md ops Q S z (n + 1) l a w :=
  Lw.firstp hiz hi hs hQ n l a w (Region.free_spec hi hf) (by simpa using hr) hy hS (h (hc.step (by simpa using hr)))
end
variable {B : Nat} {H Q : List En} {b : Nat} {hv qv : Value} {w w' : World}
theorem set_size (w : World) (b k : Nat) (v : Value) : (w.setCell ⟨b, k, none⟩ v).heap.size = w.heap.size := by
  show (w.heap.modify b _).size = _
  rw [Array.size_modify]
theorem heap_alloc_set (w : World) (b k : Nat) (v : Value) (o : Obj) : ((w.setCell ⟨b, k, none⟩ v).alloc o).heap[w.heap.size]? = some o := by
  have h := heap_alloc_new (w.setCell ⟨b, k, none⟩ v) o
  rw [set_size] at h
  exact h
/-- Both rows new. -/
theorem Lr.put01 (h : Lr B H Q b hv qv w) {v u : Value} {H' Q' : List En} (hb : Below w.heap.size w w') (he : Es w.heap.size v H' w') (hq : Es w.heap.size u Q' w') :
    Lr B H' Q' b v u ((w'.setCell ⟨b, 0, none⟩ v).setCell ⟨b, 1, none⟩ u) ∧ Mv b hv qv v u w ((w'.setCell ⟨b, 0, none⟩ v).setCell ⟨b, 1, none⟩ u) := by
  have hblk := (hb.block b h.lt).trans h.blk
  have nv : v.ownBlock ≠ some b := fun e => by have := (he.lt b e).1; have := h.lt; omega
  have nu : u.ownBlock ≠ some b := fun e => by have := (hq.lt b e).1; have := h.lt; omega
  have hlow := h.low
  have far : ∀ k, k ≠ b → ((w'.setCell ⟨b, 0, none⟩ v).setCell ⟨b, 1, none⟩ u).heap[k]? = w'.heap[k]? := fun k hk => (set_other _ _ _ _ _ hk).trans (set_other _ _ _ _ _ hk)
  have sz : ((w'.setCell ⟨b, 0, none⟩ v).setCell ⟨b, 1, none⟩ u).heap.size = w'.heap.size := by
    rw [set_size, set_size]
  have up : ∀ {x : Value} {l : List En}, Es w.heap.size x l w' → x.ownBlock ≠ some b → Es B x l ((w'.setCell ⟨b, 0, none⟩ v).setCell ⟨b, 1, none⟩ u) := fun {x l} hx hn => by
    have h1 := hx.keep (w' := (w'.setCell ⟨b, 0, none⟩ v).setCell ⟨b, 1, none⟩ u) fun k hk => far k (fun e => hn (by rw [← e]; exact hk))
    rcases h1 with h2 | ⟨g, cap, e, hg, r⟩
    · exact .inl h2
    · exact .inr ⟨g, cap, e, Nat.le_trans hlow hg, r⟩
  refine ⟨⟨?_, up he nv, up hq nu, h.bB⟩, ⟨hb.os, hb.tape, hb.output, ?_, fun k hk h1 _ _ => (far k h1).trans (hb.block k hk), fun k hk => .inr (he.lt k hk).1, fun k hk => .inr (hq.lt k hk).1⟩⟩
  · exact setc _ (setc _ hblk)
  · rw [sz]; exact hb.size
theorem Lr.tyh (h : Lr B H Q b hv qv w) {v : Value} {l : List Int} {B' : Nat} (k : Is B' v l w) : ∀ j, v.ownBlock = some j → j ≠ b ∧ hv.ownBlock ≠ some j ∧ qv.ownBlock ≠ some j := fun j hj => by
  obtain ⟨cur, hc⟩ := k.ty j hj
  refine ⟨fun e => ?_, fun e => ?_, fun e => ?_⟩
  · rw [e, h.blk] at hc; cases hc
  · obtain ⟨c2, h2⟩ := h.hr.ty j e
    rw [h2] at hc; cases hc
  · obtain ⟨c2, h2⟩ := h.qr.ty j e
    rw [h2] at hc; cases hc
/-- Numbers lie in other blocks than a lane. -/
theorem Is.movedr {v : Value} {l : List Int} {hv' qv' : Value} {B' : Nat} (h : Is B' v l w) (k : Lr B H Q b hv qv w) (m : Mv b hv qv hv' qv' w w') : Is B' v l w' :=
  h.keep fun g hg => by
    obtain ⟨h1, h2, h3⟩ := k.tyh h g hg
    exact m.block g (h.lt g hg).2 h1 h2 h3
theorem Lr.beside {v : Value} {l : List Int} {B' : Nat} (k : Lr B H Q b hv qv w) (h : Is B' v l w) (g : w.grownBy w' v.ownBlock) : Lr B H Q b hv qv w' := by
  refine ⟨(g.block b k.lt (fun e => ?_)).trans k.blk, k.hr.keep fun j hj => g.block j (k.hr.lt j hj).2 (fun e => ?_), k.qr.keep fun j hj => g.block j (k.qr.lt j hj).2 (fun e => ?_), k.bB⟩
  · exact (k.tyh h b e.symm).1 rfl
  · exact (k.tyh h j e.symm).2.1 hj
  · exact (k.tyh h j e.symm).2.2 hj
theorem wpList_app_re {w : World} {ops : Array Oper} {rest : List Oper} {o : Oper} {a : Act} {Q : Exit → Act → World → Prop} (hgd : o.guard = none) (s x : Operand)
    (ho : o.op = .call { callee := .builtin .append, args := #[s, x], argTypes := #[58, 58] }) (base : Nat) (v : Value) (l m : List En) (hs : a.eval s = v) (hown : Pr 92 base v l w) (va : Option Addr) (n c : Nat)
    (hx : a.eval x = .slice va n c) (hr : Re w (.slice va n c) m) (hnil : va = none → c = 0) (hn : l.length + m.length ≤ 10000) (hb : base ≤ w.heap.size)
    (h : ∀ v' w', Pr 92 base v' (l ++ m) w' → w.grownBy w' v.ownBlock → wpList Tryz.prog ops Q rest (a.put o.dst v') w') : wpList Tryz.prog ops Q (o :: rest) a w :=
  wpList_plain hgd fun K hK => by
    obtain ⟨v', w', e, h2, h3⟩ := run_app_re w o.type base v l hown va n c m hr hnil hn hb
    unfold Oper.wp execOp
    simp only [ho, resolve, invoke, builtin, Sem.run_bind, Sem.run_pure, Result.andThen_ok, List.map_toArray, List.map_cons, List.map_nil, hs, hx, e]
    exact hK _ _ (h v' w' h2 h3)
def lenOf : Value → Nat
  | .slice _ n _ => n
  | _ => 0
end Go.Proofs.YtgiklggnolbiiaaGreat

/- The reference's Leave. -/
namespace Go.Proofs.YtgiklggnolbiiaaGreat
open Go.RowKit
set_option linter.unusedVariables false
set_option linter.unusedSimpArgs false
variable {B : Nat} {H Q : List En} {b : Nat} {hv qv : Value}
def RLeavePost (w : World) (b : Nat) (hv qv : Value) (B : Nat) (r : List Int × List En × List En) (e : Ending) (w' : World) : Prop :=
  ∃ gv hv' qv', e = .returned gv ∧ Is w.heap.size gv r.1 w' ∧ Lr B r.2.1 r.2.2 b hv' qv' w' ∧ Dq hv' qv' ∧ Mv b hv qv hv' qv' w w'
theorem flt_srt {who : Int} {l : List En} (h : Srt l) : Srt (fltD who l) := h.sublist List.filter_sublist
set_option maxRecDepth 100000 in
set_option maxHeartbeats 8000000 in
theorem rleave_any (w : World) (h : Lr B H Q b hv qv w) (hs : Srt H) (hn : H.length + Q.length < 900) (who : Int) :
    Calls Tryz.prog 44 #[.pointer (some ⟨b, 0, none⟩), .int .i64 who] w (RLeavePost w b hv qv B (rleaveD who H Q)) := by
  obtain ⟨ah, nh, ch, rfl, hx1⟩ := slice_form' h.hr
  replace hx1 := hide hx1
  obtain ⟨aq, nq, cq, rfl, hx2⟩ := slice_form' h.qr
  replace hx2 := hide hx2
  have hSS : Hid (∀ w', Below w.heap.size w w' → w'.cell? ⟨b, 0, none⟩ = some (.slice ah nh ch) ∧ w'.cell? ⟨b, 1, none⟩ = some (.slice aq nq cq)) := fun w' k => ⟨(h.next k).c0, (h.next k).c1⟩
  have hFF : Hid (∀ w' k, Below w.heap.size w w' → w'.frozen? ⟨b, k, none⟩ = false) := fun w' k hk => (h.next hk).free k
  have HL := hide h
  have hs := hide (flt_srt (who := who) hs)
  have hl1 : (fltD who H).length ≤ H.length := List.length_filter_le _ _
  have hl2 : (fltD who Q).length ≤ Q.length := List.length_filter_le _ _
  have hR : Hid (rleaveD who H Q = rgrantD (fltD who H) (fltD who Q)) := rfl
  have C1 := rwithout_any w.drew ((unhide HL).hr.next ((Below.refl _ _).drew)) (by omega) who
  generalize rleaveD who H Q = R at hR ⊢
  clear h
  go_enter Tryz.func44, Tryz.ntmps44
  go_wp2_with fail
  refine Lw.begin 16 (fun wz => wz.cell? ⟨b, 0, none⟩ = some (.slice ah nh ch) ∧ wz.cell? ⟨b, 1, none⟩ = some (.slice aq nq cq)) (by kernel_rfl) ?hS0 (fun hS1 hc0 => ?_)
  case hS0 => exact unhide hSS _ ((Below.refl _ _).drew)
  refine Lw.take (i := 0) [14, 15, 16] (by kernel_rfl) (by rfl) (by decide) rfl (by kernel_rfl) (by kernel_rfl) (by kernel_rfl) (fun _ _ _ h => h) (by assumption) (v := ?_) (Or.inl ⟨by rfl, ?_⟩) (by assumption) (fun hc1 => ?_)
  rotate_left
  · (intro w hSw; (try dsimp only at hSw); go_simp; first | done | with_reducible rfl)
  clear hc0
  try simp only [Act.put, List.setIfInBounds_toArray, List.set_cons_zero, List.set_cons_succ, List.getElem_toArray, List.getElem_cons_succ, List.getElem_cons_zero]
  refine Lw.takep (i := 1) (by decide) rfl (by kernel_rfl) (by kernel_rfl) (by kernel_rfl) (fun _ _ _ h => h) (by assumption) (v := ?_) (Or.inl ⟨by rfl, ?_⟩) (fun _ => by assumption) (fun hc2 => ?_)
  rotate_left
  · (intro w hSw; (try dsimp only at hSw); go_simp; first | done | with_reducible rfl)
  clear hc1
  try simp only [Act.put, List.setIfInBounds_toArray, List.set_cons_zero, List.set_cons_succ, List.getElem_toArray, List.getElem_cons_succ, List.getElem_cons_zero]
  refine Lw.take (i := 2) [3, 4, 5, 7, 16] (by kernel_rfl) (by rfl) (by decide) rfl (by kernel_rfl) (by kernel_rfl) (by kernel_rfl) (fun _ _ _ h => h) (by assumption) (v := ?_) (Or.inl ⟨by rfl, ?_⟩) (by assumption) (fun hc3 => ?_)
  rotate_left
  · (intro w hSw; (try dsimp only at hSw); go_simp; first | done | with_reducible rfl)
  clear hc2
  try simp only [Act.put, List.setIfInBounds_toArray, List.set_cons_zero, List.set_cons_succ, List.getElem_toArray, List.getElem_cons_succ, List.getElem_cons_zero]
  refine Lw.take (i := 3) [4, 5, 7, 16] (by kernel_rfl) (by rfl) (by decide) rfl (by kernel_rfl) (by kernel_rfl) (by kernel_rfl) (fun _ _ _ h => h) (by assumption) (v := ?_) (Or.inl ⟨by rfl, ?_⟩) (by assumption) (fun hc4 => ?_)
  rotate_left
  · (intro w hSw; (try dsimp only at hSw); go_simp; first | done | with_reducible rfl)
  clear hc3
  try simp only [Act.put, List.setIfInBounds_toArray, List.set_cons_zero, List.set_cons_succ, List.getElem_toArray, List.getElem_cons_succ, List.getElem_cons_zero]
  refine Lw.take (i := 4) [5, 7, 16] (by kernel_rfl) (by rfl) (by decide) rfl (by kernel_rfl) (by kernel_rfl) (by kernel_rfl) (fun _ _ _ h => h) (by assumption) (v := ?_) (Or.inl ⟨by rfl, ?_⟩) (by assumption) (fun hc5 => ?_)
  rotate_left
  · (intro w hSw; (try dsimp only at hSw); go_simp; first | done | with_reducible rfl)
  clear hc4
  try simp only [Act.put, List.setIfInBounds_toArray, List.set_cons_zero, List.set_cons_succ, List.getElem_toArray, List.getElem_cons_succ, List.getElem_cons_zero]
  refine Lw.take (i := 5) [7, 16] (by kernel_rfl) (by rfl) (by decide) rfl (by kernel_rfl) (by kernel_rfl) (by kernel_rfl) (fun _ _ _ h => h) (by assumption) (v := ?_) (Or.inl ⟨by rfl, ?_⟩) (by assumption) (fun hc6 => ?_)
  rotate_left
  · (intro w hSw; (try dsimp only at hSw); go_simp; first | done | with_reducible rfl)
  clear hc5
  try simp only [Act.put, List.setIfInBounds_toArray, List.set_cons_zero, List.set_cons_succ, List.getElem_toArray, List.getElem_cons_succ, List.getElem_cons_zero]
  refine Lw.take (i := 6) [7, 16] (by kernel_rfl) (by rfl) (by decide) rfl (by kernel_rfl) (by kernel_rfl) (by kernel_rfl) (fun _ _ _ h => h) (by assumption) (v := ?_) (Or.inl ⟨by rfl, ?_⟩) (by assumption) (fun hc7 => ?_)
  rotate_left
  · (intro w hSw; (try dsimp only at hSw); go_simp; first | done | with_reducible rfl)
  clear hc6
  try simp only [Act.put, List.setIfInBounds_toArray, List.set_cons_zero, List.set_cons_succ, List.getElem_toArray, List.getElem_cons_succ, List.getElem_cons_zero]
  refine Lw.take (i := 8) [9, 10, 11, 16] (by kernel_rfl) (by rfl) (by decide) rfl (by kernel_rfl) (by kernel_rfl) (by kernel_rfl) (fun _ _ _ h => h) (by assumption) (v := ?_) (Or.inl ⟨by rfl, ?_⟩) (by assumption) (fun hc8 => ?_)
  rotate_left
  · (intro w hSw; (try dsimp only at hSw); go_simp; first | done | with_reducible rfl)
  clear hc7
  try simp only [Act.put, List.setIfInBounds_toArray, List.set_cons_zero, List.set_cons_succ, List.getElem_toArray, List.getElem_cons_succ, List.getElem_cons_zero]
  refine Lw.take (i := 9) [10, 11, 16] (by kernel_rfl) (by rfl) (by decide) rfl (by kernel_rfl) (by kernel_rfl) (by kernel_rfl) (fun _ _ _ h => h) (by assumption) (v := ?_) (Or.inl ⟨by rfl, ?_⟩) (by assumption) (fun hc9 => ?_)
  rotate_left
  · (intro w hSw; (try dsimp only at hSw); go_simp; first | done | with_reducible rfl)
  clear hc8
  try simp only [Act.put, List.setIfInBounds_toArray, List.set_cons_zero, List.set_cons_succ, List.getElem_toArray, List.getElem_cons_succ, List.getElem_cons_zero]
  refine Lw.take (i := 10) [11, 16] (by kernel_rfl) (by rfl) (by decide) rfl (by kernel_rfl) (by kernel_rfl) (by kernel_rfl) (fun _ _ _ h => h) (by assumption) (v := ?_) (Or.inl ⟨by rfl, ?_⟩) (by assumption) (fun hc10 => ?_)
  rotate_left
  · (intro w hSw; (try dsimp only at hSw); go_simp; first | done | with_reducible rfl)
  clear hc9
  try simp only [Act.put, List.setIfInBounds_toArray, List.set_cons_zero, List.set_cons_succ, List.getElem_toArray, List.getElem_cons_succ, List.getElem_cons_zero]
  refine Lw.take (i := 11) [16] (by kernel_rfl) (by rfl) (by decide) rfl (by kernel_rfl) (by kernel_rfl) (by kernel_rfl) (fun _ _ _ h => h) (by assumption) (v := ?_) (Or.inl ⟨by rfl, ?_⟩) (by assumption) (fun hc11 => ?_)
  rotate_left
  · (intro w hSw; (try dsimp only at hSw); go_simp; first | done | with_reducible rfl)
  clear hc10
  try simp only [Act.put, List.setIfInBounds_toArray, List.set_cons_zero, List.set_cons_succ, List.getElem_toArray, List.getElem_cons_succ, List.getElem_cons_zero]
  refine Lw.take (i := 12) [13, 16] (by kernel_rfl) (by rfl) (by decide) rfl (by kernel_rfl) (by kernel_rfl) (by kernel_rfl) (fun _ _ _ h => h) (by assumption) (v := ?_) (Or.inl ⟨by rfl, ?_⟩) (by assumption) (fun hc12 => ?_)
  rotate_left
  · (intro w hSw; (try dsimp only at hSw); go_simp; first | done | with_reducible rfl)
  clear hc11
  try simp only [Act.put, List.setIfInBounds_toArray, List.set_cons_zero, List.set_cons_succ, List.getElem_toArray, List.getElem_cons_succ, List.getElem_cons_zero]
  refine Lw.ready (rs := [7]) (by kernel_rfl) (by simp) (by assumption) (fun hcR => ?_)
  refine Nxt1.cons rfl (by kernel_rfl) hcR (fun K hK => ?_) Nxt1.nil
  go_simp
  go_wp2_with (go_at_call 90; (with_reducible refine Calls.mono C1 ?_); rintro e w1 ⟨v1, rfl, p1, b1⟩; clear C1; have bb1 := hide (below_then (w := w) ((Below.refl _ _).drew) b1); obtain ⟨a1, n1, c1, rfl⟩ := pr_form p1; replace p1 := hide p1; clear b1)
  refine unhide hK _ _ (fun _ => unhide hSS _ (unhide bb1)) (fun hS2 hc13 => ?_)
  clear hK K hcR hS2 hc12
  try simp only [Act.put, List.setIfInBounds_toArray, List.set_cons_zero, List.set_cons_succ, List.getElem_toArray, List.getElem_cons_succ, List.getElem_cons_zero]
  refine Lw.ready (rs := [13]) (by kernel_rfl) (by simp) (by assumption) (fun hcR => ?_)
  refine Nxt1.cons rfl (by kernel_rfl) hcR (fun K hK => ?_) Nxt1.nil
  have C2 := rwithout_any w1 ((unhide HL).qr.next (unhide bb1)) (by omega) who
  go_simp
  go_wp2_with (go_at_call 90; (with_reducible refine Calls.mono C2 ?_); rintro e w2 ⟨v2, rfl, p2, b2⟩; clear C2; have bb2 := hide (below_then (unhide bb1) b2); have dq : Hid (Dq (.slice a1 n1 c1) v2) := fun k h1 h2 => (by have := ((unhide p1).lt k h1).2; have := (p2.lt k h2).1; omega); replace p1 := hide ((unhide p1).next b2); obtain ⟨a2, n2, c2, rfl⟩ := pr_form p2; replace p2 := hide p2)
  refine unhide hK _ _ (fun _ => unhide hSS _ (unhide bb2)) (fun hS2 hc14 => ?_)
  clear hK K hcR hS2 hc13
  try simp only [Act.put, List.setIfInBounds_toArray, List.set_cons_zero, List.set_cons_succ, List.getElem_toArray, List.getElem_cons_succ, List.getElem_cons_zero]
  refine Lw.take (i := 14) [15, 16] (by kernel_rfl) (by rfl) (by decide) rfl (by kernel_rfl) (by kernel_rfl) (by kernel_rfl) (fun _ _ _ h => h) (by assumption) (v := ?_) (Or.inl ⟨by rfl, ?_⟩) (by first | assumption | exact unhide hSS _ (unhide bb2)) (fun hc15 => ?_)
  rotate_left
  · (intro w hSw; (try dsimp only at hSw); go_simp; first | done | with_reducible rfl)
  clear hc14
  try simp only [Act.put, List.setIfInBounds_toArray, List.set_cons_zero, List.set_cons_succ, List.getElem_toArray, List.getElem_cons_succ, List.getElem_cons_zero]
  refine Lw.take (i := 15) [16] (by kernel_rfl) (by rfl) (by decide) rfl (by kernel_rfl) (by kernel_rfl) (by kernel_rfl) (fun _ _ _ h => h) (by assumption) (v := ?_) (Or.inl ⟨by rfl, ?_⟩) (by first | assumption | exact unhide hSS _ (unhide bb2)) (fun hc16 => ?_)
  rotate_left
  · (intro w hSw; (try dsimp only at hSw); go_simp; first | done | with_reducible rfl)
  clear hc15
  try simp only [Act.put, List.setIfInBounds_toArray, List.set_cons_zero, List.set_cons_succ, List.getElem_toArray, List.getElem_cons_succ, List.getElem_cons_zero]
  refine Lw.ready (rs := [16]) (by kernel_rfl) (by simp) (by assumption) (fun hcR => ?_)
  refine Nxt1.cons rfl (by kernel_rfl) hcR (fun K hK => ?_) Nxt1.nil
  have fr := unhide hFF _ 0 (unhide bb2)
  have cc := (unhide hSS _ (unhide bb2)).1
  have L1 := hide ((unhide HL).put0 (unhide bb2) (pr_es ((unhide p1).down (B' := w.drew.heap.size) (Nat.le_refl _)))).1
  have fr1 := (unhide L1).free 1
  have cc1 := (unhide L1).c1
  go_simp
  refine unhide hK _ _ (fun h => absurd h (by decide)) (fun hS2 hc17 => ?_)
  clear hK K hcR hS2 hc16
  try simp only [Act.put, List.setIfInBounds_toArray, List.set_cons_zero, List.set_cons_succ, List.getElem_toArray, List.getElem_cons_succ, List.getElem_cons_zero]
  refine Lw.takep (i := 17) (by decide) rfl (by kernel_rfl) (by kernel_rfl) (by kernel_rfl) (fun _ _ _ h => h) (by assumption) (v := ?_) (Or.inl ⟨by rfl, ?_⟩) (fun h => absurd h (by decide)) (fun hc18 => ?_)
  rotate_left
  · (intro w hSw; (try dsimp only at hSw); go_simp; first | done | with_reducible rfl)
  clear hc17
  try simp only [Act.put, List.setIfInBounds_toArray, List.set_cons_zero, List.set_cons_succ, List.getElem_toArray, List.getElem_cons_succ, List.getElem_cons_zero]
  refine Lw.takep (i := 18) (by decide) rfl (by kernel_rfl) (by kernel_rfl) (by kernel_rfl) (fun _ _ _ h => h) (by assumption) (v := ?_) (Or.inl ⟨by rfl, ?_⟩) (fun h => absurd h (by decide)) (fun hc19 => ?_)
  rotate_left
  · (intro w hSw; (try dsimp only at hSw); go_simp; first | done | with_reducible rfl)
  clear hc18
  try simp only [Act.put, List.setIfInBounds_toArray, List.set_cons_zero, List.set_cons_succ, List.getElem_toArray, List.getElem_cons_succ, List.getElem_cons_zero]
  refine Lw.ready (rs := [19]) (by kernel_rfl) (by simp) (by assumption) (fun hcR => ?_)
  refine Nxt1.cons rfl (by kernel_rfl) hcR (fun K hK => ?_) Nxt1.nil
  clear fr cc
  go_simp
  refine unhide hK _ _ (fun h => absurd h (by decide)) (fun hS2 hc20 => ?_)
  clear hK K hcR hS2 hc19
  try simp only [Act.put, List.setIfInBounds_toArray, List.set_cons_zero, List.set_cons_succ, List.getElem_toArray, List.getElem_cons_succ, List.getElem_cons_zero]
  refine Lw.done (by kernel_rfl) ?_ _
  clear hS1 hc20
  have PP := hide ((unhide HL).put01 (unhide bb2) (pr_es (unhide p1)) (pr_es ((unhide p2).down (unhide bb1).size)))
  clear fr1 cc1 L1
  obtain ⟨W, hW⟩ : ∃ W, W = (w2.setCell ⟨b, 0, none⟩ (.slice a1 n1 c1)).setCell ⟨b, 1, none⟩ (.slice a2 n2 c2) := ⟨_, rfl⟩
  rw [← hW] at PP ⊢
  have hn2 : Hid (n2 = (fltD who Q).length) := by obtain ⟨_, _, e⟩ := (unhide p2).form; injection e
  clear hW hSS hFF bb1 bb2 p1 p2
  obtain ⟨i3, hi3, hz0, hz1, hz2⟩ := info_parts inf3
  clear hi3 hz0 hz1 hz2 i3
  go_wp2
  go_loopw [5] (fun s5 wr => ∃ (out : List Int) (H1 Q1 : List En) (hv1 : Value) (ar : Option Addr) (nr cr : Nat) (ag : Option Addr) (no cg : Nat), s5 = .slice ag no cg ∧ Hid (no = out.length) ∧ Hid (Lr B H1 Q1 b hv1 (.slice ar nr cr) wr) ∧ Hid (nr = Q1.length) ∧ Hid (Dq hv1 (.slice ar nr cr)) ∧ Hid (Srt H1) ∧ Hid (Is w.heap.size (.slice ag no cg) out wr) ∧ Hid (Mv b (.slice ah nh ch) (.slice aq nq cq) hv1 (.slice ar nr cr) w wr) ∧ H1.length + Q1.length < 900 ∧ no + nr < 900 ∧ Hid (R = (out ++ (rgrantD H1 Q1).1, (rgrantD H1 Q1).2))) (fun s5 _ => 1000 - lenOf s5)
  case atStart => exact ⟨[], fltD who H, fltD who Q, _, a2, n2, c2, none, 0, 0, rfl, rfl, (unhide PP).1, unhide hn2, unhide dq, unhide hs, is_nil _ _, (unhide PP).2, by omega, by have := unhide hn2; omega, by rw [List.nil_append]; exact unhide hR⟩
  case round =>
    obtain ⟨out, H1, Q1, hv1, ar, nr, cr, ag, no, cg, rfl, hno, L, hnr, hd1, hs1, G, M, m1, m2, hR1⟩ := hrel
    have c1 := (unhide L).c1
    rcases Nat.eq_zero_or_pos nr with hz | hz
    · have hQ1 : Q1 = [] := List.eq_nil_of_length_eq_zero (by have := unhide hnr; omega)
      have PE : Hid (∀ w5, Below wr.heap.size wr w5 → RLeavePost w b (.slice ah nh ch) (.slice aq nq cq) B R (.returned (.slice ag no cg)) w5) := fun w5 kb => by
        have e : R = (out, H1, Q1) := by rw [unhide hR1, hQ1]; unfold rgrantD; rw [List.append_nil]
        rw [e]
        exact ⟨_, hv1, _, rfl, (unhide G).next kb, (unhide L).next kb, unhide hd1, (unhide M).then_ kb⟩
      subst hz
      clear hQ1
      go_wp2_with fail
      refine wp_region_held_drew (S := fun wz => wz.cell? ⟨b, 1, none⟩ = some (.slice ar 0 cr)) (by kernel_rfl) ?hS9 (fun hHeld => ?_)
      case hS9 => exact ((unhide L).next ((Below.refl _ _).drew)).c1
      refine wpAnyH_take (i := 0) (v := ?_) rfl (by kernel_rfl) (by kernel_rfl) (by kernel_rfl) (fun _ _ _ h => h) (Or.inl ⟨by rfl, ?_⟩) (by assumption) ?_
      rotate_left
      · (intro w hSw; (try dsimp only at hSw); go_simp; first | done | with_reducible rfl)
      try simp only [Act.put, List.setIfInBounds_toArray, List.set_cons_zero, List.set_cons_succ, List.getElem_toArray, List.getElem_cons_succ, List.getElem_cons_zero]
      refine wpAnyH_take (i := 1) (v := ?_) rfl (by kernel_rfl) (by kernel_rfl) (by kernel_rfl) (fun _ _ _ h => h) (Or.inl ⟨by rfl, ?_⟩) (by assumption) ?_
      rotate_left
      · (intro w hSw; (try dsimp only at hSw); go_simp; first | done | with_reducible rfl)
      try simp only [Act.put, List.setIfInBounds_toArray, List.set_cons_zero, List.set_cons_succ, List.getElem_toArray, List.getElem_cons_succ, List.getElem_cons_zero]
      refine wpAnyH_take (i := 2) (v := ?_) rfl (by kernel_rfl) (by kernel_rfl) (by kernel_rfl) (fun _ _ _ h => h) (Or.inl ⟨by rfl, ?_⟩) (by assumption) ?_
      rotate_left
      · (intro w hSw; (try dsimp only at hSw); go_simp; first | done | with_reducible rfl)
      try simp only [Act.put, List.setIfInBounds_toArray, List.set_cons_zero, List.set_cons_succ, List.getElem_toArray, List.getElem_cons_succ, List.getElem_cons_zero]
      refine wpAnyH_take (i := 3) (v := ?_) rfl (by kernel_rfl) (by kernel_rfl) (by kernel_rfl) (fun _ _ _ h => h) (Or.inl ⟨by rfl, ?_⟩) (by assumption) ?_
      rotate_left
      · (intro w hSw; (try dsimp only at hSw); go_simp; first | done | with_reducible rfl)
      try simp only [Act.put, List.setIfInBounds_toArray, List.set_cons_zero, List.set_cons_succ, List.getElem_toArray, List.getElem_cons_succ, List.getElem_cons_zero]
      refine wpAnyH_take (i := 4) (v := ?_) rfl (by kernel_rfl) (by kernel_rfl) (by kernel_rfl) (fun _ _ _ h => h) (Or.inl ⟨by rfl, ?_⟩) (by assumption) ?_
      rotate_left
      · (intro w hSw; (try dsimp only at hSw); go_simp; first | done | with_reducible rfl)
      try simp only [Act.put, List.setIfInBounds_toArray, List.set_cons_zero, List.set_cons_succ, List.getElem_toArray, List.getElem_cons_succ, List.getElem_cons_zero]
      refine wpAnyH_take (i := 5) (v := ?_) rfl (by kernel_rfl) (by kernel_rfl) (by kernel_rfl) (fun _ _ _ h => h) (Or.inl ⟨by rfl, ?_⟩) (by assumption) ?_
      rotate_left
      · (intro w hSw; (try dsimp only at hSw); go_simp; first | done | with_reducible rfl)
      try simp only [Act.put, List.setIfInBounds_toArray, List.set_cons_zero, List.set_cons_succ, List.getElem_toArray, List.getElem_cons_succ, List.getElem_cons_zero]
      refine wpAnyH_take (i := 6) (v := ?_) rfl (by kernel_rfl) (by kernel_rfl) (by kernel_rfl) (fun _ _ _ h => h) (Or.inl ⟨by rfl, ?_⟩) (by assumption) ?_
      rotate_left
      · (intro w hSw; (try dsimp only at hSw); go_simp; first | done | with_reducible rfl)
      try simp only [Act.put, List.setIfInBounds_toArray, List.set_cons_zero, List.set_cons_succ, List.getElem_toArray, List.getElem_cons_succ, List.getElem_cons_zero]
      refine wpAnyH_take (i := 7) (v := undef) rfl (by kernel_rfl) (by kernel_rfl) (by kernel_rfl) (fun _ _ _ h => h) (Or.inr ⟨by rfl, rfl⟩) (by assumption) ?_
      try simp only [Act.put, List.setIfInBounds_toArray, List.set_cons_zero, List.set_cons_succ, List.getElem_toArray, List.getElem_cons_succ, List.getElem_cons_zero]
      refine wpAnyH_take (i := 8) (v := undef) rfl (by kernel_rfl) (by kernel_rfl) (by kernel_rfl) (fun _ _ _ h => h) (Or.inr ⟨by rfl, rfl⟩) (by assumption) ?_
      try simp only [Act.put, List.setIfInBounds_toArray, List.set_cons_zero, List.set_cons_succ, List.getElem_toArray, List.getElem_cons_succ, List.getElem_cons_zero]
      refine wpAnyH_take (i := 9) (v := undef) rfl (by kernel_rfl) (by kernel_rfl) (by kernel_rfl) (fun _ _ _ h => h) (Or.inr ⟨by rfl, rfl⟩) (by assumption) ?_
      try simp only [Act.put, List.setIfInBounds_toArray, List.set_cons_zero, List.set_cons_succ, List.getElem_toArray, List.getElem_cons_succ, List.getElem_cons_zero]
      refine wpAnyH_take (i := 10) (v := undef) rfl (by kernel_rfl) (by kernel_rfl) (by kernel_rfl) (fun _ _ _ h => h) (Or.inr ⟨by rfl, rfl⟩) (by assumption) ?_
      try simp only [Act.put, List.setIfInBounds_toArray, List.set_cons_zero, List.set_cons_succ, List.getElem_toArray, List.getElem_cons_succ, List.getElem_cons_zero]
      refine wpAnyH_take (i := 11) (v := undef) rfl (by kernel_rfl) (by kernel_rfl) (by kernel_rfl) (fun _ _ _ h => h) (Or.inr ⟨by rfl, rfl⟩) (by assumption) ?_
      try simp only [Act.put, List.setIfInBounds_toArray, List.set_cons_zero, List.set_cons_succ, List.getElem_toArray, List.getElem_cons_succ, List.getElem_cons_zero]
      refine wpAnyH_take (i := 12) (v := undef) rfl (by kernel_rfl) (by kernel_rfl) (by kernel_rfl) (fun _ _ _ h => h) (Or.inr ⟨by rfl, rfl⟩) (by assumption) ?_
      try simp only [Act.put, List.setIfInBounds_toArray, List.set_cons_zero, List.set_cons_succ, List.getElem_toArray, List.getElem_cons_succ, List.getElem_cons_zero]
      refine wpAnyH_take (i := 13) (v := undef) rfl (by kernel_rfl) (by kernel_rfl) (by kernel_rfl) (fun _ _ _ h => h) (Or.inr ⟨by rfl, rfl⟩) (by assumption) ?_
      try simp only [Act.put, List.setIfInBounds_toArray, List.set_cons_zero, List.set_cons_succ, List.getElem_toArray, List.getElem_cons_succ, List.getElem_cons_zero]
      refine wpAnyH_take (i := 14) (v := undef) rfl (by kernel_rfl) (by kernel_rfl) (by kernel_rfl) (fun _ _ _ h => h) (Or.inr ⟨by rfl, rfl⟩) (by assumption) ?_
      try simp only [Act.put, List.setIfInBounds_toArray, List.set_cons_zero, List.set_cons_succ, List.getElem_toArray, List.getElem_cons_succ, List.getElem_cons_zero]
      refine wpAnyH_take (i := 15) (v := undef) rfl (by kernel_rfl) (by kernel_rfl) (by kernel_rfl) (fun _ _ _ h => h) (Or.inr ⟨by rfl, rfl⟩) (by assumption) ?_
      try simp only [Act.put, List.setIfInBounds_toArray, List.set_cons_zero, List.set_cons_succ, List.getElem_toArray, List.getElem_cons_succ, List.getElem_cons_zero]
      refine wpAnyH_take (i := 16) (v := undef) rfl (by kernel_rfl) (by kernel_rfl) (by kernel_rfl) (fun _ _ _ h => h) (Or.inr ⟨by rfl, rfl⟩) (by assumption) ?_
      try simp only [Act.put, List.setIfInBounds_toArray, List.set_cons_zero, List.set_cons_succ, List.getElem_toArray, List.getElem_cons_succ, List.getElem_cons_zero]
      refine wpAnyH_take (i := 17) (v := undef) rfl (by kernel_rfl) (by kernel_rfl) (by kernel_rfl) (fun _ _ _ h => h) (Or.inr ⟨by rfl, rfl⟩) (by assumption) ?_
      try simp only [Act.put, List.setIfInBounds_toArray, List.set_cons_zero, List.set_cons_succ, List.getElem_toArray, List.getElem_cons_succ, List.getElem_cons_zero]
      refine wpAnyH_take (i := 18) (v := undef) rfl (by kernel_rfl) (by kernel_rfl) (by kernel_rfl) (fun _ _ _ h => h) (Or.inr ⟨by rfl, rfl⟩) (by assumption) ?_
      try simp only [Act.put, List.setIfInBounds_toArray, List.set_cons_zero, List.set_cons_succ, List.getElem_toArray, List.getElem_cons_succ, List.getElem_cons_zero]
      refine wpAnyH_take (i := 19) (v := undef) rfl (by kernel_rfl) (by kernel_rfl) (by kernel_rfl) (fun _ _ _ h => h) (Or.inr ⟨by rfl, rfl⟩) (by assumption) ?_
      try simp only [Act.put, List.setIfInBounds_toArray, List.set_cons_zero, List.set_cons_succ, List.getElem_toArray, List.getElem_cons_succ, List.getElem_cons_zero]
      refine wpAnyH_take (i := 20) (v := undef) rfl (by kernel_rfl) (by kernel_rfl) (by kernel_rfl) (fun _ _ _ h => h) (Or.inr ⟨by rfl, rfl⟩) (by assumption) ?_
      try simp only [Act.put, List.setIfInBounds_toArray, List.set_cons_zero, List.set_cons_succ, List.getElem_toArray, List.getElem_cons_succ, List.getElem_cons_zero]
      refine wpAnyH_take (i := 21) (v := undef) rfl (by kernel_rfl) (by kernel_rfl) (by kernel_rfl) (fun _ _ _ h => h) (Or.inr ⟨by rfl, rfl⟩) (by assumption) ?_
      try simp only [Act.put, List.setIfInBounds_toArray, List.set_cons_zero, List.set_cons_succ, List.getElem_toArray, List.getElem_cons_succ, List.getElem_cons_zero]
      refine wpAnyH_take (i := 22) (v := undef) rfl (by kernel_rfl) (by kernel_rfl) (by kernel_rfl) (fun _ _ _ h => h) (Or.inr ⟨by rfl, rfl⟩) (by assumption) ?_
      try simp only [Act.put, List.setIfInBounds_toArray, List.set_cons_zero, List.set_cons_succ, List.getElem_toArray, List.getElem_cons_succ, List.getElem_cons_zero]
      refine wpAnyH_take (i := 23) (v := ?_) rfl (by kernel_rfl) (by kernel_rfl) (by kernel_rfl) (fun _ _ _ h => h) (Or.inl ⟨by rfl, ?_⟩) (by assumption) ?_
      rotate_left
      · (intro w hSw; (try dsimp only at hSw); go_simp; first | done | with_reducible rfl)
      try simp only [Act.put, List.setIfInBounds_toArray, List.set_cons_zero, List.set_cons_succ, List.getElem_toArray, List.getElem_cons_succ, List.getElem_cons_zero]
      refine wpAnyH_done (by kernel_rfl) ?_ _
      have PE2 := hide (unhide PE _ ((Below.refl _ _).drew))
      clear PE
      go_wp2
      go_ret
      exact unhide PE2
    · obtain ⟨k, rfl⟩ : ∃ k, nr = k + 1 := ⟨nr - 1, by omega⟩
      obtain ⟨x, r, rfl⟩ : ∃ x r, Q1 = x :: r := by
        cases Q1 with
        | nil => have := unhide hnr; simp at this
        | cons x r => exact ⟨x, r, rfl⟩
      obtain ⟨g, hg, d0, d1⟩ := es_elem (unhide L).qr (i := 0) (by simp)
      subst hg
      have hkr : Hid (k = r.length) := by have := unhide hnr; show _ = _; simp at this; omega
      have d0 : wr.cell? ⟨g, 0, none⟩ = some (.int .i64 x.1) := by simpa using d0
      have d1 : wr.cell? ⟨g, 1, none⟩ = some (.int .i64 x.2) := by simpa using d1
      have gz : g < wr.heap.size := World.block_lt_of_cell? _ _ d0
      have hS3 : Hid (∀ w', Below wr.heap.size wr w' → w'.cell? ⟨b, 1, none⟩ = some (.slice (some ⟨g, 0, none⟩) (k + 1) cr) ∧ w'.cell? ⟨g, 0, none⟩ = some (.int .i64 x.1) ∧ w'.cell? ⟨g, 1, none⟩ = some (.int .i64 x.2)) := fun w' kb => ⟨((unhide L).next kb).c1, (kb.cell (p := ⟨g, 0, none⟩) gz).trans d0, (kb.cell (p := ⟨g, 1, none⟩) gz).trans d1⟩
      have hkc : Hid (k + 1 ≤ cr) := by
        rcases (unhide L).qr with ⟨e, _⟩ | ⟨g', cap', e, _, rb⟩
        · cases e
        · injection e with e1 e2 e3
          have := rb.le
          show _ ≤ _
          rw [e3]; omega
      have C61 := rfits_lane wr.drew ((unhide L).next ((Below.refl _ _).drew)) (by simp at m1; omega) x.1 x.2
      have m1' : H1.length + r.length < 899 := by simp at m1; omega
      cases hf : fitsL (x.1, x.2) H1
      · have PE : Hid (∀ w5, Below wr.heap.size wr w5 → RLeavePost w b (.slice ah nh ch) (.slice aq nq cq) B R (.returned (.slice ag no cg)) w5) := fun w5 kb => by
          have e : R = (out, H1, x :: r) := by rw [unhide hR1]; unfold rgrantD; rw [if_neg (by rw [show (x.1, x.2) = x from rfl] at hf; simp [hf]), List.append_nil]
          rw [e]
          exact ⟨_, hv1, _, rfl, (unhide G).next kb, (unhide L).next kb, unhide hd1, (unhide M).then_ kb⟩
        rw [hf] at C61
        have kz : decide ((0 : Int) < ((k + 1 : Nat) : Int)) = true := decide_eq_true (by omega)
        clear hf c1 d0 d1
        go_wp2_with fail
        refine wp_region_held_drew (S := fun wz => wz.cell? ⟨b, 1, none⟩ = some (.slice (some ⟨g, 0, none⟩) (k + 1) cr) ∧ wz.cell? ⟨g, 0, none⟩ = some (.int .i64 x.1) ∧ wz.cell? ⟨g, 1, none⟩ = some (.int .i64 x.2)) (by kernel_rfl) ?hS9 (fun hHeld => ?_)
        case hS9 => exact unhide hS3 _ ((Below.refl _ _).drew)
        refine wpAnyH_take (i := 0) (v := ?_) rfl (by kernel_rfl) (by kernel_rfl) (by kernel_rfl) (fun _ _ _ h => h) (Or.inl ⟨by rfl, ?_⟩) (by assumption) ?_
        rotate_left
        · (intro w hSw; (try dsimp only at hSw); go_simp; first | done | with_reducible rfl)
        try simp only [Act.put, List.setIfInBounds_toArray, List.set_cons_zero, List.set_cons_succ, List.getElem_toArray, List.getElem_cons_succ, List.getElem_cons_zero]
        refine wpAnyH_take (i := 1) (v := ?_) rfl (by kernel_rfl) (by kernel_rfl) (by kernel_rfl) (fun _ _ _ h => h) (Or.inl ⟨by rfl, ?_⟩) (by assumption) ?_
        rotate_left
        · (intro w hSw; (try dsimp only at hSw); go_simp; first | done | with_reducible rfl)
        try simp only [Act.put, List.setIfInBounds_toArray, List.set_cons_zero, List.set_cons_succ, List.getElem_toArray, List.getElem_cons_succ, List.getElem_cons_zero]
        refine wpAnyH_take (i := 2) (v := ?_) rfl (by kernel_rfl) (by kernel_rfl) (by kernel_rfl) (fun _ _ _ h => h) (Or.inl ⟨by rfl, ?_⟩) (by assumption) ?_
        rotate_left
        · (intro w hSw; (try dsimp only at hSw); go_simp; first | done | with_reducible rfl)
        try simp only [Act.put, List.setIfInBounds_toArray, List.set_cons_zero, List.set_cons_succ, List.getElem_toArray, List.getElem_cons_succ, List.getElem_cons_zero]
        refine wpAnyH_take (i := 3) (v := ?_) rfl (by kernel_rfl) (by kernel_rfl) (by kernel_rfl) (fun _ _ _ h => h) (Or.inl ⟨by rfl, ?_⟩) (by assumption) ?_
        rotate_left
        · (intro w hSw; (try dsimp only at hSw); go_simp; first | done | with_reducible rfl)
        try simp only [Act.put, List.setIfInBounds_toArray, List.set_cons_zero, List.set_cons_succ, List.getElem_toArray, List.getElem_cons_succ, List.getElem_cons_zero]
        refine wpAnyH_take (i := 4) (v := ?_) rfl (by kernel_rfl) (by kernel_rfl) (by kernel_rfl) (fun _ _ _ h => h) (Or.inl ⟨by rfl, ?_⟩) (by assumption) ?_
        rotate_left
        · (intro w hSw; (try dsimp only at hSw); go_simp; first | done | with_reducible rfl)
        try simp only [Act.put, List.setIfInBounds_toArray, List.set_cons_zero, List.set_cons_succ, List.getElem_toArray, List.getElem_cons_succ, List.getElem_cons_zero]
        refine wpAnyH_take (i := 5) (v := ?_) rfl (by kernel_rfl) (by kernel_rfl) (by kernel_rfl) (fun _ _ _ h => h) (Or.inl ⟨by rfl, ?_⟩) (by assumption) ?_
        rotate_left
        · (intro w hSw; (try dsimp only at hSw); go_simp; first | done | with_reducible rfl)
        try simp only [Act.put, List.setIfInBounds_toArray, List.set_cons_zero, List.set_cons_succ, List.getElem_toArray, List.getElem_cons_succ, List.getElem_cons_zero]
        refine wpAnyH_take (i := 6) (v := ?_) rfl (by kernel_rfl) (by kernel_rfl) (by kernel_rfl) (fun _ _ _ h => h) (Or.inl ⟨by rfl, ?_⟩) (by assumption) ?_
        rotate_left
        · (intro w hSw; (try dsimp only at hSw); go_simp; first | done | with_reducible rfl)
        try simp only [Act.put, List.setIfInBounds_toArray, List.set_cons_zero, List.set_cons_succ, List.getElem_toArray, List.getElem_cons_succ, List.getElem_cons_zero]
        refine wpAnyH_take (i := 7) (v := ?_) rfl (by kernel_rfl) (by kernel_rfl) (by kernel_rfl) (fun _ _ _ h => h) (Or.inl ⟨by rfl, ?_⟩) (by assumption) ?_
        rotate_left
        · (intro w hSw; (try dsimp only at hSw); go_simp; first | done | with_reducible rfl)
        try simp only [Act.put, List.setIfInBounds_toArray, List.set_cons_zero, List.set_cons_succ, List.getElem_toArray, List.getElem_cons_succ, List.getElem_cons_zero]
        refine wpAnyH_take (i := 8) (v := ?_) rfl (by kernel_rfl) (by kernel_rfl) (by kernel_rfl) (fun _ _ _ h => h) (Or.inl ⟨by rfl, ?_⟩) (by assumption) ?_
        rotate_left
        · (intro w hSw; (try dsimp only at hSw); go_simp; first | done | with_reducible rfl)
        try simp only [Act.put, List.setIfInBounds_toArray, List.set_cons_zero, List.set_cons_succ, List.getElem_toArray, List.getElem_cons_succ, List.getElem_cons_zero]
        refine wpAnyH_take (i := 9) (v := ?_) rfl (by kernel_rfl) (by kernel_rfl) (by kernel_rfl) (fun _ _ _ h => h) (Or.inl ⟨by rfl, ?_⟩) (by assumption) ?_
        rotate_left
        · (intro w hSw; (try dsimp only at hSw); go_simp; first | done | with_reducible rfl)
        try simp only [Act.put, List.setIfInBounds_toArray, List.set_cons_zero, List.set_cons_succ, List.getElem_toArray, List.getElem_cons_succ, List.getElem_cons_zero]
        refine wpAnyH_take (i := 10) (v := ?_) rfl (by kernel_rfl) (by kernel_rfl) (by kernel_rfl) (fun _ _ _ h => h) (Or.inl ⟨by rfl, ?_⟩) (by assumption) ?_
        rotate_left
        · (intro w hSw; (try dsimp only at hSw); go_simp; first | done | with_reducible rfl)
        try simp only [Act.put, List.setIfInBounds_toArray, List.set_cons_zero, List.set_cons_succ, List.getElem_toArray, List.getElem_cons_succ, List.getElem_cons_zero]
        refine wpAnyH_take (i := 11) (v := ?_) rfl (by kernel_rfl) (by kernel_rfl) (by kernel_rfl) (fun _ _ _ h => h) (Or.inl ⟨by rfl, ?_⟩) (by assumption) ?_
        rotate_left
        · (intro w hSw; (try dsimp only at hSw); go_simp; first | done | with_reducible rfl)
        try simp only [Act.put, List.setIfInBounds_toArray, List.set_cons_zero, List.set_cons_succ, List.getElem_toArray, List.getElem_cons_succ, List.getElem_cons_zero]
        refine wpAnyH_take (i := 12) (v := ?_) rfl (by kernel_rfl) (by kernel_rfl) (by kernel_rfl) (fun _ _ _ h => h) (Or.inl ⟨by rfl, ?_⟩) (by assumption) ?_
        rotate_left
        · (intro w hSw; (try dsimp only at hSw); go_simp; first | done | with_reducible rfl)
        try simp only [Act.put, List.setIfInBounds_toArray, List.set_cons_zero, List.set_cons_succ, List.getElem_toArray, List.getElem_cons_succ, List.getElem_cons_zero]
        refine wpAnyH_take (i := 13) (v := ?_) rfl (by kernel_rfl) (by kernel_rfl) (by kernel_rfl) (fun _ _ _ h => h) (Or.inl ⟨by rfl, ?_⟩) (by assumption) ?_
        rotate_left
        · (intro w hSw; (try dsimp only at hSw); go_simp; first | done | with_reducible rfl)
        try simp only [Act.put, List.setIfInBounds_toArray, List.set_cons_zero, List.set_cons_succ, List.getElem_toArray, List.getElem_cons_succ, List.getElem_cons_zero]
        refine wpAnyH_take (i := 14) (v := ?_) rfl (by kernel_rfl) (by kernel_rfl) (by kernel_rfl) (fun _ _ _ h => h) (Or.inl ⟨by rfl, ?_⟩) (by assumption) ?_
        rotate_left
        · (intro w hSw; (try dsimp only at hSw); go_simp; first | done | with_reducible rfl)
        try simp only [Act.put, List.setIfInBounds_toArray, List.set_cons_zero, List.set_cons_succ, List.getElem_toArray, List.getElem_cons_succ, List.getElem_cons_zero]
        refine wpAnyH_take (i := 15) (v := ?_) rfl (by kernel_rfl) (by kernel_rfl) (by kernel_rfl) (fun _ _ _ h => h) (Or.inl ⟨by rfl, ?_⟩) (by assumption) ?_
        rotate_left
        · (intro w hSw; (try dsimp only at hSw); go_simp; first | done | with_reducible rfl)
        try simp only [Act.put, List.setIfInBounds_toArray, List.set_cons_zero, List.set_cons_succ, List.getElem_toArray, List.getElem_cons_succ, List.getElem_cons_zero]
        refine wpAnyH_take (i := 16) (v := ?_) rfl (by kernel_rfl) (by kernel_rfl) (by kernel_rfl) (fun _ _ _ h => h) (Or.inl ⟨by rfl, ?_⟩) (by assumption) ?_
        rotate_left
        · (intro w hSw; (try dsimp only at hSw); go_simp; first | done | with_reducible rfl)
        try simp only [Act.put, List.setIfInBounds_toArray, List.set_cons_zero, List.set_cons_succ, List.getElem_toArray, List.getElem_cons_succ, List.getElem_cons_zero]
        refine wpAnyH_take (i := 17) (v := ?_) rfl (by kernel_rfl) (by kernel_rfl) (by kernel_rfl) (fun _ _ _ h => h) (Or.inl ⟨by rfl, ?_⟩) (by assumption) ?_
        rotate_left
        · (intro w hSw; (try dsimp only at hSw); go_simp; first | done | with_reducible rfl)
        try simp only [Act.put, List.setIfInBounds_toArray, List.set_cons_zero, List.set_cons_succ, List.getElem_toArray, List.getElem_cons_succ, List.getElem_cons_zero]
        refine wpAnyH_take (i := 18) (v := ?_) rfl (by kernel_rfl) (by kernel_rfl) (by kernel_rfl) (fun _ _ _ h => h) (Or.inl ⟨by rfl, ?_⟩) (by assumption) ?_
        rotate_left
        · (intro w hSw; (try dsimp only at hSw); go_simp; first | done | with_reducible rfl)
        try simp only [Act.put, List.setIfInBounds_toArray, List.set_cons_zero, List.set_cons_succ, List.getElem_toArray, List.getElem_cons_succ, List.getElem_cons_zero]
        refine wpAnyH_take (i := 19) (v := ?_) rfl (by kernel_rfl) (by kernel_rfl) (by kernel_rfl) (fun _ _ _ h => h) (Or.inl ⟨by rfl, ?_⟩) (by assumption) ?_
        rotate_left
        · (intro w hSw; (try dsimp only at hSw); go_simp; first | done | with_reducible rfl)
        try simp only [Act.put, List.setIfInBounds_toArray, List.set_cons_zero, List.set_cons_succ, List.getElem_toArray, List.getElem_cons_succ, List.getElem_cons_zero]
        refine wpAnyH_take (i := 20) (v := ?_) rfl (by kernel_rfl) (by kernel_rfl) (by kernel_rfl) (fun _ _ _ h => h) (Or.inl ⟨by rfl, ?_⟩) (by assumption) ?_
        rotate_left
        · (intro w hSw; (try dsimp only at hSw); go_simp; first | done | with_reducible rfl)
        try simp only [Act.put, List.setIfInBounds_toArray, List.set_cons_zero, List.set_cons_succ, List.getElem_toArray, List.getElem_cons_succ, List.getElem_cons_zero]
        refine wpAnyH_take (i := 21) (v := ?_) rfl (by kernel_rfl) (by kernel_rfl) (by kernel_rfl) (fun _ _ _ h => h) (Or.inl ⟨by rfl, ?_⟩) (by assumption) ?_
        rotate_left
        · (intro w hSw; (try dsimp only at hSw); go_simp; first | done | with_reducible rfl)
        try simp only [Act.put, List.setIfInBounds_toArray, List.set_cons_zero, List.set_cons_succ, List.getElem_toArray, List.getElem_cons_succ, List.getElem_cons_zero]
        refine wpAnyH_ready (rs := [22]) (by kernel_rfl) (by simp) ?_
        refine AllReadyH.cons rfl (fun K hK => ?_) AllReadyH.nil
        go_simp
        go_wp2_with (go_at_call 83; (with_reducible refine Calls.mono C61 ?_); rintro e w5 ⟨rfl, b5⟩; clear C61; replace b5 := hide (below_then (w := wr) ((Below.refl _ _).drew) b5))
        refine hK.out _ _ (unhide hS3 _ (unhide b5)) (fun hHeld => ?_)
        clear hK K
        try simp only [Act.put, List.setIfInBounds_toArray, List.set_cons_zero, List.set_cons_succ, List.getElem_toArray, List.getElem_cons_succ, List.getElem_cons_zero]
        refine wpAnyH_take (i := 23) (v := ?_) rfl (by kernel_rfl) (by kernel_rfl) (by kernel_rfl) (fun _ _ _ h => h) (Or.inl ⟨by rfl, ?_⟩) (by assumption) ?_
        rotate_left
        · (intro w hSw; (try dsimp only at hSw); go_simp; first | done | with_reducible rfl)
        try simp only [Act.put, List.setIfInBounds_toArray, List.set_cons_zero, List.set_cons_succ, List.getElem_toArray, List.getElem_cons_succ, List.getElem_cons_zero]
        refine wpAnyH_done (by kernel_rfl) ?_ _
        have PE2 := hide (unhide PE _ (unhide b5))
        clear PE
        go_wp2
        go_ret
        exact unhide PE2
      · rw [hf] at C61
        have kz : decide ((0 : Int) < ((k + 1 : Nat) : Int)) = true := decide_eq_true (by omega)
        have hR2 : Hid (R = ((out ++ [x.1]) ++ (rgrantD (putD x H1) r).1, (rgrantD (putD x H1) r).2)) := by
          show _ = _
          rw [unhide hR1]
          conv => lhs; unfold rgrantD
          rw [if_pos (by rw [show (x.1, x.2) = x from rfl] at hf; exact hf)]
          simp
        clear hf c1 d0 d1
        go_wp2_with fail
        refine wp_region_held_drew (S := fun wz => wz.cell? ⟨b, 1, none⟩ = some (.slice (some ⟨g, 0, none⟩) (k + 1) cr) ∧ wz.cell? ⟨g, 0, none⟩ = some (.int .i64 x.1) ∧ wz.cell? ⟨g, 1, none⟩ = some (.int .i64 x.2)) (by kernel_rfl) ?hS9 (fun hHeld => ?_)
        case hS9 => exact unhide hS3 _ ((Below.refl _ _).drew)
        refine wpAnyH_take (i := 0) (v := ?_) rfl (by kernel_rfl) (by kernel_rfl) (by kernel_rfl) (fun _ _ _ h => h) (Or.inl ⟨by rfl, ?_⟩) (by assumption) ?_
        rotate_left
        · (intro w hSw; (try dsimp only at hSw); go_simp; first | done | with_reducible rfl)
        try simp only [Act.put, List.setIfInBounds_toArray, List.set_cons_zero, List.set_cons_succ, List.getElem_toArray, List.getElem_cons_succ, List.getElem_cons_zero]
        refine wpAnyH_take (i := 1) (v := ?_) rfl (by kernel_rfl) (by kernel_rfl) (by kernel_rfl) (fun _ _ _ h => h) (Or.inl ⟨by rfl, ?_⟩) (by assumption) ?_
        rotate_left
        · (intro w hSw; (try dsimp only at hSw); go_simp; first | done | with_reducible rfl)
        try simp only [Act.put, List.setIfInBounds_toArray, List.set_cons_zero, List.set_cons_succ, List.getElem_toArray, List.getElem_cons_succ, List.getElem_cons_zero]
        refine wpAnyH_take (i := 2) (v := ?_) rfl (by kernel_rfl) (by kernel_rfl) (by kernel_rfl) (fun _ _ _ h => h) (Or.inl ⟨by rfl, ?_⟩) (by assumption) ?_
        rotate_left
        · (intro w hSw; (try dsimp only at hSw); go_simp; first | done | with_reducible rfl)
        try simp only [Act.put, List.setIfInBounds_toArray, List.set_cons_zero, List.set_cons_succ, List.getElem_toArray, List.getElem_cons_succ, List.getElem_cons_zero]
        refine wpAnyH_take (i := 3) (v := ?_) rfl (by kernel_rfl) (by kernel_rfl) (by kernel_rfl) (fun _ _ _ h => h) (Or.inl ⟨by rfl, ?_⟩) (by assumption) ?_
        rotate_left
        · (intro w hSw; (try dsimp only at hSw); go_simp; first | done | with_reducible rfl)
        try simp only [Act.put, List.setIfInBounds_toArray, List.set_cons_zero, List.set_cons_succ, List.getElem_toArray, List.getElem_cons_succ, List.getElem_cons_zero]
        refine wpAnyH_take (i := 4) (v := ?_) rfl (by kernel_rfl) (by kernel_rfl) (by kernel_rfl) (fun _ _ _ h => h) (Or.inl ⟨by rfl, ?_⟩) (by assumption) ?_
        rotate_left
        · (intro w hSw; (try dsimp only at hSw); go_simp; first | done | with_reducible rfl)
        try simp only [Act.put, List.setIfInBounds_toArray, List.set_cons_zero, List.set_cons_succ, List.getElem_toArray, List.getElem_cons_succ, List.getElem_cons_zero]
        refine wpAnyH_take (i := 5) (v := ?_) rfl (by kernel_rfl) (by kernel_rfl) (by kernel_rfl) (fun _ _ _ h => h) (Or.inl ⟨by rfl, ?_⟩) (by assumption) ?_
        rotate_left
        · (intro w hSw; (try dsimp only at hSw); go_simp; first | done | with_reducible rfl)
        try simp only [Act.put, List.setIfInBounds_toArray, List.set_cons_zero, List.set_cons_succ, List.getElem_toArray, List.getElem_cons_succ, List.getElem_cons_zero]
        refine wpAnyH_take (i := 6) (v := ?_) rfl (by kernel_rfl) (by kernel_rfl) (by kernel_rfl) (fun _ _ _ h => h) (Or.inl ⟨by rfl, ?_⟩) (by assumption) ?_
        rotate_left
        · (intro w hSw; (try dsimp only at hSw); go_simp; first | done | with_reducible rfl)
        try simp only [Act.put, List.setIfInBounds_toArray, List.set_cons_zero, List.set_cons_succ, List.getElem_toArray, List.getElem_cons_succ, List.getElem_cons_zero]
        refine wpAnyH_take (i := 7) (v := ?_) rfl (by kernel_rfl) (by kernel_rfl) (by kernel_rfl) (fun _ _ _ h => h) (Or.inl ⟨by rfl, ?_⟩) (by assumption) ?_
        rotate_left
        · (intro w hSw; (try dsimp only at hSw); go_simp; first | done | with_reducible rfl)
        try simp only [Act.put, List.setIfInBounds_toArray, List.set_cons_zero, List.set_cons_succ, List.getElem_toArray, List.getElem_cons_succ, List.getElem_cons_zero]
        refine wpAnyH_take (i := 8) (v := ?_) rfl (by kernel_rfl) (by kernel_rfl) (by kernel_rfl) (fun _ _ _ h => h) (Or.inl ⟨by rfl, ?_⟩) (by assumption) ?_
        rotate_left
        · (intro w hSw; (try dsimp only at hSw); go_simp; first | done | with_reducible rfl)
        try simp only [Act.put, List.setIfInBounds_toArray, List.set_cons_zero, List.set_cons_succ, List.getElem_toArray, List.getElem_cons_succ, List.getElem_cons_zero]
        refine wpAnyH_take (i := 9) (v := ?_) rfl (by kernel_rfl) (by kernel_rfl) (by kernel_rfl) (fun _ _ _ h => h) (Or.inl ⟨by rfl, ?_⟩) (by assumption) ?_
        rotate_left
        · (intro w hSw; (try dsimp only at hSw); go_simp; first | done | with_reducible rfl)
        try simp only [Act.put, List.setIfInBounds_toArray, List.set_cons_zero, List.set_cons_succ, List.getElem_toArray, List.getElem_cons_succ, List.getElem_cons_zero]
        refine wpAnyH_take (i := 10) (v := ?_) rfl (by kernel_rfl) (by kernel_rfl) (by kernel_rfl) (fun _ _ _ h => h) (Or.inl ⟨by rfl, ?_⟩) (by assumption) ?_
        rotate_left
        · (intro w hSw; (try dsimp only at hSw); go_simp; first | done | with_reducible rfl)
        try simp only [Act.put, List.setIfInBounds_toArray, List.set_cons_zero, List.set_cons_succ, List.getElem_toArray, List.getElem_cons_succ, List.getElem_cons_zero]
        refine wpAnyH_take (i := 11) (v := ?_) rfl (by kernel_rfl) (by kernel_rfl) (by kernel_rfl) (fun _ _ _ h => h) (Or.inl ⟨by rfl, ?_⟩) (by assumption) ?_
        rotate_left
        · (intro w hSw; (try dsimp only at hSw); go_simp; first | done | with_reducible rfl)
        try simp only [Act.put, List.setIfInBounds_toArray, List.set_cons_zero, List.set_cons_succ, List.getElem_toArray, List.getElem_cons_succ, List.getElem_cons_zero]
        refine wpAnyH_take (i := 12) (v := ?_) rfl (by kernel_rfl) (by kernel_rfl) (by kernel_rfl) (fun _ _ _ h => h) (Or.inl ⟨by rfl, ?_⟩) (by assumption) ?_
        rotate_left
        · (intro w hSw; (try dsimp only at hSw); go_simp; first | done | with_reducible rfl)
        try simp only [Act.put, List.setIfInBounds_toArray, List.set_cons_zero, List.set_cons_succ, List.getElem_toArray, List.getElem_cons_succ, List.getElem_cons_zero]
        refine wpAnyH_take (i := 13) (v := ?_) rfl (by kernel_rfl) (by kernel_rfl) (by kernel_rfl) (fun _ _ _ h => h) (Or.inl ⟨by rfl, ?_⟩) (by assumption) ?_
        rotate_left
        · (intro w hSw; (try dsimp only at hSw); go_simp; first | done | with_reducible rfl)
        try simp only [Act.put, List.setIfInBounds_toArray, List.set_cons_zero, List.set_cons_succ, List.getElem_toArray, List.getElem_cons_succ, List.getElem_cons_zero]
        refine wpAnyH_take (i := 14) (v := ?_) rfl (by kernel_rfl) (by kernel_rfl) (by kernel_rfl) (fun _ _ _ h => h) (Or.inl ⟨by rfl, ?_⟩) (by assumption) ?_
        rotate_left
        · (intro w hSw; (try dsimp only at hSw); go_simp; first | done | with_reducible rfl)
        try simp only [Act.put, List.setIfInBounds_toArray, List.set_cons_zero, List.set_cons_succ, List.getElem_toArray, List.getElem_cons_succ, List.getElem_cons_zero]
        refine wpAnyH_take (i := 15) (v := ?_) rfl (by kernel_rfl) (by kernel_rfl) (by kernel_rfl) (fun _ _ _ h => h) (Or.inl ⟨by rfl, ?_⟩) (by assumption) ?_
        rotate_left
        · (intro w hSw; (try dsimp only at hSw); go_simp; first | done | with_reducible rfl)
        try simp only [Act.put, List.setIfInBounds_toArray, List.set_cons_zero, List.set_cons_succ, List.getElem_toArray, List.getElem_cons_succ, List.getElem_cons_zero]
        refine wpAnyH_take (i := 16) (v := ?_) rfl (by kernel_rfl) (by kernel_rfl) (by kernel_rfl) (fun _ _ _ h => h) (Or.inl ⟨by rfl, ?_⟩) (by assumption) ?_
        rotate_left
        · (intro w hSw; (try dsimp only at hSw); go_simp; first | done | with_reducible rfl)
        try simp only [Act.put, List.setIfInBounds_toArray, List.set_cons_zero, List.set_cons_succ, List.getElem_toArray, List.getElem_cons_succ, List.getElem_cons_zero]
        refine wpAnyH_take (i := 17) (v := ?_) rfl (by kernel_rfl) (by kernel_rfl) (by kernel_rfl) (fun _ _ _ h => h) (Or.inl ⟨by rfl, ?_⟩) (by assumption) ?_
        rotate_left
        · (intro w hSw; (try dsimp only at hSw); go_simp; first | done | with_reducible rfl)
        try simp only [Act.put, List.setIfInBounds_toArray, List.set_cons_zero, List.set_cons_succ, List.getElem_toArray, List.getElem_cons_succ, List.getElem_cons_zero]
        refine wpAnyH_take (i := 18) (v := ?_) rfl (by kernel_rfl) (by kernel_rfl) (by kernel_rfl) (fun _ _ _ h => h) (Or.inl ⟨by rfl, ?_⟩) (by assumption) ?_
        rotate_left
        · (intro w hSw; (try dsimp only at hSw); go_simp; first | done | with_reducible rfl)
        try simp only [Act.put, List.setIfInBounds_toArray, List.set_cons_zero, List.set_cons_succ, List.getElem_toArray, List.getElem_cons_succ, List.getElem_cons_zero]
        refine wpAnyH_take (i := 19) (v := ?_) rfl (by kernel_rfl) (by kernel_rfl) (by kernel_rfl) (fun _ _ _ h => h) (Or.inl ⟨by rfl, ?_⟩) (by assumption) ?_
        rotate_left
        · (intro w hSw; (try dsimp only at hSw); go_simp; first | done | with_reducible rfl)
        try simp only [Act.put, List.setIfInBounds_toArray, List.set_cons_zero, List.set_cons_succ, List.getElem_toArray, List.getElem_cons_succ, List.getElem_cons_zero]
        refine wpAnyH_take (i := 20) (v := ?_) rfl (by kernel_rfl) (by kernel_rfl) (by kernel_rfl) (fun _ _ _ h => h) (Or.inl ⟨by rfl, ?_⟩) (by assumption) ?_
        rotate_left
        · (intro w hSw; (try dsimp only at hSw); go_simp; first | done | with_reducible rfl)
        try simp only [Act.put, List.setIfInBounds_toArray, List.set_cons_zero, List.set_cons_succ, List.getElem_toArray, List.getElem_cons_succ, List.getElem_cons_zero]
        refine wpAnyH_take (i := 21) (v := ?_) rfl (by kernel_rfl) (by kernel_rfl) (by kernel_rfl) (fun _ _ _ h => h) (Or.inl ⟨by rfl, ?_⟩) (by assumption) ?_
        rotate_left
        · (intro w hSw; (try dsimp only at hSw); go_simp; first | done | with_reducible rfl)
        try simp only [Act.put, List.setIfInBounds_toArray, List.set_cons_zero, List.set_cons_succ, List.getElem_toArray, List.getElem_cons_succ, List.getElem_cons_zero]
        refine wpAnyH_ready (rs := [22]) (by kernel_rfl) (by simp) ?_
        refine AllReadyH.cons rfl (fun K hK => ?_) AllReadyH.nil
        go_simp
        go_wp2_with (go_at_call 83; (with_reducible refine Calls.mono C61 ?_); rintro e w5 ⟨rfl, b5⟩; clear C61; replace b5 := hide (below_then (w := wr) ((Below.refl _ _).drew) b5))
        refine hK.out _ _ (unhide hS3 _ (unhide b5)) (fun hHeld => ?_)
        clear hK K
        try simp only [Act.put, List.setIfInBounds_toArray, List.set_cons_zero, List.set_cons_succ, List.getElem_toArray, List.getElem_cons_succ, List.getElem_cons_zero]
        refine wpAnyH_take (i := 23) (v := ?_) rfl (by kernel_rfl) (by kernel_rfl) (by kernel_rfl) (fun _ _ _ h => h) (Or.inl ⟨by rfl, ?_⟩) (by assumption) ?_
        rotate_left
        · (intro w hSw; (try dsimp only at hSw); go_simp; first | done | with_reducible rfl)
        try simp only [Act.put, List.setIfInBounds_toArray, List.set_cons_zero, List.set_cons_succ, List.getElem_toArray, List.getElem_cons_succ, List.getElem_cons_zero]
        refine wpAnyH_done (by kernel_rfl) ?_ _
        obtain ⟨c1, d0, d1⟩ := unhide hS3 _ (unhide b5)
        have L5 := hide ((unhide L).next (unhide b5))
        have M5 := hide ((unhide M).then_ (unhide b5))
        have G5 := hide ((unhide G).next (unhide b5))
        have bx := box_new w5 x
        obtain ⟨x0, x1⟩ := box_cells bx
        have Bx := hide bx
        have gz5 : Hid (b < w5.heap.size) := (unhide L5).lt
        clear bx hS3 b5 L M G gz
        go_wp2_with fail
        refine (rput_any _ ((unhide L5).next (below_new w5 _)) (unhide hd1) (unhide hs1) (by omega) x.1 x.2).mono ?_
        rintro e w7 ⟨rfl, hv2, L7, D7, M7⟩
        have bx7 : Hid (w7.heap[w5.heap.size]? = some (.cells #[.int .i64 x.1, .int .i64 x.2] 92 (0, 0))) := (M7.block _ (heap_lt (unhide Bx)) (fun e => by have := unhide gz5; omega) (fun e => Nat.lt_irrefl _ ((unhide L5).hr.lt _ e).2) (fun e => Nat.lt_irrefl _ ((unhide L5).qr.lt _ e).2)).trans (unhide Bx)
        have nh2 : Hid (hv2.ownBlock ≠ some w5.heap.size) := fun e => by
          rcases M7.ha _ e with h | h
          · exact Nat.lt_irrefl _ ((unhide L5).hr.lt _ h).2
          · simp at h; omega
        have nq2 : Hid ((Value.slice (some (⟨g, 0, none⟩ : Addr)) (k + 1) cr).ownBlock ≠ some w5.heap.size) := fun e => Nat.lt_irrefl _ ((unhide L5).qr.lt _ e).2
        have G7 := hide (((unhide G5).next (below_new w5 _)).movedr ((unhide L5).next (below_new w5 _)) M7)
        have M8 := hide (((unhide M5).then_ (below_new w5 _)).trans M7)
        replace L7 := hide L7
        replace D7 := hide D7
        clear M7 c1 d0 d1 x0 x1 Bx M5 G5
        have cA := ((unhide L7).next (below_new w7 (.cells #[] 92))).c1
        have k1 : (1 : Int) ≤ ((k + 1 : Nat) : Int) := by omega
        have k2 : (1 : Int) ≤ (k : Int) + 1 := by omega
        have k3 : 1 ≤ cr := by have := unhide hkc; omega
        have zR : Hid (([] : List En).length + r.length ≤ 10000) := by show 0 + r.length ≤ _; omega
        have rD : Hid (Re w7 (.slice (some ⟨g, 2, none⟩) k (cr - 1)) r) := by
          have h := re_drop (unhide L7).qr 1 (cr - 1) (by simp)
          have e := unhide hkr
          simp at h
          rw [e]; exact h
        have nD : Hid (cr = 1 → r = [] ∧ k = 0) := fun e => by
          have := unhide hkc
          have e2 := unhide hkr
          exact ⟨List.eq_nil_of_length_eq_zero (by omega), by omega⟩
        have hkr2 : Hid (k < 900 ∧ r.length < 900) := ⟨by omega, by omega⟩
        by_cases q9 : cr = 1
        · obtain ⟨rfl, rfl⟩ := unhide nD q9
          subst q9
          clear nD rD
          go_wp2_with (at_builtin; first | (refine wpList_app_re rfl (.tmp 62) (.tmp 67) rfl w7.heap.size _ [] [] rfl (pr_lit w7) _ _ _ rfl (re_nil _ _ _) (fun h => by cases h) (unhide zR) (below_new w7 _).size ?_; intro v8 w8 p8 gr8; rw [List.nil_append] at p8; have b8 := hide ((below_new w7 (.cells #[] 92)).trans (grown_below gr8 (below_new w7 _).size (fun j hj => ((pr_lit w7).lt j hj).1))); clear gr8; obtain ⟨a8, n8, c8, rfl, hn8⟩ : ∃ a n c, v8 = .slice a n c ∧ n = ([] : List En).length := (by obtain ⟨a, c, e⟩ := p8.form; exact ⟨a, _, c, e, rfl⟩); replace hn8 := hide hn8; have PT := hide ((unhide L7).put1 (unhide b8) (pr_es p8)); have fr8 := ((unhide L7).next (unhide b8)).free 1; have cc8 := ((unhide L7).next (unhide b8)).c1; have y0 := (box_cells (y := x) (((unhide b8).block _ (heap_lt (unhide bx7))).trans (unhide bx7))).1; have G9 := hide ((unhide G7).movedr (unhide L7) (unhide PT).2.2); have own9 : Hid (((w8.setCell ⟨b, 1, none⟩ (.slice a8 n8 c8)).alloc (.cells #[.int .i64 x.1] 3)).ownsRow w.heap.size 3 1 (.slice ag no cg) no (vals out)) := (by have h := (unhide G9).next (below_new _ (.cells #[.int .i64 x.1] 3)); unfold Is at h; rw [← unhide hno] at h; exact h); have hb9 := hide (Nat.le_trans ((unhide M8).trans (unhide PT).2.2).size (below_new (w8.setCell ⟨b, 1, none⟩ (.slice a8 n8 c8)) (.cells #[.int .i64 x.1] 3)).size); clear p8) | (refine wpList_append_seg _ (by rfl) (.tmp 71) (.tmp 74) rfl w.heap.size _ no out rfl (unhide own9) _ 1 1 [x.1] rfl (seg_one (heap_alloc_set _ _ _ _ _)) (fun h => by cases h) (by omega) (unhide hb9) ?_; intro v9 w9 r9 gr9; have I9 : Hid (Is w.heap.size v9 (out ++ [x.1]) w9) := (by show World.ownsRow _ _ _ _ _ _ _; rw [List.length_append, ← unhide hno]; exact r9); obtain ⟨a9, n9, c9, rfl, hn9⟩ : ∃ a n c, v9 = .slice a n c ∧ n = (out ++ [x.1]).length := (by obtain ⟨a, c, e⟩ := (unhide I9).form; exact ⟨a, _, c, e, rfl⟩); replace hn9 := hide hn9; replace gr9 := hide gr9; clear r9) | fail)
          have G10 := hide ((unhide G9).next (below_new _ (.cells #[.int .i64 x.1] 3)))
          have e9 : n9 = no + 1 := by have := unhide hn9; have := unhide hno; simp at *; omega
          have e8 : n8 = ([] : List En).length := unhide hn8
          have pl := put_len x H1
          have kk := unhide hkr
          have F1 := hide (((unhide PT).1.next (below_new _ (.cells #[.int .i64 x.1] 3))).beside (unhide G10) (unhide gr9))
          have F2 := hide ((((unhide M8).trans (unhide PT).2.2).then_ (below_new _ (.cells #[.int .i64 x.1] 3))).beside (unhide G10) (unhide gr9))
          have F3 : Hid (no < 900 ∧ n9 = no + 1 ∧ (putD x H1).length + ([] : List En).length < 900 ∧ n9 + n8 < 900) := ⟨by omega, e9, by omega, by omega⟩
          clear e9 e8 pl kk
          go_roundw
          case rel => exact ⟨out ++ [x.1], putD x H1, ([] : List En), hv2, a8, n8, c8, a9, n9, c9, rfl, unhide hn9, unhide F1, unhide hn8, (unhide PT).2.1, srt_put (unhide hs1), unhide I9, unhide F2, (unhide F3).2.2.1, (unhide F3).2.2.2, unhide hR2⟩
          case measure => have := unhide F3; show 1000 - n9 < 1000 - no; omega
        · have q8 : ¬ cr ≤ 1 := by omega
          have q7 : 1 < cr := by omega
          have q6 : ¬ cr - 1 = 0 := by omega
          clear nD
          go_wp2_with (at_builtin; first | (refine wpList_app_re rfl (.tmp 62) (.tmp 67) rfl w7.heap.size _ [] r rfl (pr_lit w7) _ _ _ rfl ((unhide rD).next (below_new w7 _)) (fun h => by cases h) (unhide zR) (below_new w7 _).size ?_; intro v8 w8 p8 gr8; rw [List.nil_append] at p8; have b8 := hide ((below_new w7 (.cells #[] 92)).trans (grown_below gr8 (below_new w7 _).size (fun j hj => ((pr_lit w7).lt j hj).1))); clear gr8; obtain ⟨a8, n8, c8, rfl, hn8⟩ : ∃ a n c, v8 = .slice a n c ∧ n = r.length := (by obtain ⟨a, c, e⟩ := p8.form; exact ⟨a, _, c, e, rfl⟩); replace hn8 := hide hn8; have PT := hide ((unhide L7).put1 (unhide b8) (pr_es p8)); have fr8 := ((unhide L7).next (unhide b8)).free 1; have cc8 := ((unhide L7).next (unhide b8)).c1; have y0 := (box_cells (y := x) (((unhide b8).block _ (heap_lt (unhide bx7))).trans (unhide bx7))).1; have G9 := hide ((unhide G7).movedr (unhide L7) (unhide PT).2.2); have own9 : Hid (((w8.setCell ⟨b, 1, none⟩ (.slice a8 n8 c8)).alloc (.cells #[.int .i64 x.1] 3)).ownsRow w.heap.size 3 1 (.slice ag no cg) no (vals out)) := (by have h := (unhide G9).next (below_new _ (.cells #[.int .i64 x.1] 3)); unfold Is at h; rw [← unhide hno] at h; exact h); have hb9 := hide (Nat.le_trans ((unhide M8).trans (unhide PT).2.2).size (below_new (w8.setCell ⟨b, 1, none⟩ (.slice a8 n8 c8)) (.cells #[.int .i64 x.1] 3)).size); clear p8) | (refine wpList_append_seg _ (by rfl) (.tmp 71) (.tmp 74) rfl w.heap.size _ no out rfl (unhide own9) _ 1 1 [x.1] rfl (seg_one (heap_alloc_set _ _ _ _ _)) (fun h => by cases h) (by omega) (unhide hb9) ?_; intro v9 w9 r9 gr9; have I9 : Hid (Is w.heap.size v9 (out ++ [x.1]) w9) := (by show World.ownsRow _ _ _ _ _ _ _; rw [List.length_append, ← unhide hno]; exact r9); obtain ⟨a9, n9, c9, rfl, hn9⟩ : ∃ a n c, v9 = .slice a n c ∧ n = (out ++ [x.1]).length := (by obtain ⟨a, c, e⟩ := (unhide I9).form; exact ⟨a, _, c, e, rfl⟩); replace hn9 := hide hn9; replace gr9 := hide gr9; clear r9) | fail)
          have G10 := hide ((unhide G9).next (below_new _ (.cells #[.int .i64 x.1] 3)))
          have e9 : n9 = no + 1 := by have := unhide hn9; have := unhide hno; simp at *; omega
          have e8 : n8 = r.length := unhide hn8
          have pl := put_len x H1
          have kk := unhide hkr
          have F1 := hide (((unhide PT).1.next (below_new _ (.cells #[.int .i64 x.1] 3))).beside (unhide G10) (unhide gr9))
          have F2 := hide ((((unhide M8).trans (unhide PT).2.2).then_ (below_new _ (.cells #[.int .i64 x.1] 3))).beside (unhide G10) (unhide gr9))
          have F3 : Hid (no < 900 ∧ n9 = no + 1 ∧ (putD x H1).length + r.length < 900 ∧ n9 + n8 < 900) := ⟨by omega, e9, by omega, by omega⟩
          clear e9 e8 pl kk
          go_roundw
          case rel => exact ⟨out ++ [x.1], putD x H1, r, hv2, a8, n8, c8, a9, n9, c9, rfl, unhide hn9, unhide F1, unhide hn8, (unhide PT).2.1, srt_put (unhide hs1), unhide I9, unhide F2, (unhide F3).2.2.1, (unhide F3).2.2.2, unhide hR2⟩
          case measure => have := unhide F3; show 1000 - n9 < 1000 - no; omega
end Go.Proofs.YtgiklggnolbiiaaGreat
