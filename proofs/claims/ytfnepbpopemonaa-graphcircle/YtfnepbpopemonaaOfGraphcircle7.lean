/- Texts of this claim, put together in their order. -/
import Derived.Deep.RegionHeldLaw
import Derived.BigRegion
import Derived.Deep.Slices
import Derived.ProofKit
import Derived.Deep.Cut
import Derived.Deep.CutRange
import Derived.Test.YtfnepbpopemonaaOfGraphcircle1
import Derived.Test.YtfnepbpopemonaaOfGraphcircle2
import Derived.Test.YtfnepbpopemonaaOfGraphcircle3
import Derived.Test.YtfnepbpopemonaaOfGraphcircle4
import Derived.Test.YtfnepbpopemonaaOfGraphcircle5
import Derived.Test.YtfnepbpopemonaaOfGraphcircle6
/- What the laws stand on: Has, first; an append of two edges, of a slice of edges, inside a region that draws its order. -/
namespace Go.Proofs.Ytfnepbpopemonaa
open Go.RowKit

theorem isRecs_nil {N : Nat} {w : World} {a : Option Addr} {len cap : Nat} {Z : Nat → Nat → Int} (h : IsRecs N w a len cap Z) : a = none → cap = 0 := by
  rcases h with ⟨_, _, h⟩ | ⟨x, h, _⟩
  · exact fun _ => h
  · rintro rfl; cases h
/-- The edges of a slice that came in. -/
def edgesOf (len : Nat) (Z : Nat → Nat → Int) : List En := (List.range len).map fun i => (Z i 0, Z i 1)
theorem edges_len (len : Nat) (Z : Nat → Nat → Int) : (edgesOf len Z).length = len := by simp [edgesOf]
theorem edges_at {len : Nat} {Z : Nat → Nat → Int} {i : Nat} (hi : i < len) : (edgesOf len Z).getD i (0, 0) = (Z i 0, Z i 1) := by
  simp [edgesOf, List.getD, hi]
theorem re_recs {B : Nat} {w : World} {a : Option Addr} {len cap : Nat} {Z : Nat → Nat → Int} (h : RecsB 2 B w a len Z) : Re w (.slice a len cap) (edgesOf len Z) := by
  refine ⟨a, cap, by rw [edges_len], ?_⟩
  rw [edges_len]
  rcases h with h | ⟨b, off, e, _, hc⟩
  · exact .inl h
  · refine .inr ⟨b, off, e, fun i hi => ?_⟩
    rw [edges_at hi]
    exact ⟨hc i hi 0 (by omega), hc i hi 1 (by omega)⟩
/-- A slice of integers that came in is read. -/
theorem rd_seg {w : World} {a : Option Addr} {len cap : Nat} {l : List Int} (h : SegK .i64 w a len l) : Rd w (.slice a len cap) l := by
  have e := h.1
  exact ⟨a, cap, by rw [e], by rw [e]; exact h⟩
set_option maxRecDepth 100000 in
theorem has_any (n : Int) {v : Value} {l : List Int} (w : World) (hr : Rd w v l) (hm : l.length ≤ 100000) :
    Calls Try.prog 22 #[v, .int .i64 n] w fun e w' => e = .returned (.bool (hasB n l)) ∧ w' = w := by
  obtain ⟨a, cap, rfl, hs⟩ := hr
  have Hs := hide hs
  clear hs
  go_enter Try.func22, Try.ntmps22
  go_wp2
  go_loop [5] (fun i => ∃ k : Nat, k ≤ l.length ∧ i = .int .i64 k ∧ Hid (∀ j, j < k → n ≠ l.getD j 0)) (fun i => l.length - (intOf i).toNat)
  case atStart => exact ⟨0, Nat.zero_le _, rfl, fun j hj => by omega⟩
  case round =>
    obtain ⟨k, hk, rfl, hno⟩ := hrel
    by_cases hlt : k < l.length
    · obtain ⟨b, off, rfl, hcell⟩ := seg_at (unhide Hs) hlt
      obtain ⟨x, hx⟩ : ∃ x, x = l.getD k 0 := ⟨_, rfl⟩
      rw [← hx] at hcell
      replace hx := hide hx
      by_cases he : x = n
      · have e1 : Hid (hasB n l = true) := has_yes n l k hlt (by rw [← unhide hx, he])
        have hb : (x == n) = true := beq_iff_eq.2 he
        clear he
        go_wp2
        go_ret
        exact ⟨by rw [unhide e1]; rfl, rfl⟩
      · have hb : (x == n) = false := beq_eq_false_iff_ne.2 he
        have He : Hid (n ≠ x) := fun e => he e.symm
        clear he
        go_wp2
        go_round
        case rel => exact ⟨k + 1, by omega, by go_num, fun j hj => by
          rcases (show j < k ∨ j = k by omega) with h | rfl
          · exact unhide hno j h
          · rw [← unhide hx]; exact unhide He⟩
        case measure => simp [intOf]; omega
    · have e1 : Hid (hasB n l = false) := has_no n l (fun j hj => unhide hno j (by omega))
      go_wp2
      go_ret
      exact ⟨by rw [unhide e1]; rfl, rfl⟩
theorem circ_two : circD [(1, 2), (2, 1)] = [1, 2] := by
  symm
  apply circ_eq
  have e : ∀ a b, CE [(1, 2), (2, 1)] a b ↔ (a = 1 ∧ b = 2) ∨ (a = 2 ∧ b = 1) := fun a b => by simp [CE]
  refine .inr ⟨1, [1], 2, rfl, ⟨2, (e _ _).2 (.inl ⟨rfl, rfl⟩), Rch.one ((e _ _).2 (.inr ⟨rfl, rfl⟩))⟩, ?_, ?_, (e _ _).2 (.inr ⟨rfl, rfl⟩)⟩
  · rintro n ⟨t, h, _⟩
    rcases (e _ _).1 h with ⟨rfl, _⟩ | ⟨rfl, _⟩ <;> decide
  · refine Way.more (p := []) (v := 1) (m := 2) Way.one ?_ ((e _ _).2 (.inl ⟨rfl, rfl⟩)) (by decide) ?_ ?_
    · intro h
      rcases (e _ _).1 h with ⟨_, h⟩ | ⟨h, _⟩ <;> exact absurd h (by decide)
    · refine .step (by decide) ((e _ _).2 (.inr ⟨rfl, rfl⟩)) (.refl (by decide))
    · intro m' hm h
      rcases (e _ _).1 h with ⟨_, rfl⟩ | ⟨h, _⟩
      · exact absurd hm (by decide)
      · exact absurd h (by decide)
theorem circ_none : circD [] = [] := by
  symm
  apply circ_eq
  exact .inl ⟨rfl, fun n ⟨t, h, _⟩ => by cases h⟩
theorem re_two (w : World) : Re (w.alloc (.cells #[.int .i64 1, .int .i64 2, .int .i64 2, .int .i64 1] 39)) (.slice (some ⟨w.heap.size, 0, none⟩) 2 2) [(1, 2), (2, 1)] := by
  refine ⟨_, 2, rfl, .inr ⟨w.heap.size, 0, rfl, fun i hi => ?_⟩⟩
  have h := heap_alloc_new w (.cells #[.int .i64 1, .int .i64 2, .int .i64 2, .int .i64 1] 39)
  have hi2 : i < 2 := hi
  generalize w.alloc (.cells #[.int .i64 1, .int .i64 2, .int .i64 2, .int .i64 1] 39) = W at h ⊢
  match i, hi2 with
  | 0, _ => exact ⟨by simp [World.cell?, h], by simp [World.cell?, h]⟩
  | 1, _ => exact ⟨by simp [World.cell?, h], by simp [World.cell?, h]⟩
set_option maxRecDepth 100000 in
theorem fst_any (w : World) : Calls Try.prog 9 #[] w fun e w' => e = .returned (.bool true) ∧ Below w.heap.size w w' := by
  have C1 := hide (circle_any _ (re_two w) (by decide))
  have b1 := hide (below_new w (.cells #[.int .i64 1, .int .i64 2, .int .i64 2, .int .i64 1] 39))
  rw [circ_two] at C1
  go_enter Try.func9, Try.ntmps9
  go_wp2_with fail
  refine (unhide C1).mono ?_
  rintro e w1 ⟨ov, rfl, i1, _, _, b2⟩
  have b3 := hide (below_then (unhide b1) b2)
  have C2 := hide (ints_any ov (.slice (some ⟨w1.heap.size, 0, none⟩) 2 2) [1, 2] [1, 2] _ (i1.rd.next (below_new w1 (.cells #[.int .i64 1, .int .i64 2] 3))) ⟨_, 2, rfl, seg2 w1 1 2⟩ (by decide) (by decide))
  have b4 := hide (below_add (unhide b3) (.cells #[.int .i64 1, .int .i64 2] 3))
  rw [show (([1, 2] : List Int) == [1, 2]) = true from rfl] at C2
  clear i1 b2
  go_wp2_with fail
  refine (unhide C2).mono ?_
  rintro e w2 ⟨rfl, b5⟩
  have b6 := hide (below_then (unhide b4) b5)
  have C3 := hide (circle_any w2 (re_nil w2 none 0) (by decide))
  rw [circ_none] at C3
  clear b5
  go_wp2_with fail
  refine (unhide C3).mono ?_
  rintro e w3 ⟨ov3, rfl, i3, _, _, b7⟩
  have b8 := hide (below_then (unhide b6) b7)
  obtain ⟨a3, c3, rfl⟩ := i3.form
  clear i3 b7
  go_wp2
  go_ret
  exact ⟨rfl, unhide b8⟩
set_option maxRecDepth 100000 in
/-- Edges more, behind the others, out of a block that is known whole. -/
theorem step_new {w : World} {ops : Array Oper} {o : Oper} {a : Act} {K : Act → World → Prop} {Q : Exit → Act → World → Prop} {E : Prop} (hgd : o.guard = none) (s x : Operand)
    (ho : o.op = .call { callee := .builtin .append, args := #[s, x], argTypes := #[22, 22] }) (base : Nat) (v : Value) (l m : List En) (q r : Nat) (hs : a.eval s = v) (hown : Pr 39 base v l w) (N : Nat)
    (hx : a.eval x = .slice (some ⟨N, 0, none⟩) q q) (hN : w.heap[N]? = some (.cells (pairs m).toArray 39 (0, 0))) (hq : m.length = q) (hr : l.length + q = r) (hm : 0 < q) (hb : base ≤ w.heap.size) (hn : r < 10000000)
    (h : ∀ g cap w', Pr 39 base (.slice (some ⟨g, 0, none⟩) r cap) (l ++ m) w' → w.grownBy w' v.ownBlock → K (a.put o.dst (.slice (some ⟨g, 0, none⟩) r cap)) w') :
    if Region.wanted o (yielded ops a.tmps) = true then Oper.wp Try.prog o a w K Q else E := by
  subst hq hr
  obtain ⟨i3, hi3, hz0, hz1, hz2⟩ := info_parts inf39
  refine step_append_lies w hgd s x 22 ho base 39 i3 _ 2 16 Try.underlying22 hi3 hz0 hz1 hz2 rfl (by decide) v l.length _ hs hown ⟨N, 0, none⟩ _ _ (pairs m) hx (pairs_len m) (World.news_of_block hN) (pairs_one m) hm (by unfold maxLen; omega) (by omega) hb _ rfl ?_
  intro g cap w' a1 a2 _ _
  refine h g cap w' ?_ a2
  unfold Pr
  rw [List.length_append, pairs_app]
  exact a1
theorem below_dnew (w : World) (o : Obj) : Below w.heap.size w (w.drew.alloc o) := (Below.refl _ _).drew.alloc (Nat.le_refl _) _
theorem heap_d2a (w : World) (e o : Array Value) (t u : TypeId) : ((w.drew.alloc (.cells e t)).alloc (.cells o u)).heap[w.heap.size + 1]? = some (.cells o u (0, 0)) := by
  have h := heap_alloc_new (w.drew.alloc (.cells e t)) (.cells o u)
  rw [show (w.drew.alloc (.cells e t)).heap.size = w.heap.size + 1 by simp] at h
  exact h
theorem heap_d2b (w : World) (e o : Array Value) (t u : TypeId) : ((w.drew.alloc (.cells o u)).alloc (.cells e t)).heap[w.heap.size]? = some (.cells o u (0, 0)) := by
  have h := heap_alloc_new w.drew (.cells o u)
  exact ((below_new (w.drew.alloc (.cells o u)) (.cells e t)).block _ (heap_lt h)).trans h
theorem heap_dnew (w : World) (o : Array Value) (t : TypeId) : (w.drew.alloc (.cells o t)).heap[w.heap.size]? = some (.cells o t (0, 0)) := heap_alloc_new w.drew _
/-- The cells of a slice of edges that is read. -/
theorem re_news {w : World} {b off n c : Nat} {l : List En} (h : Re w (.slice (some ⟨b, off, none⟩) n c) l) : ∀ j u, (pairs l)[j]? = some u → w.cell? ((⟨b, off, none⟩ : Addr).add j) = some u := by
  intro j u hj
  have hjl : j < (pairs l).length := by
    rcases Nat.lt_or_ge j (pairs l).length with k | k
    · exact k
    · rw [List.getElem?_eq_none k] at hj; cases hj
  rw [pairs_len] at hjl
  obtain ⟨b', off', e, _, d1, d2⟩ := h.at (i := j / 2) (by omega)
  injection e with e
  have e1 : b = b' := by injection e
  have e2 : off = off' := by injection e
  subst e1 e2
  rw [addr_add]
  rcases Nat.mod_two_eq_zero_or_one j with k | k
  · have ej : j = j / 2 * 2 := by omega
    rw [ej, pairs_fst l _ (by omega)] at hj
    rw [ej, d1]
    exact hj
  · have ej : j = j / 2 * 2 + 1 := by omega
    rw [ej, pairs_snd l _ (by omega)] at hj
    rw [ej, ← Nat.add_assoc, d2]
    exact hj
set_option maxRecDepth 100000 in
/-- A slice of edges, behind the others. -/
theorem run_app_re (w : World) (ty : TypeId) (base : Nat) (v : Value) (l : List En) (hown : Pr 39 base v l w) (va : Option Addr) (n c : Nat) (m : List En) (hr : Re w (.slice va n c) m) (hnil : va = none → c = 0)
    (hn : l.length + m.length ≤ 10000) (hb : base ≤ w.heap.size) :
    ∃ v' w', (Builtin.append_ #[22, 22] ty #[v, .slice va n c]).run Try.prog w = .ok v' w' ∧ Pr 39 base v' (l ++ m) w' ∧ w.grownBy w' v.ownBlock := by
  obtain ⟨i3, hi3, hz0, hz1, hz2⟩ := info_parts inf39
  have en : n = m.length := by
    obtain ⟨a, cap, e⟩ := hr.form
    injection e
  subst en
  cases va with
  | none =>
    obtain rfl := hnil rfl
    have hm0 : m.length = 0 := by
      obtain ⟨a, cap, e, h | ⟨b, off, h, _⟩⟩ := hr
      · exact h
      · injection e with e1 _ _
        rw [h] at e1; cases e1
    obtain rfl : m = [] := List.eq_nil_of_length_eq_zero hm0
    have hr := run_append_owned_none (P := Try.prog) (w := w) base 22 ty 39 i3 2 Try.underlying22 hi3 v l.length _ hown
    exact ⟨v, w, hr, by rw [List.append_nil]; exact hown, ⟨rfl, rfl, rfl, Nat.le_refl _, fun _ _ _ => rfl⟩⟩
  | some ad =>
    have hnews : ∀ j u, (pairs m)[j]? = some u → w.cell? (ad.add j) = some u := by
      obtain ⟨a, cap, e, h | ⟨b, off, h, _⟩⟩ := id hr
      · obtain rfl : m = [] := List.eq_nil_of_length_eq_zero h
        intro j u hj
        simp [pairs] at hj
      · injection e with e1 _ _
        rw [h] at e1
        injection e1 with e1
        subst e1
        exact re_news hr
    obtain ⟨v', w', hr, h2, h3, _⟩ := run_append_own (P := Try.prog) w base 22 ty 39 i3 _ 2 16 Try.underlying22 hi3 hz0 hz1 hz2 rfl (by decide) v l.length _ hown ad m.length c _ (pairs_len m) hnews (pairs_one m) (by unfold maxLen; omega) (by omega) hb
    refine ⟨v', w', hr, ?_, h3⟩
    unfold Pr
    rw [List.length_append, pairs_app]
    exact h2
theorem step_app_re {w : World} {ops : Array Oper} {o : Oper} {a : Act} {K : Act → World → Prop} {Q : Exit → Act → World → Prop} {E : Prop} (hgd : o.guard = none) (s x : Operand)
    (ho : o.op = .call { callee := .builtin .append, args := #[s, x], argTypes := #[22, 22] }) (base : Nat) (v : Value) (l m : List En) (hs : a.eval s = v) (hown : Pr 39 base v l w) (va : Option Addr) (n c : Nat)
    (hx : a.eval x = .slice va n c) (hr : Re w (.slice va n c) m) (hnil : va = none → c = 0) (hn : l.length + m.length ≤ 10000) (hb : base ≤ w.heap.size)
    (h : ∀ v' w', Pr 39 base v' (l ++ m) w' → w.grownBy w' v.ownBlock → K (a.put o.dst v') w') :
    if Region.wanted o (yielded ops a.tmps) = true then Oper.wp Try.prog o a w K Q else E := by
  have hw : Region.wanted o (yielded ops a.tmps) = true := by simp [Region.wanted, hgd]
  rw [if_pos hw]
  obtain ⟨v', w', e, h2, h3⟩ := run_app_re w o.type base v l hown va n c m hr hnil hn hb
  unfold Oper.wp execOp
  simp only [ho, resolve, invoke, builtin, Sem.run_bind, Sem.run_pure, Result.andThen_ok, List.map_toArray, List.map_cons, List.map_nil, hs, hx, e]
  exact h v' w' h2 h3
theorem pr_lit (w : World) : Pr 39 w.heap.size (.slice (some ⟨w.heap.size, 0, none⟩) 0 0) [] (w.alloc (.cells #[] 39)) := World.ownsRow_lit w #[] 0 (Nat.le_refl _) (Nat.zero_le _) rfl
theorem pr_lit2 (w : World) (z : Array Value) (t : TypeId) : Pr 39 w.heap.size (.slice (some ⟨w.heap.size + 1, 0, none⟩) 0 0) [] ((w.drew.alloc (.cells z t)).alloc (.cells #[] 39)) := by
  have h := (pr_lit (w.drew.alloc (.cells z t))).down (B' := (w.drew.alloc (.cells z t)).heap.size) (B := w.heap.size) (below_dnew w _).size
  rw [show (w.drew.alloc (.cells z t)).heap.size = w.heap.size + 1 by simp] at h
  exact h
/-- A slice of edges behind an empty slice literal; w0 is the world ahead of the region. -/
theorem step_app0 (w0 : World) {w : World} {ops : Array Oper} {o : Oper} {a : Act} {K : Act → World → Prop} {Q : Exit → Act → World → Prop} {E : Prop} (hgd : o.guard = none) (dst : Option Nat) (hdst : o.dst = dst) (s x : Operand)
    (ho : o.op = .call { callee := .builtin .append, args := #[s, x], argTypes := #[22, 22] }) (m : List En) (N : Nat) (hs : a.eval s = .slice (some ⟨N, 0, none⟩) 0 0) (hw0 : Below w0.heap.size w0 w) (hown : Pr 39 w0.heap.size (.slice (some ⟨N, 0, none⟩) 0 0) [] w) (va : Option Addr) (n c : Nat)
    (hx : a.eval x = .slice va n c) (hr : Re w0 (.slice va n c) m) (hnil : va = none → c = 0) (hn : m.length ≤ 10000)
    (h : ∀ v' w', Pr 39 w0.heap.size v' m w' → Below w0.heap.size w0 w' → (∀ k o, w.heap[k]? = some o → k ≠ N → w'.heap[k]? = some o) → K (a.put dst v') w') :
    if Region.wanted o (yielded ops a.tmps) = true then Oper.wp Try.prog o a w K Q else E := by
  subst hdst
  refine step_app_re hgd s x ho w0.heap.size _ [] m hs hown va n c hx (hr.next hw0) hnil (by simpa using hn) hw0.size ?_
  intro v' w' a1 a2
  rw [List.nil_append] at a1
  refine h v' w' a1 (hw0.trans (grown_below a2 hw0.size fun g hg => ?_)) fun k o hk hne => ?_
  · exact (hown.lt g hg).1
  · refine (a2.block k (heap_lt hk) ?_).trans hk
    intro e
    apply hne
    have : some k = some N := e
    injection this
theorem step_new0 (w0 : World) {w : World} {ops : Array Oper} {o : Oper} {a : Act} {K : Act → World → Prop} {Q : Exit → Act → World → Prop} {E : Prop} (hgd : o.guard = none) (dst : Option Nat) (hdst : o.dst = dst) (s x : Operand)
    (ho : o.op = .call { callee := .builtin .append, args := #[s, x], argTypes := #[22, 22] }) (v : Value) (l m : List En) (q r : Nat) (hs : a.eval s = v) (hw0 : Below w0.heap.size w0 w) (hown : Pr 39 w0.heap.size v l w) (N : Nat)
    (hx : a.eval x = .slice (some ⟨N, 0, none⟩) q q) (hN : w.heap[N]? = some (.cells (pairs m).toArray 39 (0, 0))) (hq : m.length = q) (hr : l.length + q = r) (hm : 0 < q) (hn : r < 10000000)
    (h : ∀ g cap w', Pr 39 w0.heap.size (.slice (some ⟨g, 0, none⟩) r cap) (l ++ m) w' → Below w0.heap.size w0 w' → K (a.put dst (.slice (some ⟨g, 0, none⟩) r cap)) w') :
    if Region.wanted o (yielded ops a.tmps) = true then Oper.wp Try.prog o a w K Q else E := by
  subst hdst
  refine step_new hgd s x ho w0.heap.size v l m q r hs hown N hx hN hq hr hm hw0.size hn ?_
  intro g cap w' a1 a2
  exact h g cap w' a1 (hw0.trans (grown_below a2 hw0.size fun g hg => (hown.lt g hg).1))
section
open Go.Deep Go.WideShapes
/-- Such a struct's cells. -/
theorem open_rec {H : Type} {enc : TypeId × Value → H} {P : Program} {w : World} {base : Nat} {spare : Nat → Bool} {held : Bool} {e : TypeId} {N fuel : Nat} {cs : List Value} {x : DataW H × List MemPlace} (hp : plainInts P e N = true)
    (h : DataW.trod enc P w base spare held fuel e cs = some x) : cs.length = N ∧ ∃ Z : Nat → Int, ∀ j, j < N → cs[j]? = some (.int .i64 (Z j)) ∧ (Lit.int .i64 (Z j)).wf = true := by
  obtain ⟨fs, he, hN, ce, hall⟩ := plainInts_out hp
  obtain ⟨xs, k, hk, hxy, hlen, hxl, hf⟩ := DataW.trod_struct he h
  refine ⟨by omega, choose_lt (p := fun j z => cs[j]? = some (.int .i64 z) ∧ (Lit.int .i64 z).wf = true) ?_⟩
  intro j hj
  have hj' : j < fs.size := by omega
  obtain ⟨o1, o2, o3⟩ := hall j fs[j] (Array.getElem?_eq_getElem hj')
  have g := hf j fs[j] (Array.getElem?_eq_getElem hj')
  rw [o1, o2] at g
  have hjc : j < cs.length := by omega
  rw [List.drop_eq_getElem_cons hjc, List.take_succ_cons, List.take_zero, List.getElem?_eq_getElem (by omega)] at g
  obtain ⟨z, hz, _, hw⟩ := DataW.trod_int o3 g
  refine ⟨z, ?_, hw⟩
  rw [List.getElem?_eq_getElem hjc]
  simpa using hz
/-- An edge by value. -/
abbrev Cf := En
def cv (c : Cf) : Value := .agg #[.int .i64 c.1, .int .i64 c.2]
theorem conf_plain : plainInts Try.prog 39 2 = true := by kernel_rfl
theorem list2 {l : List Value} (h : l.length = 2) {Z : Nat → Int} (hz : ∀ j, j < 2 → l[j]? = some (.int .i64 (Z j))) : l = [.int .i64 (Z 0), .int .i64 (Z 1)] := by
  apply List.ext_getElem?
  intro j
  by_cases hj : j < 2
  · rw [hz j hj]
    have : j = 0 ∨ j = 1 := by omega
    rcases this with rfl | rfl <;> rfl
  · rw [List.getElem?_eq_none (by omega), List.getElem?_eq_none (by simp; omega)]
set_option maxRecDepth 100000 in
theorem open_conf {H : Type} {enc : TypeId × Value → H} {w : World} {r : Reach} {b0 base : Nat} {spare : Nat → Bool} {held : Bool} {fuel : Nat} {v : Value} {x : DataW H × List MemPlace}
    (hv : Value.okWide Try.prog w r b0 39 v) (h : DataW.trod enc Try.prog w base spare held fuel 39 v.cells.toList = some x) : ∃ c : Cf, v = cv c := by
  obtain ⟨fs, he, _⟩ := plainInts_out conf_plain
  obtain ⟨cs, rfl, _⟩ := okWide_struct he hv
  obtain ⟨h1, Z, h2⟩ := open_rec conf_plain h
  have h3 := list2 h1 fun j hj => (h2 j hj).1
  refine ⟨(Z 0, Z 1), ?_⟩
  unfold cv
  congr 1
  apply Array.toList_inj.1
  simpa [Value.cells] using h3
end
end Go.Proofs.Ytfnepbpopemonaa

/- GraphMore. -/
namespace Go.Proofs.Ytfnepbpopemonaa
open Go.RowKit
set_option linter.unusedVariables false

/-- Two rising lists of the same numbers are one. -/
theorem up_ext : ∀ (l m : List Int), Up l → Up m → (∀ x, x ∈ l ↔ x ∈ m) → l = m
  | [], [], _, _, _ => rfl
  | [], b :: m, _, _, h => absurd ((h b).2 (List.mem_cons_self ..)) (by simp)
  | a :: l, [], _, _, h => absurd ((h a).1 (List.mem_cons_self ..)) (by simp)
  | a :: l, b :: m, hl, hm, h => by
    have hl' := List.pairwise_cons.1 hl
    have hm' := List.pairwise_cons.1 hm
    have e : a = b := by
      rcases List.mem_cons.1 ((h a).1 (List.mem_cons_self ..)) with h1 | h1
      · exact h1
      · rcases List.mem_cons.1 ((h b).2 (List.mem_cons_self ..)) with h2 | h2
        · exact h2.symm
        · have := hl'.1 _ h2; have := hm'.1 _ h1; omega
    subst e
    rw [up_ext l m hl'.2 hm'.2 fun x => ?_]
    constructor
    · intro hx
      rcases List.mem_cons.1 ((h x).1 (List.mem_cons_of_mem _ hx)) with h1 | h1
      · have := hl'.1 _ hx; omega
      · exact h1
    · intro hx
      rcases List.mem_cons.1 ((h x).2 (List.mem_cons_of_mem _ hx)) with h1 | h1
      · have := hm'.1 _ hx; omega
      · exact h1
theorem canon_congr {l m : List Int} (h : ∀ x, x ∈ l ↔ x ∈ m) : canon l = canon m :=
  up_ext _ _ (canon_facts l).2 (canon_facts m).2 fun x => by rw [(canon_facts l).1, (canon_facts m).1, h]
/-- Lists of the same edges. -/
theorem same_edges {l m : List En} (h : ∀ e, e ∈ l ↔ e ∈ m) : (∀ n, onB l n = onB m n) ∧ canon (nodL l) = canon (nodL m) ∧ (∀ n, canon (nexL n l) = canon (nexL n m)) ∧ (Circ (CE l) (circD l) → circD l = circD m) := by
  have he : ∀ x y, CE l x y ↔ CE m x y := fun x y => h (x, y)
  refine ⟨fun n => ?_, canon_congr fun x => ?_, fun n => canon_congr fun x => ?_, fun c => circ_eq (c.congr he)⟩
  · rw [Bool.eq_iff_iff, onB_iff, onB_iff]
    exact ⟨fun o => o.mono fun x y => (he x y).1, fun o => o.mono fun x y => (he x y).2⟩
  · rw [nod_mem, nod_mem]
    exact ⟨fun ⟨e, h1, h2⟩ => ⟨e, (h e).1 h1, h2⟩, fun ⟨e, h1, h2⟩ => ⟨e, (h e).2 h1, h2⟩⟩
  · rw [nex_mem, nex_mem, h]
/-- Each of them twice, from the last to the first: behind k of them. -/
def bkL (l : List En) : Nat → List En
  | 0 => []
  | k + 1 => bkL l k ++ [l.getD (l.length - 1 - k) (0, 0), l.getD (l.length - 1 - k) (0, 0)]
theorem bk_len (l : List En) : ∀ k, (bkL l k).length = 2 * k
  | 0 => rfl
  | k + 1 => by show (bkL l k ++ _).length = _; rw [List.length_append, bk_len l k]; simp; omega
theorem bk_mem (l : List En) (e : En) : ∀ k, e ∈ bkL l k ↔ ∃ j, j < k ∧ e = l.getD (l.length - 1 - j) (0, 0)
  | 0 => by simp [bkL]
  | k + 1 => by
    show e ∈ bkL l k ++ _ ↔ _
    rw [List.mem_append, bk_mem l e k]
    simp only [List.mem_cons, List.not_mem_nil, or_false, or_self]
    constructor
    · rintro (⟨j, h1, h2⟩ | h)
      · exact ⟨j, by omega, h2⟩
      · exact ⟨k, by omega, h⟩
    · rintro ⟨j, h1, h2⟩
      rcases (show j < k ∨ j = k by omega) with h3 | rfl
      · exact .inl ⟨j, h3, h2⟩
      · exact .inr h2
theorem bk_all (l : List En) (e : En) : e ∈ bkL l l.length ↔ e ∈ l := by
  rw [bk_mem]
  constructor
  · rintro ⟨j, h1, rfl⟩
    have h2 : l.length - 1 - j < l.length := by omega
    rw [List.getD_eq_getElem?_getD, List.getElem?_eq_getElem h2]
    exact List.getElem_mem h2
  · intro h
    obtain ⟨i, hi, rfl⟩ := List.getElem_of_mem h
    refine ⟨l.length - 1 - i, by omega, ?_⟩
    have e1 : l.length - 1 - (l.length - 1 - i) = i := by omega
    rw [e1, List.getD_eq_getElem?_getD, List.getElem?_eq_getElem hi]
    rfl
theorem more_plain (l : List En) (x : En) : (∀ n, onB (bkL l l.length) n = onB l n) ∧ canon (nodL (bkL l l.length)) = canon (nodL l) ∧ (∀ n, canon (nexL n (bkL l l.length)) = canon (nexL n l)) ∧
    (Circ (CE l) (circD l) → circD (bkL l l.length) = circD l) ∧ ∀ n, onB l n = true → onB (l ++ [x]) n = true := by
  obtain ⟨h1, h2, h3, h4⟩ := same_edges (fun e => (bk_all l e).symm)
  refine ⟨fun n => (h1 n).symm, h2.symm, fun n => (h3 n).symm, fun c => (h4 c).symm, fun n h => ?_⟩
  rw [onB_iff] at h ⊢
  exact h.mono fun a b hab => List.mem_append_left _ hab
set_option maxRecDepth 100000 in
set_option maxHeartbeats 4000000 in
theorem graphMore_walk (a0 : Option Addr) (len0 cap0 : Nat) (Z0 : Nat → Nat → Int) (c : Cf) (n : Int) (W : World) (s0 : RecsB 2 W.heap.size W a0 len0 Z0) (lc0 : len0 ≤ cap0) (cm0 : cap0 ≤ maxLen) (nil0 : a0 = none → cap0 = 0)
    (wz0 : ∀ i, i < len0 → ∀ j, j < 2 → (Lit.int .i64 (Z0 i j)).wf = true) (wn : (Lit.int .i64 n).wf = true) :
    Calls Try.prog 6 #[.slice a0 len0 cap0, cv c, .int .i64 n] W fun e w' => e = .returned (.bool true) ∧ Below W.heap.size W w' := by
  have R0 : Re W (.slice a0 len0 cap0) (edgesOf len0 Z0) := re_recs s0
  have hl0 := edges_len len0 Z0
  generalize edgesOf len0 Z0 = l at R0 hl0
  unfold maxLen at cm0
  clear s0 wz0
  obtain ⟨x1, x2⟩ := c
  unfold cv
  have b1 := hide (below_new W (.cells #[.int .i64 x1, .int .i64 x2] 39))
  have o1 : (W.alloc (.cells #[.int .i64 x1, .int .i64 x2] 39)).heap[W.heap.size]? = some (.cells #[.int .i64 x1, .int .i64 x2] 39 (0, 0)) := heap_alloc_new W _
  obtain ⟨W1, hW1⟩ : ∃ W1, W1 = W.alloc (.cells #[.int .i64 x1, .int .i64 x2] 39) := ⟨_, rfl⟩
  rw [← hW1] at b1 o1
  have R1 := hide (R0.next (unhide b1))
  have C1 := hide (fst_any W1)
  replace nil0 := hide nil0
  replace o1 := hide o1
  replace hl0 := hide hl0
  clear R0
  go_enter Try.func6, Try.ntmps6
  go_wp2_with fail
  rw [← hW1]
  replace hW1 := hide hW1
  refine (unhide C1).mono ?_
  rintro e w2 ⟨rfl, b2⟩
  have o2 := hide ((b2.block _ (heap_lt (unhide o1))).trans (unhide o1))
  have R2 := hide ((unhide R1).next b2)
  have b3 := hide (below_then (unhide b1) b2)
  clear R1 C1 b1 b2 o1
  by_cases h60 : len0 ≤ 60
  · go_wp2
    go_loopw [7, 8] (fun s7 s8 wr => ∃ (r k k2 : Nat) (ag : Option Addr) (cg : Nat), r + k = len0 ∧ k2 = 2 * k ∧ s7 = .slice ag k2 cg ∧ s8 = .int .i64 ((r : Int) - 1) ∧ Hid (Pr 39 w2.heap.size (.slice ag k2 cg) (bkL l k) wr) ∧ Hid (Below w2.heap.size w2 wr)) (fun _ s8 _ => (intOf s8 + 1).toNat)
    case atStart => exact ⟨len0, 0, 0, none, 0, rfl, rfl, rfl, by first | rfl | go_num, Pr.nil _ _ _, Below.refl _ _⟩
    case round =>
      obtain ⟨r, k, k2, ag, cg, hrk, hk2, rfl, rfl, I1, b4⟩ := hrel
      cases r with
      | zero =>
        have hk0 : k = len0 := by omega
        have I9 : Hid (Pr 39 w2.heap.size (.slice ag k2 cg) (bkL l l.length) wr) := by
          have := unhide I1
          rw [hk0] at this
          show Pr _ _ _ _ _
          rw [unhide hl0]
          exact this
        have hs9 : Hid ((bkL l l.length).length ≤ 300) := by show _ ≤ _; rw [bk_len, unhide hl0]; omega
        rw [show ((0 : Nat) : Int) - 1 = -1 from rfl]
        have hS : Hid (∀ W', Below wr.heap.size wr W' → W'.cell? ⟨W.heap.size, 0, none⟩ = some (.int .i64 x1) ∧ W'.cell? ⟨W.heap.size, 1, none⟩ = some (.int .i64 x2)) := fun W' b => by
          have h1 := ((unhide b4).block _ (heap_lt (unhide o2))).trans (unhide o2)
          have h2 := (b.block _ (heap_lt h1)).trans h1
          exact ⟨by simp [World.cell?, h2], by simp [World.cell?, h2]⟩
        have hR : Hid (Re wr (.slice a0 len0 cap0) l) := (unhide R2).next (unhide b4)
        obtain ⟨d1, d2⟩ := unhide hS wr (Below.refl _ _)
        have mp := hide (more_plain l (x1, x2))
        have hl10 : Hid (l.length ≤ 10000) := by show _ ≤ _; rw [unhide hl0]; omega
        have hl11 : Hid (l.length + 1 = len0 + 1) := by show _ = _; rw [unhide hl0]
        have hl12 : Hid (len0 + 1 < 10000000) := by show _ < _; omega
        clear I1 hk0 hk2 hrk k
        go_upto_region 10 with fail
        go_cut [9] from 10 to 81 (fun s9 wc => ∃ (a9 : Option Addr) (c9 : Nat), s9 = .slice a9 (len0 + 1) c9 ∧ Hid (Re wc (.slice a9 (len0 + 1) c9) (l ++ [(x1, x2)])) ∧ Hid (Below wr.heap.size wr wc))
        case first =>
          go_wp2_with fail
          go_region_held_law (fun wz => wz.cell? ⟨W.heap.size, 0, none⟩ = some (.int .i64 x1) ∧ wz.cell? ⟨W.heap.size, 1, none⟩ = some (.int .i64 x2)) (exact unhide hS _ (by repeat (first | exact unhide ba2 | exact unhide ba1 | exact Below.refl _ _ | refine Below.drew ?_ | refine below_add ?_ _)))
            (first
              | (refine step_app0 wr rfl (some 36) rfl (.tmp 34) (.tmp 35) rfl l _ rfl (by repeat (first | exact Below.refl _ _ | refine Below.drew ?_ | refine below_add ?_ _)) (by first | exact pr_lit wr.drew | exact (pr_lit wr.drew).next (below_new _ _) | exact pr_lit2 wr _ _) a0 len0 cap0 rfl (unhide hR) (unhide nil0) (unhide hl10) ?_; intro v9 w9 a1 ba1 kp1; replace a1 := hide a1; replace ba1 := hide ba1; replace kp1 := hide kp1)
              | (refine step_new0 wr rfl (some 39) rfl (.tmp 36) (.tmp 38) rfl v9 l [(x1, x2)] 1 (len0 + 1) rfl (by repeat (first | exact unhide ba1 | refine Below.drew ?_ | refine below_add ?_ _)) (by first | exact unhide a1 | exact (unhide a1).next (below_new _ _)) _ rfl (by first | exact heap_alloc_new w9 _ | exact unhide kp1 _ _ (heap_d2a wr _ _ _ _) (by omega) | exact unhide kp1 _ _ (heap_d2b wr _ _ _ _) (by omega)) rfl (unhide hl11) (by decide) (unhide hl12) ?_; intro g10 cap10 w10 a3 ba2; replace a3 := hide a3; replace ba2 := hide ba2))
          all_goals
            go_wp2_with fail
            go_meet
            case rel => exact ⟨_, _, rfl, (unhide a3).re, unhide ba2⟩
        case rest =>
          obtain ⟨a9, c9, rfl, R9, b9⟩ := hcut
          have Rl := hide ((unhide hR).next (unhide b9))
          have Rb := hide ((unhide I9).re.next (unhide b9))
          have hl3 : Hid (l.length ≤ 300) := by show _ ≤ _; rw [unhide hl0]; omega
          have hx3 : Hid ((l ++ [(x1, x2)]).length ≤ 300) := by show _ ≤ _; rw [List.length_append, unhide hl0]; simp; omega
          obtain ⟨m1, m2, m3, m4, m5⟩ := unhide mp
          have m1' := m1 n
          have m3' := m3 n
          have m5' := m5 n
          have Bc := hide ((unhide b4).trans ((unhide b9).mono (unhide b4).size))
          have Bd := hide (below_then (unhide b3) (unhide Bc))
          obtain ⟨bk, hbk⟩ : ∃ bk, bk = bkL l l.length := ⟨_, rfl⟩
          rw [← hbk] at m1' m2 m3' m4 Rb hs9
          obtain ⟨lx, hlx⟩ : ∃ lx, lx = l ++ [(x1, x2)] := ⟨_, rfl⟩
          rw [← hlx] at m5' R9 hx3
          have C1 := hide (on_any wc (unhide Rl) (unhide hl3) n)
          replace m1' := hide m1'
          replace m2 := hide m2
          replace m3' := hide m3'
          replace m4 := hide m4
          replace m5' := hide m5'
          clear m1 m3 m5 hbk hlx hS hR I9 R2 b3 b4 d1 d2 mp hl10 hl11 hl12 o2 b9 nil0 Bc hW1
          have g1 : Hid ((canon (nodL l)).length < 100000000) := by
            have h1 := canon_le (nodL l)
            rw [nod_len] at h1
            have h2 := unhide hl3
            show _ < _
            omega
          have g2 : Hid ((canon (nexL n l)).length < 100000000) := by
            have h1 := canon_le (nexL n l)
            have h2 := unhide hl3
            have h3 := nex_le n l
            show _ < _
            omega
          cases hq : onB l n
          · rw [hq] at C1
            have hq1 := hide hq
            have hq2 : Hid (onB bk n = false) := by show _ = _; rw [unhide m1', hq]
            clear hq m5' m1' R9 hx3
            go_wp2_with fail
            refine (unhide C1).mono ?_
            rintro e w4 ⟨rfl, k4⟩
            replace k4 := hide k4
            have C2 := hide (fst_any w4)
            clear C1
            go_wp2_with fail
            refine (unhide C2).mono ?_
            rintro e w5 ⟨rfl, k5⟩
            replace k5 := hide (below_then (unhide k4) k5)
            have C3 := hide (circle_any w5 ((unhide Rl).next (unhide k5)) (unhide hl3))
            clear C2
            go_wp2_with fail
            refine (unhide C3).mono ?_
            rintro e w6 ⟨ov6, rfl, i6, c6, n6, k6⟩
            have e6 := hide (unhide m4 c6)
            replace n6 := hide n6
            replace i6 := hide i6.rd
            replace k6 := hide (below_then (unhide k5) k6)
            have C4 := hide (circle_any w6 ((unhide Rb).next (unhide k6)) (unhide hs9))
            clear C3 c6 m4
            go_wp2_with fail
            refine (unhide C4).mono ?_
            rintro e w7 ⟨ov7, rfl, i7, c7, n7, k7⟩
            have C5 := hide (ints_any ov6 ov7 _ _ w7 ((unhide i6).next k7) i7.rd (by have := unhide n6; omega) (by omega))
            replace k7 := hide (below_then (unhide k6) k7)
            rw [unhide e6, show (circD l == circD l) = true from beq_self_eq_true _] at C5
            clear C4 c7 i7 n7 n6 i6 e6
            go_wp2_with fail
            refine (unhide C5).mono ?_
            rintro e w8 ⟨rfl, k8⟩
            replace k8 := hide (below_then (unhide k7) k8)
            clear C5
            have D1 := hide (nodes_any w8 ((unhide Rl).next (unhide k8)) (Nat.le_trans (unhide hl3) (by decide)))
            go_wp2_with fail
            refine (unhide D1).mono ?_
            rintro e w9 ⟨v9, rfl, i9, k9⟩
            replace i9 := hide i9.rd
            replace k9 := hide (below_then (unhide k8) k9)
            have D2 := hide (nodes_any w9 ((unhide Rb).next (unhide k9)) (Nat.le_trans (unhide hs9) (by decide)))
            clear D1
            go_wp2_with fail
            refine (unhide D2).mono ?_
            rintro e w10 ⟨v10, rfl, i10, k10⟩
            rw [unhide m2] at i10
            have D3 := hide (ints_any v9 v10 _ _ w10 ((unhide i9).next k10) i10.rd (unhide g1) (unhide g1))
            replace k10 := hide (below_then (unhide k9) k10)
            rw [show (canon (nodL l) == canon (nodL l)) = true from beq_self_eq_true _] at D3
            clear D2 i9 i10
            go_wp2_with fail
            refine (unhide D3).mono ?_
            rintro e w11 ⟨rfl, k11⟩
            replace k11 := hide (below_then (unhide k10) k11)
            clear D3
            have D1 := hide (next_any w11 n ((unhide Rl).next (unhide k11)) (Nat.le_trans (unhide hl3) (by decide)))
            go_wp2_with fail
            refine (unhide D1).mono ?_
            rintro e w12 ⟨v12, rfl, i12, k12⟩
            replace i12 := hide i12.rd
            replace k12 := hide (below_then (unhide k11) k12)
            have D2 := hide (next_any w12 n ((unhide Rb).next (unhide k12)) (Nat.le_trans (unhide hs9) (by decide)))
            clear D1
            go_wp2_with fail
            refine (unhide D2).mono ?_
            rintro e w13 ⟨v13, rfl, i13, k13⟩
            rw [unhide m3'] at i13
            have D3 := hide (ints_any v12 v13 _ _ w13 ((unhide i12).next k13) i13.rd (unhide g2) (unhide g2))
            replace k13 := hide (below_then (unhide k12) k13)
            rw [show (canon (nexL n l) == canon (nexL n l)) = true from beq_self_eq_true _] at D3
            clear D2 i12 i13
            go_wp2_with fail
            refine (unhide D3).mono ?_
            rintro e w14 ⟨rfl, k14⟩
            replace k14 := hide (below_then (unhide k13) k14)
            clear D3
            have D1 := hide (on_any w14 ((unhide Rl).next (unhide k14)) (unhide hl3) n)
            rw [unhide hq1] at D1
            go_wp2_with fail
            refine (unhide D1).mono ?_
            rintro e w15 ⟨rfl, k15⟩
            replace k15 := hide (below_then (unhide k14) k15)
            have D2 := hide (on_any w15 ((unhide Rb).next (unhide k15)) (unhide hs9) n)
            rw [unhide hq2] at D2
            clear D1
            go_wp2_with fail
            refine (unhide D2).mono ?_
            rintro e w16 ⟨rfl, k16⟩
            replace k16 := hide (below_then (unhide Bd) (k16 |> below_then (unhide k15)))
            clear D2
            go_wp2
            go_ret
            exact ⟨rfl, unhide k16⟩
          · rw [hq] at C1
            have hq1 := hide hq
            have hq2 : Hid (onB bk n = true) := by show _ = _; rw [unhide m1', hq]
            have hq3 : Hid (onB lx n = true) := unhide m5' hq
            clear hq m5' m1'
            go_wp2_with fail
            refine (unhide C1).mono ?_
            rintro e w4 ⟨rfl, k4⟩
            have C0 := hide (on_any w4 ((unhide R9).next k4) (unhide hx3) n)
            rw [unhide hq3] at C0
            replace k4 := hide k4
            clear C1 R9 hx3 hq3
            go_wp2_with fail
            refine (unhide C0).mono ?_
            rintro e w4b ⟨rfl, k4b⟩
            replace k4b := hide (below_then (unhide k4) k4b)
            have C2 := hide (fst_any w4b)
            clear C0 k4
            go_wp2_with fail
            refine (unhide C2).mono ?_
            rintro e w5 ⟨rfl, k5⟩
            replace k5 := hide (below_then (unhide k4b) k5)
            have C3 := hide (circle_any w5 ((unhide Rl).next (unhide k5)) (unhide hl3))
            clear C2
            go_wp2_with fail
            refine (unhide C3).mono ?_
            rintro e w6 ⟨ov6, rfl, i6, c6, n6, k6⟩
            have e6 := hide (unhide m4 c6)
            replace n6 := hide n6
            replace i6 := hide i6.rd
            replace k6 := hide (below_then (unhide k5) k6)
            have C4 := hide (circle_any w6 ((unhide Rb).next (unhide k6)) (unhide hs9))
            clear C3 c6 m4
            go_wp2_with fail
            refine (unhide C4).mono ?_
            rintro e w7 ⟨ov7, rfl, i7, c7, n7, k7⟩
            have C5 := hide (ints_any ov6 ov7 _ _ w7 ((unhide i6).next k7) i7.rd (by have := unhide n6; omega) (by omega))
            replace k7 := hide (below_then (unhide k6) k7)
            rw [unhide e6, show (circD l == circD l) = true from beq_self_eq_true _] at C5
            clear C4 c7 i7 n7 n6 i6 e6
            go_wp2_with fail
            refine (unhide C5).mono ?_
            rintro e w8 ⟨rfl, k8⟩
            replace k8 := hide (below_then (unhide k7) k8)
            clear C5
            have D1 := hide (nodes_any w8 ((unhide Rl).next (unhide k8)) (Nat.le_trans (unhide hl3) (by decide)))
            go_wp2_with fail
            refine (unhide D1).mono ?_
            rintro e w9 ⟨v9, rfl, i9, k9⟩
            replace i9 := hide i9.rd
            replace k9 := hide (below_then (unhide k8) k9)
            have D2 := hide (nodes_any w9 ((unhide Rb).next (unhide k9)) (Nat.le_trans (unhide hs9) (by decide)))
            clear D1
            go_wp2_with fail
            refine (unhide D2).mono ?_
            rintro e w10 ⟨v10, rfl, i10, k10⟩
            rw [unhide m2] at i10
            have D3 := hide (ints_any v9 v10 _ _ w10 ((unhide i9).next k10) i10.rd (unhide g1) (unhide g1))
            replace k10 := hide (below_then (unhide k9) k10)
            rw [show (canon (nodL l) == canon (nodL l)) = true from beq_self_eq_true _] at D3
            clear D2 i9 i10
            go_wp2_with fail
            refine (unhide D3).mono ?_
            rintro e w11 ⟨rfl, k11⟩
            replace k11 := hide (below_then (unhide k10) k11)
            clear D3
            have D1 := hide (next_any w11 n ((unhide Rl).next (unhide k11)) (Nat.le_trans (unhide hl3) (by decide)))
            go_wp2_with fail
            refine (unhide D1).mono ?_
            rintro e w12 ⟨v12, rfl, i12, k12⟩
            replace i12 := hide i12.rd
            replace k12 := hide (below_then (unhide k11) k12)
            have D2 := hide (next_any w12 n ((unhide Rb).next (unhide k12)) (Nat.le_trans (unhide hs9) (by decide)))
            clear D1
            go_wp2_with fail
            refine (unhide D2).mono ?_
            rintro e w13 ⟨v13, rfl, i13, k13⟩
            rw [unhide m3'] at i13
            have D3 := hide (ints_any v12 v13 _ _ w13 ((unhide i12).next k13) i13.rd (unhide g2) (unhide g2))
            replace k13 := hide (below_then (unhide k12) k13)
            rw [show (canon (nexL n l) == canon (nexL n l)) = true from beq_self_eq_true _] at D3
            clear D2 i12 i13
            go_wp2_with fail
            refine (unhide D3).mono ?_
            rintro e w14 ⟨rfl, k14⟩
            replace k14 := hide (below_then (unhide k13) k14)
            clear D3
            have D1 := hide (on_any w14 ((unhide Rl).next (unhide k14)) (unhide hl3) n)
            rw [unhide hq1] at D1
            go_wp2_with fail
            refine (unhide D1).mono ?_
            rintro e w15 ⟨rfl, k15⟩
            replace k15 := hide (below_then (unhide k14) k15)
            have D2 := hide (on_any w15 ((unhide Rb).next (unhide k15)) (unhide hs9) n)
            rw [unhide hq2] at D2
            clear D1
            go_wp2_with fail
            refine (unhide D2).mono ?_
            rintro e w16 ⟨rfl, k16⟩
            replace k16 := hide (below_then (unhide Bd) (k16 |> below_then (unhide k15)))
            clear D2
            go_wp2
            go_ret
            exact ⟨rfl, unhide k16⟩
      | succ p =>
        have e9 : ((p + 1 : Nat) : Int) - 1 = (p : Int) := by omega
        rw [e9]
        have hp0 : p < len0 := by omega
        have hpl : p < l.length := by rw [unhide hl0]; omega
        obtain ⟨g, o, rfl, hgw, d1, d2⟩ := ((unhide R2).next (unhide b4)).at hpl
        obtain ⟨x, hx⟩ : ∃ x, x = l.getD p (0, 0) := ⟨_, rfl⟩
        rw [← hx] at d1 d2
        have hbk : Hid (bkL l (k + 1) = bkL l k ++ [x, x]) := by
          show bkL l k ++ _ = _
          rw [show l.length - 1 - k = p by rw [unhide hl0]; omega, ← hx]
        have I2 := hide ((unhide I1).next (below_dnew wr (.cells #[.int .i64 x.1, .int .i64 x.2, .int .i64 x.1, .int .i64 x.2] 39)))
        have hb5 : Hid (w2.heap.size ≤ (wr.drew.alloc (.cells #[.int .i64 x.1, .int .i64 x.2, .int .i64 x.1, .int .i64 x.2] 39)).heap.size) := Nat.le_trans (unhide b4).size (below_dnew wr _).size
        have hlen2 : Hid ((bkL l k).length + 2 = k2 + 2) := by show _ = _; rw [bk_len, hk2]
        have hk9 : Hid (k2 + 2 < 10000000) := by show _ < _; omega
        replace hx := hide hx
        replace hk2 := hide hk2
        clear hpl
        go_wp2_with fail
        go_region_law (refine step_new rfl (.tmp 23) (.tmp 32) rfl w2.heap.size (.slice ag k2 cg) (bkL l k) [x, x] 2 (k2 + 2) rfl (unhide I2) wr.heap.size rfl (heap_dnew wr _ _) rfl (unhide hlen2) (by decide) (unhide hb5) (unhide hk9) ?_; intro g5 cap5 w5 a1 a2; replace a1 := hide a1; replace a2 := hide a2)
        all_goals
          go_wp2
          go_roundw
          case rel => exact ⟨p, k + 1, k2 + 2, some ⟨g5, 0, none⟩, cap5, by omega, by have := unhide hk2; omega, rfl, by go_num, by rw [unhide hbk]; exact unhide a1, (unhide b4).trans (grown_below (grown_trans (grown_of_below (below_dnew wr _) _) (unhide a2)) (unhide b4).size (fun j hj => ((unhide I1).lt j hj).1))⟩
          case measure => simp [intOf] <;> omega
  · have C2 := hide (fst_any w2)
    go_wp2_with fail
    refine (unhide C2).mono ?_
    rintro e w3 ⟨rfl, k3⟩
    replace k3 := hide (below_then (unhide b3) k3)
    go_wp2
    go_ret
    exact ⟨rfl, unhide k3⟩
end Go.Proofs.Ytfnepbpopemonaa

/- GraphGone. -/
namespace Go.Proofs.Ytfnepbpopemonaa
open Go.RowKit
set_option linter.unusedVariables false

/-- Everyone of a circle is on one. -/
theorem Circ.on {E : Int → Int → Prop} {c : List Int} (h : Circ E c) : ∀ x ∈ c, On E x := by
  rcases h with ⟨rfl, _⟩ | ⟨s, p, v, rfl, _, _, hw, e⟩
  · intro x hx; cases hx
  · intro x hx
    obtain ⟨a, b, hab⟩ := List.append_of_mem hx
    have r1 : Rch E x v := (hw.on a x b p v hab rfl).rch
    have r2 : Rch E s x := hw.reach x hx
    cases r1 with
    | refl _ => exact ⟨s, e, r2⟩
    | step _ e1 r1 => exact ⟨_, e1, (Av.snoc r1 e id).trans r2⟩
theorem On.end {E : Int → Int → Prop} {x : Int} (h : On E x) : ∃ y, E x y := by
  obtain ⟨t, e, _⟩ := h
  exact ⟨t, e⟩
/-- What goes without somebody does not name him. -/
theorem wo_nod {gone : List Int} {l : List En} {x : Int} (h : x ∈ nodL (woL gone l)) : x ∉ gone := by
  obtain ⟨e, he, h1⟩ := nod_mem.1 h
  obtain ⟨_, h2, h3⟩ := wol_mem.1 he
  rcases h1 with rfl | rfl
  · exact h2
  · exact h3
theorem wo_on {gone : List Int} {l : List En} {x : Int} (h : onB (woL gone l) x = true) : onB l x = true := by
  rw [onB_iff] at h ⊢
  exact h.mono fun a b hab => (wol_mem.1 hab).1
theorem hasB_false {x : Int} {l : List Int} (h : x ∉ l) : hasB x l = false :=
  has_no x l fun j hj e => h (e ▸ at_mem hj)
/-- The circle without its first one. -/
theorem circ_gone {l : List En} {a : Int} (h : Circ (CE (woL [a] l)) (circD (woL [a] l))) : hasB a (circD (woL [a] l)) = false := by
  apply hasB_false
  intro hm
  obtain ⟨y, hy⟩ := (h.on a hm).end
  exact (wol_mem.1 hy).2.1 (List.mem_cons_self ..)
theorem wo_nil (l : List En) : woL [] l = l := by
  unfold woL
  rw [List.filter_eq_self]
  intro e _
  simp
theorem wo_all (l : List En) : woL (canon (nodL l)) l = [] := by
  unfold woL
  rw [List.filter_eq_nil_iff]
  intro e he
  have : e.1 ∈ canon (nodL l) := ((canon_facts _).1 _).2 (nod_mem.2 ⟨e, he, .inl rfl⟩)
  simp [this]
set_option maxRecDepth 100000 in
set_option maxHeartbeats 4000000 in
theorem graphGone_walk (a0 : Option Addr) (len0 cap0 : Nat) (Z0 : Nat → Nat → Int) (a1 : Option Addr) (len1 cap1 : Nat) (l1 : List Int) (W : World) (s0 : RecsB 2 W.heap.size W a0 len0 Z0) (lc0 : len0 ≤ cap0) (cm0 : cap0 ≤ maxLen)
    (wz0 : ∀ i, i < len0 → ∀ j, j < 2 → (Lit.int .i64 (Z0 i j)).wf = true) (s1 : SegK .i64 W a1 len1 l1) (lc1 : len1 ≤ cap1) (cm1 : cap1 ≤ maxLen) (nil1 : a1 = none → cap1 = 0) (wz1 : ∀ z ∈ l1, (Lit.int .i64 z).wf = true) :
    Calls Try.prog 8 #[.slice a0 len0 cap0, .slice a1 len1 cap1] W fun e w' => e = .returned (.bool true) ∧ Below W.heap.size W w' := by
  have R0 : Re W (.slice a0 len0 cap0) (edgesOf len0 Z0) := re_recs s0
  have hl0 := edges_len len0 Z0
  generalize edgesOf len0 Z0 = l at R0 hl0
  have G0 : Rd W (.slice a1 len1 cap1) l1 := rd_seg s1
  have hl1 : l1.length = len1 := s1.1
  have Z1 : Hid (Nz (.slice a1 len1 cap1)) := fun n c e => by injection e with e1 e2 e3; subst e3; exact nil1 e1
  unfold maxLen at cm0 cm1
  clear s0 wz0 s1 wz1 nil1
  have C1 := hide (fst_any W)
  replace hl0 := hide hl0
  replace hl1 := hide hl1
  replace R0 := hide R0
  replace G0 := hide G0
  go_enter Try.func8, Try.ntmps8
  go_wp2_with fail
  refine (unhide C1).mono ?_
  rintro e w1 ⟨rfl, b1⟩
  have R1 := hide ((unhide R0).next b1)
  have G1 := hide ((unhide G0).next b1)
  replace b1 := hide b1
  clear C1 R0 G0
  by_cases h60 : len0 ≤ 60
  · by_cases h61 : len1 ≤ 60
    · have hn0 : Hid (l.length ≤ 300) := by show _ ≤ _; rw [unhide hl0]; omega
      have hn1 : Hid (l1.length ≤ 1500) := by show _ ≤ _; rw [unhide hl1]; omega
      have C2 := hide (without_any w1 (unhide G1) (unhide Z1) (unhide hn1) (unhide R1) (Nat.le_trans (unhide hn0) (by decide)))
      go_wp2_with fail
      refine (unhide C2).mono ?_
      rintro e w2 ⟨v5, rfl, I5, k2⟩
      have R5 := hide I5.re
      have R2 := hide ((unhide R1).next k2)
      have G2 := hide ((unhide G1).next k2)
      replace k2 := hide (below_then (unhide b1) k2)
      obtain ⟨L, hL⟩ : ∃ L, L = woL l1 l := ⟨_, rfl⟩
      have hLn : Hid (L.length ≤ 300) := by have := wol_le l1 l; have := unhide hn0; show _ ≤ _; rw [hL]; omega
      have pl : Hid (∀ x, x ∈ canon (nodL L) → hasB x l1 = false ∧ (onB L x = true → onB l x = true)) := fun x hx => by
        rw [(canon_facts _).1] at hx
        rw [hL] at hx ⊢
        exact ⟨hasB_false (wo_nod hx), wo_on⟩
      rw [← hL] at R5
      clear I5 hL C2
      have C3 := hide (nodes_any w2 (unhide R5) (Nat.le_trans (unhide hLn) (by decide)))
      go_wp2_with fail
      refine (unhide C3).mono ?_
      rintro e w3 ⟨v6, rfl, I6, k3⟩
      have R6 := hide ((unhide R5).next k3)
      have R3 := hide ((unhide R2).next k3)
      have G3 := hide ((unhide G2).next k3)
      replace k3 := hide (below_then (unhide k2) k3)
      obtain ⟨a6, c6, rfl⟩ := I6.form
      have hNn : (canon (nodL L)).length ≤ 600 := by
        have h1 := canon_le (nodL L)
        rw [nod_len] at h1
        have h2 := unhide hLn
        omega
      generalize canon (nodL L) = N at pl I6 hNn
      replace I6 := hide I6
      clear C3 R5 R2 G2 R1 G1 k2 b1
      go_wp2
      go_loopw [7] (fun s7 wr => ∃ t : Nat, t ≤ N.length ∧ s7 = .int .i64 t ∧ Hid (Below w3.heap.size w3 wr)) (fun s7 _ => N.length - (intOf s7).toNat)
      case atStart => exact ⟨0, Nat.zero_le _, rfl, Below.refl _ _⟩
      case round =>
        obtain ⟨t, ht, rfl, b4⟩ := hrel
        by_cases hlt : t < N.length
        · obtain ⟨g, o, rfl, d1, hgw⟩ := ((unhide I6).next (unhide b4)).elem' hlt
          obtain ⟨x, hx⟩ : ∃ x, x = N.getD t 0 := ⟨_, rfl⟩
          rw [← hx] at d1
          obtain ⟨p1, p2⟩ := unhide pl x (by rw [hx]; exact at_mem hlt)
          replace hx := hide hx
          have D1 := hide (has_any x wr ((unhide G3).next (unhide b4)) (Nat.le_trans (unhide hn1) (by decide)))
          rw [p1] at D1
          have D2 := hide (on_any wr ((unhide R6).next (unhide b4)) (unhide hLn) x)
          have ex : Hid (g < wr.heap.size) := hgw
          replace p2 := hide p2
          clear p1 hgw
          go_wp2_with fail
          refine (unhide D1).mono ?_
          rintro e w5 ⟨rfl, rfl⟩
          cases hq : onB L x
          · rw [hq] at D2
            clear hq D1 p2
            go_wp2_with fail
            refine (unhide D2).mono ?_
            rintro e w6 ⟨rfl, k6⟩
            replace k6 := hide (below_then (unhide b4) k6)
            clear D2
            go_wp2
            go_roundw
            case rel => exact ⟨t + 1, by omega, by go_num, unhide k6⟩
            case measure => simp [intOf]; omega
          · rw [hq] at D2
            have p3 := hide (unhide p2 hq)
            clear hq D1 p2
            go_wp2_with fail
            refine (unhide D2).mono ?_
            rintro e w6 ⟨rfl, k6⟩
            have d2 := (k6.cell (p := ⟨g, o + t, none⟩) (unhide ex)).trans d1
            replace k6 := hide (below_then (unhide b4) k6)
            have D3 := hide (on_any w6 ((unhide R3).next (unhide k6)) (unhide hn0) x)
            rw [unhide p3] at D3
            clear D2
            go_wp2_with fail
            refine (unhide D3).mono ?_
            rintro e w7 ⟨rfl, k7⟩
            replace k7 := hide (below_then (unhide k6) k7)
            clear D3
            go_wp2
            go_roundw
            case rel => exact ⟨t + 1, by omega, by go_num, unhide k7⟩
            case measure => simp [intOf]; omega
        · obtain rfl : t = N.length := by omega
          have R4 := hide ((unhide R3).next (unhide b4))
          have k4 := hide (below_then (unhide k3) (unhide b4))
          have C4 := hide (circle_any wr (unhide R4) (unhide hn0))
          clear R3 R6 G3 I6 pl k3 b4 hn1 Z1 hlt ht
          go_wp2_with fail
          refine (unhide C4).mono ?_
          rintro e w8 ⟨v8, rfl, i8, c8, n8, k8⟩
          have R8 := hide ((unhide R4).next k8)
          replace k8 := hide (below_then (unhide k4) k8)
          replace c8 := hide c8
          generalize circD l = c at i8 c8 n8
          by_cases h0 : c.length = 0
          · obtain ⟨a8, q8, rfl⟩ := i8.form
            rw [h0]
            clear C4 i8 c8 n8 h0
            have T1 := hide (fst_any w8)
            go_wp2_with fail
            refine (unhide T1).mono ?_
            rintro e w13 ⟨rfl, k13⟩
            have R13 := hide ((unhide R8).next k13)
            replace k13 := hide (below_then (unhide k8) k13)
            have T2 := hide (without_any w13 (u := .slice none 0 0) (gone := []) ⟨none, 0, rfl, seg_nil w13 none⟩ (fun n c e => by injection e with e1 e2 e3; exact e3.symm) (by decide) (unhide R13) (Nat.le_trans (unhide hn0) (by decide)))
            rw [wo_nil] at T2
            clear T1
            go_wp2_with fail
            refine (unhide T2).mono ?_
            rintro e w14 ⟨v14, rfl, I14, k14⟩
            obtain ⟨a14, q14, rfl⟩ := I14.form
            rw [unhide hl0]
            have R14 := hide ((unhide R13).next k14)
            replace k14 := hide (below_then (unhide k13) k14)
            have T3 := hide (nodes_any w14 (unhide R14) (Nat.le_trans (unhide hn0) (by decide)))
            clear T2 I14
            go_wp2_with fail
            refine (unhide T3).mono ?_
            rintro e w15 ⟨v15, rfl, I15, k15⟩
            have R15 := hide ((unhide R14).next k15)
            replace k15 := hide (below_then (unhide k14) k15)
            have T4 := hide (without_any w15 I15.rd I15.nz (by
              have h1 := canon_le (nodL l)
              rw [nod_len] at h1
              have h2 := unhide hn0
              omega) (unhide R15) (Nat.le_trans (unhide hn0) (by decide)))
            rw [wo_all] at T4
            clear T3 I15
            go_wp2_with fail
            refine (unhide T4).mono ?_
            rintro e w16 ⟨v16, rfl, I16, k16⟩
            obtain ⟨a16, q16, rfl⟩ := I16.form
            rw [show ([] : List En).length = 0 from rfl]
            replace k16 := hide (below_then (unhide k15) k16)
            clear T4 I16
            go_wp2
            go_ret
            exact ⟨rfl, unhide k16⟩
          · obtain ⟨g8, q8, rfl, _, hg8, hq8, _⟩ := is_pos i8 (by omega)
            obtain ⟨x, hx⟩ : ∃ x, x = c.getD 0 0 := ⟨_, rfl⟩
            have d8 := i8.elem' (i := 0) (by omega)
            obtain ⟨g9, o9, e9, d8, _⟩ := d8
            have e91 : g8 = g9 := by injection e9 with e9; injection e9
            have e92 : 0 = o9 := by injection e9 with e9; injection e9
            subst e91 e92
            rw [← hx, Nat.add_zero] at d8
            have hxc : x ∈ c := by rw [hx]; exact at_mem (by omega)
            have I8 := hide i8.rd
            have S1 : Rd w8 (.slice (some ⟨g8, 0, none⟩) 1 q8) [x] := ⟨_, _, rfl, rfl, .inr ⟨g8, 0, rfl, fun i hi => by
              have : i = 0 := by have : i < 1 := hi; omega
              subst this
              exact d8⟩⟩
            have C5 := hide (without_any w8 S1 (fun n c e => by injection e with e1; cases e1) (show 1 ≤ 1500 by decide) (unhide R8) (Nat.le_trans (unhide hn0) (by decide)))
            obtain ⟨nc, hnc⟩ : ∃ nc, nc = c.length := ⟨_, rfl⟩
            rw [← hnc] at n8 h0 hq8 ⊢
            have hnc0 : 0 < nc := by omega
            have hqp : 1 ≤ q8 := by omega
            have hX : Hid (hasB x (circD (woL [x] l)) = false → (c == circD (woL [x] l)) = false) := fun hh => by
              rw [beq_eq_false_iff_ne]
              rintro e
              rw [← e] at hh
              have := has_yes x c 0 (by omega) hx
              rw [this] at hh
              cases hh
            have hwl : Hid ((woL [x] l).length ≤ 300) := Nat.le_trans (wol_le _ _) (unhide hn0)
            have n8' : Hid (c.length < 100000000) := by show _ < _; rw [← hnc]; omega
            replace hnc := hide hnc
            replace hx := hide hx
            replace d8 := hide d8
            replace hg8 := hide hg8
            clear C4 e9 S1 i8 n8 h0 hxc
            go_wp2_with fail
            refine (unhide C5).mono ?_
            rintro e w9 ⟨v9, rfl, I9, k9⟩
            have k9' := hide k9
            have C6 := hide (circle_any w9 I9.re (unhide hwl))
            replace k9 := hide (below_then (unhide k8) k9)
            clear C5 I9
            go_wp2_with fail
            refine (unhide C6).mono ?_
            rintro e w10 ⟨v10, rfl, i10, c10, n10, k10⟩
            have d10 := ((below_then (unhide k9') k10).cell (p := ⟨g8, 0, none⟩) (unhide hg8)).trans (unhide d8)
            have h10 := circ_gone c10
            have h11 := unhide hX h10
            have R10 := hide (((unhide R8).next (unhide k9')).next k10)
            have J8 := hide (((unhide I8).next (unhide k9')).next k10)
            replace k10 := hide (below_then (unhide k9) k10)
            have C7 := hide (has_any x w10 i10.rd (by omega))
            have C8 := hide (ints_any _ v10 _ _ w10 (unhide J8) i10.rd (unhide n8') (by omega))
            rw [h10] at C7
            rw [h11, ← unhide hnc] at C8
            clear C6 c10 n10 h10 h11 hX c8 i10 J8
            go_wp2_with fail
            refine (unhide C7).mono ?_
            rintro e w11 ⟨rfl, rfl⟩
            clear C7
            go_wp2_with fail
            refine (unhide C8).mono ?_
            rintro e w12 ⟨rfl, k12⟩
            have R12 := hide ((unhide R10).next k12)
            replace k12 := hide (below_then (unhide k10) k12)
            clear C8 R10
            have T1 := hide (fst_any w12)
            go_wp2_with fail
            refine (unhide T1).mono ?_
            rintro e w13 ⟨rfl, k13⟩
            have R13 := hide ((unhide R12).next k13)
            replace k13 := hide (below_then (unhide k12) k13)
            have T2 := hide (without_any w13 (u := .slice none 0 0) (gone := []) ⟨none, 0, rfl, seg_nil w13 none⟩ (fun n c e => by injection e with e1 e2 e3; exact e3.symm) (by decide) (unhide R13) (Nat.le_trans (unhide hn0) (by decide)))
            rw [wo_nil] at T2
            clear T1
            go_wp2_with fail
            refine (unhide T2).mono ?_
            rintro e w14 ⟨v14, rfl, I14, k14⟩
            obtain ⟨a14, q14, rfl⟩ := I14.form
            rw [unhide hl0]
            have R14 := hide ((unhide R13).next k14)
            replace k14 := hide (below_then (unhide k13) k14)
            have T3 := hide (nodes_any w14 (unhide R14) (Nat.le_trans (unhide hn0) (by decide)))
            clear T2 I14
            go_wp2_with fail
            refine (unhide T3).mono ?_
            rintro e w15 ⟨v15, rfl, I15, k15⟩
            have R15 := hide ((unhide R14).next k15)
            replace k15 := hide (below_then (unhide k14) k15)
            have T4 := hide (without_any w15 I15.rd I15.nz (by
              have h1 := canon_le (nodL l)
              rw [nod_len] at h1
              have h2 := unhide hn0
              omega) (unhide R15) (Nat.le_trans (unhide hn0) (by decide)))
            rw [wo_all] at T4
            clear T3 I15
            go_wp2_with fail
            refine (unhide T4).mono ?_
            rintro e w16 ⟨v16, rfl, I16, k16⟩
            obtain ⟨a16, q16, rfl⟩ := I16.form
            rw [show ([] : List En).length = 0 from rfl]
            replace k16 := hide (below_then (unhide k15) k16)
            clear T4 I16
            go_wp2
            go_ret
            exact ⟨rfl, unhide k16⟩
    · have C2 := hide (fst_any w1)
      go_wp2_with fail
      refine (unhide C2).mono ?_
      rintro e w3 ⟨rfl, k3⟩
      replace k3 := hide (below_then (unhide b1) k3)
      go_wp2
      go_ret
      exact ⟨rfl, unhide k3⟩
  · have C2 := hide (fst_any w1)
    go_wp2_with fail
    refine (unhide C2).mono ?_
    rintro e w3 ⟨rfl, k3⟩
    replace k3 := hide (below_then (unhide b1) k3)
    go_wp2
    go_ret
    exact ⟨rfl, unhide k3⟩
end Go.Proofs.Ytfnepbpopemonaa

/- GraphCircle: the plain part. -/
namespace Go.Proofs.Ytfnepbpopemonaa
set_option linter.unusedVariables false

theorem snoc_getD {p : List Int} {v : Int} {t : Nat} (h : t < p.length) : (p ++ [v]).getD t 0 = p.getD t 0 := by
  rw [List.getD_eq_getElem?_getD, List.getD_eq_getElem?_getD, List.getElem?_append_left h]
theorem snoc_last {p : List Int} {v : Int} : (p ++ [v]).getD p.length 0 = v := by
  rw [List.getD_eq_getElem?_getD, List.getElem?_append_right (Nat.le_refl _)]
  simp
theorem Way.pos {E : Int → Int → Prop} {s : Int} {c : List Int} (h : Way E s c) : 0 < c.length := List.length_pos_iff.2 h.ne
theorem Way.at0 {E : Int → Int → Prop} {s : Int} {c : List Int} (h : Way E s c) : c.getD 0 0 = s := by
  obtain ⟨r, e⟩ := h.head
  rw [e]; rfl
/-- From each of the way an edge to the next one. -/
theorem Way.edges {E : Int → Int → Prop} {s : Int} {c : List Int} (h : Way E s c) : ∀ t, t + 1 < c.length → E (c.getD t 0) (c.getD (t + 1) 0) := by
  induction h with
  | one => intro t ht; simp at ht
  | @more p v m hw _ e _ _ _ ih =>
    intro t ht
    have hl : (p ++ [v] ++ [m]).length = p.length + 2 := by simp
    rw [hl] at ht
    rcases (show t + 1 < p.length + 1 ∨ t = p.length by omega) with h | rfl
    · have h1 : t < (p ++ [v]).length := by simp; omega
      have h2 : t + 1 < (p ++ [v]).length := by simp; omega
      rw [snoc_getD h1, snoc_getD h2]
      exact ih t h2
    · have h1 : p.length < (p ++ [v]).length := by simp
      have h2 : p.length + 1 = (p ++ [v]).length := by simp
      rw [snoc_getD h1, snoc_last, h2, snoc_last]
      exact e
/-- What a circle is. -/
theorem Circ.tells {E : Int → Int → Prop} {c : List Int} (h : Circ E c) : (∀ t, t < c.length → E (c.getD t 0) (c.getD ((t + 1) % c.length) 0)) ∧ (∀ t k, k < t → t < c.length → c.getD k 0 ≠ c.getD t 0) ∧ (∀ t, 0 < t → t < c.length → c.getD 0 0 < c.getD t 0) := by
  rcases h with ⟨rfl, _⟩ | ⟨s, p, v, rfl, hs, hl, hw, he⟩
  · exact ⟨fun t ht => by simp at ht, fun t k _ ht => by simp at ht, fun t _ ht => by simp at ht⟩
  · have nd := hw.nodup
    have hne : ∀ t k, k < t → t < (p ++ [v]).length → (p ++ [v]).getD k 0 ≠ (p ++ [v]).getD t 0 := fun t k hkt ht e => by
      have h1 : k < (p ++ [v]).length := by omega
      rw [List.getD_eq_getElem?_getD, List.getD_eq_getElem?_getD, List.getElem?_eq_getElem h1, List.getElem?_eq_getElem ht] at e
      have := (List.getElem_inj nd).1 (show (p ++ [v])[k] = (p ++ [v])[t] from e)
      omega
    refine ⟨fun t ht => ?_, hne, fun t h0 ht => ?_⟩
    · have hlen : (p ++ [v]).length = p.length + 1 := by simp
      rcases (show t + 1 < (p ++ [v]).length ∨ t = p.length by omega) with h | rfl
      · rw [Nat.mod_eq_of_lt h]
        exact hw.edges t h
      · rw [hlen, Nat.mod_self, snoc_last, hw.at0]
        exact he
    · have ho : On E ((p ++ [v]).getD t 0) := Circ.on (.inr ⟨s, p, v, rfl, hs, hl, hw, he⟩) _ (at_mem ht)
      have h1 := hl _ ho
      have h2 := hne t 0 h0 ht
      rw [hw.at0] at h2 ⊢
      omega
/-- A list without doubles whose members are all in another one is no longer than that. -/
theorem nd_sub : ∀ (g n : List Int), g.Nodup → (∀ x ∈ g, x ∈ n) → g.length ≤ n.length
  | [], n, _, _ => Nat.zero_le _
  | x :: g, n, h, hs => by
    have h1 := List.nodup_cons.1 h
    have hx : x ∈ n := hs x (List.mem_cons_self ..)
    have ih := nd_sub g (n.erase x) h1.2 fun y hy => (List.mem_erase_of_ne (show y ≠ x from fun e => h1.1 (by rw [← e]; exact hy))).2 (hs y (List.mem_cons_of_mem _ hy))
    rw [List.length_erase_of_mem hx] at ih
    have : 0 < n.length := List.length_pos_of_mem hx
    show g.length + 1 ≤ _
    omega
theorem filter_lt {p q : Int → Bool} : ∀ (n : List Int), (∀ x ∈ n, p x = true → q x = true) → (∃ x ∈ n, q x = true ∧ p x = false) → (n.filter p).length < (n.filter q).length
  | [], _, ⟨x, h, _⟩ => by cases h
  | a :: n, h, ⟨x, hx, h1, h2⟩ => by
    have hle : ∀ m : List Int, (∀ x ∈ m, p x = true → q x = true) → (m.filter p).length ≤ (m.filter q).length := by
      intro m
      induction m with
      | nil => intro _; exact Nat.le_refl _
      | cons b m ih =>
        intro hm
        have := ih fun x hx => hm x (List.mem_cons_of_mem _ hx)
        rw [List.filter_cons, List.filter_cons]
        cases hp : p b
        · cases hq : q b
          · simpa using this
          · simp; omega
        · rw [hm b (List.mem_cons_self ..) hp]
          simpa using this
    rw [List.filter_cons, List.filter_cons]
    rcases List.mem_cons.1 hx with rfl | hx
    · rw [h1, h2]
      have := hle n fun y hy => h y (List.mem_cons_of_mem _ hy)
      simp; omega
    · have ih := filter_lt n (fun y hy => h y (List.mem_cons_of_mem _ hy)) ⟨x, hx, h1, h2⟩
      cases hp : p a
      · cases hq : q a
        · simpa using ih
        · simp; omega
      · rw [h a (List.mem_cons_self ..) hp]
        simpa using ih
open Classical in
/-- Where there is no circle, some one has no edge to one that is left. -/
theorem sink_is {E : Int → Int → Prop} {N G : List Int} (hno : ∀ n, ¬ On E n) (hN : ∀ x y, E x y → y ∈ N) : ∀ (k : Nat) (x : Int), (N.filter fun y => decide (Rch E x y)).length = k → x ∈ N → x ∉ G → ∃ z, z ∈ N ∧ z ∉ G ∧ ∀ y, E z y → y ∈ G := by
  intro k
  induction k using Nat.strongRecOn with
  | ind k ih =>
    intro x hk hx hg
    by_cases h : ∀ y, E x y → y ∈ G
    · exact ⟨x, hx, hg, h⟩
    · obtain ⟨y, hy⟩ := Classical.not_forall.1 h
      have h1 : E x y := Classical.byContradiction fun k => hy fun e => absurd e k
      have h2 : y ∉ G := fun k => hy fun _ => k
      refine ih _ ?_ y rfl (hN _ _ h1) h2
      rw [← hk]
      apply filter_lt
      · intro z _ hz
        rw [decide_eq_true_iff] at hz ⊢
        exact .step id h1 hz
      · refine ⟨x, hx, by rw [decide_eq_true_iff]; exact Rch.refl _ _, ?_⟩
        rw [decide_eq_false_iff_not]
        intro r
        exact hno x ⟨y, h1, r⟩
/-- The nodes that were taken away. -/
structure Tk (l : List En) (G : List Int) : Prop where
  nd : G.Nodup
  sub : ∀ x ∈ G, x ∈ canon (nodL l)
  off : ∀ x ∈ G, ¬ On (CE l) x
theorem Tk.nil (l : List En) : Tk l [] := { nd := List.nodup_nil, sub := fun x h => absurd h (by simp), off := fun x h => absurd h (by simp) }
/-- Nobody that is left is where x leads. -/
def Snk (l : List En) (G : List Int) (x : Int) : Prop := ∀ y, CE l x y → y ∈ G
theorem nex_wo {l : List En} {G : List Int} {x : Int} (hx : x ∉ G) : (canon (nexL x (woL G l))).length = 0 ↔ Snk l G x := by
  have key : ∀ y, y ∈ canon (nexL x (woL G l)) ↔ CE l x y ∧ y ∉ G := fun y => by
    rw [(canon_facts _).1, nex_mem, wol_mem]
    exact ⟨fun ⟨h1, _, h3⟩ => ⟨h1, h3⟩, fun ⟨h1, h3⟩ => ⟨h1, hx, h3⟩⟩
  constructor
  · intro h y hy
    rw [List.eq_nil_of_length_eq_zero h] at key
    exact Classical.byContradiction fun k => by have := (key y).2 ⟨hy, k⟩; cases this
  · intro h
    rcases Nat.eq_zero_or_pos (canon (nexL x (woL G l))).length with e | e
    · exact e
    · obtain ⟨h1, h2⟩ := (key _).1 (at_mem (i := 0) e)
      exact absurd (h _ h1) h2
theorem Tk.add {l : List En} {G : List Int} (h : Tk l G) {x : Int} (hx : x ∈ canon (nodL l)) (hg : x ∉ G) (hs : Snk l G x) : Tk l (G ++ [x]) := by
  refine ⟨?_, fun y hy => ?_, fun y hy => ?_⟩
  · rw [List.nodup_append]
    refine ⟨h.nd, by simp, fun a ha b hb e => hg ?_⟩
    rw [List.mem_singleton.1 hb] at e
    exact e ▸ ha
  · rcases List.mem_append.1 hy with k | k
    · exact h.sub y k
    · rw [List.mem_singleton.1 k]; exact hx
  · rcases List.mem_append.1 hy with k | k
    · exact h.off y k
    · rw [List.mem_singleton.1 k]
      rintro ⟨t, e, r⟩
      exact h.off t (hs t e) (On.next e r)
theorem Tk.le {l : List En} {G : List Int} (h : Tk l G) : G.length ≤ (canon (nodL l)).length := nd_sub _ _ h.nd h.sub
/-- Inside a round: G0 at its start, i nodes looked at. -/
def Rnd (l : List En) (G0 G : List Int) (i : Nat) : Prop := (∃ r, G = G0 ++ r) ∧ ∀ t, t < i → (canon (nodL l)).getD t 0 ∈ G ∨ ¬ Snk l G0 ((canon (nodL l)).getD t 0)
theorem Rnd.start (l : List En) (G : List Int) : Rnd l G G 0 := ⟨⟨[], by simp⟩, fun t h => absurd h (Nat.not_lt_zero _)⟩
theorem Rnd.has {l : List En} {G0 G : List Int} {i : Nat} (h : Rnd l G0 G i) (hx : (canon (nodL l)).getD i 0 ∈ G) : Rnd l G0 G (i + 1) := by
  refine ⟨h.1, fun t ht => ?_⟩
  rcases (show t < i ∨ t = i by omega) with k | rfl
  · exact h.2 t k
  · exact .inl hx
theorem Rnd.stays {l : List En} {G0 G : List Int} {i : Nat} (h : Rnd l G0 G i) (hx : ¬ Snk l G ((canon (nodL l)).getD i 0)) : Rnd l G0 G (i + 1) := by
  refine ⟨h.1, fun t ht => ?_⟩
  rcases (show t < i ∨ t = i by omega) with k | rfl
  · exact h.2 t k
  · refine .inr fun k => hx fun y hy => ?_
    obtain ⟨r, e⟩ := h.1
    rw [e]
    exact List.mem_append_left _ (k y hy)
theorem Rnd.goes {l : List En} {G0 G : List Int} {i : Nat} (h : Rnd l G0 G i) : Rnd l G0 (G ++ [(canon (nodL l)).getD i 0]) (i + 1) := by
  obtain ⟨⟨r, e⟩, h2⟩ := h
  refine ⟨⟨r ++ [_], by rw [e, List.append_assoc]⟩, fun t ht => ?_⟩
  rcases (show t < i ∨ t = i by omega) with k | rfl
  · rcases h2 t k with k | k
    · exact .inl (List.mem_append_left _ k)
    · exact .inr k
  · exact .inl (by simp)
/-- A round that is over has taken one more, where there is no circle and one is left. -/
theorem Rnd.over {l : List En} {G0 G : List Int} (h : Rnd l G0 G (canon (nodL l)).length) (hG : Tk l G0) (hno : ∀ n, ¬ On (CE l) n) : G0.length = (canon (nodL l)).length ∨ G0.length + 1 ≤ G.length := by
  by_cases hall : ∀ x ∈ canon (nodL l), x ∈ G0
  · left
    have h1 := hG.le
    have h2 := nd_sub (canon (nodL l)) G0 ((canon_facts _).2.imp fun hab e => by omega) hall
    omega
  · right
    obtain ⟨x, hx⟩ := Classical.not_forall.1 hall
    have h1 : x ∈ canon (nodL l) := Classical.byContradiction fun k => hx fun e => absurd e k
    have h2 : x ∉ G0 := fun k => hx fun _ => k
    have hin : ∀ a b, CE l a b → b ∈ canon (nodL l) := fun a b hab => ((canon_facts _).1 _).2 (nod_mem.2 ⟨(a, b), hab, .inr rfl⟩)
    obtain ⟨z, z1, z2, z3⟩ := sink_is hno hin _ x rfl h1 h2
    obtain ⟨t, ht, e⟩ := mem_at z1
    have hzG : z ∈ G := by
      rcases h.2 t ht with k | k
      · rw [e] at k; exact k
      · rw [e] at k; exact absurd z3 k
    obtain ⟨r, er⟩ := h.1
    rw [er] at hzG ⊢
    rcases List.mem_append.1 hzG with k | k
    · exact absurd k z2
    · have := List.length_pos_of_mem k
      rw [List.length_append]
      omega
/-- At the end. -/
theorem tk_end {l : List En} {G c : List Int} (hc : Circ (CE l) c) (hG : Tk l G) (hr : (∀ n, ¬ On (CE l) n) → G.length = (canon (nodL l)).length) : (G.length = (canon (nodL l)).length ↔ c.length = 0) := by
  rcases hc with ⟨rfl, hno⟩ | ⟨s, p, v, rfl, hs, _, _, _⟩
  · exact ⟨fun _ => rfl, fun _ => hr hno⟩
  · constructor
    · intro h
      exfalso
      obtain ⟨t, e, _⟩ := id hs
      have h1 : s ∈ canon (nodL l) := ((canon_facts _).1 _).2 (nod_mem.2 ⟨(s, t), e, .inl rfl⟩)
      have h2 : s ∉ G := fun k => hG.off s k hs
      have h3 := nd_sub (s :: G) (canon (nodL l)) (List.nodup_cons.2 ⟨h2, hG.nd⟩) fun x hx => by
        rcases List.mem_cons.1 hx with rfl | hx
        · exact h1
        · exact hG.sub x hx
      have h4 : (s :: G).length = G.length + 1 := rfl
      omega
    · intro h
      simp at h
end Go.Proofs.Ytfnepbpopemonaa
