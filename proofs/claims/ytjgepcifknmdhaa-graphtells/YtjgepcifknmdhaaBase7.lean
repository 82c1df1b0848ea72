/- Texts of this claim, put together in their order. -/
import Derived.Deep.RegionHeldLaw
import Derived.BigRegion
import Derived.Deep.Slices
import Derived.ProofKit
import Derived.Deep.Cut
import Derived.Deep.CutRange
import Derived.Test.YtjgepcifknmdhaaBase1
import Derived.Test.YtjgepcifknmdhaaBase2
import Derived.Test.YtjgepcifknmdhaaBase3
import Derived.Test.YtjgepcifknmdhaaBase4
import Derived.Test.YtjgepcifknmdhaaBase5
import Derived.Test.YtjgepcifknmdhaaBase6
/- What the laws stand on: Has, first; an append of two edges, of a slice of edges, inside a region that draws its order. -/
namespace Go.Proofs.Ytjgepcifknmdhaa
open Go.RowKit

theorem isRecs_nil {N : Nat} {w : World} {a : Option Addr} {len cap : Nat} {Z : Nat → Nat → Int} (h : IsRecs N w a len cap Z) : a = none → cap = 0 := by
  rcases h with ⟨_, _, h⟩ | ⟨x, h, _⟩
  · exact fun _ => h
  · rintro rfl; cases h
/-- The edges of a slice that came in. -/
def edgesOf (len : Nat) (Z : Nat → Nat → Int) : List En := (List.range len).map fun i => (Z i 0, Z i 1)
theorem edges_len (len : Nat) (Z : Nat → Nat → Int) : (edgesOf len Z).length = len := by simp [edgesOf]
theorem edges_at {len : Nat} {Z : Nat → Nat → Int} {i : Nat} (hi : i < len) : (edgesOf len Z).getD i (0, 0) = (Z i 0, Z i 1) := by
  simp [edgesOf, List.getD, hi]
theorem re_recs {B : Nat} {w : World} {a : Option Addr} {len cap : Nat} {Z : Nat → Nat → Int} (h : RecsB 2 B w a len Z) : Re w (.slice a len cap) (edgesOf len Z) := by
  refine ⟨a, cap, by rw [edges_len], ?_⟩
  rw [edges_len]
  rcases h with h | ⟨b, off, e, _, hc⟩
  · exact .inl h
  · refine .inr ⟨b, off, e, fun i hi => ?_⟩
    rw [edges_at hi]
    exact ⟨hc i hi 0 (by omega), hc i hi 1 (by omega)⟩
/-- A slice of integers that came in is read. -/
theorem rd_seg {w : World} {a : Option Addr} {len cap : Nat} {l : List Int} (h : SegK .i64 w a len l) : Rd w (.slice a len cap) l := by
  have e := h.1
  exact ⟨a, cap, by rw [e], by rw [e]; exact h⟩
set_option maxRecDepth 100000 in
theorem has_any (n : Int) {v : Value} {l : List Int} (w : World) (hr : Rd w v l) (hm : l.length ≤ 100000) :
    Calls Try.prog 32 #[v, .int .i64 n] w fun e w' => e = .returned (.bool (hasB n l)) ∧ w' = w := by
  obtain ⟨a, cap, rfl, hs⟩ := hr
  have Hs := hide hs
  clear hs
  go_enter Try.func32, Try.ntmps32
  go_wp2
  go_loop [5] (fun i => ∃ k : Nat, k ≤ l.length ∧ i = .int .i64 k ∧ Hid (∀ j, j < k → n ≠ l.getD j 0)) (fun i => l.length - (intOf i).toNat)
  case atStart => exact ⟨0, Nat.zero_le _, rfl, fun j hj => by omega⟩
  case round =>
    obtain ⟨k, hk, rfl, hno⟩ := hrel
    by_cases hlt : k < l.length
    · obtain ⟨b, off, rfl, hcell⟩ := seg_at (unhide Hs) hlt
      obtain ⟨x, hx⟩ : ∃ x, x = l.getD k 0 := ⟨_, rfl⟩
      rw [← hx] at hcell
      replace hx := hide hx
      by_cases he : x = n
      · have e1 : Hid (hasB n l = true) := has_yes n l k hlt (by rw [← unhide hx, he])
        have hb : (x == n) = true := beq_iff_eq.2 he
        clear he
        go_wp2
        go_ret
        exact ⟨by rw [unhide e1]; rfl, rfl⟩
      · have hb : (x == n) = false := beq_eq_false_iff_ne.2 he
        have He : Hid (n ≠ x) := fun e => he e.symm
        clear he
        go_wp2
        go_round
        case rel => exact ⟨k + 1, by omega, by go_num, fun j hj => by
          rcases (show j < k ∨ j = k by omega) with h | rfl
          · exact unhide hno j h
          · rw [← unhide hx]; exact unhide He⟩
        case measure => simp [intOf]; omega
    · have e1 : Hid (hasB n l = false) := has_no n l (fun j hj => unhide hno j (by omega))
      go_wp2
      go_ret
      exact ⟨by rw [unhide e1]; rfl, rfl⟩
theorem circ_two : circD [(1, 2), (2, 1)] = [1, 2] := by
  symm
  apply circ_eq
  have e : ∀ a b, CE [(1, 2), (2, 1)] a b ↔ (a = 1 ∧ b = 2) ∨ (a = 2 ∧ b = 1) := fun a b => by simp [CE]
  refine .inr ⟨1, [1], 2, rfl, ⟨2, (e _ _).2 (.inl ⟨rfl, rfl⟩), Rch.one ((e _ _).2 (.inr ⟨rfl, rfl⟩))⟩, ?_, ?_, (e _ _).2 (.inr ⟨rfl, rfl⟩)⟩
  · rintro n ⟨t, h, _⟩
    rcases (e _ _).1 h with ⟨rfl, _⟩ | ⟨rfl, _⟩ <;> decide
  · refine Way.more (p := []) (v := 1) (m := 2) Way.one ?_ ((e _ _).2 (.inl ⟨rfl, rfl⟩)) (by decide) ?_ ?_
    · intro h
      rcases (e _ _).1 h with ⟨_, h⟩ | ⟨h, _⟩ <;> exact absurd h (by decide)
    · refine .step (by decide) ((e _ _).2 (.inr ⟨rfl, rfl⟩)) (.refl (by decide))
    · intro m' hm h
      rcases (e _ _).1 h with ⟨_, rfl⟩ | ⟨h, _⟩
      · exact absurd hm (by decide)
      · exact absurd h (by decide)
theorem circ_none : circD [] = [] := by
  symm
  apply circ_eq
  exact .inl ⟨rfl, fun n ⟨t, h, _⟩ => by cases h⟩
theorem re_two (w : World) : Re (w.alloc (.cells #[.int .i64 1, .int .i64 2, .int .i64 2, .int .i64 1] 41)) (.slice (some ⟨w.heap.size, 0, none⟩) 2 2) [(1, 2), (2, 1)] := by
  refine ⟨_, 2, rfl, .inr ⟨w.heap.size, 0, rfl, fun i hi => ?_⟩⟩
  have h := heap_alloc_new w (.cells #[.int .i64 1, .int .i64 2, .int .i64 2, .int .i64 1] 41)
  have hi2 : i < 2 := hi
  generalize w.alloc (.cells #[.int .i64 1, .int .i64 2, .int .i64 2, .int .i64 1] 41) = W at h ⊢
  match i, hi2 with
  | 0, _ => exact ⟨by simp [World.cell?, h], by simp [World.cell?, h]⟩
  | 1, _ => exact ⟨by simp [World.cell?, h], by simp [World.cell?, h]⟩
set_option maxRecDepth 100000 in
theorem fst_any (w : World) : Calls Try.prog 10 #[] w fun e w' => e = .returned (.bool true) ∧ Below w.heap.size w w' := by
  have C1 := hide (circle_any _ (re_two w) (by decide))
  have b1 := hide (below_new w (.cells #[.int .i64 1, .int .i64 2, .int .i64 2, .int .i64 1] 41))
  rw [circ_two] at C1
  go_enter Try.func10, Try.ntmps10
  go_wp2_with fail
  refine (unhide C1).mono ?_
  rintro e w1 ⟨ov, rfl, i1, _, _, b2⟩
  have b3 := hide (below_then (unhide b1) b2)
  have C2 := hide (ints_any ov (.slice (some ⟨w1.heap.size, 0, none⟩) 2 2) [1, 2] [1, 2] _ (i1.rd.next (below_new w1 (.cells #[.int .i64 1, .int .i64 2] 3))) ⟨_, 2, rfl, seg2 w1 1 2⟩ (by decide) (by decide))
  have b4 := hide (below_add (unhide b3) (.cells #[.int .i64 1, .int .i64 2] 3))
  rw [show (([1, 2] : List Int) == [1, 2]) = true from rfl] at C2
  clear i1 b2
  go_wp2_with fail
  refine (unhide C2).mono ?_
  rintro e w2 ⟨rfl, b5⟩
  have b6 := hide (below_then (unhide b4) b5)
  have C3 := hide (circle_any w2 (re_nil w2 none 0) (by decide))
  rw [circ_none] at C3
  clear b5
  go_wp2_with fail
  refine (unhide C3).mono ?_
  rintro e w3 ⟨ov3, rfl, i3, _, _, b7⟩
  have b8 := hide (below_then (unhide b6) b7)
  obtain ⟨a3, c3, rfl⟩ := i3.form
  clear i3 b7
  go_wp2
  go_ret
  exact ⟨rfl, unhide b8⟩
set_option maxRecDepth 100000 in
/-- Edges more, behind the others, out of a block that is known whole. -/
theorem step_new {w : World} {ops : Array Oper} {o : Oper} {a : Act} {K : Act → World → Prop} {Q : Exit → Act → World → Prop} {E : Prop} (hgd : o.guard = none) (s x : Operand)
    (ho : o.op = .call { callee := .builtin .append, args := #[s, x], argTypes := #[22, 22] }) (base : Nat) (v : Value) (l m : List En) (q r : Nat) (hs : a.eval s = v) (hown : Pr 41 base v l w) (N : Nat)
    (hx : a.eval x = .slice (some ⟨N, 0, none⟩) q q) (hN : w.heap[N]? = some (.cells (pairs m).toArray 41 (0, 0))) (hq : m.length = q) (hr : l.length + q = r) (hm : 0 < q) (hb : base ≤ w.heap.size) (hn : r < 10000000)
    (h : ∀ g cap w', Pr 41 base (.slice (some ⟨g, 0, none⟩) r cap) (l ++ m) w' → w.grownBy w' v.ownBlock → K (a.put o.dst (.slice (some ⟨g, 0, none⟩) r cap)) w') :
    if Region.wanted o (yielded ops a.tmps) = true then Oper.wp Try.prog o a w K Q else E := by
  subst hq hr
  obtain ⟨i3, hi3, hz0, hz1, hz2⟩ := info_parts inf39
  refine step_append_lies w hgd s x 22 ho base 41 i3 _ 2 16 Try.underlying22 hi3 hz0 hz1 hz2 rfl (by decide) v l.length _ hs hown ⟨N, 0, none⟩ _ _ (pairs m) hx (pairs_len m) (World.news_of_block hN) (pairs_one m) hm (by unfold maxLen; omega) (by omega) hb _ rfl ?_
  intro g cap w' a1 a2 _ _
  refine h g cap w' ?_ a2
  unfold Pr
  rw [List.length_append, pairs_app]
  exact a1
theorem below_dnew (w : World) (o : Obj) : Below w.heap.size w (w.drew.alloc o) := (Below.refl _ _).drew.alloc (Nat.le_refl _) _
theorem heap_d2a (w : World) (e o : Array Value) (t u : TypeId) : ((w.drew.alloc (.cells e t)).alloc (.cells o u)).heap[w.heap.size + 1]? = some (.cells o u (0, 0)) := by
  have h := heap_alloc_new (w.drew.alloc (.cells e t)) (.cells o u)
  rw [show (w.drew.alloc (.cells e t)).heap.size = w.heap.size + 1 by simp] at h
  exact h
theorem heap_d2b (w : World) (e o : Array Value) (t u : TypeId) : ((w.drew.alloc (.cells o u)).alloc (.cells e t)).heap[w.heap.size]? = some (.cells o u (0, 0)) := by
  have h := heap_alloc_new w.drew (.cells o u)
  exact ((below_new (w.drew.alloc (.cells o u)) (.cells e t)).block _ (heap_lt h)).trans h
theorem heap_dnew (w : World) (o : Array Value) (t : TypeId) : (w.drew.alloc (.cells o t)).heap[w.heap.size]? = some (.cells o t (0, 0)) := heap_alloc_new w.drew _
/-- The cells of a slice of edges that is read. -/
theorem re_news {w : World} {b off n c : Nat} {l : List En} (h : Re w (.slice (some ⟨b, off, none⟩) n c) l) : ∀ j u, (pairs l)[j]? = some u → w.cell? ((⟨b, off, none⟩ : Addr).add j) = some u := by
  intro j u hj
  have hjl : j < (pairs l).length := by
    rcases Nat.lt_or_ge j (pairs l).length with k | k
    · exact k
    · rw [List.getElem?_eq_none k] at hj; cases hj
  rw [pairs_len] at hjl
  obtain ⟨b', off', e, _, d1, d2⟩ := h.at (i := j / 2) (by omega)
  injection e with e
  have e1 : b = b' := by injection e
  have e2 : off = off' := by injection e
  subst e1 e2
  rw [addr_add]
  rcases Nat.mod_two_eq_zero_or_one j with k | k
  · have ej : j = j / 2 * 2 := by omega
    rw [ej, pairs_fst l _ (by omega)] at hj
    rw [ej, d1]
    exact hj
  · have ej : j = j / 2 * 2 + 1 := by omega
    rw [ej, pairs_snd l _ (by omega)] at hj
    rw [ej, ← Nat.add_assoc, d2]
    exact hj
set_option maxRecDepth 100000 in
/-- A slice of edges, behind the others. -/
theorem run_app_re (w : World) (ty : TypeId) (base : Nat) (v : Value) (l : List En) (hown : Pr 41 base v l w) (va : Option Addr) (n c : Nat) (m : List En) (hr : Re w (.slice va n c) m) (hnil : va = none → c = 0)
    (hn : l.length + m.length ≤ 10000) (hb : base ≤ w.heap.size) :
    ∃ v' w', (Builtin.append_ #[22, 22] ty #[v, .slice va n c]).run Try.prog w = .ok v' w' ∧ Pr 41 base v' (l ++ m) w' ∧ w.grownBy w' v.ownBlock := by
  obtain ⟨i3, hi3, hz0, hz1, hz2⟩ := info_parts inf39
  have en : n = m.length := by
    obtain ⟨a, cap, e⟩ := hr.form
    injection e
  subst en
  cases va with
  | none =>
    obtain rfl := hnil rfl
    have hm0 : m.length = 0 := by
      obtain ⟨a, cap, e, h | ⟨b, off, h, _⟩⟩ := hr
      · exact h
      · injection e with e1 _ _
        rw [h] at e1; cases e1
    obtain rfl : m = [] := List.eq_nil_of_length_eq_zero hm0
    have hr := run_append_owned_none (P := Try.prog) (w := w) base 22 ty 41 i3 2 Try.underlying22 hi3 v l.length _ hown
    exact ⟨v, w, hr, by rw [List.append_nil]; exact hown, ⟨rfl, rfl, rfl, Nat.le_refl _, fun _ _ _ => rfl⟩⟩
  | some ad =>
    have hnews : ∀ j u, (pairs m)[j]? = some u → w.cell? (ad.add j) = some u := by
      obtain ⟨a, cap, e, h | ⟨b, off, h, _⟩⟩ := id hr
      · obtain rfl : m = [] := List.eq_nil_of_length_eq_zero h
        intro j u hj
        simp [pairs] at hj
      · injection e with e1 _ _
        rw [h] at e1
        injection e1 with e1
        subst e1
        exact re_news hr
    obtain ⟨v', w', hr, h2, h3, _⟩ := run_append_own (P := Try.prog) w base 22 ty 41 i3 _ 2 16 Try.underlying22 hi3 hz0 hz1 hz2 rfl (by decide) v l.length _ hown ad m.length c _ (pairs_len m) hnews (pairs_one m) (by unfold maxLen; omega) (by omega) hb
    refine ⟨v', w', hr, ?_, h3⟩
    unfold Pr
    rw [List.length_append, pairs_app]
    exact h2
theorem step_app_re {w : World} {ops : Array Oper} {o : Oper} {a : Act} {K : Act → World → Prop} {Q : Exit → Act → World → Prop} {E : Prop} (hgd : o.guard = none) (s x : Operand)
    (ho : o.op = .call { callee := .builtin .append, args := #[s, x], argTypes := #[22, 22] }) (base : Nat) (v : Value) (l m : List En) (hs : a.eval s = v) (hown : Pr 41 base v l w) (va : Option Addr) (n c : Nat)
    (hx : a.eval x = .slice va n c) (hr : Re w (.slice va n c) m) (hnil : va = none → c = 0) (hn : l.length + m.length ≤ 10000) (hb : base ≤ w.heap.size)
    (h : ∀ v' w', Pr 41 base v' (l ++ m) w' → w.grownBy w' v.ownBlock → K (a.put o.dst v') w') :
    if Region.wanted o (yielded ops a.tmps) = true then Oper.wp Try.prog o a w K Q else E := by
  have hw : Region.wanted o (yielded ops a.tmps) = true := by simp [Region.wanted, hgd]
  rw [if_pos hw]
  obtain ⟨v', w', e, h2, h3⟩ := run_app_re w o.type base v l hown va n c m hr hnil hn hb
  unfold Oper.wp execOp
  simp only [ho, resolve, invoke, builtin, Sem.run_bind, Sem.run_pure, Result.andThen_ok, List.map_toArray, List.map_cons, List.map_nil, hs, hx, e]
  exact h v' w' h2 h3
theorem pr_lit (w : World) : Pr 41 w.heap.size (.slice (some ⟨w.heap.size, 0, none⟩) 0 0) [] (w.alloc (.cells #[] 41)) := World.ownsRow_lit w #[] 0 (Nat.le_refl _) (Nat.zero_le _) rfl
theorem pr_lit2 (w : World) (z : Array Value) (t : TypeId) : Pr 41 w.heap.size (.slice (some ⟨w.heap.size + 1, 0, none⟩) 0 0) [] ((w.drew.alloc (.cells z t)).alloc (.cells #[] 41)) := by
  have h := (pr_lit (w.drew.alloc (.cells z t))).down (B' := (w.drew.alloc (.cells z t)).heap.size) (B := w.heap.size) (below_dnew w _).size
  rw [show (w.drew.alloc (.cells z t)).heap.size = w.heap.size + 1 by simp] at h
  exact h
/-- A slice of edges behind an empty slice literal; w0 is the world ahead of the region. -/
theorem step_app0 (w0 : World) {w : World} {ops : Array Oper} {o : Oper} {a : Act} {K : Act → World → Prop} {Q : Exit → Act → World → Prop} {E : Prop} (hgd : o.guard = none) (dst : Option Nat) (hdst : o.dst = dst) (s x : Operand)
    (ho : o.op = .call { callee := .builtin .append, args := #[s, x], argTypes := #[22, 22] }) (m : List En) (N : Nat) (hs : a.eval s = .slice (some ⟨N, 0, none⟩) 0 0) (hw0 : Below w0.heap.size w0 w) (hown : Pr 41 w0.heap.size (.slice (some ⟨N, 0, none⟩) 0 0) [] w) (va : Option Addr) (n c : Nat)
    (hx : a.eval x = .slice va n c) (hr : Re w0 (.slice va n c) m) (hnil : va = none → c = 0) (hn : m.length ≤ 10000)
    (h : ∀ v' w', Pr 41 w0.heap.size v' m w' → Below w0.heap.size w0 w' → (∀ k o, w.heap[k]? = some o → k ≠ N → w'.heap[k]? = some o) → K (a.put dst v') w') :
    if Region.wanted o (yielded ops a.tmps) = true then Oper.wp Try.prog o a w K Q else E := by
  subst hdst
  refine step_app_re hgd s x ho w0.heap.size _ [] m hs hown va n c hx (hr.next hw0) hnil (by simpa using hn) hw0.size ?_
  intro v' w' a1 a2
  rw [List.nil_append] at a1
  refine h v' w' a1 (hw0.trans (grown_below a2 hw0.size fun g hg => ?_)) fun k o hk hne => ?_
  · exact (hown.lt g hg).1
  · refine (a2.block k (heap_lt hk) ?_).trans hk
    intro e
    apply hne
    have : some k = some N := e
    injection this
theorem step_new0 (w0 : World) {w : World} {ops : Array Oper} {o : Oper} {a : Act} {K : Act → World → Prop} {Q : Exit → Act → World → Prop} {E : Prop} (hgd : o.guard = none) (dst : Option Nat) (hdst : o.dst = dst) (s x : Operand)
    (ho : o.op = .call { callee := .builtin .append, args := #[s, x], argTypes := #[22, 22] }) (v : Value) (l m : List En) (q r : Nat) (hs : a.eval s = v) (hw0 : Below w0.heap.size w0 w) (hown : Pr 41 w0.heap.size v l w) (N : Nat)
    (hx : a.eval x = .slice (some ⟨N, 0, none⟩) q q) (hN : w.heap[N]? = some (.cells (pairs m).toArray 41 (0, 0))) (hq : m.length = q) (hr : l.length + q = r) (hm : 0 < q) (hn : r < 10000000)
    (h : ∀ g cap w', Pr 41 w0.heap.size (.slice (some ⟨g, 0, none⟩) r cap) (l ++ m) w' → Below w0.heap.size w0 w' → K (a.put dst (.slice (some ⟨g, 0, none⟩) r cap)) w') :
    if Region.wanted o (yielded ops a.tmps) = true then Oper.wp Try.prog o a w K Q else E := by
  subst hdst
  refine step_new hgd s x ho w0.heap.size v l m q r hs hown N hx hN hq hr hm hw0.size hn ?_
  intro g cap w' a1 a2
  exact h g cap w' a1 (hw0.trans (grown_below a2 hw0.size fun g hg => (hown.lt g hg).1))
section
open Go.Deep Go.WideShapes
/-- Such a struct's cells. -/
theorem open_rec {H : Type} {enc : TypeId × Value → H} {P : Program} {w : World} {base : Nat} {spare : Nat → Bool} {held : Bool} {e : TypeId} {N fuel : Nat} {cs : List Value} {x : DataW H × List MemPlace} (hp : plainInts P e N = true)
    (h : DataW.trod enc P w base spare held fuel e cs = some x) : cs.length = N ∧ ∃ Z : Nat → Int, ∀ j, j < N → cs[j]? = some (.int .i64 (Z j)) ∧ (Lit.int .i64 (Z j)).wf = true := by
  obtain ⟨fs, he, hN, ce, hall⟩ := plainInts_out hp
  obtain ⟨xs, k, hk, hxy, hlen, hxl, hf⟩ := DataW.trod_struct he h
  refine ⟨by omega, choose_lt (p := fun j z => cs[j]? = some (.int .i64 z) ∧ (Lit.int .i64 z).wf = true) ?_⟩
  intro j hj
  have hj' : j < fs.size := by omega
  obtain ⟨o1, o2, o3⟩ := hall j fs[j] (Array.getElem?_eq_getElem hj')
  have g := hf j fs[j] (Array.getElem?_eq_getElem hj')
  rw [o1, o2] at g
  have hjc : j < cs.length := by omega
  rw [List.drop_eq_getElem_cons hjc, List.take_succ_cons, List.take_zero, List.getElem?_eq_getElem (by omega)] at g
  obtain ⟨z, hz, _, hw⟩ := DataW.trod_int o3 g
  refine ⟨z, ?_, hw⟩
  rw [List.getElem?_eq_getElem hjc]
  simpa using hz
/-- An edge by value. -/
abbrev Cf := En
def cv (c : Cf) : Value := .agg #[.int .i64 c.1, .int .i64 c.2]
theorem conf_plain : plainInts Try.prog 41 2 = true := by kernel_rfl
theorem list2 {l : List Value} (h : l.length = 2) {Z : Nat → Int} (hz : ∀ j, j < 2 → l[j]? = some (.int .i64 (Z j))) : l = [.int .i64 (Z 0), .int .i64 (Z 1)] := by
  apply List.ext_getElem?
  intro j
  by_cases hj : j < 2
  · rw [hz j hj]
    have : j = 0 ∨ j = 1 := by omega
    rcases this with rfl | rfl <;> rfl
  · rw [List.getElem?_eq_none (by omega), List.getElem?_eq_none (by simp; omega)]
set_option maxRecDepth 100000 in
theorem open_conf {H : Type} {enc : TypeId × Value → H} {w : World} {r : Reach} {b0 base : Nat} {spare : Nat → Bool} {held : Bool} {fuel : Nat} {v : Value} {x : DataW H × List MemPlace}
    (hv : Value.okWide Try.prog w r b0 41 v) (h : DataW.trod enc Try.prog w base spare held fuel 41 v.cells.toList = some x) : ∃ c : Cf, v = cv c := by
  obtain ⟨fs, he, _⟩ := plainInts_out conf_plain
  obtain ⟨cs, rfl, _⟩ := okWide_struct he hv
  obtain ⟨h1, Z, h2⟩ := open_rec conf_plain h
  have h3 := list2 h1 fun j hj => (h2 j hj).1
  refine ⟨(Z 0, Z 1), ?_⟩
  unfold cv
  congr 1
  apply Array.toList_inj.1
  simpa [Value.cells] using h3
end
end Go.Proofs.Ytjgepcifknmdhaa

/- GraphMore. -/
namespace Go.Proofs.Ytjgepcifknmdhaa
open Go.RowKit
set_option linter.unusedVariables false

/-- Two rising lists of the same numbers are one. -/
theorem up_ext : ∀ (l m : List Int), Up l → Up m → (∀ x, x ∈ l ↔ x ∈ m) → l = m
  | [], [], _, _, _ => rfl
  | [], b :: m, _, _, h => absurd ((h b).2 (List.mem_cons_self ..)) (by simp)
  | a :: l, [], _, _, h => absurd ((h a).1 (List.mem_cons_self ..)) (by simp)
  | a :: l, b :: m, hl, hm, h => by
    have hl' := List.pairwise_cons.1 hl
    have hm' := List.pairwise_cons.1 hm
    have e : a = b := by
      rcases List.mem_cons.1 ((h a).1 (List.mem_cons_self ..)) with h1 | h1
      · exact h1
      · rcases List.mem_cons.1 ((h b).2 (List.mem_cons_self ..)) with h2 | h2
        · exact h2.symm
        · have := hl'.1 _ h2; have := hm'.1 _ h1; omega
    subst e
    rw [up_ext l m hl'.2 hm'.2 fun x => ?_]
    constructor
    · intro hx
      rcases List.mem_cons.1 ((h x).1 (List.mem_cons_of_mem _ hx)) with h1 | h1
      · have := hl'.1 _ hx; omega
      · exact h1
    · intro hx
      rcases List.mem_cons.1 ((h x).2 (List.mem_cons_of_mem _ hx)) with h1 | h1
      · have := hm'.1 _ hx; omega
      · exact h1
theorem canon_congr {l m : List Int} (h : ∀ x, x ∈ l ↔ x ∈ m) : canon l = canon m :=
  up_ext _ _ (canon_facts l).2 (canon_facts m).2 fun x => by rw [(canon_facts l).1, (canon_facts m).1, h]
/-- Lists of the same edges. -/
theorem same_edges {l m : List En} (h : ∀ e, e ∈ l ↔ e ∈ m) : (∀ n, onB l n = onB m n) ∧ canon (nodL l) = canon (nodL m) ∧ (∀ n, canon (nexL n l) = canon (nexL n m)) ∧ (Circ (CE l) (circD l) → circD l = circD m) := by
  have he : ∀ x y, CE l x y ↔ CE m x y := fun x y => h (x, y)
  refine ⟨fun n => ?_, canon_congr fun x => ?_, fun n => canon_congr fun x => ?_, fun c => circ_eq (c.congr he)⟩
  · rw [Bool.eq_iff_iff, onB_iff, onB_iff]
    exact ⟨fun o => o.mono fun x y => (he x y).1, fun o => o.mono fun x y => (he x y).2⟩
  · rw [nod_mem, nod_mem]
    exact ⟨fun ⟨e, h1, h2⟩ => ⟨e, (h e).1 h1, h2⟩, fun ⟨e, h1, h2⟩ => ⟨e, (h e).2 h1, h2⟩⟩
  · rw [nex_mem, nex_mem, h]
/-- Each of them twice, from the last to the first: behind k of them. -/
def bkL (l : List En) : Nat → List En
  | 0 => []
  | k + 1 => bkL l k ++ [l.getD (l.length - 1 - k) (0, 0), l.getD (l.length - 1 - k) (0, 0)]
theorem bk_len (l : List En) : ∀ k, (bkL l k).length = 2 * k
  | 0 => rfl
  | k + 1 => by show (bkL l k ++ _).length = _; rw [List.length_append, bk_len l k]; simp; omega
theorem bk_mem (l : List En) (e : En) : ∀ k, e ∈ bkL l k ↔ ∃ j, j < k ∧ e = l.getD (l.length - 1 - j) (0, 0)
  | 0 => by simp [bkL]
  | k + 1 => by
    show e ∈ bkL l k ++ _ ↔ _
    rw [List.mem_append, bk_mem l e k]
    simp only [List.mem_cons, List.not_mem_nil, or_false, or_self]
    constructor
    · rintro (⟨j, h1, h2⟩ | h)
      · exact ⟨j, by omega, h2⟩
      · exact ⟨k, by omega, h⟩
    · rintro ⟨j, h1, h2⟩
      rcases (show j < k ∨ j = k by omega) with h3 | rfl
      · exact .inl ⟨j, h3, h2⟩
      · exact .inr h2
theorem bk_all (l : List En) (e : En) : e ∈ bkL l l.length ↔ e ∈ l := by
  rw [bk_mem]
  constructor
  · rintro ⟨j, h1, rfl⟩
    have h2 : l.length - 1 - j < l.length := by omega
    rw [List.getD_eq_getElem?_getD, List.getElem?_eq_getElem h2]
    exact List.getElem_mem h2
  · intro h
    obtain ⟨i, hi, rfl⟩ := List.getElem_of_mem h
    refine ⟨l.length - 1 - i, by omega, ?_⟩
    have e1 : l.length - 1 - (l.length - 1 - i) = i := by omega
    rw [e1, List.getD_eq_getElem?_getD, List.getElem?_eq_getElem hi]
    rfl
theorem more_plain (l : List En) (x : En) : (∀ n, onB (bkL l l.length) n = onB l n) ∧ canon (nodL (bkL l l.length)) = canon (nodL l) ∧ (∀ n, canon (nexL n (bkL l l.length)) = canon (nexL n l)) ∧
    (Circ (CE l) (circD l) → circD (bkL l l.length) = circD l) ∧ ∀ n, onB l n = true → onB (l ++ [x]) n = true := by
  obtain ⟨h1, h2, h3, h4⟩ := same_edges (fun e => (bk_all l e).symm)
  refine ⟨fun n => (h1 n).symm, h2.symm, fun n => (h3 n).symm, fun c => (h4 c).symm, fun n h => ?_⟩
  rw [onB_iff] at h ⊢
  exact h.mono fun a b hab => List.mem_append_left _ hab
end Go.Proofs.Ytjgepcifknmdhaa

/- GraphGone. -/
namespace Go.Proofs.Ytjgepcifknmdhaa
open Go.RowKit
set_option linter.unusedVariables false

/-- Everyone of a circle is on one. -/
theorem Circ.on {E : Int → Int → Prop} {c : List Int} (h : Circ E c) : ∀ x ∈ c, On E x := by
  rcases h with ⟨rfl, _⟩ | ⟨s, p, v, rfl, _, _, hw, e⟩
  · intro x hx; cases hx
  · intro x hx
    obtain ⟨a, b, hab⟩ := List.append_of_mem hx
    have r1 : Rch E x v := (hw.on a x b p v hab rfl).rch
    have r2 : Rch E s x := hw.reach x hx
    cases r1 with
    | refl _ => exact ⟨s, e, r2⟩
    | step _ e1 r1 => exact ⟨_, e1, (Av.snoc r1 e id).trans r2⟩
theorem On.end {E : Int → Int → Prop} {x : Int} (h : On E x) : ∃ y, E x y := by
  obtain ⟨t, e, _⟩ := h
  exact ⟨t, e⟩
/-- What goes without somebody does not name him. -/
theorem wo_nod {gone : List Int} {l : List En} {x : Int} (h : x ∈ nodL (woL gone l)) : x ∉ gone := by
  obtain ⟨e, he, h1⟩ := nod_mem.1 h
  obtain ⟨_, h2, h3⟩ := wol_mem.1 he
  rcases h1 with rfl | rfl
  · exact h2
  · exact h3
theorem wo_on {gone : List Int} {l : List En} {x : Int} (h : onB (woL gone l) x = true) : onB l x = true := by
  rw [onB_iff] at h ⊢
  exact h.mono fun a b hab => (wol_mem.1 hab).1
theorem hasB_false {x : Int} {l : List Int} (h : x ∉ l) : hasB x l = false :=
  has_no x l fun j hj e => h (e ▸ at_mem hj)
/-- The circle without its first one. -/
theorem circ_gone {l : List En} {a : Int} (h : Circ (CE (woL [a] l)) (circD (woL [a] l))) : hasB a (circD (woL [a] l)) = false := by
  apply hasB_false
  intro hm
  obtain ⟨y, hy⟩ := (h.on a hm).end
  exact (wol_mem.1 hy).2.1 (List.mem_cons_self ..)
theorem wo_nil (l : List En) : woL [] l = l := by
  unfold woL
  rw [List.filter_eq_self]
  intro e _
  simp
theorem wo_all (l : List En) : woL (canon (nodL l)) l = [] := by
  unfold woL
  rw [List.filter_eq_nil_iff]
  intro e he
  have : e.1 ∈ canon (nodL l) := ((canon_facts _).1 _).2 (nod_mem.2 ⟨e, he, .inl rfl⟩)
  simp [this]
end Go.Proofs.Ytjgepcifknmdhaa

/- GraphCircle: the plain part. -/
namespace Go.Proofs.Ytjgepcifknmdhaa
set_option linter.unusedVariables false

theorem snoc_getD {p : List Int} {v : Int} {t : Nat} (h : t < p.length) : (p ++ [v]).getD t 0 = p.getD t 0 := by
  rw [List.getD_eq_getElem?_getD, List.getD_eq_getElem?_getD, List.getElem?_append_left h]
theorem snoc_last {p : List Int} {v : Int} : (p ++ [v]).getD p.length 0 = v := by
  rw [List.getD_eq_getElem?_getD, List.getElem?_append_right (Nat.le_refl _)]
  simp
theorem Way.pos {E : Int → Int → Prop} {s : Int} {c : List Int} (h : Way E s c) : 0 < c.length := List.length_pos_iff.2 h.ne
theorem Way.at0 {E : Int → Int → Prop} {s : Int} {c : List Int} (h : Way E s c) : c.getD 0 0 = s := by
  obtain ⟨r, e⟩ := h.head
  rw [e]; rfl
/-- From each of the way an edge to the next one. -/
theorem Way.edges {E : Int → Int → Prop} {s : Int} {c : List Int} (h : Way E s c) : ∀ t, t + 1 < c.length → E (c.getD t 0) (c.getD (t + 1) 0) := by
  induction h with
  | one => intro t ht; simp at ht
  | @more p v m hw _ e _ _ _ ih =>
    intro t ht
    have hl : (p ++ [v] ++ [m]).length = p.length + 2 := by simp
    rw [hl] at ht
    rcases (show t + 1 < p.length + 1 ∨ t = p.length by omega) with h | rfl
    · have h1 : t < (p ++ [v]).length := by simp; omega
      have h2 : t + 1 < (p ++ [v]).length := by simp; omega
      rw [snoc_getD h1, snoc_getD h2]
      exact ih t h2
    · have h1 : p.length < (p ++ [v]).length := by simp
      have h2 : p.length + 1 = (p ++ [v]).length := by simp
      rw [snoc_getD h1, snoc_last, h2, snoc_last]
      exact e
/-- What a circle is. -/
theorem Circ.tells {E : Int → Int → Prop} {c : List Int} (h : Circ E c) : (∀ t, t < c.length → E (c.getD t 0) (c.getD ((t + 1) % c.length) 0)) ∧ (∀ t k, k < t → t < c.length → c.getD k 0 ≠ c.getD t 0) ∧ (∀ t, 0 < t → t < c.length → c.getD 0 0 < c.getD t 0) := by
  rcases h with ⟨rfl, _⟩ | ⟨s, p, v, rfl, hs, hl, hw, he⟩
  · exact ⟨fun t ht => by simp at ht, fun t k _ ht => by simp at ht, fun t _ ht => by simp at ht⟩
  · have nd := hw.nodup
    have hne : ∀ t k, k < t → t < (p ++ [v]).length → (p ++ [v]).getD k 0 ≠ (p ++ [v]).getD t 0 := fun t k hkt ht e => by
      have h1 : k < (p ++ [v]).length := by omega
      rw [List.getD_eq_getElem?_getD, List.getD_eq_getElem?_getD, List.getElem?_eq_getElem h1, List.getElem?_eq_getElem ht] at e
      have := (List.getElem_inj nd).1 (show (p ++ [v])[k] = (p ++ [v])[t] from e)
      omega
    refine ⟨fun t ht => ?_, hne, fun t h0 ht => ?_⟩
    · have hlen : (p ++ [v]).length = p.length + 1 := by simp
      rcases (show t + 1 < (p ++ [v]).length ∨ t = p.length by omega) with h | rfl
      · rw [Nat.mod_eq_of_lt h]
        exact hw.edges t h
      · rw [hlen, Nat.mod_self, snoc_last, hw.at0]
        exact he
    · have ho : On E ((p ++ [v]).getD t 0) := Circ.on (.inr ⟨s, p, v, rfl, hs, hl, hw, he⟩) _ (at_mem ht)
      have h1 := hl _ ho
      have h2 := hne t 0 h0 ht
      rw [hw.at0] at h2 ⊢
      omega
/-- A list without doubles whose members are all in another one is no longer than that. -/
theorem nd_sub : ∀ (g n : List Int), g.Nodup → (∀ x ∈ g, x ∈ n) → g.length ≤ n.length
  | [], n, _, _ => Nat.zero_le _
  | x :: g, n, h, hs => by
    have h1 := List.nodup_cons.1 h
    have hx : x ∈ n := hs x (List.mem_cons_self ..)
    have ih := nd_sub g (n.erase x) h1.2 fun y hy => (List.mem_erase_of_ne (show y ≠ x from fun e => h1.1 (by rw [← e]; exact hy))).2 (hs y (List.mem_cons_of_mem _ hy))
    rw [List.length_erase_of_mem hx] at ih
    have : 0 < n.length := List.length_pos_of_mem hx
    show g.length + 1 ≤ _
    omega
theorem filter_lt {p q : Int → Bool} : ∀ (n : List Int), (∀ x ∈ n, p x = true → q x = true) → (∃ x ∈ n, q x = true ∧ p x = false) → (n.filter p).length < (n.filter q).length
  | [], _, ⟨x, h, _⟩ => by cases h
  | a :: n, h, ⟨x, hx, h1, h2⟩ => by
    have hle : ∀ m : List Int, (∀ x ∈ m, p x = true → q x = true) → (m.filter p).length ≤ (m.filter q).length := by
      intro m
      induction m with
      | nil => intro _; exact Nat.le_refl _
      | cons b m ih =>
        intro hm
        have := ih fun x hx => hm x (List.mem_cons_of_mem _ hx)
        rw [List.filter_cons, List.filter_cons]
        cases hp : p b
        · cases hq : q b
          · simpa using this
          · simp; omega
        · rw [hm b (List.mem_cons_self ..) hp]
          simpa using this
    rw [List.filter_cons, List.filter_cons]
    rcases List.mem_cons.1 hx with rfl | hx
    · rw [h1, h2]
      have := hle n fun y hy => h y (List.mem_cons_of_mem _ hy)
      simp; omega
    · have ih := filter_lt n (fun y hy => h y (List.mem_cons_of_mem _ hy)) ⟨x, hx, h1, h2⟩
      cases hp : p a
      · cases hq : q a
        · simpa using ih
        · simp; omega
      · rw [h a (List.mem_cons_self ..) hp]
        simpa using ih
open Classical in
/-- Where there is no circle, some one has no edge to one that is left. -/
theorem sink_is {E : Int → Int → Prop} {N G : List Int} (hno : ∀ n, ¬ On E n) (hN : ∀ x y, E x y → y ∈ N) : ∀ (k : Nat) (x : Int), (N.filter fun y => decide (Rch E x y)).length = k → x ∈ N → x ∉ G → ∃ z, z ∈ N ∧ z ∉ G ∧ ∀ y, E z y → y ∈ G := by
  intro k
  induction k using Nat.strongRecOn with
  | ind k ih =>
    intro x hk hx hg
    by_cases h : ∀ y, E x y → y ∈ G
    · exact ⟨x, hx, hg, h⟩
    · obtain ⟨y, hy⟩ := Classical.not_forall.1 h
      have h1 : E x y := Classical.byContradiction fun k => hy fun e => absurd e k
      have h2 : y ∉ G := fun k => hy fun _ => k
      refine ih _ ?_ y rfl (hN _ _ h1) h2
      rw [← hk]
      apply filter_lt
      · intro z _ hz
        rw [decide_eq_true_iff] at hz ⊢
        exact .step id h1 hz
      · refine ⟨x, hx, by rw [decide_eq_true_iff]; exact Rch.refl _ _, ?_⟩
        rw [decide_eq_false_iff_not]
        intro r
        exact hno x ⟨y, h1, r⟩
/-- The nodes that were taken away. -/
structure Tk (l : List En) (G : List Int) : Prop where
  nd : G.Nodup
  sub : ∀ x ∈ G, x ∈ canon (nodL l)
  off : ∀ x ∈ G, ¬ On (CE l) x
theorem Tk.nil (l : List En) : Tk l [] := { nd := List.nodup_nil, sub := fun x h => absurd h (by simp), off := fun x h => absurd h (by simp) }
/-- Nobody that is left is where x leads. -/
def Snk (l : List En) (G : List Int) (x : Int) : Prop := ∀ y, CE l x y → y ∈ G
theorem nex_wo {l : List En} {G : List Int} {x : Int} (hx : x ∉ G) : (canon (nexL x (woL G l))).length = 0 ↔ Snk l G x := by
  have key : ∀ y, y ∈ canon (nexL x (woL G l)) ↔ CE l x y ∧ y ∉ G := fun y => by
    rw [(canon_facts _).1, nex_mem, wol_mem]
    exact ⟨fun ⟨h1, _, h3⟩ => ⟨h1, h3⟩, fun ⟨h1, h3⟩ => ⟨h1, hx, h3⟩⟩
  constructor
  · intro h y hy
    rw [List.eq_nil_of_length_eq_zero h] at key
    exact Classical.byContradiction fun k => by have := (key y).2 ⟨hy, k⟩; cases this
  · intro h
    rcases Nat.eq_zero_or_pos (canon (nexL x (woL G l))).length with e | e
    · exact e
    · obtain ⟨h1, h2⟩ := (key _).1 (at_mem (i := 0) e)
      exact absurd (h _ h1) h2
theorem Tk.add {l : List En} {G : List Int} (h : Tk l G) {x : Int} (hx : x ∈ canon (nodL l)) (hg : x ∉ G) (hs : Snk l G x) : Tk l (G ++ [x]) := by
  refine ⟨?_, fun y hy => ?_, fun y hy => ?_⟩
  · rw [List.nodup_append]
    refine ⟨h.nd, by simp, fun a ha b hb e => hg ?_⟩
    rw [List.mem_singleton.1 hb] at e
    exact e ▸ ha
  · rcases List.mem_append.1 hy with k | k
    · exact h.sub y k
    · rw [List.mem_singleton.1 k]; exact hx
  · rcases List.mem_append.1 hy with k | k
    · exact h.off y k
    · rw [List.mem_singleton.1 k]
      rintro ⟨t, e, r⟩
      exact h.off t (hs t e) (On.next e r)
theorem Tk.le {l : List En} {G : List Int} (h : Tk l G) : G.length ≤ (canon (nodL l)).length := nd_sub _ _ h.nd h.sub
/-- Inside a round: G0 at its start, i nodes looked at. -/
def Rnd (l : List En) (G0 G : List Int) (i : Nat) : Prop := (∃ r, G = G0 ++ r) ∧ ∀ t, t < i → (canon (nodL l)).getD t 0 ∈ G ∨ ¬ Snk l G0 ((canon (nodL l)).getD t 0)
theorem Rnd.start (l : List En) (G : List Int) : Rnd l G G 0 := ⟨⟨[], by simp⟩, fun t h => absurd h (Nat.not_lt_zero _)⟩
theorem Rnd.has {l : List En} {G0 G : List Int} {i : Nat} (h : Rnd l G0 G i) (hx : (canon (nodL l)).getD i 0 ∈ G) : Rnd l G0 G (i + 1) := by
  refine ⟨h.1, fun t ht => ?_⟩
  rcases (show t < i ∨ t = i by omega) with k | rfl
  · exact h.2 t k
  · exact .inl hx
theorem Rnd.stays {l : List En} {G0 G : List Int} {i : Nat} (h : Rnd l G0 G i) (hx : ¬ Snk l G ((canon (nodL l)).getD i 0)) : Rnd l G0 G (i + 1) := by
  refine ⟨h.1, fun t ht => ?_⟩
  rcases (show t < i ∨ t = i by omega) with k | rfl
  · exact h.2 t k
  · refine .inr fun k => hx fun y hy => ?_
    obtain ⟨r, e⟩ := h.1
    rw [e]
    exact List.mem_append_left _ (k y hy)
theorem Rnd.goes {l : List En} {G0 G : List Int} {i : Nat} (h : Rnd l G0 G i) : Rnd l G0 (G ++ [(canon (nodL l)).getD i 0]) (i + 1) := by
  obtain ⟨⟨r, e⟩, h2⟩ := h
  refine ⟨⟨r ++ [_], by rw [e, List.append_assoc]⟩, fun t ht => ?_⟩
  rcases (show t < i ∨ t = i by omega) with k | rfl
  · rcases h2 t k with k | k
    · exact .inl (List.mem_append_left _ k)
    · exact .inr k
  · exact .inl (by simp)
/-- A round that is over has taken one more, where there is no circle and one is left. -/
theorem Rnd.over {l : List En} {G0 G : List Int} (h : Rnd l G0 G (canon (nodL l)).length) (hG : Tk l G0) (hno : ∀ n, ¬ On (CE l) n) : G0.length = (canon (nodL l)).length ∨ G0.length + 1 ≤ G.length := by
  by_cases hall : ∀ x ∈ canon (nodL l), x ∈ G0
  · left
    have h1 := hG.le
    have h2 := nd_sub (canon (nodL l)) G0 ((canon_facts _).2.imp fun hab e => by omega) hall
    omega
  · right
    obtain ⟨x, hx⟩ := Classical.not_forall.1 hall
    have h1 : x ∈ canon (nodL l) := Classical.byContradiction fun k => hx fun e => absurd e k
    have h2 : x ∉ G0 := fun k => hx fun _ => k
    have hin : ∀ a b, CE l a b → b ∈ canon (nodL l) := fun a b hab => ((canon_facts _).1 _).2 (nod_mem.2 ⟨(a, b), hab, .inr rfl⟩)
    obtain ⟨z, z1, z2, z3⟩ := sink_is hno hin _ x rfl h1 h2
    obtain ⟨t, ht, e⟩ := mem_at z1
    have hzG : z ∈ G := by
      rcases h.2 t ht with k | k
      · rw [e] at k; exact k
      · rw [e] at k; exact absurd z3 k
    obtain ⟨r, er⟩ := h.1
    rw [er] at hzG ⊢
    rcases List.mem_append.1 hzG with k | k
    · exact absurd k z2
    · have := List.length_pos_of_mem k
      rw [List.length_append]
      omega
/-- At the end. -/
theorem tk_end {l : List En} {G c : List Int} (hc : Circ (CE l) c) (hG : Tk l G) (hr : (∀ n, ¬ On (CE l) n) → G.length = (canon (nodL l)).length) : (G.length = (canon (nodL l)).length ↔ c.length = 0) := by
  rcases hc with ⟨rfl, hno⟩ | ⟨s, p, v, rfl, hs, _, _, _⟩
  · exact ⟨fun _ => rfl, fun _ => hr hno⟩
  · constructor
    · intro h
      exfalso
      obtain ⟨t, e, _⟩ := id hs
      have h1 : s ∈ canon (nodL l) := ((canon_facts _).1 _).2 (nod_mem.2 ⟨(s, t), e, .inl rfl⟩)
      have h2 : s ∉ G := fun k => hG.off s k hs
      have h3 := nd_sub (s :: G) (canon (nodL l)) (List.nodup_cons.2 ⟨h2, hG.nd⟩) fun x hx => by
        rcases List.mem_cons.1 hx with rfl | hx
        · exact h1
        · exact hG.sub x hx
      have h4 : (s :: G).length = G.length + 1 := rfl
      omega
    · intro h
      simp at h
end Go.Proofs.Ytjgepcifknmdhaa

/- There is always just one circle that the document means: plain words. -/
namespace Go.Proofs.Ytjgepcifknmdhaa

/-- The least of those of a list for which P holds. -/
theorem least_of {P : Int → Prop} : ∀ (L : List Int), (∃ x, x ∈ L ∧ P x) → ∃ m, m ∈ L ∧ P m ∧ ∀ x ∈ L, P x → m ≤ x
  | [], ⟨x, h, _⟩ => by cases h
  | a :: L, ⟨x, hx, hp⟩ => by
    by_cases h : ∃ x, x ∈ L ∧ P x
    · obtain ⟨m, h1, h2, h3⟩ := least_of L h
      by_cases ha : P a ∧ a ≤ m
      · refine ⟨a, List.mem_cons_self .., ha.1, fun y hy py => ?_⟩
        rcases List.mem_cons.1 hy with rfl | hy
        · exact Int.le_refl _
        · exact Int.le_trans ha.2 (h3 y hy py)
      · refine ⟨m, List.mem_cons_of_mem _ h1, h2, fun y hy py => ?_⟩
        rcases List.mem_cons.1 hy with rfl | hy
        · have : ¬ y ≤ m := fun k => ha ⟨py, k⟩
          omega
        · exact h3 y hy py
    · have e : x = a := by
        rcases List.mem_cons.1 hx with e | hx
        · exact e
        · exact absurd ⟨x, hx, hp⟩ h
      subst e
      refine ⟨x, List.mem_cons_self .., hp, fun y hy py => ?_⟩
      rcases List.mem_cons.1 hy with rfl | hy
      · exact Int.le_refl _
      · exact absurd ⟨y, hy, py⟩ h
/-- A way that leads on leads round. -/
theorem way_ends {E : Int → Int → Prop} {s : Int} {L : List Int} (hL : ∀ x y, E x y → y ∈ L) : ∀ (d : Nat) (p : List Int) (v : Int), Way E s (p ++ [v]) → (∀ x ∈ p ++ [v], x ∈ s :: L) → L.length + 1 - p.length ≤ d →
    (∃ t, E v t ∧ Av E (fun x => x ∈ p ++ [v] ∧ x ≠ s) t s) → ∃ q u, Way E s (q ++ [u]) ∧ E u s := by
  intro d
  induction d with
  | zero =>
    intro p v hw hm hd _
    have h1 := nd_sub _ _ hw.nodup hm
    simp at h1
    omega
  | succ d ih =>
    intro p v hw hm hd ⟨t, e, ht⟩
    by_cases hs : E v s
    · exact ⟨p, v, hw, hs⟩
    · have hts : t ≠ s := fun k => hs (by rw [← k]; exact e)
      have htm : t ∉ p ++ [v] := fun k => ht.fst ⟨k, hts⟩
      obtain ⟨m, h1, ⟨h2, h3, h4⟩, h5⟩ := least_of (P := fun m => E v m ∧ m ∉ p ++ [v] ∧ Av E (fun x => x ∈ p ++ [v] ∧ x ≠ s) m s) L ⟨t, hL _ _ e, e, htm, ht⟩
      have hsm : s ∈ p ++ [v] := by
        obtain ⟨r, hr⟩ := hw.head
        rw [hr]; exact List.mem_cons_self ..
      have hms : m ≠ s := fun k => h3 (by rw [k]; exact hsm)
      refine ih (p ++ [v]) m (.more hw hs h2 h3 h4 fun m' k1 k2 k3 k4 => ?_) (fun x hx => ?_) (by simp; omega) ?_
      · have := h5 m' (hL _ _ k2) ⟨k2, k3, k4⟩
        omega
      · rcases List.mem_append.1 hx with k | k
        · exact hm x k
        · rw [List.mem_singleton.1 k]; exact List.mem_cons_of_mem _ h1
      · rcases h4.last m with k | k | ⟨t', k1, k2⟩
        · exact absurd (.inr rfl) k.fst
        · exact absurd k hms
        · refine ⟨t', k1, k2.mono (fun x hx => ?_) (fun _ _ k => k)⟩
          rcases List.mem_append.1 hx.1 with k | k
          · exact .inl ⟨k, hx.2⟩
          · exact .inr (List.mem_singleton.1 k)
theorem on_node {l : List En} {n : Int} (h : On (CE l) n) : n ∈ nodL l := by
  obtain ⟨t, e, _⟩ := h
  exact nod_mem.2 ⟨(n, t), e, .inl rfl⟩
/-- There is always just one answer. -/
theorem circ_ex (l : List En) : ∃ c, Circ (CE l) c := by
  by_cases h : ∃ n, On (CE l) n
  · obtain ⟨n, hn⟩ := h
    obtain ⟨s, _, h1, h2⟩ := least_of (P := On (CE l)) (nodL l) ⟨n, on_node hn, hn⟩
    obtain ⟨t, e, r⟩ := h1
    obtain ⟨q, u, k1, k2⟩ := way_ends (E := CE l) (s := s) (L := nodL l) (fun x y k => nod_mem.2 ⟨(x, y), k, .inr rfl⟩) _ [] s .one (fun x hx => by
      rw [List.mem_singleton.1 hx]; exact List.mem_cons_self ..) (Nat.le_refl _) ⟨t, e, Av.mono r (fun x hx => hx.2 (List.mem_singleton.1 hx.1)) (fun _ _ k => k)⟩
    exact ⟨q ++ [u], .inr ⟨s, q, u, rfl, ⟨t, e, r⟩, fun m hm => h2 m (on_node hm) hm, k1, k2⟩⟩
  · exact ⟨[], .inl ⟨rfl, fun n hn => h ⟨n, hn⟩⟩⟩
theorem circ_is (l : List En) : Circ (CE l) (circD l) := by
  obtain ⟨c, h⟩ := circ_ex l
  rw [← circ_eq h]; exact h
/-- No circle: nobody is on one. -/
theorem circ_no {l : List En} (h : circD l = []) : ∀ n, ¬ On (CE l) n := by
  have k := circ_is l
  rw [h] at k
  rcases k with ⟨_, k⟩ | ⟨s, p, v, e, _⟩
  · exact k
  · simp at e
theorem circ_none' {l : List En} (h : ∀ n, ¬ On (CE l) n) : circD l = [] := (circ_eq (.inl ⟨rfl, h⟩)).symm
/-- How a way goes on. -/
theorem Way.next {E : Int → Int → Prop} {s : Int} {c : List Int} (h : Way E s c) : ∀ (p : List Int) (v m : Int) (r : List Int), c = p ++ [v] ++ m :: r →
    ¬ E v s ∧ E v m ∧ m ∉ p ++ [v] ∧ Av E (fun x => x ∈ p ++ [v] ∧ x ≠ s) m s ∧ (∀ m', m' < m → E v m' → m' ∉ p ++ [v] → ¬ Av E (fun x => x ∈ p ++ [v] ∧ x ≠ s) m' s) := by
  induction h with
  | one =>
    intro p v m r e
    have := congrArg List.length e
    simp at this
    omega
  | @more p' v' m' hw h1 h2 h3 h4 h5 ih =>
    intro p v m r e
    rcases List.eq_nil_or_concat r with rfl | ⟨r', z, rfl⟩
    · obtain ⟨e1, e2⟩ := snoc_inj (p := p' ++ [v']) (q := p ++ [v]) (by simpa using e)
      obtain ⟨e3, e4⟩ := snoc_inj e1
      subst e2 e3 e4
      exact ⟨h1, h2, h3, h4, h5⟩
    · obtain ⟨e1, e2⟩ := snoc_inj (p := p' ++ [v']) (q := p ++ [v] ++ m :: r') (by simpa using e)
      exact ih p v m r' e1
end Go.Proofs.Ytjgepcifknmdhaa

/- Tickets, who is younger: plain words. -/
namespace Go.Proofs.Ytjgepcifknmdhaa

/-- The ticket of a thread: 0, if it has none there. -/
def tkD (T : List Int) (n : Int) : Int := if 0 ≤ n ∧ n < T.length then T.getD n.toNat 0 else 0
/-- Is a younger than b? -/
def ygB (T : List Int) (a b : Int) : Bool := decide (tkD T b < tkD T a) || (decide (tkD T a = tkD T b) && decide (b < a))
theorem yg_iff {T : List Int} {a b : Int} : ygB T a b = true ↔ tkD T b < tkD T a ∨ (tkD T a = tkD T b ∧ b < a) := by
  unfold ygB; simp
theorem yg_no {T : List Int} {a b : Int} : ygB T a b = false ↔ ¬ (tkD T b < tkD T a ∨ (tkD T a = tkD T b ∧ b < a)) := by
  rw [← yg_iff]; simp
theorem yg_irr (T : List Int) (a : Int) : ygB T a a = false := by rw [yg_no]; omega
theorem yg_asym {T : List Int} {a b : Int} (h : ygB T a b = true) : ygB T b a = false := by
  rw [yg_iff] at h; rw [yg_no]; omega
theorem yg_tot {T : List Int} {a b : Int} (h : a ≠ b) (k : ygB T a b = false) : ygB T b a = true := by
  rw [yg_no] at k; rw [yg_iff]; omega
theorem yg_trans {T : List Int} {a b c : Int} (h : ygB T a b = true) (k : ygB T b c = true) : ygB T a c = true := by
  rw [yg_iff] at *; omega
theorem yg_ntrans {T : List Int} {a b c : Int} (h : ygB T a b = false) (k : ygB T b c = false) : ygB T a c = false := by
  rw [yg_no] at *; omega
/-- The youngest of some. -/
def Yo (T : List Int) (c : List Int) (y : Int) : Prop := y ∈ c ∧ ∀ x ∈ c, ygB T x y = false
theorem Yo.same {T c : List Int} {x y : Int} (h : Yo T c x) (k : Yo T c y) : x = y := by
  by_cases e : x = y
  · exact e
  · have h1 := yg_tot e (k.2 x h.1)
    have h2 := h.2 y k.1
    rw [h1] at h2; cases h2
def mxD (T : List Int) : List Int → Int
  | [] => 0
  | x :: r => r.foldl (fun y a => if ygB T a y then a else y) x
theorem mx_snoc (T : List Int) (l : List Int) (a : Int) (h : l ≠ []) : mxD T (l ++ [a]) = if ygB T a (mxD T l) then a else mxD T l := by
  cases l with
  | nil => exact absurd rfl h
  | cons x r => unfold mxD; rw [List.cons_append]; simp
theorem Yo.snoc {T l : List Int} {y : Int} (h : Yo T l y) (a : Int) : Yo T (l ++ [a]) (if ygB T a y then a else y) := by
  cases e : ygB T a y
  · rw [if_neg (by decide)]
    refine ⟨List.mem_append_left _ h.1, fun x hx => ?_⟩
    rcases List.mem_append.1 hx with k | k
    · exact h.2 x k
    · rw [List.mem_singleton.1 k]; exact e
  · rw [if_pos rfl]
    refine ⟨by simp, fun x hx => ?_⟩
    rcases List.mem_append.1 hx with k | k
    · exact yg_ntrans (h.2 x k) (yg_asym e)
    · rw [List.mem_singleton.1 k]; exact yg_irr T a
theorem yo_one (T : List Int) (x : Int) : Yo T [x] x := ⟨List.mem_cons_self .., fun y hy => by rw [List.mem_singleton.1 hy]; exact yg_irr T x⟩
theorem mx_yo (T : List Int) : ∀ (l : List Int), l ≠ [] → Yo T l (mxD T l) := by
  have key : ∀ (r : List Int) (l : List Int), Yo T l (mxD T l) → l ≠ [] → Yo T (l ++ r) (mxD T (l ++ r)) := by
    intro r
    induction r with
    | nil => intro l h _; rw [List.append_nil]; exact h
    | cons a r ih =>
      intro l h hl
      have := ih (l ++ [a]) (by rw [mx_snoc T l a hl]; exact h.snoc a) (by simp)
      simpa using this
  intro l hl
  cases l with
  | nil => exact absurd rfl hl
  | cons x r => exact key r [x] (yo_one T x) (by simp)
end Go.Proofs.Ytjgepcifknmdhaa

/- Victims, wounds, deaths: plain words. -/
namespace Go.Proofs.Ytjgepcifknmdhaa
/-- Without one who is on a circle fewer edges are left. -/
theorem wo_less {l : List En} {y : Int} (h : On (CE l) y) : (woL [y] l).length < l.length := by
  obtain ⟨t, e, _⟩ := h
  have e' : (y, t) ∈ l := e
  rcases Nat.lt_or_ge (woL [y] l).length l.length with k | k
  · exact k
  · exfalso
    have hs : (woL [y] l).Sublist l := List.filter_sublist
    have h1 := hs.eq_of_length_le k
    rw [← h1] at e'
    exact (wol_mem.1 e').2.1 (List.mem_cons_self ..)
theorem wo_more (g h : List Int) (l : List En) : woL g (woL h l) = woL (h ++ g) l := by
  unfold woL
  rw [List.filter_filter]
  apply List.filter_congr
  intro e _
  rw [Bool.eq_iff_iff]
  simp
  constructor
  · rintro ⟨⟨h1, h2⟩, h3, h4⟩; exact ⟨⟨h3, h1⟩, h4, h2⟩
  · rintro ⟨⟨h1, h2⟩, h3, h4⟩; exact ⟨⟨h2, h4⟩, h1, h3⟩
theorem wo_no (l : List En) : woL [] l = l := by
  unfold woL
  rw [List.filter_eq_self]
  intro e _
  simp
open Classical in
/-- The victims, in the order in which they are chosen. -/
noncomputable def vicF (T : List Int) : Nat → List En → List Int
  | 0, _ => []
  | f + 1, l => if circD l = [] then [] else mxD T (circD l) :: vicF T f (woL [mxD T (circD l)] l)
noncomputable def vicD (T : List Int) (l : List En) : List Int := vicF T (l.length + 1) l
theorem mx_on {T : List Int} {l : List En} (h : circD l ≠ []) : On (CE l) (mxD T (circD l)) := (circ_is l).on _ (mx_yo T _ h).1
theorem vic_fuel (T : List Int) : ∀ (f g : Nat) (l : List En), l.length < f → l.length < g → vicF T f l = vicF T g l := by
  intro f
  induction f with
  | zero => intro g l h _; omega
  | succ f ih =>
    intro g l h1 h2
    cases g with
    | zero => omega
    | succ g =>
      unfold vicF
      by_cases e : circD l = []
      · rw [if_pos e, if_pos e]
      · rw [if_neg e, if_neg e]
        have := wo_less (mx_on (T := T) e)
        rw [ih g _ (by omega) (by omega)]
theorem vic_no {T : List Int} {l : List En} (h : circD l = []) : vicD T l = [] := by
  unfold vicD vicF
  rw [if_pos h]
theorem vic_yes {T : List Int} {l : List En} (h : circD l ≠ []) : vicD T l = mxD T (circD l) :: vicD T (woL [mxD T (circD l)] l) := by
  have := wo_less (mx_on (T := T) h)
  unfold vicD
  rw [vicF, if_neg h]
  rw [vic_fuel T l.length _ _ this (Nat.lt_succ_self _)]
/-- What holds of victims, one by one. -/
theorem vic_ind {T : List Int} {P : List En → List Int → Prop} (h0 : ∀ l, circD l = [] → P l []) (h1 : ∀ l v, circD l ≠ [] → P (woL [mxD T (circD l)] l) v → P l (mxD T (circD l) :: v)) : ∀ (n : Nat) (l : List En), l.length ≤ n → P l (vicD T l) := by
  intro n
  induction n with
  | zero =>
    intro l hl
    obtain rfl : l = [] := List.eq_nil_of_length_eq_zero (by omega)
    have e : circD [] = [] := circ_none' fun n ⟨t, e, _⟩ => by cases e
    rw [vic_no e]
    exact h0 _ e
  | succ n ih =>
    intro l hl
    by_cases e : circD l = []
    · rw [vic_no e]; exact h0 _ e
    · have := wo_less (mx_on (T := T) e)
      rw [vic_yes e]
      exact h1 _ _ e (ih _ (by omega))
/-- Behind the victims no circle is left. -/
theorem vic_ends (T : List Int) (l : List En) : circD (woL (vicD T l) l) = [] := by
  refine vic_ind (T := T) (P := fun l v => circD (woL v l) = []) (fun l h => by rw [wo_no]; exact h) (fun l v _ ih => ?_) _ l (Nat.le_refl _)
  rw [wo_more] at ih
  exact ih
theorem wo_sub {g : List Int} {l : List En} {a b : Int} (h : CE (woL g l) a b) : CE l a b := (wol_mem.1 h).1
/-- Each was on a circle at first. -/
theorem vic_on (T : List Int) (l : List En) : ∀ x ∈ vicD T l, On (CE l) x := by
  refine vic_ind (T := T) (P := fun l v => ∀ x ∈ v, On (CE l) x) (fun l h x hx => by cases hx) (fun l v e ih x hx => ?_) _ l (Nat.le_refl _)
  rcases List.mem_cons.1 hx with rfl | hx
  · exact mx_on e
  · exact (ih x hx).mono fun a b k => wo_sub k
theorem vic_len (T : List Int) (l : List En) : (vicD T l).length ≤ l.length := by
  refine vic_ind (T := T) (P := fun l v => v.length ≤ l.length) (fun l h => Nat.zero_le _) (fun l v e ih => ?_) _ l (Nat.le_refl _)
  have := wo_less (mx_on (T := T) e)
  simp
  omega
/-- The eldest of all is no victim. -/
theorem vic_eldest {T : List Int} {l : List En} (hself : ∀ a, ¬ CE l a a) {x : Int} (hx : ∀ y ∈ nodL l, ygB T x y = false) : x ∉ vicD T l := by
  revert hself hx
  refine vic_ind (T := T) (P := fun l v => (∀ a, ¬ CE l a a) → (∀ y ∈ nodL l, ygB T x y = false) → x ∉ v) (fun l h _ _ hx => by cases hx) (fun l v e ih hself hx hm => ?_) _ l (Nat.le_refl _)
  rcases List.mem_cons.1 hm with h | h
  · -- x is the youngest of a circle of two and more
    have hy := mx_yo T _ e
    rw [← h] at hy
    have ht := (circ_is l).tells
    have hon := (circ_is l).on
    obtain ⟨i, hi, ei⟩ := mem_at hy.1
    have he := ht.1 i hi
    have hm2 : (circD l).getD ((i + 1) % (circD l).length) 0 ∈ circD l := at_mem (Nat.mod_lt _ (by omega))
    rw [ei] at he
    generalize (circD l).getD ((i + 1) % (circD l).length) 0 = z at he hm2
    have hne : x ≠ z := fun k => hself x (by rw [← k] at he; exact he)
    have h1 := hy.2 z hm2
    have h2 := hx z (on_node (hon z hm2))
    have h3 := yg_tot hne h2
    rw [h1] at h3; cases h3
  · exact ih (fun a k => hself a (wo_sub k)) (fun y hy => hx y (by
      obtain ⟨e, h1, h2⟩ := nod_mem.1 hy
      exact nod_mem.2 ⟨e, (wol_mem.1 h1).1, h2⟩)) h
/-- All one way: no circle. -/
theorem oneway {R : Int → Int → Prop} (hi : ∀ a, ¬ R a a) (ht : ∀ a b c, R a b → R b c → R a c) {l : List En} (h : ∀ a b, CE l a b → R a b) : circD l = [] := by
  refine circ_none' fun n ⟨t, e, r⟩ => ?_
  have key : ∀ a b, Rch (CE l) a b → a = b ∨ R a b := by
    intro a b h1
    induction h1 with
    | refl _ => exact .inl rfl
    | step _ e _ ih =>
      rcases ih with rfl | ih
      · exact .inr (h _ _ e)
      · exact .inr (ht _ _ _ (h _ _ e) ih)
  rcases key t n r with rfl | k
  · exact hi _ (h _ _ e)
  · exact hi _ (ht _ _ _ (h _ _ e) k)
theorem oneway_up {T : List Int} {l : List En} (h : ∀ a b, CE l a b → ygB T a b = true) : circD l = [] :=
  oneway (R := fun a b => ygB T a b = true) (fun a k => by rw [yg_irr] at k; cases k) (fun a b c => yg_trans) h
theorem oneway_down {T : List Int} {l : List En} (h : ∀ a b, CE l a b → ygB T b a = true) : circD l = [] :=
  oneway (R := fun a b => ygB T b a = true) (fun a k => by rw [yg_irr] at k; cases k) (fun a b c h1 h2 => yg_trans h2 h1) h
/-- Who is wounded, who dies (not yet put in order). -/
def wouL (T : List Int) (l : List En) : List Int := (l.filter (fun e => ygB T e.2 e.1)).map (·.2)
def deaL (T : List Int) (l : List En) : List Int := (l.filter (fun e => ygB T e.1 e.2)).map (·.1)
theorem wou_mem {T : List Int} {l : List En} {x : Int} : x ∈ wouL T l ↔ ∃ a, CE l a x ∧ ygB T x a = true := by
  unfold wouL
  rw [List.mem_map]
  constructor
  · rintro ⟨⟨a, b⟩, h, rfl⟩
    obtain ⟨h1, h2⟩ := List.mem_filter.1 h
    exact ⟨a, h1, h2⟩
  · rintro ⟨a, h1, h2⟩
    exact ⟨(a, x), List.mem_filter.2 ⟨h1, h2⟩, rfl⟩
theorem dea_mem {T : List Int} {l : List En} {x : Int} : x ∈ deaL T l ↔ ∃ b, CE l x b ∧ ygB T x b = true := by
  unfold deaL
  rw [List.mem_map]
  constructor
  · rintro ⟨⟨a, b⟩, h, rfl⟩
    obtain ⟨h1, h2⟩ := List.mem_filter.1 h
    exact ⟨b, h1, h2⟩
  · rintro ⟨b, h1, h2⟩
    exact ⟨(x, b), List.mem_filter.2 ⟨h1, h2⟩, rfl⟩
theorem wou_le (T : List Int) (l : List En) : (wouL T l).length ≤ l.length := by
  unfold wouL; rw [List.length_map]; exact List.length_filter_le _ _
theorem dea_le (T : List Int) (l : List En) : (deaL T l).length ≤ l.length := by
  unfold deaL; rw [List.length_map]; exact List.length_filter_le _ _
theorem wou_succ (T : List Int) (l : List En) (t : Nat) (ht : t < l.length) : wouL T (l.take (t + 1)) = wouL T (l.take t) ++ (if ygB T (l.getD t (0, 0)).2 (l.getD t (0, 0)).1 = true then [(l.getD t (0, 0)).2] else []) := by
  unfold wouL
  rw [List.take_succ_eq_append_getElem ht, List.filter_append, List.map_append]
  have e : l.getD t (0, 0) = l[t] := by simp [List.getD, ht]
  rw [e]
  cases h : ygB T l[t].2 l[t].1 <;> simp [h]
theorem dea_succ (T : List Int) (l : List En) (t : Nat) (ht : t < l.length) : deaL T (l.take (t + 1)) = deaL T (l.take t) ++ (if ygB T (l.getD t (0, 0)).1 (l.getD t (0, 0)).2 = true then [(l.getD t (0, 0)).1] else []) := by
  unfold deaL
  rw [List.take_succ_eq_append_getElem ht, List.filter_append, List.map_append]
  have e : l.getD t (0, 0) = l[t] := by simp [List.getD, ht]
  rw [e]
  cases h : ygB T l[t].1 l[t].2 <;> simp [h]
/-- Tickets that hold those of whom the edges speak against one another alike. -/
theorem vic_like {T U : List Int} (l : List En) (h : ∀ a ∈ nodL l, ∀ b ∈ nodL l, ygB T a b = ygB U a b) : vicD T l = vicD U l := by
  revert h
  refine vic_ind (T := T) (P := fun l v => (∀ a ∈ nodL l, ∀ b ∈ nodL l, ygB T a b = ygB U a b) → v = vicD U l) (fun l e _ => (vic_no e).symm) (fun l v e ih h => ?_) _ l (Nat.le_refl _)
  have h1 := mx_yo T _ e
  have h2 : Yo U (circD l) (mxD T (circD l)) := ⟨h1.1, fun x hx => by
    rw [← h x (on_node ((circ_is l).on x hx)) _ (on_node ((circ_is l).on _ h1.1))]; exact h1.2 x hx⟩
  have h3 := h2.same (mx_yo U _ e)
  rw [vic_yes e, ← h3, ih fun a ha b hb => h a ?_ b ?_]
  · obtain ⟨e, k1, k2⟩ := nod_mem.1 ha
    exact nod_mem.2 ⟨e, (wol_mem.1 k1).1, k2⟩
  · obtain ⟨e, k1, k2⟩ := nod_mem.1 hb
    exact nod_mem.2 ⟨e, (wol_mem.1 k1).1, k2⟩
theorem wou_like {T U : List Int} {l : List En} (h : ∀ a ∈ nodL l, ∀ b ∈ nodL l, ygB T a b = ygB U a b) : wouL T l = wouL U l := by
  unfold wouL
  rw [List.filter_congr fun e he => h _ (nod_mem.2 ⟨e, he, .inr rfl⟩) _ (nod_mem.2 ⟨e, he, .inl rfl⟩)]
theorem dea_like {T U : List Int} {l : List En} (h : ∀ a ∈ nodL l, ∀ b ∈ nodL l, ygB T a b = ygB U a b) : deaL T l = deaL U l := by
  unfold deaL
  rw [List.filter_congr fun e he => h _ (nod_mem.2 ⟨e, he, .inl rfl⟩) _ (nod_mem.2 ⟨e, he, .inr rfl⟩)]
end Go.Proofs.Ytjgepcifknmdhaa

/- GraphParts: the plain part; an append of a slice of edges in the text's order. -/
namespace Go.Proofs.Ytjgepcifknmdhaa
open Go.RowKit
set_option linter.unusedVariables false

/-- The last four bits of a number. -/
def mk4 (y : Int) : Int := bits .and .i64 y 15
theorem mk4_le (y : Int) : 0 ≤ mk4 y ∧ mk4 y ≤ 15 := by
  have e : mk4 y = wrap64 ((BitVec.ofInt 64 y &&& BitVec.ofInt 64 15).toNat : Int) := by
    show IntKind.i64.wrap ((BitVec.ofInt 64 y &&& BitVec.ofInt 64 15).toNat : Int) = _
    rw [IntKind.wrap_i64]; unfold wrap64; omega
  rw [e, show BitVec.ofInt 64 15 = BitVec.ofNat 64 (2 ^ 4 - 1) from rfl, BitVec.toNat_and, BitVec.toNat_ofNat, show (2 ^ 4 - 1) % 2 ^ 64 = 2 ^ 4 - 1 from rfl, Nat.and_two_pow_sub_one_eq_mod]
  unfold wrap64
  omega
/-- Edges among 16 nodes from d on. -/
def partL (d : Int) (l : List En) : List En := l.map fun e => (d + mk4 e.1, d + mk4 e.2)
theorem part_succ (d : Int) (l : List En) (t : Nat) (ht : t < l.length) : partL d (l.take (t + 1)) = partL d (l.take t) ++ [(d + mk4 (l.getD t (0, 0)).1, d + mk4 (l.getD t (0, 0)).2)] := by
  unfold partL
  rw [List.take_succ_eq_append_getElem ht, List.map_append]
  simp [List.getD, ht]
theorem part_len (d : Int) (l : List En) : (partL d l).length = l.length := List.length_map _
theorem part_in {d : Int} {l : List En} {a b : Int} (h : CE (partL d l) a b) : d ≤ a ∧ a ≤ d + 15 ∧ d ≤ b ∧ b ≤ d + 15 := by
  obtain ⟨e, _, h2⟩ := List.mem_map.1 h
  injection h2 with h3 h4
  have h5 := mk4_le e.1
  have h6 := mk4_le e.2
  omega
/-- On and on inside a part that no edge leaves. -/
theorem av_part {E E1 : Int → Int → Prop} {D : Int → Prop} {A : Int → Prop} (h1 : ∀ x y, D x → E x y → E1 x y) (h2 : ∀ x y, E1 x y → D y) {a b : Int} (h : Av E A a b) (ha : D a) : Av E1 A a b ∧ D b := by
  induction h with
  | refl h => exact ⟨.refl h, ha⟩
  | step h e _ ih =>
    have e1 := h1 _ _ ha e
    obtain ⟨r, d⟩ := ih (h2 _ _ e1)
    exact ⟨.step h e1 r, d⟩
theorem on_part {E E1 : Int → Int → Prop} {D : Int → Prop} (h1 : ∀ x y, D x → E x y → E1 x y) (h2 : ∀ x y, E1 x y → D y) {n : Int} (hn : D n) (h : On E n) : On E1 n := by
  obtain ⟨t, e, r⟩ := h
  have e1 := h1 _ _ hn e
  exact ⟨t, e1, (av_part h1 h2 r (h2 _ _ e1)).1⟩
theorem way_part {E E1 : Int → Int → Prop} {D : Int → Prop} (h0 : ∀ x y, E1 x y → E x y) (h1 : ∀ x y, D x → E x y → E1 x y) (h2 : ∀ x y, E1 x y → D y) {s : Int} (hs : D s) {c : List Int} (h : Way E1 s c) : Way E s c ∧ ∀ x ∈ c, D x := by
  induction h with
  | one => exact ⟨.one, fun x hx => by rw [List.mem_singleton.1 hx]; exact hs⟩
  | @more p v m hw hn e hm av hl ih =>
    obtain ⟨w, d⟩ := ih
    have dv : D v := d v (by simp)
    refine ⟨.more w (fun k => hn (h1 _ _ dv k)) (h0 _ _ e) hm (av.mono (fun _ k => k) h0) fun m' hlt he hnm ha => ?_, fun x hx => ?_⟩
    · have e1 := h1 _ _ dv he
      exact hl m' hlt e1 hnm (av_part h1 h2 ha (h2 _ _ e1)).1
    · rcases List.mem_append.1 hx with h | h
      · exact d x h
      · rw [List.mem_singleton.1 h]; exact h2 _ _ e
/-- Two parts, none between: the circle is that of the lower one, if it has one. -/
theorem parts_circ {E E1 E2 : Int → Int → Prop} (hE : ∀ x y, E x y ↔ E1 x y ∨ E2 x y) (b1 : ∀ x y, E1 x y → x < 50 ∧ y < 50) (b2 : ∀ x y, E2 x y → 50 ≤ x ∧ 50 ≤ y) {a b : List Int} (ha : Circ E1 a) (hb : Circ E2 b) :
    Circ E (if a.length = 0 then b else a) := by
  have u1 : ∀ x y, x < 50 → E x y → E1 x y := fun x y hx h => by
    rcases (hE x y).1 h with h | h
    · exact h
    · have := b2 _ _ h; omega
  have u2 : ∀ x y, 50 ≤ x → E x y → E2 x y := fun x y hx h => by
    rcases (hE x y).1 h with h | h
    · have := b1 _ _ h; omega
    · exact h
  have v1 : ∀ x y, E1 x y → E x y := fun x y h => (hE x y).2 (.inl h)
  have v2 : ∀ x y, E2 x y → E x y := fun x y h => (hE x y).2 (.inr h)
  have o1 : ∀ n, n < 50 → On E n → On E1 n := fun n hn h => on_part u1 (fun x y k => (b1 x y k).2) hn h
  have o2 : ∀ n, 50 ≤ n → On E n → On E2 n := fun n hn h => on_part u2 (fun x y k => (b2 x y k).2) hn h
  rcases ha with ⟨rfl, hno⟩ | ⟨s, p, v, rfl, hs, hl, hw, he⟩
  · rw [if_pos (show ([] : List Int).length = 0 from rfl)]
    have hhi : ∀ n, On E n → 50 ≤ n ∧ On E2 n := fun n h => by
      rcases (show n < 50 ∨ 50 ≤ n by omega) with k | k
      · exact absurd (o1 n k h) (hno n)
      · exact ⟨k, o2 n k h⟩
    rcases hb with ⟨rfl, hno2⟩ | ⟨s, p, v, rfl, hs, hl, hw, he⟩
    · exact .inl ⟨rfl, fun n h => hno2 n (hhi n h).2⟩
    · have hs50 : 50 ≤ s := (b2 _ _ he).2
      refine .inr ⟨s, p, v, rfl, hs.mono v2, fun n h => hl n (hhi n h).2, (way_part v2 u2 (fun x y k => (b2 x y k).2) hs50 hw).1, v2 _ _ he⟩
  · rw [if_neg (by simp)]
    have hs50 : s < 50 := (b1 _ _ he).2
    refine .inr ⟨s, p, v, rfl, hs.mono v1, fun n h => ?_, (way_part v1 u1 (fun x y k => (b1 x y k).2) hs50 hw).1, v1 _ _ he⟩
    rcases (show n < 50 ∨ 50 ≤ n by omega) with k | k
    · exact hl n (o1 n k h)
    · omega
theorem parts_eq {l m : List En} (ha : Circ (CE (partL 0 l)) (circD (partL 0 l))) (hb : Circ (CE (partL 100 m)) (circD (partL 100 m))) :
    circD (partL 100 m ++ partL 0 l) = if (circD (partL 0 l)).length = 0 then circD (partL 100 m) else circD (partL 0 l) := by
  symm
  apply circ_eq
  refine parts_circ (E1 := CE (partL 0 l)) (E2 := CE (partL 100 m)) (fun x y => ?_) (fun x y h => ?_) (fun x y h => ?_) ha hb
  · unfold CE
    rw [List.mem_append, Or.comm]
  · have := part_in h; omega
  · have := part_in h; omega
set_option maxRecDepth 100000 in
/-- A slice of edges, behind the others, in the order of the text. -/
theorem wpList_app_re (w : World) {ops : Array Oper} {rest : List Oper} {o : Oper} {a : Act} {Q : Exit → Act → World → Prop} (hw : Region.wanted o (yielded ops a.tmps) = true) (s x : Operand)
    (ho : o.op = .call { callee := .builtin .append, args := #[s, x], argTypes := #[22, 22] }) (base : Nat) (v : Value) (l m : List En) (hs : a.eval s = v) (hown : Pr 41 base v l w) (va : Option Addr) (n c : Nat)
    (hx : a.eval x = .slice va n c) (hr : Re w (.slice va n c) m) (hnil : va = none → c = 0) (hn : l.length + m.length ≤ 10000) (hb : base ≤ w.heap.size)
    (h : ∀ v' w', Pr 41 base v' (l ++ m) w' → Below base w w' → wpList Try.prog ops Q rest (a.put o.dst v') w') : wpList Try.prog ops Q (o :: rest) a w :=
  wpList_step fun K hK => by
    rw [if_pos hw]
    obtain ⟨v', w', e, h2, h3⟩ := run_app_re w o.type base v l hown va n c m hr hnil hn hb
    unfold Oper.wp execOp
    simp only [ho, resolve, invoke, builtin, Sem.run_bind, Sem.run_pure, Result.andThen_ok, List.map_toArray, List.map_cons, List.map_nil, hs, hx, e]
    exact hK _ _ (h v' w' h2 (grown_below h3 hb fun g hg => (hown.lt g hg).1))
end Go.Proofs.Ytjgepcifknmdhaa
