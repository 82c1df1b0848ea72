/- slices.Grow of nil, slices.Concat of two; named of package prog. -/
import Derived.Test.YtanieihnkajpdaaDoorApp
import Derived.Lib.AppendZerosOnto
import Derived.Lib.SliceRun
namespace Go.Proofs.YtanieihnkajpdaaDoor
open Go.RowKit

set_option maxRecDepth 100000 in
theorem grow_nil (n : Nat) (h1 : 1 ≤ n) (h2 : n ≤ 100000) (w : World) :
    Calls Tryd.prog 47 #[.slice none 0 0, .int .i64 n] w fun e w' => ∃ v, e = .returned v ∧ w'.ownsRow w.heap.size 3 1 v 0 [] ∧ Below w.heap.size w w' := by
  obtain ⟨i0, hi, hz0, hz1, hz2⟩ := info_parts elInt.inf
  have hold : (Builtin.firstCells i0.size 0 (.slice none 0 0)).run Tryd.prog w.drew = .ok #[] w.drew := run_firstCells_none w.drew i0.size 0 0 0
  have hrz : ∀ ty, (Builtin.append_ #[25, 3] ty #[.slice none 0 0, .int .i64 (n : Int)]).run Tryd.prog w =
      .ok (.slice (some ⟨w.heap.size, 0, none⟩) n (grownCap w n 0 3)) (w.drew.alloc (.cells (([] : List Value).toArray ++ Builtin.zeroCells (Value.int .i64 0).cells n ++ Builtin.zeroCells (Value.int .i64 0).cells (grownCap w n 0 3 - n)) 3)) := fun ty => by
    have h := Lib.run_append_grow_zeros w 25 3 ty 3 i0 (.int .i64 0) .i64 .i64 Tryd.underlying25 Tryd.underlying3 hi hz0 none 0 0 [] hold n (by omega) (by omega) (by omega) (by omega)
      (by rw [hz2]; omega)
      (by rw [Nat.zero_add]; exact growslice_fits (by omega) (by rw [hz2]; omega))
    rw [Nat.zero_add] at h
    exact h
  have hGn : n ≤ grownCap w n 0 3 := grownCap_ge w _ _ _
  have hG63 : grownCap w n 0 3 ≤ maxLen := grownCap_le_maxLen w n 0 3 (by unfold maxLen; omega)
  have hG64 : grownCap w n 0 3 ≤ 9223372036854775807 := hG63
  have hsz : (([] : List Value).toArray ++ Builtin.zeroCells (Value.int .i64 0).cells n ++ Builtin.zeroCells (Value.int .i64 0).cells (grownCap w n 0 3 - n)).size = grownCap w n 0 3 * 1 := by
    rw [Array.size_append, Array.size_append, size_zeroCells, size_zeroCells]
    show 0 + n * 1 + (_ - n) * 1 = _
    omega
  obtain ⟨G, hG⟩ : ∃ G, G = grownCap w n 0 3 := ⟨_, rfl⟩
  rw [← hG] at hrz hGn hG63 hG64 hsz
  obtain ⟨cs, hcs⟩ : ∃ cs, cs = ([] : List Value).toArray ++ Builtin.zeroCells (Value.int .i64 0).cells n ++ Builtin.zeroCells (Value.int .i64 0).cells (G - n) := ⟨_, rfl⟩
  rw [← hcs] at hrz hsz
  clear hcs hG hold
  have fin : (w.drew.alloc (.cells cs 3)).ownsRow w.heap.size 3 1 (.slice (some ⟨w.heap.size, 0, none⟩) 0 G) 0 [] := by
    refine ⟨rfl, .inr ⟨w.heap.size, G, cs, rfl, Nat.le_refl _, ?_, Nat.zero_le _, hG63, hsz, by simp⟩⟩
    exact heap_alloc_new w.drew (.cells cs 3)
  have fb : Below w.heap.size w (w.drew.alloc (.cells cs 3)) := ((Below.refl _ w).drew).alloc (Nat.le_refl _) _
  replace fin := hide fin
  replace fb := hide fb
  replace hsz := hide hsz
  go_enter Tryd.func47, Tryd.ntmps47
  go_wp2_with (at_builtin; refine Lib.wpList_append_run _ rfl _ _ _ _ rfl _ _ rfl rfl _ _ (hrz _) ?_)
  all_goals (go_ret; exact ⟨_, rfl, unhide fin, unhide fb⟩)
set_option maxRecDepth 100000 in
set_option maxHeartbeats 1000000 in
theorem concat_any (g : Nat) (u1 u2 : Value) (l1 l2 : List Int) (w : World) (c1 : w.cell? ⟨g, 0, none⟩ = some u1) (c2 : w.cell? ⟨g, 1, none⟩ = some u2) (h1 : Ls w.heap.size w u1 l1) (h2 : Ls w.heap.size w u2 l2) (hb1 : 1 ≤ l1.length) (hb2 : l1.length + l2.length ≤ 10000) :
    Calls Tryd.prog 38 #[.slice (some ⟨g, 0, none⟩) 2 2] w fun e w' => ∃ v, e = .returned v ∧ Ls w'.heap.size w' v (l1 ++ l2) ∧ Below w.heap.size w w' := by
  obtain ⟨n1, hn1⟩ : ∃ n, n = l1.length := ⟨_, rfl⟩
  obtain ⟨n2, hn2⟩ : ∃ n, n = l2.length := ⟨_, rfl⟩
  obtain ⟨N, hN⟩ : ∃ n, n = n1 + n2 := ⟨_, rfl⟩
  have hg : g < w.heap.size := by
    by_cases hl : g < w.heap.size
    · exact hl
    · simp [World.cell?, Array.getElem?_eq_none (show w.heap.size ≤ g by omega)] at c1
  have H1 := hide h1
  have H2 := hide h2
  obtain ⟨a1, k1, rfl, _, m1, _, _⟩ := ls_len h1
  obtain ⟨a2, k2, rfl, _, m2, _, _⟩ := ls_len h2
  rw [← hn1, ← hn2] at hb2
  rw [← hn1] at hb1 c1
  rw [← hn2] at c2
  replace hn1 := hide hn1
  replace hn2 := hide hn2
  replace hN := hide hN
  clear h1 h2
  go_enter Tryd.func38, Tryd.ntmps38
  go_wp2_with fail
  go_loopw [3, 11] (fun sz i wr => wr = w ∧ ((sz = .int .i64 0 ∧ i = .int .i64 0) ∨ (sz = .int .i64 (n1 : Int) ∧ i = .int .i64 1) ∨ (sz = .int .i64 (N : Int) ∧ i = .int .i64 2))) (fun _ i _ => 2 - (intOf i).toNat)
  case atStart => exact ⟨rfl, .inl ⟨rfl, rfl⟩⟩
  case round =>
    obtain ⟨rfl, hc⟩ := hrel
    rcases hc with ⟨rfl, rfl⟩ | ⟨rfl, rfl⟩ | ⟨rfl, rfl⟩
    · have p0 : decide ((n1 : Int) < 0) = false := decide_eq_false (by omega)
      go_wp2
      go_roundw
      case rel => exact ⟨by trivial, .inr (.inl ⟨by go_num, by go_num⟩)⟩
      case measure => simp [intOf]
    · have e1 : wrap64 ((n1 : Int) + (n2 : Int)) = (N : Int) := by rw [unhide hN]; unfold wrap64; omega
      have e2 : IntKind.i64.wrap ((n1 : Int) + (n2 : Int)) = (N : Int) := by rw [wrap_kin]; exact e1
      have p0 : decide ((N : Int) < 0) = false := decide_eq_false (by omega)
      go_wp2
      go_roundw
      case rel => exact ⟨by trivial, .inr (.inr ⟨by first | rfl | go_num, by go_num⟩)⟩
      case measure => simp [intOf]
    · go_wp2_with fail
      refine (grow_nil N (by have := unhide hN; omega) (by have := unhide hN; omega) _).mono ?_
      rintro e w1 ⟨v, rfl, hv, hb⟩
      replace hv := hide hv
      replace hb := hide hb
      go_wp2_with fail
      generalize hw0 : wr = w0 at *
      go_loopw [6, 27] (fun x i wq => Below w0.heap.size w0 wq ∧ ((i = .int .i64 0 ∧ wq.ownsRow w0.heap.size 3 1 x 0 (vals [])) ∨ (i = .int .i64 1 ∧ wq.ownsRow w0.heap.size 3 1 x n1 (vals l1)) ∨ (i = .int .i64 2 ∧ wq.ownsRow w0.heap.size 3 1 x N (vals (l1 ++ l2))))) (fun _ i _ => 2 - (intOf i).toNat)
      case atStart => exact ⟨unhide hb, .inl ⟨rfl, unhide hv⟩⟩
      case round =>
        obtain ⟨hb2, hc⟩ := hrel
        clear hb hv
        rcases hc with ⟨rfl, hown⟩ | ⟨rfl, hown⟩ | ⟨rfl, hown⟩
        · have d1 := (hb2.cell hg).trans c1
          have hnews := ls_news ((unhide H1).later hb2)
          rw [← unhide hn1] at hnews
          have hsz := hb2.size
          replace hb2 := hide hb2
          go_wp2_with (at_builtin; refine wpList_app elInt _ rfl _ _ rfl w0.heap.size _ 0 (vals []) rfl hown _ n1 (vals l1) rfl hnews (by omega) (by unfold maxLen; omega) hsz ?_; intro v3 w3 hown3 hgr)
          have hb3 := hide ((unhide hb2).grown hgr hsz (fun k hk => (hown.lt k hk).1))
          rw [Nat.zero_add] at hown3
          replace hown3 := hide hown3
          clear hnews hown hgr
          go_wp2
          go_roundw
          case rel => exact ⟨unhide hb3, .inr (.inl ⟨by go_num, unhide hown3⟩)⟩
          case measure => simp [intOf]
        · have d1 := (hb2.cell hg).trans c2
          have hnews := ls_news ((unhide H2).later hb2)
          rw [← unhide hn2] at hnews
          have hsz := hb2.size
          replace hb2 := hide hb2
          go_wp2_with (at_builtin; refine wpList_app elInt _ rfl _ _ rfl w0.heap.size _ n1 (vals l1) rfl hown _ n2 (vals l2) rfl hnews (by omega) (by unfold maxLen; omega) hsz ?_; intro v3 w3 hown3 hgr)
          have hb3 := hide ((unhide hb2).grown hgr hsz (fun k hk => (hown.lt k hk).1))
          have hown4 : w3.ownsRow w0.heap.size 3 1 v3 N (vals (l1 ++ l2)) := by
            rw [unhide hN]; unfold vals at hown3 ⊢; rw [List.map_append]; exact hown3
          replace hown4 := hide hown4
          clear hnews hown hgr hown3
          go_wp2
          go_roundw
          case rel => exact ⟨unhide hb3, .inr (.inr ⟨by go_num, unhide hown4⟩)⟩
          case measure => simp [intOf]
        · subst hw0
          have fl := hide (own_ls hown)
          replace hb2 := hide hb2
          clear hown
          go_wp2
          go_ret
          exact ⟨_, rfl, unhide fl, unhide hb2⟩
/-- The numbers that an instruction names. -/
def namedD (x : In) : List Int := if x.k = 1 ∨ x.k = 2 then [x.a, x.b, x.c] else if x.k = 3 ∨ x.k = 5 then [x.a, x.b] else if x.k = 4 then x.a :: x.b :: x.l else []
theorem Ls.next {w w' : World} {v : Value} {l : List Int} (h : Ls w.heap.size w v l) (hb : Below w.heap.size w w') : Ls w'.heap.size w' v l := (h.later hb).up hb.size
/-- A slice of numbers, newly made. -/
theorem ls_new (w : World) (l : List Int) (cs : Array Value) (t : TypeId) (N n : Nat) (hN : N = w.heap.size) (hn : n = l.length) (hs : n ≤ 1000) (h : ∀ i, i < n → cs[i]? = some (.int .i64 (l.getD i 0))) :
    Ls (w.alloc (.cells cs t)).heap.size (w.alloc (.cells cs t)) (.slice (some ⟨N, 0, none⟩) n n) l := by
  subst hN
  have hh : (w.alloc (.cells cs t)).heap[w.heap.size]? = some (.cells cs t) := heap_alloc_new w _
  refine ⟨_, n, n, rfl, Nat.le_refl _, by unfold maxLen; omega, (fun e => by cases e), hn.symm, .inr ⟨w.heap.size, 0, rfl, heap_lt hh, fun i hi => ?_⟩⟩
  unfold World.cell?
  rw [hh, Nat.zero_add]
  exact h i hi
set_option maxRecDepth 100000 in
theorem named_any (x : In) (v : Value) (w : World) (hl : Ls w.heap.size w v x.l) (h1000 : x.l.length ≤ 500) :
    Calls Tryd.prog 26 #[iv x v] w fun e w' => ∃ u, e = .returned u ∧ Ls w'.heap.size w' u (namedD x) ∧ Below w.heap.size w w' := by
  obtain ⟨k, a, b, d, l⟩ := x
  have hl0 := hl
  obtain ⟨p, cap, rfl, g1, g2, g3, g4⟩ := ls_len hl
  obtain ⟨n, hn⟩ : ∃ n, n = l.length := ⟨_, rfl⟩
  replace hl0 : Ls w.heap.size w (.slice p n cap) l := by rw [hn]; exact hl0
  show Calls Tryd.prog 26 #[iv ⟨k, a, b, d, l⟩ (.slice p l.length cap)] w _
  rw [← hn]
  unfold iv
  have b1 := below_new w (.cells #[.int .i64 k, .int .i64 a, .int .i64 b, .int .i64 d, .slice p n cap] 32)
  replace h1000 : l.length ≤ 500 := h1000
  clear hl g4
  replace hn := hide hn
  have three : ∀ kk : Int, (kk = 1 ∨ kk = 2) → namedD ⟨kk, a, b, d, l⟩ = [a, b, d] := fun kk h => by unfold namedD; rw [if_pos h]
  have two : ∀ kk : Int, (kk = 3 ∨ kk = 5) → namedD ⟨kk, a, b, d, l⟩ = [a, b] := fun kk h => by unfold namedD; rw [if_neg (by show ¬ (kk = 1 ∨ kk = 2); omega), if_pos h]
  have r3 := ls_new (w.alloc (.cells #[.int .i64 k, .int .i64 a, .int .i64 b, .int .i64 d, .slice p n cap] 32)) [a, b, d] #[.int .i64 a, .int .i64 b, .int .i64 d] 3 (w.heap.size + 1) 3 (by simp) rfl (by omega) (fun i hi => by
    have : i = 0 ∨ i = 1 ∨ i = 2 := by omega
    rcases this with rfl | rfl | rfl <;> rfl)
  have r2 := ls_new (w.alloc (.cells #[.int .i64 k, .int .i64 a, .int .i64 b, .int .i64 d, .slice p n cap] 32)) [a, b] #[.int .i64 a, .int .i64 b] 3 (w.heap.size + 1) 2 (by simp) rfl (by omega) (fun i hi => by
    have : i = 0 ∨ i = 1 := by omega
    rcases this with rfl | rfl <;> rfl)
  have b3 := below_then b1 (below_new _ (.cells #[.int .i64 a, .int .i64 b, .int .i64 d] 3))
  have b2 := below_then b1 (below_new _ (.cells #[.int .i64 a, .int .i64 b] 3))
  have b4 := below_then b2 (below_new _ (.cells #[.slice (some ⟨w.heap.size + 1, 0, none⟩) 2 2, .slice p n cap] 25))
  have q1 := r2.next (below_new _ (.cells #[.slice (some ⟨w.heap.size + 1, 0, none⟩) 2 2, .slice p n cap] 25))
  have q2 := hl0.next b4
  have kC := concat_any (w.heap.size + 1 + 1) (.slice (some ⟨w.heap.size + 1, 0, none⟩) 2 2) (.slice p n cap) [a, b] l _ (by
      have hh := heap_alloc_new ((w.alloc (.cells #[.int .i64 k, .int .i64 a, .int .i64 b, .int .i64 d, .slice p n cap] 32)).alloc (.cells #[.int .i64 a, .int .i64 b] 3)) (.cells #[.slice (some ⟨w.heap.size + 1, 0, none⟩) 2 2, .slice p n cap] 25)
      have e : ((w.alloc (.cells #[.int .i64 k, .int .i64 a, .int .i64 b, .int .i64 d, .slice p n cap] 32)).alloc (.cells #[.int .i64 a, .int .i64 b] 3)).heap.size = w.heap.size + 1 + 1 := by simp
      rw [e] at hh
      unfold World.cell?
      rw [hh]; rfl) (by
      have hh := heap_alloc_new ((w.alloc (.cells #[.int .i64 k, .int .i64 a, .int .i64 b, .int .i64 d, .slice p n cap] 32)).alloc (.cells #[.int .i64 a, .int .i64 b] 3)) (.cells #[.slice (some ⟨w.heap.size + 1, 0, none⟩) 2 2, .slice p n cap] 25)
      have e : ((w.alloc (.cells #[.int .i64 k, .int .i64 a, .int .i64 b, .int .i64 d, .slice p n cap] 32)).alloc (.cells #[.int .i64 a, .int .i64 b] 3)).heap.size = w.heap.size + 1 + 1 := by simp
      rw [e] at hh
      unfold World.cell?
      rw [hh]; rfl) q1 q2 (by show 1 ≤ 2; omega) (by show 2 + _ ≤ _; omega)
  clear q1 q2 hl0
  replace r3 := hide r3
  replace r2 := hide r2
  replace b1 := hide b1
  replace b2 := hide b2
  replace b3 := hide b3
  replace b4 := hide b4
  replace kC := hide kC
  replace three := hide three
  replace two := hide two
  by_cases h1 : k = 1
  · subst h1
    go_enter Tryd.func26, Tryd.ntmps26
    go_wp2
    go_ret
    exact ⟨_, rfl, by rw [unhide three 1 (by decide)]; exact unhide r3, unhide b3⟩
  by_cases h2 : k = 2
  · subst h2
    go_enter Tryd.func26, Tryd.ntmps26
    go_wp2
    go_ret
    exact ⟨_, rfl, by rw [unhide three 2 (by decide)]; exact unhide r3, unhide b3⟩
  by_cases h3 : k = 3
  · subst h3
    go_enter Tryd.func26, Tryd.ntmps26
    go_wp2
    go_ret
    exact ⟨_, rfl, by rw [unhide two 3 (by decide)]; exact unhide r2, unhide b2⟩
  by_cases h5 : k = 5
  · subst h5
    go_enter Tryd.func26, Tryd.ntmps26
    go_wp2
    go_ret
    exact ⟨_, rfl, by rw [unhide two 5 (by decide)]; exact unhide r2, unhide b2⟩
  by_cases h4 : k = 4
  · subst h4
    go_enter Tryd.func26, Tryd.ntmps26
    go_wp2_with fail
    refine (unhide kC).mono ?_
    rintro e w5 ⟨u, rfl, hu, hb5⟩
    have b5 := hide (below_then (unhide b4) hb5)
    replace hu := hide hu
    clear hb5
    go_wp2
    go_ret
    exact ⟨_, rfl, unhide hu, unhide b5⟩
  have n1 : (k == 1) = false := by simpa using h1
  have n2 : (k == 2) = false := by simpa using h2
  have n3 : (k == 3) = false := by simpa using h3
  have n4 : (k == 4) = false := by simpa using h4
  have n5 : (k == 5) = false := by simpa using h5
  have e0 : Hid (namedD ⟨k, a, b, d, l⟩ = []) := hide (by simp [namedD, h1, h2, h3, h4, h5])
  go_enter Tryd.func26, Tryd.ntmps26
  go_wp2
  go_ret
  exact ⟨_, rfl, by rw [unhide e0]; exact ⟨none, 0, 0, rfl, Nat.le_refl _, Nat.zero_le _, fun _ => rfl, rfl, .inl rfl⟩, unhide b1⟩
end Go.Proofs.YtanieihnkajpdaaDoor
