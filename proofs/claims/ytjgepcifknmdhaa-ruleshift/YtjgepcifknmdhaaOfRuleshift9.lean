/- Texts of this claim, put together in their order. -/
import Derived.Test.YtjgepcifknmdhaaBase1
import Derived.Test.YtjgepcifknmdhaaBase2
import Derived.Test.YtjgepcifknmdhaaBase3
import Derived.Test.YtjgepcifknmdhaaBase4
import Derived.Test.YtjgepcifknmdhaaBase5
import Derived.Test.YtjgepcifknmdhaaBase6
import Derived.Test.YtjgepcifknmdhaaBase7
import Derived.Test.YtjgepcifknmdhaaBase8
/- RuleNone. -/
namespace Go.Proofs.Ytjgepcifknmdhaa
open Go.RowKit
set_option linter.unusedVariables false

/-- The edges that go the one way. -/
def noL (T : List Int) (up : Bool) (l : List En) : List En := l.filter (fun e => !(e.1 == e.2) && (ygB T e.1 e.2 == up))
theorem no_succ (T : List Int) (up : Bool) (l : List En) (t : Nat) (ht : t < l.length) : noL T up (l.take (t + 1)) = noL T up (l.take t) ++ (if (!((l.getD t (0, 0)).1 == (l.getD t (0, 0)).2) && (ygB T (l.getD t (0, 0)).1 (l.getD t (0, 0)).2 == up)) = true then [l.getD t (0, 0)] else []) := by
  unfold noL
  rw [List.take_succ_eq_append_getElem ht, List.filter_append]
  have e : l.getD t (0, 0) = l[t] := by simp [List.getD, ht]
  rw [e]
  cases h : (!(l[t].1 == l[t].2) && (ygB T l[t].1 l[t].2 == up)) <;> simp [h]
theorem no_le (T : List Int) (up : Bool) (l : List En) : (noL T up l).length ≤ l.length := List.length_filter_le _ _
theorem no_mem {T : List Int} {up : Bool} {l : List En} {a b : Int} (h : CE (noL T up l) a b) : a ≠ b ∧ ygB T a b = up := by
  have := (List.mem_filter.1 h).2
  simpa using this
theorem no_plain (T : List Int) (up : Bool) (l : List En) : circD (noL T up l) = [] ∧ (up = true → canon (wouL T (noL T up l)) = []) ∧ (up = false → canon (deaL T (noL T up l)) = []) := by
  refine ⟨?_, fun e => canon_nil ?_, fun e => canon_nil ?_⟩
  · cases up
    · exact oneway_down fun a b h => yg_tot (no_mem h).1 (no_mem h).2
    · exact oneway_up fun a b h => (no_mem h).2
  · rw [List.eq_nil_iff_forall_not_mem]
    intro x hx
    obtain ⟨a, h1, h2⟩ := wou_mem.1 hx
    have h3 := (no_mem h1).2
    rw [e] at h3
    rw [yg_asym h3] at h2
    cases h2
  · rw [List.eq_nil_iff_forall_not_mem]
    intro x hx
    obtain ⟨a, h1, h2⟩ := dea_mem.1 hx
    have h3 := (no_mem h1).2
    rw [e] at h3
    rw [h3] at h2
    cases h2
theorem blw_drewN (w : World) (n : Nat) : Below w.heap.size w (w.drewN n) := ⟨rfl, rfl, rfl, Nat.le_refl _, fun _ _ => rfl⟩
set_option maxRecDepth 100000 in
set_option maxHeartbeats 2000000 in
theorem ruleNone_walk (a0 : Option Addr) (len0 cap0 : Nat) (T : List Int) (a1 : Option Addr) (len1 cap1 : Nat) (Z1 : Nat → Nat → Int) (up : Bool) (W : World) (s0 : SegK .i64 W a0 len0 T) (lc0 : len0 ≤ cap0) (cm0 : cap0 ≤ maxLen) (wz0 : ∀ z ∈ T, (Lit.int .i64 z).wf = true)
    (s1 : RecsB 2 W.heap.size W a1 len1 Z1) (lc1 : len1 ≤ cap1) (cm1 : cap1 ≤ maxLen) (wz1 : ∀ i, i < len1 → ∀ j, j < 2 → (Lit.int .i64 (Z1 i j)).wf = true) :
    Calls Try.prog 7 #[.slice a0 len0 cap0, .slice a1 len1 cap1, .bool up] W fun e w' => e = .returned (.bool true) ∧ Below W.heap.size W w' := by
  have R0 : Re W (.slice a1 len1 cap1) (edgesOf len1 Z1) := re_recs s1
  have hl1 := edges_len len1 Z1
  generalize edgesOf len1 Z1 = l at R0 hl1
  have G0 : Rd W (.slice a0 len0 cap0) T := rd_seg s0
  have hl0 : T.length = len0 := s0.1
  unfold maxLen at cm0 cm1
  clear s0 wz0 s1 wz1
  have C1 := hide (frs_any W)
  replace hl0 := hide hl0
  replace hl1 := hide hl1
  replace R0 := hide R0
  replace G0 := hide G0
  go_enter Try.func7, Try.ntmps7
  go_wp2_with fail
  refine (unhide C1).mono ?_
  rintro e w1 ⟨rfl, b1⟩
  have R1 := hide ((unhide R0).next b1)
  have G1 := hide ((unhide G0).next b1)
  replace b1 := hide b1
  have last : Hid (∀ P : Ending → World → Prop, (∀ w', Below W.heap.size W w' → P (.returned (.bool true)) w') → Calls Try.prog 23 #[] w1 P) := fun P h => (frs_any w1).mono (by rintro e w' ⟨rfl, b⟩; exact h _ (below_then (unhide b1) b))
  clear C1 R0 G0
  by_cases h60 : len1 ≤ 60
  · by_cases h100 : len0 ≤ 100
    · have hT : Hid (T.length ≤ 1000) := by show _ ≤ _; rw [unhide hl0]; omega
      have f1 : decide (60 < (len1 : Int)) = false := by simp; omega
      have f2 : decide (100 < (len0 : Int)) = false := by simp; omega
      go_wp2
      clear last f1 f2
      go_loopw [7, 8] (fun s7 s8 wr => ∃ (t k : Nat) (ag : Option Addr) (cg : Nat), t ≤ len1 ∧ k ≤ t ∧ s7 = .slice ag k cg ∧ s8 = .int .i64 t ∧ Hid ((noL T up (l.take t)).length = k) ∧ Hid (Pr 41 w1.heap.size (.slice ag k cg) (noL T up (l.take t)) wr) ∧ Hid (Below w1.heap.size w1 wr)) (fun _ s8 _ => len1 - (intOf s8).toNat)
      case atStart => exact ⟨0, 0, none, 0, Nat.zero_le _, Nat.le_refl _, rfl, rfl, rfl, Pr.nil _ _ _, Below.refl _ _⟩
      case round =>
        obtain ⟨t, k, ag, cg, ht, hk, rfl, rfl, hl3, I3, b3⟩ := hrel
        have hk9 : k < 10000000 := by omega
        by_cases hlt : t < len1
        · have hlt2 : t < l.length := by rw [unhide hl1]; exact hlt
          obtain ⟨g, o, rfl, _, d1, d2⟩ := ((unhide R1).next (unhide b3)).at hlt2
          obtain ⟨x, hx⟩ : ∃ x, x = l.getD t (0, 0) := ⟨_, rfl⟩
          have hs := no_succ T up l t hlt2
          rw [← hx] at d1 d2 hs
          replace hx := hide hx
          have G3 := hide ((unhide G1).next (unhide b3))
          have Y : Hid (∀ n, Calls Try.prog 31 #[.slice a0 len0 cap0, .int .i64 x.1, .int .i64 x.2] (wr.drewN n) fun e w' => e = .returned (.bool (ygB T x.1 x.2)) ∧ w' = wr.drewN n) := fun n => lyounger_any _ ((unhide G3).next (blw_drewN _ n)) (unhide hT) _ _
          cases hne : (x.1 == x.2)
          · have hne2 : (x.1 != x.2) = true := by show (!(x.1 == x.2)) = _; rw [hne]; rfl
            cases hup : (ygB T x.1 x.2 == up)
            · rw [hne, hup] at hs
              replace hs := hide (show noL T up (l.take (t + 1)) = noL T up (l.take t) by simpa using hs)
              generalize ygB T x.1 x.2 = y at *
              clear G3
              go_wp2_with fail
              go_quiet ((go_at_call 31; exact Calls.quiet_of_same (unhide Y _)))
              go_wp2
              go_roundw
              case rel => exact ⟨t + 1, k, ag, cg, by omega, by omega, rfl, by go_num, by rw [unhide hs]; exact unhide hl3, by rw [unhide hs]; exact (unhide I3).drewN nq, bt (unhide b3) (blw_drewN wr nq) (unhide b3).size⟩
              case measure => simp [intOf]; omega
            · rw [hne, hup] at hs
              replace hs := hide (show noL T up (l.take (t + 1)) = noL T up (l.take t) ++ [x] by simpa using hs)
              generalize ygB T x.1 x.2 = y at *
              clear G3
              go_wp2_with fail
              go_quiet ((go_at_call 31; exact Calls.quiet_of_same (unhide Y _)))
              obtain ⟨w5, hw5⟩ : ∃ w5, w5 = wr.drewN nq := ⟨_, rfl⟩
              rw [← hw5]
              have b5 : Below w1.heap.size w1 w5 := by rw [hw5]; exact bt (unhide b3) (blw_drewN wr nq) (unhide b3).size
              have I5 : Pr 41 w1.heap.size (.slice ag k cg) (noL T up (l.take t)) w5 := by rw [hw5]; exact (unhide I3).drewN nq
              have d1' : w5.cell? ⟨g, o + t * 2, none⟩ = some (.int .i64 x.1) := by rw [hw5]; exact d1
              have d2' : w5.cell? ⟨g, o + t * 2 + 1, none⟩ = some (.int .i64 x.2) := by rw [hw5]; exact d2
              replace b5 := hide b5
              replace I5 := hide I5
              have hb5 : Hid (w1.heap.size ≤ w5.heap.size) := (unhide b5).size
              clear hw5 d1 d2 I3 b3 Y
              go_wp2_with (at_builtin; refine wpList_pair 41 22 Try.underlying22 inf39 w5 rfl (.tmp 53) (.tmp 58) rfl w1.heap.size ag k cg _ x _ rfl rfl rfl (unhide hl3) (unhide I5) (unhide hb5) hk9 ?_; intro g7 cap7 w7 a1 a2; replace a1 := hide a1; replace a2 := hide a2)
              go_roundw
              case rel => exact ⟨t + 1, k + 1, some ⟨g7, 0, none⟩, cap7, by omega, by omega, rfl, by go_num, by
                show _ = _
                rw [unhide hs, List.length_append, unhide hl3]; rfl, by rw [unhide hs]; exact unhide a1, (unhide b5).grown (unhide a2) (unhide b5).size (fun k hk => ((unhide I5).lt k hk).1)⟩
              case measure => simp [intOf]; omega
          · rw [hne] at hs
            replace hs := hide (show noL T up (l.take (t + 1)) = noL T up (l.take t) by simpa using hs)
            have hne2 : (x.1 != x.2) = false := by show (!(x.1 == x.2)) = _; rw [hne]; rfl
            clear G3 Y
            go_wp2_with fail
            go_quiet (fail)
            go_wp2
            go_roundw
            case rel => exact ⟨t + 1, k, ag, cg, by omega, by omega, rfl, by go_num, by rw [unhide hs]; exact unhide hl3, by rw [unhide hs]; exact (unhide I3).drewN nq, bt (unhide b3) (blw_drewN wr nq) (unhide b3).size⟩
            case measure => simp [intOf]; omega
        · have e1 : l.take t = l := List.take_of_length_le (by rw [unhide hl1]; omega)
          rw [e1] at hl3 I3
          obtain ⟨m, hm⟩ : ∃ m, m = noL T up l := ⟨_, rfl⟩
          have hp := no_plain T up l
          rw [← hm] at hl3 I3 hp
          have hm9 : Hid (m.length ≤ 300) := by have := no_le T up l; show _ ≤ _; rw [hm]; have := unhide hl1; omega
          replace hl3 := hide (unhide hl3)
          replace hm := hide hm
          obtain ⟨hc, hw, hd⟩ := hp
          have hv : Hid (vicD T m = []) := vic_no hc
          replace hc := hide hc
          have G3 := hide ((unhide G1).next (unhide b3))
          have M3 := hide (unhide I3).re
          have B3 := hide (below_then (unhide b1) (unhide b3))
          clear e1 I3 b3 G1 R1
          cases up
          · have hd := hd rfl
            have C2 := hide (deaths_any wr (unhide G3) (unhide hT) (unhide M3) (Nat.le_trans (unhide hm9) (by decide)))
            rw [hd] at C2
            clear hw hd
            go_wp2_with fail
            refine (unhide C2).mono ?_
            rintro e w4 ⟨v4, rfl, i4, b4⟩
            obtain ⟨a4, c4, rfl⟩ := i4.form
            rw [show ([] : List Int).length = 0 from rfl]
            have G4 := hide ((unhide G3).next b4)
            have M4 := hide ((unhide M3).next b4)
            have B4 := hide (below_then (unhide B3) b4)
            clear i4 b4 C2 G3 M3 B3
            have C5 := hide (frs_any w4)
            go_wp2_with fail
            refine (unhide C5).mono ?_
            rintro e w5 ⟨rfl, b5⟩
            have G5 := hide ((unhide G4).next b5)
            have M5 := hide ((unhide M4).next b5)
            have B5 := hide (below_then (unhide B4) b5)
            have C6 := hide (acyclic_any w5 (unhide M5) (unhide hm9))
            rw [unhide hc] at C6
            clear G4 M4 B4 C5 b5
            go_wp2_with fail
            refine (unhide C6).mono ?_
            rintro e w6 ⟨rfl, b6⟩
            rw [show (([] : List Int).length == 0) = true from rfl]
            have G6 := hide ((unhide G5).next b6)
            have M6 := hide ((unhide M5).next b6)
            have B6 := hide (below_then (unhide B5) b6)
            have C7 := hide (victims_any w6 (unhide G6) (unhide hT) (unhide M6) (unhide hm9))
            rw [unhide hv] at C7
            clear G5 M5 B5 C6 b6
            go_wp2_with fail
            refine (unhide C7).mono ?_
            rintro e w7 ⟨v7, rfl, i7, b7⟩
            obtain ⟨a7, c7, rfl⟩ := i7.form
            rw [show ([] : List Int).length = 0 from rfl]
            have B7 := hide (below_then (unhide B6) b7)
            clear i7 b7 C7 G6 M6 B6
            go_wp2
            go_ret
            exact ⟨rfl, unhide B7⟩
          · have hw := hw rfl
            have C2 := hide (wounds_any wr (unhide G3) (unhide hT) (unhide M3) (Nat.le_trans (unhide hm9) (by decide)))
            rw [hw] at C2
            clear hw hd
            go_wp2_with fail
            refine (unhide C2).mono ?_
            rintro e w4 ⟨v4, rfl, i4, b4⟩
            obtain ⟨a4, c4, rfl⟩ := i4.form
            rw [show ([] : List Int).length = 0 from rfl]
            have G4 := hide ((unhide G3).next b4)
            have M4 := hide ((unhide M3).next b4)
            have B4 := hide (below_then (unhide B3) b4)
            clear i4 b4 C2 G3 M3 B3
            have C5 := hide (frs_any w4)
            go_wp2_with fail
            refine (unhide C5).mono ?_
            rintro e w5 ⟨rfl, b5⟩
            have G5 := hide ((unhide G4).next b5)
            have M5 := hide ((unhide M4).next b5)
            have B5 := hide (below_then (unhide B4) b5)
            have C6 := hide (acyclic_any w5 (unhide M5) (unhide hm9))
            rw [unhide hc] at C6
            clear G4 M4 B4 C5 b5
            go_wp2_with fail
            refine (unhide C6).mono ?_
            rintro e w6 ⟨rfl, b6⟩
            rw [show (([] : List Int).length == 0) = true from rfl]
            have G6 := hide ((unhide G5).next b6)
            have M6 := hide ((unhide M5).next b6)
            have B6 := hide (below_then (unhide B5) b6)
            have C7 := hide (victims_any w6 (unhide G6) (unhide hT) (unhide M6) (unhide hm9))
            rw [unhide hv] at C7
            clear G5 M5 B5 C6 b6
            go_wp2_with fail
            refine (unhide C7).mono ?_
            rintro e w7 ⟨v7, rfl, i7, b7⟩
            obtain ⟨a7, c7, rfl⟩ := i7.form
            rw [show ([] : List Int).length = 0 from rfl]
            have B7 := hide (below_then (unhide B6) b7)
            clear i7 b7 C7 G6 M6 B6
            go_wp2
            go_ret
            exact ⟨rfl, unhide B7⟩
    · go_wp2_with (go_at_call 23; refine unhide last _ ?_; intro w' hb)
      go_ret
      exact ⟨rfl, hb⟩
  · go_wp2_with (go_at_call 23; refine unhide last _ ?_; intro w' hb)
    go_ret
    exact ⟨rfl, hb⟩
end Go.Proofs.Ytjgepcifknmdhaa

/- RuleShift: the plain part; two rows that grow side by side. -/
namespace Go.Proofs.Ytjgepcifknmdhaa
open Go.RowKit
set_option linter.unusedVariables false

/-- Two slices that do not share a row. -/
def Dj (u v : Value) : Prop := ∀ g, u.ownBlock = some g → v.ownBlock ≠ some g
theorem Dj.comm {u v : Value} (h : Dj u v) : Dj v u := fun g h1 h2 => h g h2 h1
theorem own_slice (g n c : Nat) : (Value.slice (some ⟨g, 0, none⟩) n c).ownBlock = some g := rfl
/-- Behind an append to the one. -/
theorem dj_step {M : Nat} {u v : Value} {l m : List Int} {w w' : World} (hu : Is M u l w) (hv : Is M v m w) (d : Dj u v) {g n c : Nat} (k : w.grownBy w' u.ownBlock) (hg : u.ownBlock = some g ∨ w.heap.size ≤ g) : Is M v m w' ∧ Dj (.slice (some ⟨g, 0, none⟩) n c) v := by
  refine ⟨hv.keep fun j hj => k.block j (hv.lt j hj).2 fun e => d j e.symm hj, fun j hj e => ?_⟩
  rw [own_slice] at hj
  injection hj with hj
  subst hj
  rcases hg with h | h
  · exact d g h e
  · have := (hv.lt g e).2
    omega
theorem wpList_pushd (w : World) {ops : Array Oper} {rest : List Oper} {o : Oper} {a : Act} {Q : Exit → Act → World → Prop} (hgd : o.guard = none) (s x : Operand)
    (ho : o.op = .call { callee := .builtin .append, args := #[s, x], argTypes := #[23, 23] }) (base : Nat) (ag : Option Addr) (n cg : Nat) (l : List Int) (z : Int)
    (N : Nat) (hs : a.eval s = .slice ag n cg) (hx : a.eval x = .slice (some ⟨N, 0, none⟩) 1 1) (hN : w.heap.size = N) (hn : l.length = n) (hown : Is base (.slice ag n cg) l w) (hb : base ≤ w.heap.size) (hm : n < 10000000)
    (h : ∀ g cap w', Is base (.slice (some ⟨g, 0, none⟩) (n + 1) cap) (l ++ [z]) w' → w.grownBy w' (Value.slice ag n cg).ownBlock → ((Value.slice ag n cg).ownBlock = some g ∨ w.heap.size ≤ g) → wpList Try.prog ops Q rest (a.put o.dst (.slice (some ⟨g, 0, none⟩) (n + 1) cap)) w') :
    wpList Try.prog ops Q (o :: rest) a (w.alloc (.cells #[.int .i64 z] 3)) := by
  subst hN
  obtain ⟨i3, hi3, hz0, hz1, hz2⟩ := info_parts inf3
  have B5 := below_new w (.cells #[.int .i64 z] 3)
  have G5 := hown.next B5
  have own5 : (w.alloc (.cells #[.int .i64 z] 3)).ownsRow base 3 1 (.slice ag n cg) n (vals l) := by
    have := G5
    unfold Is at this
    rw [hn] at this
    exact this
  refine wpList_append_lies _ hgd s x 23 ho base 3 i3 _ 1 8 Try.underlying23 hi3 hz0 hz1 hz2 rfl (by decide) _ n _ hs own5 ⟨w.heap.size, 0, none⟩ 1 1 [.int .i64 z] hx rfl (World.news_of_block (heap_alloc_new w _)) (vals_one [z]) (by decide) (by unfold maxLen; omega) (by omega) (Nat.le_trans hb B5.size) _ rfl ?_
  intro g cap w' a1 a2 a3 _
  refine h g cap w' ?_ (grown_trans (grown_of_below B5 _) a2) (a3.imp id fun e => by rw [e]; exact B5.size)
  unfold Is vals
  rw [List.length_append, hn, List.map_append]
  exact a1
/-- Tickets that are greater by the same; tickets that are all the same. -/
def upL (T : List Int) (by_ : Int) (n : Nat) : List Int := (List.range n).map fun (i : Nat) => tkD T (i : Int) + by_
def smL (by_ : Int) (n : Nat) : List Int := (List.range n).map fun _ => by_
theorem up_succ (T : List Int) (b : Int) (n : Nat) : upL T b (n + 1) = upL T b n ++ [tkD T (n : Int) + b] := by unfold upL; rw [List.range_succ, List.map_append]; rfl
theorem sm_succ (b : Int) (n : Nat) : smL b (n + 1) = smL b n ++ [b] := by unfold smL; rw [List.range_succ, List.map_append]; rfl
theorem up_len (T : List Int) (b : Int) (n : Nat) : (upL T b n).length = n := by unfold upL; simp
theorem sm_len (b : Int) (n : Nat) : (smL b n).length = n := by unfold smL; simp
theorem up_tk {T : List Int} {b : Int} {n : Nat} {x : Int} (h0 : 0 ≤ x) (hx : x < n) : tkD (upL T b n) x = tkD T x + b := by
  obtain ⟨k, rfl⟩ := Int.eq_ofNat_of_zero_le h0
  have hk : k < n := by omega
  rw [show tkD (upL T b n) (k : Int) = (upL T b n).getD k 0 by unfold tkD; rw [if_pos (by rw [up_len]; omega)]; rfl]
  unfold upL
  simp [List.getD, hk]
theorem sm_tk {b : Int} {n : Nat} {x : Int} (h0 : 0 ≤ x) (hx : x < n) : tkD (smL b n) x = b := by
  obtain ⟨k, rfl⟩ := Int.eq_ofNat_of_zero_le h0
  have hk : k < n := by omega
  rw [show tkD (smL b n) (k : Int) = (smL b n).getD k 0 by unfold tkD; rw [if_pos (by rw [sm_len]; omega)]; rfl]
  unfold smL
  simp [List.getD, hk]
/-- What the law says. -/
theorem shift_plain (T : List Int) (b : Int) (l : List En) (h : ∀ e ∈ l, (0 ≤ e.1 ∧ e.1 ≤ 99) ∧ 0 ≤ e.2 ∧ e.2 ≤ 99) :
    vicD T l = vicD (upL T b 100) l ∧ canon (wouL T l) = canon (wouL (upL T b 100) l) ∧ canon (deaL T l) = canon (deaL (upL T b 100) l) ∧ ∀ e ∈ l, e.1 < e.2 → hasB e.2 (canon (wouL (smL b 100) l)) = true := by
  have hn : ∀ a ∈ nodL l, 0 ≤ a ∧ a < (100 : Nat) := fun a ha => by
    obtain ⟨e, h1, h2⟩ := nod_mem.1 ha
    have := h e h1
    omega
  have hy : ∀ a ∈ nodL l, ∀ c ∈ nodL l, ygB T a c = ygB (upL T b 100) a c := fun a ha c hc => by
    have h1 := hn a ha
    have h2 := hn c hc
    rw [Bool.eq_iff_iff, yg_iff, yg_iff, up_tk h1.1 h1.2, up_tk h2.1 h2.2]
    omega
  refine ⟨vic_like l hy, by rw [wou_like hy], by rw [dea_like hy], fun e he hlt => ?_⟩
  have h1 := h e he
  have hm : e.2 ∈ canon (wouL (smL b 100) l) := by
    rw [(canon_facts _).1, wou_mem]
    refine ⟨e.1, he, ?_⟩
    rw [yg_iff, sm_tk (by omega) (by omega), sm_tk (by omega) (by omega)]
    omega
  obtain ⟨i, hi, e2⟩ := mem_at hm
  exact has_yes _ _ i hi e2.symm
end Go.Proofs.Ytjgepcifknmdhaa

/- RuleShift: the walk. -/
namespace Go.Proofs.Ytjgepcifknmdhaa
open Go.RowKit
set_option linter.unusedVariables false

theorem take_snoc {P : En → Prop} {l : List En} {t : Nat} (ht : t < l.length) (h : ∀ e ∈ l.take t, P e) (hx : P (l.getD t (0, 0))) : ∀ e ∈ l.take (t + 1), P e := by
  intro e he
  rw [List.take_succ_eq_append_getElem ht] at he
  rcases List.mem_append.1 he with k | k
  · exact h e k
  · rw [List.mem_singleton.1 k]
    have e2 : l.getD t (0, 0) = l[t] := by simp [List.getD, ht]
    rw [← e2]; exact hx
theorem getD_mem {l : List En} {t : Nat} (ht : t < l.length) : l.getD t (0, 0) ∈ l := by
  have e2 : l.getD t (0, 0) = l[t] := by simp [List.getD, ht]
  rw [e2]; exact List.getElem_mem ht
set_option maxRecDepth 100000 in
set_option maxHeartbeats 4000000 in
theorem ruleShift_walk (a0 : Option Addr) (len0 cap0 : Nat) (T : List Int) (a1 : Option Addr) (len1 cap1 : Nat) (Z1 : Nat → Nat → Int) (b : Int) (W : World) (s0 : SegK .i64 W a0 len0 T) (lc0 : len0 ≤ cap0) (cm0 : cap0 ≤ maxLen) (wz0 : ∀ z ∈ T, (Lit.int .i64 z).wf = true)
    (s1 : RecsB 2 W.heap.size W a1 len1 Z1) (lc1 : len1 ≤ cap1) (cm1 : cap1 ≤ maxLen) (wz1 : ∀ i, i < len1 → ∀ j, j < 2 → (Lit.int .i64 (Z1 i j)).wf = true) (wb : (Lit.int .i64 b).wf = true) :
    Calls Try.prog 9 #[.slice a0 len0 cap0, .slice a1 len1 cap1, .int .i64 b] W fun e w' => e = .returned (.bool true) ∧ Below W.heap.size W w' := by
  have R0 : Re W (.slice a1 len1 cap1) (edgesOf len1 Z1) := re_recs s1
  have hl1 := edges_len len1 Z1
  generalize edgesOf len1 Z1 = l at R0 hl1
  have G0 : Rd W (.slice a0 len0 cap0) T := rd_seg s0
  have hl0 : T.length = len0 := s0.1
  unfold maxLen at cm0 cm1
  clear s0 wz0 s1 wz1 wb
  have C1 := hide (frs_any W)
  replace hl0 := hide hl0
  replace hl1 := hide hl1
  replace R0 := hide R0
  replace G0 := hide G0
  have last : Hid (∀ w1, Below W.heap.size W w1 → ∀ P : Ending → World → Prop, (∀ w', Below W.heap.size W w' → P (.returned (.bool true)) w') → Calls Try.prog 23 #[] w1 P) := fun w1 b1 P h => (frs_any w1).mono (by rintro e w' ⟨rfl, b⟩; exact h _ (below_then b1 b))
  go_enter Try.func9, Try.ntmps9
  go_wp2_with fail
  refine (unhide C1).mono ?_
  rintro e w1 ⟨rfl, b1⟩
  have R1 := hide ((unhide R0).next b1)
  have G1 := hide ((unhide G0).next b1)
  replace b1 := hide b1
  clear C1 R0 G0
  by_cases h1 : 60 < len1
  · go_wp2_with (go_at_call 23; refine unhide last _ (unhide b1) _ ?_; intro w9 hb9)
    go_ret
    exact ⟨rfl, hb9⟩
  by_cases h2 : 100 < len0
  · go_wp2_with (go_at_call 23; refine unhide last _ (unhide b1) _ ?_; intro w9 hb9)
    go_ret
    exact ⟨rfl, hb9⟩
  by_cases h3 : b < -1000000
  · go_wp2_with (go_at_call 23; refine unhide last _ (unhide b1) _ ?_; intro w9 hb9)
    go_ret
    exact ⟨rfl, hb9⟩
  by_cases h4 : 1000000 < b
  · go_wp2_with (go_at_call 23; refine unhide last _ (unhide b1) _ ?_; intro w9 hb9)
    go_ret
    exact ⟨rfl, hb9⟩
  have f1 : decide (60 < (len1 : Int)) = false := by simp; omega
  have f2 : decide (100 < (len0 : Int)) = false := by simp; omega
  have f3 : decide (b < -1000000) = false := by simp; omega
  have f4 : decide (1000000 < b) = false := by simp; omega
  have hT : Hid (T.length ≤ 1000) := by show _ ≤ _; rw [unhide hl0]; omega
  go_wp2
  clear f1 f2 f3 f4
  go_loopw [7, 8, 9] (fun s7 s8 s9 wr => ∃ (i : Nat) (ag ay : Option Addr) (cg cy : Nat), i ≤ 100 ∧ s7 = .slice ag i cg ∧ s8 = .slice ay i cy ∧ s9 = .int .i64 i ∧ Hid (Is w1.heap.size (.slice ag i cg) (upL T b i) wr) ∧ Hid (Is w1.heap.size (.slice ay i cy) (smL b i) wr) ∧ Hid (Dj (.slice ag i cg) (.slice ay i cy)) ∧ Hid (Below w1.heap.size w1 wr)) (fun _ _ s9 _ => 100 - (intOf s9).toNat)
  case atStart => exact ⟨0, none, none, 0, 0, Nat.zero_le _, rfl, rfl, rfl, is_nil _ _, is_nil _ _, (fun g h => by cases h), Below.refl _ _⟩
  case round =>
    obtain ⟨i, ag, ay, cg, cy, hi, rfl, rfl, rfl, U, S, D, b2⟩ := hrel
    by_cases hlt : i < 100
    · have hul : Hid ((upL T b i).length = i) := up_len T b i
      have hsl : Hid ((smL b i).length = i) := sm_len b i
      have us := hide (up_succ T b i)
      have ss := hide (sm_succ b i)
      have hbs : Hid (w1.heap.size ≤ wr.heap.size) := (unhide b2).size
      have hi9 : i < 10000000 := by omega
      have bW := hide (below_then (unhide b1) (unhide b2))
      by_cases hin : i < len0
      · obtain ⟨bb, off, rfl, d⟩ := seg_at (by have := (unhide G1).next (unhide b2); obtain ⟨a', c', e', s'⟩ := this; injection e' with e1 e2 e3; subst e1; exact s') (i := i) (by rw [unhide hl0]; exact hin)
        obtain ⟨x, hx⟩ : ∃ x, x = tkD T (i : Int) := ⟨_, rfl⟩
        rw [← tk_at (by rw [unhide hl0]; exact hin), ← hx] at d
        rw [← hx] at us
        replace hx := hide hx
        by_cases f1 : x < -1000000
        · have f2 : decide (x < -1000000) = true := by simpa using f1
          go_wp2_with (go_at_call 23; refine unhide last _ (unhide bW) _ ?_; intro w9 hb9)
          go_ret
          exact ⟨rfl, hb9⟩
        by_cases f2 : 1000000 < x
        · have f3 : decide (x < -1000000) = false := by simpa using f1
          have f4 : decide (1000000 < x) = true := by simpa using f2
          go_wp2_with (go_at_call 23; refine unhide last _ (unhide bW) _ ?_; intro w9 hb9)
          go_ret
          exact ⟨rfl, hb9⟩
        have f3 : decide (x < -1000000) = false := by simpa using f1
        have f4 : decide (1000000 < x) = false := by simpa using f2
        have f5 : IntKind.i64.wrap (x + b) = x + b := by rw [IntKind.wrap_i64]; omega
        go_wp2_with (at_builtin; first
          | (refine wpList_pushd wr rfl (.tmp 52) (.tmp 56) rfl w1.heap.size ag i cg _ (x + b) _ rfl rfl rfl (unhide hul) (unhide U) (unhide hbs) hi9 ?_; intro g7 c7 w7 x1 x2 x3; have y1 := dj_step (n := i + 1) (c := c7) (unhide U) (unhide S) (unhide D) x2 x3; have y2 := (unhide b2).grown x2 (unhide b2).size (fun k hk => ((unhide U).lt k hk).1); have y3 : Hid (w1.heap.size ≤ w7.heap.size) := y2.size; replace x1 := hide x1; replace y1 := hide y1; replace y2 := hide y2; clear x2 x3)
          | (refine wpList_pushd w7 rfl (.tmp 58) (.tmp 60) rfl w1.heap.size ay i cy _ b _ rfl rfl rfl (unhide hsl) (unhide y1).1 (unhide y3) hi9 ?_; intro g8 c8 w8 z1 z2 z3; have u1 := dj_step (n := i + 1) (c := c8) (unhide y1).1 (unhide x1) (unhide y1).2.comm z2 z3; have u2 := (unhide y2).grown z2 (unhide y2).size (fun k hk => ((unhide y1).1.lt k hk).1); replace z1 := hide z1; replace u1 := hide u1; replace u2 := hide u2; clear z2 z3))
        go_roundw
        case rel => exact ⟨i + 1, some ⟨g7, 0, none⟩, some ⟨g8, 0, none⟩, c7, c8, by omega, rfl, rfl, by go_num, by rw [unhide us]; exact (unhide u1).1, by rw [unhide ss]; exact unhide z1, (unhide u1).2.comm, unhide u2⟩
        case measure => simp [intOf]; omega
      · rw [tk_high (by rw [unhide hl0]; omega)] at us
        have f5 : IntKind.i64.wrap (0 + b) = 0 + b := by rw [IntKind.wrap_i64]; omega
        have f6 : IntKind.i64.wrap b = b := by rw [IntKind.wrap_i64]; omega
        have f7 : Hid (upL T b (i + 1) = upL T b i ++ [b]) := by have := unhide us; rw [Int.zero_add] at this; exact this
        replace us := f7
        go_wp2_with (at_builtin; first
          | (refine wpList_pushd wr rfl (.tmp 52) (.tmp 56) rfl w1.heap.size ag i cg _ b _ rfl rfl rfl (unhide hul) (unhide U) (unhide hbs) hi9 ?_; intro g7 c7 w7 x1 x2 x3; have y1 := dj_step (n := i + 1) (c := c7) (unhide U) (unhide S) (unhide D) x2 x3; have y2 := (unhide b2).grown x2 (unhide b2).size (fun k hk => ((unhide U).lt k hk).1); have y3 : Hid (w1.heap.size ≤ w7.heap.size) := y2.size; replace x1 := hide x1; replace y1 := hide y1; replace y2 := hide y2; clear x2 x3)
          | (refine wpList_pushd w7 rfl (.tmp 58) (.tmp 60) rfl w1.heap.size ay i cy _ b _ rfl rfl rfl (unhide hsl) (unhide y1).1 (unhide y3) hi9 ?_; intro g8 c8 w8 z1 z2 z3; have u1 := dj_step (n := i + 1) (c := c8) (unhide y1).1 (unhide x1) (unhide y1).2.comm z2 z3; have u2 := (unhide y2).grown z2 (unhide y2).size (fun k hk => ((unhide y1).1.lt k hk).1); replace z1 := hide z1; replace u1 := hide u1; replace u2 := hide u2; clear z2 z3))
        go_roundw
        case rel => exact ⟨i + 1, some ⟨g7, 0, none⟩, some ⟨g8, 0, none⟩, c7, c8, by omega, rfl, rfl, by go_num, by rw [unhide us]; exact (unhide u1).1, by rw [unhide ss]; exact unhide z1, (unhide u1).2.comm, unhide u2⟩
        case measure => simp [intOf]; omega
    · obtain rfl : i = 100 := by omega
      have R2 := hide ((unhide R1).next (unhide b2))
      have G2 := hide ((unhide G1).next (unhide b2))
      have U2 := hide (unhide U).rd
      have S2 := hide (unhide S).rd
      obtain ⟨up, hup⟩ : ∃ up, up = upL T b 100 := ⟨_, rfl⟩
      obtain ⟨sm, hsm⟩ : ∃ sm, sm = smL b 100 := ⟨_, rfl⟩
      have hu9 : Hid (up.length ≤ 1000) := by show _ ≤ _; rw [hup, up_len]; decide
      have hs9 : Hid (sm.length ≤ 1000) := by show _ ≤ _; rw [hsm, sm_len]; decide
      have pl : Hid ((∀ e ∈ l, (0 ≤ e.1 ∧ e.1 ≤ 99) ∧ 0 ≤ e.2 ∧ e.2 ≤ 99) → vicD T l = vicD up l ∧ canon (wouL T l) = canon (wouL up l) ∧ canon (deaL T l) = canon (deaL up l) ∧ ∀ e ∈ l, e.1 < e.2 → hasB e.2 (canon (wouL sm l)) = true) := fun h => by rw [hup, hsm]; exact shift_plain T b l h
      rw [← hup] at U2
      rw [← hsm] at S2
      have B2 := hide (below_then (unhide b1) (unhide b2))
      clear hup hsm U S D R1 G1 b2 b1 hi hlt
      go_wp2
      go_loopw [11] (fun s11 wy => ∃ (t : Nat) (wq9 : World), t ≤ len1 ∧ s11 = .int .i64 t ∧ wq9 = wy ∧ wq9 = wr ∧ Hid (∀ e ∈ l.take t, (0 ≤ e.1 ∧ e.1 ≤ 99) ∧ 0 ≤ e.2 ∧ e.2 ≤ 99)) (fun s11 _ => len1 - (intOf s11).toNat)
      case atStart => exact ⟨0, _, Nat.zero_le _, rfl, rfl, rfl, fun e he => by simp at he⟩
      case round =>
        obtain ⟨t, wq9, ht, rfl, hw1, hw2, ok⟩ := hrel
        subst hw1
        subst hw2
        by_cases hlt : t < len1
        · have hlt2 : t < l.length := by rw [unhide hl1]; exact hlt
          obtain ⟨g, o, rfl, _, d1, d2⟩ := (unhide R2).at hlt2
          obtain ⟨x, hx⟩ : ∃ x, x = l.getD t (0, 0) := ⟨_, rfl⟩
          rw [← hx] at d1 d2
          have stp : Hid ((0 ≤ x.1 ∧ x.1 ≤ 99) ∧ 0 ≤ x.2 ∧ x.2 ≤ 99 → ∀ e ∈ l.take (t + 1), (0 ≤ e.1 ∧ e.1 ≤ 99) ∧ 0 ≤ e.2 ∧ e.2 ≤ 99) := fun h => take_snoc hlt2 (unhide ok) (by rw [← hx]; exact h)
          replace hx := hide hx
          by_cases f1 : x.1 < 0
          · have e1 : decide (x.1 < 0) = true := by simpa using f1
            go_wp2_with (go_at_call 23; refine unhide last _ (unhide B2) _ ?_; intro w9 hb9)
            go_ret
            exact ⟨rfl, hb9⟩
          have e1 : decide (x.1 < 0) = false := by simpa using f1
          by_cases f2 : 99 < x.1
          · have e2 : decide (99 < x.1) = true := by simpa using f2
            go_wp2_with (go_at_call 23; refine unhide last _ (unhide B2) _ ?_; intro w9 hb9)
            go_ret
            exact ⟨rfl, hb9⟩
          have e2 : decide (99 < x.1) = false := by simpa using f2
          by_cases f3 : x.2 < 0
          · have e3 : decide (x.2 < 0) = true := by simpa using f3
            go_wp2_with (go_at_call 23; refine unhide last _ (unhide B2) _ ?_; intro w9 hb9)
            go_ret
            exact ⟨rfl, hb9⟩
          have e3 : decide (x.2 < 0) = false := by simpa using f3
          by_cases f4 : 99 < x.2
          · have e4 : decide (99 < x.2) = true := by simpa using f4
            go_wp2_with (go_at_call 23; refine unhide last _ (unhide B2) _ ?_; intro w9 hb9)
            go_ret
            exact ⟨rfl, hb9⟩
          have e4 : decide (99 < x.2) = false := by simpa using f4
          have ok2 := hide (unhide stp (by omega))
          clear f1 f2 f3 f4 stp
          go_wp2
          go_roundw
          case rel => exact ⟨t + 1, _, by omega, by go_num, rfl, rfl, unhide ok2⟩
          case measure => simp [intOf]; omega
        · obtain rfl : t = len1 := by omega
          have e1 : l.take t = l := List.take_of_length_le (by rw [unhide hl1]; omega)
          rw [e1] at ok
          obtain ⟨p1, p2, p3, p4⟩ := unhide pl (unhide ok)
          replace p1 := hide p1
          replace p2 := hide p2
          replace p3 := hide p3
          replace p4 := hide p4
          have hl3 : Hid (l.length ≤ 300) := by show _ ≤ _; rw [unhide hl1]; omega
          have C3 := hide (wounds_any _ (unhide S2) (unhide hs9) (unhide R2) (Nat.le_trans (unhide hl3) (by decide)))
          have hw9 : Hid ((canon (wouL sm l)).length ≤ 300) := by have q1 := canon_le (wouL sm l); have q2 := wou_le sm l; have q3 := unhide hl3; show _ ≤ _; omega
          clear e1 ok pl last hlt ht
          go_wp2_with fail
          refine (unhide C3).mono ?_
          rintro e w5 ⟨v5, rfl, i5, b5⟩
          have G5 := hide ((unhide G2).next b5)
          have U5 := hide ((unhide U2).next b5)
          have L5 := hide ((unhide R2).next b5)
          have B5 := hide (below_then (unhide B2) b5)
          replace i5 := hide i5.rd
          obtain ⟨aw, cw, rfl, sw⟩ := unhide i5
          clear sw b5 C3 G2 U2 R2 S2 B2
          generalize canon (wouL sm l) = wl at *
          obtain ⟨kw, hkw⟩ : ∃ kw, kw = wl.length := ⟨_, rfl⟩
          rw [← hkw] at i5 hw9 ⊢
          replace hkw := hide hkw
          go_wp2
          go_loopw [13] (fun s13 wy => ∃ (j : Nat) (wz : World), j ≤ t ∧ s13 = .int .i64 j ∧ wz = wy ∧ Hid (Below w5.heap.size w5 wz)) (fun s13 _ => t - (intOf s13).toNat)
          case atStart => exact ⟨0, _, Nat.zero_le _, rfl, rfl, Below.refl _ _⟩
          case round =>
            obtain ⟨j, wz, hj, rfl, hwz, bz⟩ := hrel
            subst hwz
            by_cases hlt : j < t
            · have hlt2 : j < l.length := by rw [unhide hl1]; exact hlt
              obtain ⟨g, o, rfl, _, d1, d2⟩ := ((unhide L5).next (unhide bz)).at hlt2
              obtain ⟨x, hx⟩ : ∃ x, x = l.getD j (0, 0) := ⟨_, rfl⟩
              rw [← hx] at d1 d2
              have hm : x ∈ l := by rw [hx]; exact getD_mem hlt2
              have H1 : ∀ n, Calls Try.prog 32 #[.slice aw kw cw, .int .i64 x.2] (wz.drewN n) fun e w' => e = .returned (.bool (hasB x.2 wl)) ∧ w' = wz.drewN n := fun n => has_any _ _ (((unhide i5).next (unhide bz)).next (blw_drewN _ n)) (by rw [← unhide hkw]; have := unhide hw9; omega)
              replace hx := hide hx
              by_cases f1 : x.1 < x.2
              · rw [unhide p4 x hm f1] at H1
                have e1 : decide (x.1 < x.2) = true := by simpa using f1
                clear f1 hm
                go_wp2_with fail
                go_quiet ((go_at_call 32; with_reducible exact Calls.quiet_of_same (H1 _)))
                go_wp2
                go_roundw
                case rel => exact ⟨j + 1, _, by omega, by go_num, rfl, bt (unhide bz) (blw_drewN wz nq) (unhide bz).size⟩
                case measure => simp [intOf]; omega
              · have e1 : decide (x.1 < x.2) = false := by simpa using f1
                clear f1 hm H1
                go_wp2_with fail
                go_quiet (fail)
                go_wp2
                go_roundw
                case rel => exact ⟨j + 1, _, by omega, by go_num, rfl, bt (unhide bz) (blw_drewN wz nq) (unhide bz).size⟩
                case measure => simp [intOf]; omega
            · obtain rfl : j = t := by omega
              have G6 := hide ((unhide G5).next (unhide bz))
              have U6 := hide ((unhide U5).next (unhide bz))
              have L6 := hide ((unhide L5).next (unhide bz))
              have B6 := hide (below_then (unhide B5) (unhide bz))
              have C7 := hide (frs_any wz)
              have hv1 : Hid ((vicD T l).length < 100000000) := by have q1 := vic_len T l; have q3 := unhide hl3; show _ < _; omega
              have hv2 : Hid ((vicD up l).length < 100000000) := by have q1 := vic_len up l; have q3 := unhide hl3; show _ < _; omega
              have hw1 : Hid ((canon (wouL T l)).length < 100000000) := by have q1 := canon_le (wouL T l); have q2 := wou_le T l; have q3 := unhide hl3; show _ < _; omega
              have hw2 : Hid ((canon (wouL up l)).length < 100000000) := by have q1 := canon_le (wouL up l); have q2 := wou_le up l; have q3 := unhide hl3; show _ < _; omega
              have hd1 : Hid ((canon (deaL T l)).length < 100000000) := by have q1 := canon_le (deaL T l); have q2 := dea_le T l; have q3 := unhide hl3; show _ < _; omega
              have hd2 : Hid ((canon (deaL up l)).length < 100000000) := by have q1 := canon_le (deaL up l); have q2 := dea_le up l; have q3 := unhide hl3; show _ < _; omega
              have hl7 : Hid (l.length ≤ 700) := Nat.le_trans (unhide hl3) (by decide)
              clear i5 G5 U5 L5 B5 bz
              go_wp2_with fail
              refine (unhide C7).mono ?_
              rintro e w7 ⟨rfl, b7⟩
              have G7 := hide ((unhide G6).next b7)
              have U7 := hide ((unhide U6).next b7)
              have L7 := hide ((unhide L6).next b7)
              have B7 := hide (below_then (unhide B6) b7)
              clear b7 C7 G6 U6 L6 B6
              have C7 := hide (victims_any w7 (unhide G7) (unhide hT) (unhide L7) (unhide hl3))
              go_wp2_with fail
              refine (unhide C7).mono ?_
              rintro e w8 ⟨v8, rfl, i8, b8⟩
              have G8 := hide ((unhide G7).next b8)
              have U8 := hide ((unhide U7).next b8)
              have L8 := hide ((unhide L7).next b8)
              have B8 := hide (below_then (unhide B7) b8)
              replace i8 := hide i8.rd
              have C8 := hide (victims_any w8 (unhide U8) (unhide hu9) (unhide L8) (unhide hl3))
              clear b8 C7 G7 U7 L7 B7
              go_wp2_with fail
              refine (unhide C8).mono ?_
              rintro e w9 ⟨v9, rfl, i9, b9⟩
              have G9 := hide ((unhide G8).next b9)
              have U9 := hide ((unhide U8).next b9)
              have L9 := hide ((unhide L8).next b9)
              have B9 := hide (below_then (unhide B8) b9)
              have C9 := hide (ints_any v8 v9 _ _ w9 ((unhide i8).next b9) i9.rd (unhide hv1) (unhide hv2))
              rw [beq_iff_eq.2 (unhide p1)] at C9
              clear b9 C8 G8 U8 L8 B8 i8 i9
              go_wp2_with fail
              refine (unhide C9).mono ?_
              rintro e w10 ⟨rfl, b10⟩
              have G10 := hide ((unhide G9).next b10)
              have U10 := hide ((unhide U9).next b10)
              have L10 := hide ((unhide L9).next b10)
              have B10 := hide (below_then (unhide B9) b10)
              clear b10 C9 G9 U9 L9 B9
              have C10 := hide (wounds_any w10 (unhide G10) (unhide hT) (unhide L10) (unhide hl7))
              go_wp2_with fail
              refine (unhide C10).mono ?_
              rintro e w11 ⟨v11, rfl, i11, b11⟩
              have G11 := hide ((unhide G10).next b11)
              have U11 := hide ((unhide U10).next b11)
              have L11 := hide ((unhide L10).next b11)
              have B11 := hide (below_then (unhide B10) b11)
              replace i11 := hide i11.rd
              have C11 := hide (wounds_any w11 (unhide U11) (unhide hu9) (unhide L11) (unhide hl7))
              clear b11 C10 G10 U10 L10 B10
              go_wp2_with fail
              refine (unhide C11).mono ?_
              rintro e w12 ⟨v12, rfl, i12, b12⟩
              have G12 := hide ((unhide G11).next b12)
              have U12 := hide ((unhide U11).next b12)
              have L12 := hide ((unhide L11).next b12)
              have B12 := hide (below_then (unhide B11) b12)
              have C12 := hide (ints_any v11 v12 _ _ w12 ((unhide i11).next b12) i12.rd (unhide hw1) (unhide hw2))
              rw [beq_iff_eq.2 (unhide p2)] at C12
              clear b12 C11 G11 U11 L11 B11 i11 i12
              go_wp2_with fail
              refine (unhide C12).mono ?_
              rintro e w13 ⟨rfl, b13⟩
              have G13 := hide ((unhide G12).next b13)
              have U13 := hide ((unhide U12).next b13)
              have L13 := hide ((unhide L12).next b13)
              have B13 := hide (below_then (unhide B12) b13)
              clear b13 C12 G12 U12 L12 B12
              have C13 := hide (deaths_any w13 (unhide G13) (unhide hT) (unhide L13) (unhide hl7))
              go_wp2_with fail
              refine (unhide C13).mono ?_
              rintro e w14 ⟨v14, rfl, i14, b14⟩
              have G14 := hide ((unhide G13).next b14)
              have U14 := hide ((unhide U13).next b14)
              have L14 := hide ((unhide L13).next b14)
              have B14 := hide (below_then (unhide B13) b14)
              replace i14 := hide i14.rd
              have C14 := hide (deaths_any w14 (unhide U14) (unhide hu9) (unhide L14) (unhide hl7))
              clear b14 C13 G13 U13 L13 B13
              go_wp2_with fail
              refine (unhide C14).mono ?_
              rintro e w15 ⟨v15, rfl, i15, b15⟩
              have G15 := hide ((unhide G14).next b15)
              have U15 := hide ((unhide U14).next b15)
              have L15 := hide ((unhide L14).next b15)
              have B15 := hide (below_then (unhide B14) b15)
              have C15 := hide (ints_any v14 v15 _ _ w15 ((unhide i14).next b15) i15.rd (unhide hd1) (unhide hd2))
              rw [beq_iff_eq.2 (unhide p3)] at C15
              clear b15 C14 G14 U14 L14 B14 i14 i15
              go_wp2_with fail
              refine (unhide C15).mono ?_
              rintro e w16 ⟨rfl, b16⟩
              have G16 := hide ((unhide G15).next b16)
              have U16 := hide ((unhide U15).next b16)
              have L16 := hide ((unhide L15).next b16)
              have B16 := hide (below_then (unhide B15) b16)
              clear b16 C15 G15 U15 L15 B15
              clear G16 U16 L16
              go_wp2
              go_ret
              exact ⟨rfl, unhide B16⟩
end Go.Proofs.Ytjgepcifknmdhaa
