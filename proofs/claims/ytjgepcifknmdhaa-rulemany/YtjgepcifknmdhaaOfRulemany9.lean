/- Texts of this claim, put together in their order. -/
import Derived.Test.YtjgepcifknmdhaaBase1
import Derived.Test.YtjgepcifknmdhaaBase2
import Derived.Test.YtjgepcifknmdhaaBase3
import Derived.Test.YtjgepcifknmdhaaBase4
import Derived.Test.YtjgepcifknmdhaaBase5
import Derived.Test.YtjgepcifknmdhaaBase6
import Derived.Test.YtjgepcifknmdhaaBase7
import Derived.Test.YtjgepcifknmdhaaBase8
/- The reference: Copy, Without, SameEdges. -/
namespace Go.Proofs.Ytjgepcifknmdhaa
open Go.RowKit
set_option linter.unusedVariables false

theorem hasB_dec (x : Int) (l : List Int) : hasB x l = decide (x ∈ l) := by
  by_cases h : x ∈ l
  · obtain ⟨i, hi, e⟩ := mem_at h
    rw [has_yes x l i hi e.symm]
    simp [h]
  · rw [hasB_false h]
    simp [h]
set_option maxRecDepth 100000 in
theorem rcopy_any (w : World) {v : Value} {l : List Int} (h : Rd w v l) (hz : Nz v) (hn : l.length ≤ 1500) :
    Calls Try.prog 64 #[v] w fun e w' => ∃ v', e = .returned v' ∧ Is w.heap.size v' l w' ∧ Below w.heap.size w w' := by
  obtain ⟨a, cap, rfl, hs⟩ := h
  have BW := below_new w (.cells #[] 3)
  have own : Hid ((w.alloc (.cells #[] 3)).ownsRow w.heap.size 3 1 (.slice (some ⟨w.heap.size, 0, none⟩) 0 0) 0 (vals [])) := World.ownsRow_lit w #[] 0 (Nat.le_refl _) (Nat.zero_le _) rfl
  have hs1 := hide (hs.later BW)
  have HBW := hide BW
  have hn2 : Hid (0 + l.length ≤ 2000) := by show _ ≤ _; omega
  have hnil : Hid (a = none → cap = 0) := fun e => by subst e; exact hz _ _ rfl
  clear BW hs hz
  generalize l.length = n at *
  go_enter Try.func64, Try.ntmps64
  go_wp2_with (at_builtin; refine wpList_append_seg _ (by rfl) (.tmp 3) (.tmp 4) rfl w.heap.size _ 0 [] rfl (unhide own) _ _ _ l rfl (unhide hs1) (unhide hnil) (unhide hn2) (unhide HBW).size ?_; intro v' w' a1 a2; replace a1 := hide a1; replace a2 := hide a2)
  go_ret
  have a3 := unhide a1
  rw [Nat.zero_add, List.nil_append] at a3
  refine ⟨v', rfl, ?_, (unhide HBW).trans (grown_below (unhide a2) (unhide HBW).size (fun k hk => ((unhide own).lt k hk).1))⟩
  have e := (unhide hs1).1
  unfold Is
  rw [e]
  exact a3
set_option maxRecDepth 100000 in
set_option maxHeartbeats 2000000 in
theorem rwithout_any (w : World) {u v : Value} {gone : List Int} {l : List En} (hg : Rd w u gone) (hgn : gone.length ≤ 1500) (h : Re w v l) (hn : l.length ≤ 700) :
    Calls Try.prog 18 #[u, v] w fun e w' => ∃ v', e = .returned v' ∧ Pr 41 w.heap.size v' (woL gone l) w' ∧ Below w.heap.size w w' := by
  obtain ⟨a, cap, rfl⟩ := h.form
  have R := hide h
  have Gd := hide hg
  have hg9 : Hid (gone.length ≤ 100000) := by show _ ≤ _; omega
  clear h hg
  go_enter Try.func18, Try.ntmps18
  go_wp2
  go_loopw [5, 6] (fun s5 s6 wr => ∃ (t k : Nat) (ag : Option Addr) (cg : Nat), t ≤ l.length ∧ k ≤ t ∧ s5 = .slice ag k cg ∧ s6 = .int .i64 t ∧ Hid ((woL gone (l.take t)).length = k) ∧ Hid (Pr 41 w.heap.size (.slice ag k cg) (woL gone (l.take t)) wr) ∧ Hid (Below w.heap.size w wr)) (fun _ s6 _ => l.length - (intOf s6).toNat)
  case atStart => exact ⟨0, 0, none, 0, Nat.zero_le _, Nat.le_refl _, rfl, rfl, rfl, Pr.nil _ _ _, Below.refl _ _⟩
  case round =>
    obtain ⟨t, k, ag, cg, ht, hk, rfl, rfl, hl3, I3, b3⟩ := hrel
    have hk9 : k < 10000000 := by omega
    by_cases hlt : t < l.length
    · obtain ⟨g, o, rfl, _, d1, d2⟩ := ((unhide R).next (unhide b3)).at hlt
      obtain ⟨x, hx⟩ : ∃ x, x = l.getD t (0, 0) := ⟨_, rfl⟩
      have hs := wol_succ gone l t hlt
      rw [← hx] at d1 d2 hs
      replace hx := hide hx
      have C1 := hide (has_any x.1 wr ((unhide Gd).next (unhide b3)) (unhide hg9))
      have C2 := hide (has_any x.2 wr ((unhide Gd).next (unhide b3)) (unhide hg9))
      have hb4 : Hid (w.heap.size ≤ wr.heap.size) := (unhide b3).size
      rw [hasB_dec] at C1 C2
      cases h1 : decide (x.1 ∈ gone)
      · rw [h1] at C1 hs
        clear h1
        cases h2 : decide (x.2 ∈ gone)
        · rw [h2, if_neg (by decide)] at hs
          rw [h2] at C2
          replace hs := hide hs
          clear h2
          go_wp2_with fail
          refine (unhide C1).mono ?_
          rintro e w5 ⟨rfl, rfl⟩
          clear C1
          go_wp2_with fail
          refine (unhide C2).mono ?_
          rintro e w6 ⟨rfl, rfl⟩
          clear C2
          go_wp2_with (at_builtin; refine wpList_pair 41 22 Try.underlying22 inf39 w6 rfl (.tmp 31) (.tmp 36) rfl w.heap.size ag k cg _ x _ rfl rfl rfl (unhide hl3) (unhide I3) (unhide hb4) hk9 ?_; intro g7 cap7 w7 a1 a2; replace a1 := hide a1; replace a2 := hide a2)
          go_roundw
          case rel => exact ⟨t + 1, k + 1, some ⟨g7, 0, none⟩, cap7, by omega, by omega, rfl, by go_num, by
            show _ = _
            rw [unhide hs, List.length_append, unhide hl3]; rfl, by rw [unhide hs]; exact unhide a1, (unhide b3).trans (grown_below (unhide a2) (unhide b3).size (fun j hj => ((unhide I3).lt j hj).1))⟩
          case measure => simp [intOf]; omega
        · rw [h2, if_pos (by decide), List.append_nil] at hs
          rw [h2] at C2
          replace hs := hide hs
          clear h2
          go_wp2_with fail
          refine (unhide C1).mono ?_
          rintro e w5 ⟨rfl, rfl⟩
          clear C1
          go_wp2_with fail
          refine (unhide C2).mono ?_
          rintro e w6 ⟨rfl, rfl⟩
          clear C2
          go_wp2
          go_roundw
          case rel => exact ⟨t + 1, k, ag, cg, by omega, by omega, rfl, by go_num, by rw [unhide hs]; exact unhide hl3, by rw [unhide hs]; exact unhide I3, unhide b3⟩
          case measure => simp [intOf]; omega
      · rw [h1] at C1
        rw [h1, Bool.true_or, if_pos rfl, List.append_nil] at hs
        replace hs := hide hs
        clear h1 C2
        go_wp2_with fail
        refine (unhide C1).mono ?_
        rintro e w5 ⟨rfl, rfl⟩
        clear C1
        go_wp2
        go_roundw
        case rel => exact ⟨t + 1, k, ag, cg, by omega, by omega, rfl, by go_num, by rw [unhide hs]; exact unhide hl3, by rw [unhide hs]; exact unhide I3, unhide b3⟩
        case measure => simp [intOf]; omega
    · obtain rfl : t = l.length := by omega
      rw [List.take_length] at I3 hl3
      go_wp2
      go_ret
      exact ⟨_, rfl, unhide I3, unhide b3⟩
set_option maxRecDepth 100000 in
set_option maxHeartbeats 2000000 in
theorem same_any (w : World) {u v : Value} {l : List En} (hu : Re w u l) (hv : Re w v l) (hn : l.length ≤ 700) :
    Calls Try.prog 16 #[u, v] w fun e w' => e = .returned (.bool true) ∧ Below w.heap.size w w' := by
  obtain ⟨a, cap, rfl⟩ := hu.form
  obtain ⟨b, cb, rfl⟩ := hv.form
  have R := hide hu
  have Q := hide hv
  clear hu hv
  go_enter Try.func16, Try.ntmps16
  go_wp2
  go_loopw [5] (fun s5 wr => ∃ t : Nat, t ≤ l.length ∧ s5 = .int .i64 t ∧ Hid (Below w.heap.size w wr)) (fun s5 _ => l.length - (intOf s5).toNat)
  case atStart => exact ⟨0, Nat.zero_le _, rfl, Below.refl _ _⟩
  case round =>
    obtain ⟨t, ht, rfl, b3⟩ := hrel
    by_cases hlt : t < l.length
    · obtain ⟨g, o, rfl, _, d1, d2⟩ := ((unhide R).next (unhide b3)).at hlt
      obtain ⟨g', o', rfl, _, f1, f2⟩ := ((unhide Q).next (unhide b3)).at hlt
      obtain ⟨x, hx⟩ : ∃ x, x = l.getD t (0, 0) := ⟨_, rfl⟩
      rw [← hx] at d1 d2 f1 f2
      replace hx := hide hx
      go_wp2_with fail
      go_region
      all_goals
        go_wp2
        go_roundw
        case rel => exact ⟨t + 1, by omega, by go_num, (unhide b3).drew⟩
        case measure => simp [intOf] <;> omega
    · go_wp2
      go_ret
      exact ⟨rfl, unhide b3⟩
end Go.Proofs.Ytjgepcifknmdhaa

/- RuleRing: the plain part. -/
namespace Go.Proofs.Ytjgepcifknmdhaa
set_option linter.unusedVariables false

theorem tmod_nat (a b : Nat) : Int.tmod (a : Int) (b : Int) = ((a % b : Nat) : Int) := by
  rw [Int.tmod_eq_emod_of_nonneg (by omega)]; omega
/-- Numbers that stand once are as many in order. -/
theorem canon_once {l : List Int} (h : l.Nodup) : (canon l).length = l.length := by
  have hc : (canon l).Nodup := (canon_facts l).2.imp fun h => by omega
  have h1 := nd_sub _ l hc fun x hx => ((canon_facts l).1 x).1 hx
  have h2 := nd_sub _ (canon l) h fun x hx => ((canon_facts l).1 x).2 hx
  omega
theorem rgf_to (B : Int) (N : Nat) : ∀ i, i ≤ N → ((rgF B N i).map (·.2)).Nodup
  | 0, _ => by simp [rgF]
  | i + 1, h => by
    show ((rgF B N i ++ _).map _).Nodup
    rw [List.map_append, List.nodup_append]
    refine ⟨rgf_to B N i (by omega), by simp, fun a ha b hb e => ?_⟩
    have hb : b = B + (((i + 1) % N : Nat) : Int) := by simpa using hb
    obtain ⟨x, hx, rfl⟩ := List.mem_map.1 ha
    obtain ⟨j, hj, rfl⟩ := (rgf_mem i).1 hx
    rw [hb] at e
    rw [mod_nxt (show j < N by omega), mod_nxt (show i < N by omega)] at e
    have e : B + (nxt N j : Int) = B + (nxt N i : Int) := e
    unfold nxt at e
    split at e <;> split at e <;> omega
theorem rgf_from (B : Int) (N : Nat) : ∀ i, ((rgF B N i).map (·.1)).Nodup
  | 0 => by simp [rgF]
  | i + 1 => by
    show ((rgF B N i ++ _).map _).Nodup
    rw [List.map_append, List.nodup_append]
    refine ⟨rgf_from B N i, by simp, fun a ha b hb e => ?_⟩
    have hb : b = B + (i : Int) := by simpa using hb
    obtain ⟨x, hx, rfl⟩ := List.mem_map.1 ha
    obtain ⟨j, hj, rfl⟩ := (rgf_mem i).1 hx
    rw [hb] at e
    have e : B + (j : Int) = B + (i : Int) := e
    omega
theorem nxt_ne {N i : Nat} (h : 2 ≤ N) : nxt N i ≠ i := by
  unfold nxt
  split <;> omega
theorem filter_two {α : Type} {p q : α → Bool} : ∀ (l : List α), (∀ x ∈ l, q x = !p x) → (l.filter p).length + (l.filter q).length = l.length
  | [], _ => rfl
  | a :: l, h => by
    have ih := filter_two l fun x hx => h x (List.mem_cons_of_mem _ hx)
    have ha := h a (List.mem_cons_self ..)
    rw [List.filter_cons, List.filter_cons, ha]
    cases p a <;> simp <;> omega
theorem rg_many (T : List Int) (B : Int) {N : Nat} (h : 2 ≤ N) : (canon (wouL T (rgF B N N))).length + (canon (deaL T (rgF B N N))).length = N := by
  have h1 : (wouL T (rgF B N N)).Nodup := List.Sublist.nodup (List.Sublist.map _ List.filter_sublist) (rgf_to B N N (Nat.le_refl _))
  have h2 : (deaL T (rgF B N N)).Nodup := List.Sublist.nodup (List.Sublist.map _ List.filter_sublist) (rgf_from B N N)
  rw [canon_once h1, canon_once h2]
  unfold wouL deaL
  rw [List.length_map, List.length_map, filter_two, rgf_len]
  intro e he
  obtain ⟨j, hj, rfl⟩ := (rgf_mem N).1 he
  rw [mod_nxt hj]
  have hne : B + (j : Int) ≠ B + (nxt N j : Int) := by have := nxt_ne (i := j) h; omega
  cases hy : ygB T (B + (j : Int)) (B + (nxt N j : Int))
  · have := yg_tot hne hy
    rw [this]; rfl
  · have := yg_asym hy
    rw [this]; rfl
theorem rg_has (T : List Int) (B : Int) {N i : Nat} (h : 2 ≤ N) (hi : i < N) :
    hasB (B + (((i + 1) % N : Nat) : Int)) (canon (wouL T (rgF B N N))) = !ygB T (B + (i : Int)) (B + (((i + 1) % N : Nat) : Int)) ∧ hasB (B + (i : Int)) (canon (deaL T (rgF B N N))) = ygB T (B + (i : Int)) (B + (((i + 1) % N : Nat) : Int)) := by
  rw [mod_nxt hi, hasB_dec, hasB_dec]
  have hne : B + (i : Int) ≠ B + (nxt N i : Int) := by have := nxt_ne (i := i) h; omega
  have key : ygB T (B + (nxt N i : Int)) (B + (i : Int)) = !ygB T (B + (i : Int)) (B + (nxt N i : Int)) := by
    cases hy : ygB T (B + (i : Int)) (B + (nxt N i : Int))
    · rw [yg_tot hne hy]; rfl
    · rw [yg_asym hy]; rfl
  refine ⟨?_, ?_⟩
  · rw [← key, Bool.eq_iff_iff, decide_eq_true_iff, (canon_facts _).1, wou_mem]
    constructor
    · rintro ⟨a, h1, h2⟩
      obtain ⟨k, k1, rfl, k3⟩ := rgf_edge.1 h1
      have : k = i := by
        unfold nxt at k3
        split at k3 <;> split at k3 <;> omega
      rw [this] at h2
      exact h2
    · intro h2
      exact ⟨_, rgf_edge.2 ⟨i, hi, rfl, rfl⟩, h2⟩
  · rw [Bool.eq_iff_iff, decide_eq_true_iff, (canon_facts _).1, dea_mem]
    constructor
    · rintro ⟨b, h1, h2⟩
      obtain ⟨k, k1, k2, rfl⟩ := rgf_edge.1 h1
      have : k = i := by omega
      rw [this] at h2
      exact h2
    · intro h2
      exact ⟨_, rgf_edge.2 ⟨i, hi, rfl, rfl⟩, h2⟩
theorem rg_vic (T : List Int) (B : Int) {N : Nat} (h : 2 ≤ N) : vicD T (rgF B N N) = [B + (rgY T B N : Int)] ∧ circD (rgF B N N) = rgL B N := by
  have hc : circD (rgF B N N) = rgL B N := (circ_eq ((rg_circ (B := B) h).congr fun x y => rgf_edge.symm)).symm
  have hne : circD (rgF B N N) ≠ [] := by
    rw [hc]
    intro e
    have := congrArg List.length e
    unfold rgL at this
    simp at this
    omega
  refine ⟨?_, hc⟩
  have hy : mxD T (circD (rgF B N N)) = B + (rgY T B N : Int) := by
    rw [hc]
    rw [hc] at hne
    exact (mx_yo T _ hne).same (rgy_yo T B N (by omega))
  rw [vic_yes hne, hy, vic_no]
  refine circ_none' fun n hn => rg_cut (B := B) (rgy_lt T B N (by omega)) n (hn.mono fun a b hab => ?_)
  obtain ⟨h1, h2, h3⟩ := wol_mem.1 hab
  exact ⟨rgf_edge.1 h1, fun e => h2 (List.mem_singleton.2 e), fun e => h3 (List.mem_singleton.2 e)⟩
theorem rgl_len (B : Int) (N : Nat) : (rgL B N).length = N := by unfold rgL; simp
theorem rgf_zero (N i k : Nat) (hk : k = (i + 1) % N) : rgF 0 N (i + 1) = rgF 0 N i ++ [((i : Int), (k : Int))] := by
  subst hk
  show rgF 0 N i ++ _ = _
  rw [Int.zero_add, Int.zero_add]
end Go.Proofs.Ytjgepcifknmdhaa

/- RuleNone. -/
namespace Go.Proofs.Ytjgepcifknmdhaa
open Go.RowKit
set_option linter.unusedVariables false

/-- The edges that go the one way. -/
def noL (T : List Int) (up : Bool) (l : List En) : List En := l.filter (fun e => !(e.1 == e.2) && (ygB T e.1 e.2 == up))
theorem no_succ (T : List Int) (up : Bool) (l : List En) (t : Nat) (ht : t < l.length) : noL T up (l.take (t + 1)) = noL T up (l.take t) ++ (if (!((l.getD t (0, 0)).1 == (l.getD t (0, 0)).2) && (ygB T (l.getD t (0, 0)).1 (l.getD t (0, 0)).2 == up)) = true then [l.getD t (0, 0)] else []) := by
  unfold noL
  rw [List.take_succ_eq_append_getElem ht, List.filter_append]
  have e : l.getD t (0, 0) = l[t] := by simp [List.getD, ht]
  rw [e]
  cases h : (!(l[t].1 == l[t].2) && (ygB T l[t].1 l[t].2 == up)) <;> simp [h]
theorem no_le (T : List Int) (up : Bool) (l : List En) : (noL T up l).length ≤ l.length := List.length_filter_le _ _
theorem no_mem {T : List Int} {up : Bool} {l : List En} {a b : Int} (h : CE (noL T up l) a b) : a ≠ b ∧ ygB T a b = up := by
  have := (List.mem_filter.1 h).2
  simpa using this
theorem no_plain (T : List Int) (up : Bool) (l : List En) : circD (noL T up l) = [] ∧ (up = true → canon (wouL T (noL T up l)) = []) ∧ (up = false → canon (deaL T (noL T up l)) = []) := by
  refine ⟨?_, fun e => canon_nil ?_, fun e => canon_nil ?_⟩
  · cases up
    · exact oneway_down fun a b h => yg_tot (no_mem h).1 (no_mem h).2
    · exact oneway_up fun a b h => (no_mem h).2
  · rw [List.eq_nil_iff_forall_not_mem]
    intro x hx
    obtain ⟨a, h1, h2⟩ := wou_mem.1 hx
    have h3 := (no_mem h1).2
    rw [e] at h3
    rw [yg_asym h3] at h2
    cases h2
  · rw [List.eq_nil_iff_forall_not_mem]
    intro x hx
    obtain ⟨a, h1, h2⟩ := dea_mem.1 hx
    have h3 := (no_mem h1).2
    rw [e] at h3
    rw [h3] at h2
    cases h2
theorem blw_drewN (w : World) (n : Nat) : Below w.heap.size w (w.drewN n) := ⟨rfl, rfl, rfl, Nat.le_refl _, fun _ _ => rfl⟩
set_option maxRecDepth 100000 in
set_option maxHeartbeats 2000000 in
theorem ruleNone_walk (a0 : Option Addr) (len0 cap0 : Nat) (T : List Int) (a1 : Option Addr) (len1 cap1 : Nat) (Z1 : Nat → Nat → Int) (up : Bool) (W : World) (s0 : SegK .i64 W a0 len0 T) (lc0 : len0 ≤ cap0) (cm0 : cap0 ≤ maxLen) (wz0 : ∀ z ∈ T, (Lit.int .i64 z).wf = true)
    (s1 : RecsB 2 W.heap.size W a1 len1 Z1) (lc1 : len1 ≤ cap1) (cm1 : cap1 ≤ maxLen) (wz1 : ∀ i, i < len1 → ∀ j, j < 2 → (Lit.int .i64 (Z1 i j)).wf = true) :
    Calls Try.prog 7 #[.slice a0 len0 cap0, .slice a1 len1 cap1, .bool up] W fun e w' => e = .returned (.bool true) ∧ Below W.heap.size W w' := by
  have R0 : Re W (.slice a1 len1 cap1) (edgesOf len1 Z1) := re_recs s1
  have hl1 := edges_len len1 Z1
  generalize edgesOf len1 Z1 = l at R0 hl1
  have G0 : Rd W (.slice a0 len0 cap0) T := rd_seg s0
  have hl0 : T.length = len0 := s0.1
  unfold maxLen at cm0 cm1
  clear s0 wz0 s1 wz1
  have C1 := hide (frs_any W)
  replace hl0 := hide hl0
  replace hl1 := hide hl1
  replace R0 := hide R0
  replace G0 := hide G0
  go_enter Try.func7, Try.ntmps7
  go_wp2_with fail
  refine (unhide C1).mono ?_
  rintro e w1 ⟨rfl, b1⟩
  have R1 := hide ((unhide R0).next b1)
  have G1 := hide ((unhide G0).next b1)
  replace b1 := hide b1
  have last : Hid (∀ P : Ending → World → Prop, (∀ w', Below W.heap.size W w' → P (.returned (.bool true)) w') → Calls Try.prog 23 #[] w1 P) := fun P h => (frs_any w1).mono (by rintro e w' ⟨rfl, b⟩; exact h _ (below_then (unhide b1) b))
  clear C1 R0 G0
  by_cases h60 : len1 ≤ 60
  · by_cases h100 : len0 ≤ 100
    · have hT : Hid (T.length ≤ 1000) := by show _ ≤ _; rw [unhide hl0]; omega
      have f1 : decide (60 < (len1 : Int)) = false := by simp; omega
      have f2 : decide (100 < (len0 : Int)) = false := by simp; omega
      go_wp2
      clear last f1 f2
      go_loopw [7, 8] (fun s7 s8 wr => ∃ (t k : Nat) (ag : Option Addr) (cg : Nat), t ≤ len1 ∧ k ≤ t ∧ s7 = .slice ag k cg ∧ s8 = .int .i64 t ∧ Hid ((noL T up (l.take t)).length = k) ∧ Hid (Pr 41 w1.heap.size (.slice ag k cg) (noL T up (l.take t)) wr) ∧ Hid (Below w1.heap.size w1 wr)) (fun _ s8 _ => len1 - (intOf s8).toNat)
      case atStart => exact ⟨0, 0, none, 0, Nat.zero_le _, Nat.le_refl _, rfl, rfl, rfl, Pr.nil _ _ _, Below.refl _ _⟩
      case round =>
        obtain ⟨t, k, ag, cg, ht, hk, rfl, rfl, hl3, I3, b3⟩ := hrel
        have hk9 : k < 10000000 := by omega
        by_cases hlt : t < len1
        · have hlt2 : t < l.length := by rw [unhide hl1]; exact hlt
          obtain ⟨g, o, rfl, _, d1, d2⟩ := ((unhide R1).next (unhide b3)).at hlt2
          obtain ⟨x, hx⟩ : ∃ x, x = l.getD t (0, 0) := ⟨_, rfl⟩
          have hs := no_succ T up l t hlt2
          rw [← hx] at d1 d2 hs
          replace hx := hide hx
          have G3 := hide ((unhide G1).next (unhide b3))
          have Y : Hid (∀ n, Calls Try.prog 31 #[.slice a0 len0 cap0, .int .i64 x.1, .int .i64 x.2] (wr.drewN n) fun e w' => e = .returned (.bool (ygB T x.1 x.2)) ∧ w' = wr.drewN n) := fun n => lyounger_any _ ((unhide G3).next (blw_drewN _ n)) (unhide hT) _ _
          cases hne : (x.1 == x.2)
          · have hne2 : (x.1 != x.2) = true := by show (!(x.1 == x.2)) = _; rw [hne]; rfl
            cases hup : (ygB T x.1 x.2 == up)
            · rw [hne, hup] at hs
              replace hs := hide (show noL T up (l.take (t + 1)) = noL T up (l.take t) by simpa using hs)
              generalize ygB T x.1 x.2 = y at *
              clear G3
              go_wp2_with fail
              go_quiet ((go_at_call 31; exact Calls.quiet_of_same (unhide Y _)))
              go_wp2
              go_roundw
              case rel => exact ⟨t + 1, k, ag, cg, by omega, by omega, rfl, by go_num, by rw [unhide hs]; exact unhide hl3, by rw [unhide hs]; exact (unhide I3).drewN nq, bt (unhide b3) (blw_drewN wr nq) (unhide b3).size⟩
              case measure => simp [intOf]; omega
            · rw [hne, hup] at hs
              replace hs := hide (show noL T up (l.take (t + 1)) = noL T up (l.take t) ++ [x] by simpa using hs)
              generalize ygB T x.1 x.2 = y at *
              clear G3
              go_wp2_with fail
              go_quiet ((go_at_call 31; exact Calls.quiet_of_same (unhide Y _)))
              obtain ⟨w5, hw5⟩ : ∃ w5, w5 = wr.drewN nq := ⟨_, rfl⟩
              rw [← hw5]
              have b5 : Below w1.heap.size w1 w5 := by rw [hw5]; exact bt (unhide b3) (blw_drewN wr nq) (unhide b3).size
              have I5 : Pr 41 w1.heap.size (.slice ag k cg) (noL T up (l.take t)) w5 := by rw [hw5]; exact (unhide I3).drewN nq
              have d1' : w5.cell? ⟨g, o + t * 2, none⟩ = some (.int .i64 x.1) := by rw [hw5]; exact d1
              have d2' : w5.cell? ⟨g, o + t * 2 + 1, none⟩ = some (.int .i64 x.2) := by rw [hw5]; exact d2
              replace b5 := hide b5
              replace I5 := hide I5
              have hb5 : Hid (w1.heap.size ≤ w5.heap.size) := (unhide b5).size
              clear hw5 d1 d2 I3 b3 Y
              go_wp2_with (at_builtin; refine wpList_pair 41 22 Try.underlying22 inf39 w5 rfl (.tmp 53) (.tmp 58) rfl w1.heap.size ag k cg _ x _ rfl rfl rfl (unhide hl3) (unhide I5) (unhide hb5) hk9 ?_; intro g7 cap7 w7 a1 a2; replace a1 := hide a1; replace a2 := hide a2)
              go_roundw
              case rel => exact ⟨t + 1, k + 1, some ⟨g7, 0, none⟩, cap7, by omega, by omega, rfl, by go_num, by
                show _ = _
                rw [unhide hs, List.length_append, unhide hl3]; rfl, by rw [unhide hs]; exact unhide a1, (unhide b5).grown (unhide a2) (unhide b5).size (fun k hk => ((unhide I5).lt k hk).1)⟩
              case measure => simp [intOf]; omega
          · rw [hne] at hs
            replace hs := hide (show noL T up (l.take (t + 1)) = noL T up (l.take t) by simpa using hs)
            have hne2 : (x.1 != x.2) = false := by show (!(x.1 == x.2)) = _; rw [hne]; rfl
            clear G3 Y
            go_wp2_with fail
            go_quiet (fail)
            go_wp2
            go_roundw
            case rel => exact ⟨t + 1, k, ag, cg, by omega, by omega, rfl, by go_num, by rw [unhide hs]; exact unhide hl3, by rw [unhide hs]; exact (unhide I3).drewN nq, bt (unhide b3) (blw_drewN wr nq) (unhide b3).size⟩
            case measure => simp [intOf]; omega
        · have e1 : l.take t = l := List.take_of_length_le (by rw [unhide hl1]; omega)
          rw [e1] at hl3 I3
          obtain ⟨m, hm⟩ : ∃ m, m = noL T up l := ⟨_, rfl⟩
          have hp := no_plain T up l
          rw [← hm] at hl3 I3 hp
          have hm9 : Hid (m.length ≤ 300) := by have := no_le T up l; show _ ≤ _; rw [hm]; have := unhide hl1; omega
          replace hl3 := hide (unhide hl3)
          replace hm := hide hm
          obtain ⟨hc, hw, hd⟩ := hp
          have hv : Hid (vicD T m = []) := vic_no hc
          replace hc := hide hc
          have G3 := hide ((unhide G1).next (unhide b3))
          have M3 := hide (unhide I3).re
          have B3 := hide (below_then (unhide b1) (unhide b3))
          clear e1 I3 b3 G1 R1
          cases up
          · have hd := hd rfl
            have C2 := hide (deaths_any wr (unhide G3) (unhide hT) (unhide M3) (Nat.le_trans (unhide hm9) (by decide)))
            rw [hd] at C2
            clear hw hd
            go_wp2_with fail
            refine (unhide C2).mono ?_
            rintro e w4 ⟨v4, rfl, i4, b4⟩
            obtain ⟨a4, c4, rfl⟩ := i4.form
            rw [show ([] : List Int).length = 0 from rfl]
            have G4 := hide ((unhide G3).next b4)
            have M4 := hide ((unhide M3).next b4)
            have B4 := hide (below_then (unhide B3) b4)
            clear i4 b4 C2 G3 M3 B3
            have C5 := hide (frs_any w4)
            go_wp2_with fail
            refine (unhide C5).mono ?_
            rintro e w5 ⟨rfl, b5⟩
            have G5 := hide ((unhide G4).next b5)
            have M5 := hide ((unhide M4).next b5)
            have B5 := hide (below_then (unhide B4) b5)
            have C6 := hide (acyclic_any w5 (unhide M5) (unhide hm9))
            rw [unhide hc] at C6
            clear G4 M4 B4 C5 b5
            go_wp2_with fail
            refine (unhide C6).mono ?_
            rintro e w6 ⟨rfl, b6⟩
            rw [show (([] : List Int).length == 0) = true from rfl]
            have G6 := hide ((unhide G5).next b6)
            have M6 := hide ((unhide M5).next b6)
            have B6 := hide (below_then (unhide B5) b6)
            have C7 := hide (victims_any w6 (unhide G6) (unhide hT) (unhide M6) (unhide hm9))
            rw [unhide hv] at C7
            clear G5 M5 B5 C6 b6
            go_wp2_with fail
            refine (unhide C7).mono ?_
            rintro e w7 ⟨v7, rfl, i7, b7⟩
            obtain ⟨a7, c7, rfl⟩ := i7.form
            rw [show ([] : List Int).length = 0 from rfl]
            have B7 := hide (below_then (unhide B6) b7)
            clear i7 b7 C7 G6 M6 B6
            go_wp2
            go_ret
            exact ⟨rfl, unhide B7⟩
          · have hw := hw rfl
            have C2 := hide (wounds_any wr (unhide G3) (unhide hT) (unhide M3) (Nat.le_trans (unhide hm9) (by decide)))
            rw [hw] at C2
            clear hw hd
            go_wp2_with fail
            refine (unhide C2).mono ?_
            rintro e w4 ⟨v4, rfl, i4, b4⟩
            obtain ⟨a4, c4, rfl⟩ := i4.form
            rw [show ([] : List Int).length = 0 from rfl]
            have G4 := hide ((unhide G3).next b4)
            have M4 := hide ((unhide M3).next b4)
            have B4 := hide (below_then (unhide B3) b4)
            clear i4 b4 C2 G3 M3 B3
            have C5 := hide (frs_any w4)
            go_wp2_with fail
            refine (unhide C5).mono ?_
            rintro e w5 ⟨rfl, b5⟩
            have G5 := hide ((unhide G4).next b5)
            have M5 := hide ((unhide M4).next b5)
            have B5 := hide (below_then (unhide B4) b5)
            have C6 := hide (acyclic_any w5 (unhide M5) (unhide hm9))
            rw [unhide hc] at C6
            clear G4 M4 B4 C5 b5
            go_wp2_with fail
            refine (unhide C6).mono ?_
            rintro e w6 ⟨rfl, b6⟩
            rw [show (([] : List Int).length == 0) = true from rfl]
            have G6 := hide ((unhide G5).next b6)
            have M6 := hide ((unhide M5).next b6)
            have B6 := hide (below_then (unhide B5) b6)
            have C7 := hide (victims_any w6 (unhide G6) (unhide hT) (unhide M6) (unhide hm9))
            rw [unhide hv] at C7
            clear G5 M5 B5 C6 b6
            go_wp2_with fail
            refine (unhide C7).mono ?_
            rintro e w7 ⟨v7, rfl, i7, b7⟩
            obtain ⟨a7, c7, rfl⟩ := i7.form
            rw [show ([] : List Int).length = 0 from rfl]
            have B7 := hide (below_then (unhide B6) b7)
            clear i7 b7 C7 G6 M6 B6
            go_wp2
            go_ret
            exact ⟨rfl, unhide B7⟩
    · go_wp2_with (go_at_call 23; refine unhide last _ ?_; intro w' hb)
      go_ret
      exact ⟨rfl, hb⟩
  · go_wp2_with (go_at_call 23; refine unhide last _ ?_; intro w' hb)
    go_ret
    exact ⟨rfl, hb⟩
end Go.Proofs.Ytjgepcifknmdhaa

/- RuleMany. -/
namespace Go.Proofs.Ytjgepcifknmdhaa
open Go.RowKit
set_option linter.unusedVariables false

/-- An append to the one row leaves the other one. -/
theorem pr_app {B B' : Nat} {w w' : World} {v z : Value} {m : List En} {out : List Int} (h : Pr 41 B v m w) (i : Is B' z out w) (g : w.grownBy w' z.ownBlock) : Pr 41 B v m w' :=
  h.keep fun k hk => g.block k (h.lt k hk).2 fun e => by
    obtain ⟨c1, h1⟩ := h.ty k hk
    obtain ⟨c2, h2⟩ := i.ty k e.symm
    rw [h1] at h2
    injection h2 with h2
    injection h2 with _ h2 _
    exact absurd h2 (by decide)
theorem is_app {B B' : Nat} {w w' : World} {v z : Value} {m : List En} {out : List Int} (i : Is B z out w) (h : Pr 41 B' v m w) (g : w.grownBy w' v.ownBlock) : Is B z out w' :=
  i.keep fun k hk => g.block k (i.lt k hk).2 fun e => by
    obtain ⟨c1, h1⟩ := h.ty k e.symm
    obtain ⟨c2, h2⟩ := i.ty k hk
    rw [h1] at h2
    injection h2 with h2
    injection h2 with _ h2 _
    exact absurd h2 (by decide)
theorem rgsy_len (T : List Int) (N : Nat) : ∀ R, (rgsY T N R).length = R
  | 0 => rfl
  | R + 1 => by show (rgsY T N R ++ _).length = _; rw [List.length_append, rgsy_len T N R]; rfl
set_option maxRecDepth 100000 in
set_option maxHeartbeats 4000000 in
theorem ruleMany_walk (rings n : Int) (a1 : Option Addr) (len1 cap1 : Nat) (T : List Int) (W : World) (wr0 : (Lit.int .i64 rings).wf = true) (wn : (Lit.int .i64 n).wf = true) (s1 : SegK .i64 W a1 len1 T) (lc1 : len1 ≤ cap1) (cm1 : cap1 ≤ maxLen) (wz1 : ∀ z ∈ T, (Lit.int .i64 z).wf = true) :
    Calls Try.prog 8 #[.int .i64 rings, .int .i64 n, .slice a1 len1 cap1] W fun e w' => e = .returned (.bool true) ∧ Below W.heap.size W w' := by
  have G0 : Rd W (.slice a1 len1 cap1) T := rd_seg s1
  have hl1 : T.length = len1 := s1.1
  unfold maxLen at cm1
  clear s1 wz1 wn wr0
  have C1 := hide (frs_any W)
  replace hl1 := hide hl1
  replace G0 := hide G0
  go_enter Try.func8, Try.ntmps8
  go_wp2_with fail
  refine (unhide C1).mono ?_
  rintro e w1 ⟨rfl, b1⟩
  have G1 := hide ((unhide G0).next b1)
  replace b1 := hide b1
  have last : Hid (∀ P : Ending → World → Prop, (∀ w', Below W.heap.size W w' → P (.returned (.bool true)) w') → Calls Try.prog 23 #[] w1 P) := fun P h => (frs_any w1).mono (by rintro e w' ⟨rfl, b⟩; exact h _ (below_then (unhide b1) b))
  clear C1 G0
  by_cases f0 : rings < 0
  · go_wp2_with (go_at_call 23; refine unhide last _ ?_; intro w' hb)
    go_ret
    exact ⟨rfl, hb⟩
  by_cases f1 : 10 < rings
  · go_wp2_with (go_at_call 23; refine unhide last _ ?_; intro w' hb)
    go_ret
    exact ⟨rfl, hb⟩
  by_cases g0 : n < 2
  · go_wp2_with (go_at_call 23; refine unhide last _ ?_; intro w' hb)
    go_ret
    exact ⟨rfl, hb⟩
  by_cases g1 : 10 < n
  · go_wp2_with (go_at_call 23; refine unhide last _ ?_; intro w' hb)
    go_ret
    exact ⟨rfl, hb⟩
  by_cases g2 : 200 < len1
  · go_wp2_with (go_at_call 23; refine unhide last _ ?_; intro w' hb)
    go_ret
    exact ⟨rfl, hb⟩
  obtain ⟨N, rfl⟩ := Int.eq_ofNat_of_zero_le (show 0 ≤ n by omega)
  obtain ⟨R, rfl⟩ := Int.eq_ofNat_of_zero_le (show 0 ≤ rings by omega)
  have hN : 2 ≤ N := by omega
  have hN9 : N ≤ 10 := by omega
  have hR9 : R ≤ 10 := by omega
  have hT : Hid (T.length ≤ 1000) := by show _ ≤ _; rw [unhide hl1]; omega
  have e0 : decide ((N : Int) < 2) = false := by simp; omega
  have e1 : decide ((10 : Int) < (N : Int)) = false := by simp; omega
  have e2 : decide ((200 : Int) < (len1 : Int)) = false := by simp; omega
  have e3 : decide ((R : Int) < 0) = false := by simp
  have e4 : decide ((10 : Int) < (R : Int)) = false := by simp; omega
  go_wp2
  clear e0 e1 e2 e3 e4 f0 f1 g0 g1 g2 last
  go_loopw [7, 8, 9] (fun s7 s8 s9 wr => ∃ (r k : Nat) (ag ay : Option Addr) (cg cy : Nat), r ≤ R ∧ k ≤ 10 * r ∧ s7 = .slice ag k cg ∧ s8 = .slice ay r cy ∧ s9 = .int .i64 r ∧ Hid ((rgsL N r).length = k) ∧ Hid (Pr 41 w1.heap.size (.slice ag k cg) (rgsL N r) wr) ∧ Hid (Is w1.heap.size (.slice ay r cy) (rgsY T N r) wr) ∧ Hid (Below w1.heap.size w1 wr)) (fun _ _ s9 _ => R - (intOf s9).toNat)
  case atStart => exact ⟨0, 0, none, none, 0, 0, Nat.zero_le _, Nat.le_refl _, rfl, rfl, rfl, rfl, Pr.nil _ _ _, is_nil _ _, Below.refl _ _⟩
  case round =>
    obtain ⟨r, k, ag, ay, cg, cy, hr, hk, rfl, rfl, rfl, hl, P1, Y1, b2⟩ := hrel
    by_cases hlt : r < R
    · have l0 : Hid (rgsL N r ++ rgF (10 * (r : Int)) N 0 = rgsL N r) := List.append_nil _
      have y0 : Hid (10 * (r : Int) = 10 * (r : Int) + (rgY T (10 * (r : Int)) 0 : Int)) := by show _ = _ + ((0 : Nat) : Int); omega
      have lN : Hid (rgsL N (r + 1) = rgsL N r ++ rgF (10 * (r : Int)) N N) := rfl
      have yN : Hid (rgsY T N (r + 1) = rgsY T N r ++ [10 * (r : Int) + (rgY T (10 * (r : Int)) N : Int)]) := rfl
      go_wp2
      go_loopw [7, 10, 11] (fun s7 s10 s11 wr => ∃ (i j : Nat) (y : Int) (ah : Option Addr) (ch : Nat), i ≤ N ∧ j ≤ k + i ∧ k + i ≤ j ∧ s7 = .slice ah j ch ∧ s10 = .int .i64 y ∧ s11 = .int .i64 i ∧ Hid (y = 10 * (r : Int) + (rgY T (10 * (r : Int)) i : Int)) ∧ Hid (Pr 41 w1.heap.size (.slice ah j ch) (rgsL N r ++ rgF (10 * (r : Int)) N i) wr) ∧ Hid (Is w1.heap.size (.slice ay r cy) (rgsY T N r) wr) ∧ Hid (Below w1.heap.size w1 wr)) (fun _ _ s11 _ => N - (intOf s11).toNat)
      case atStart => exact ⟨0, k, _, ag, cg, Nat.zero_le _, by omega, by omega, rfl, rfl, rfl, unhide y0, by rw [unhide l0]; exact unhide P1, unhide Y1, unhide b2⟩
      case round =>
        clear P1 Y1 b2
        obtain ⟨i, j, y, ah, ch, hi, hj, hj2, rfl, rfl, rfl, hy, P2, Y2, b3⟩ := hrel
        by_cases hlt2 : i < N
        · obtain ⟨k2, hk2⟩ : ∃ k2, k2 = (i + 1) % N := ⟨_, rfl⟩
          have hk2N : k2 < N := by rw [hk2]; exact Nat.mod_lt _ (by omega)
          have q2 : Int.tmod ((i : Int) + 1) (N : Int) = (k2 : Int) := by rw [hk2, ← tmod_nat]; rfl
          have q4 : IntKind.i64.wrap (k2 : Int) = (k2 : Int) := by rw [IntKind.wrap_i64]; omega
          have q5 : IntKind.i64.wrap (10 * (r : Int)) = 10 * (r : Int) := by rw [IntKind.wrap_i64]; omega
          have q6 : IntKind.i64.wrap (10 * (r : Int) + (i : Int)) = 10 * (r : Int) + (i : Int) := by rw [IntKind.wrap_i64]; omega
          have q7 : IntKind.i64.wrap (10 * (r : Int) + (k2 : Int)) = 10 * (r : Int) + (k2 : Int) := by rw [IntKind.wrap_i64]; omega
          have hrg : Hid (rgsL N r ++ rgF (10 * (r : Int)) N (i + 1) = rgsL N r ++ rgF (10 * (r : Int)) N i ++ [(10 * (r : Int) + (i : Int), 10 * (r : Int) + (k2 : Int))]) := by
            show _ = _
            rw [hk2, List.append_assoc]; rfl
          have hl3 : Hid ((rgsL N r ++ rgF (10 * (r : Int)) N i).length = j) := by show _ = _; rw [List.length_append, unhide hl, rgf_len]; omega
          have hb4 : Hid (w1.heap.size ≤ wr.heap.size) := (unhide b3).size
          have ht9 : j < 10000000 := by omega
          have st : 10 * (r : Int) + (rgY T (10 * (r : Int)) (i + 1) : Int) = if ygB T (10 * (r : Int) + (i : Int)) y then 10 * (r : Int) + (i : Int) else y := by
            rw [rgY, ← unhide hy]
            split
            · rfl
            · exact (unhide hy).symm
          replace hk2 := hide hk2
          go_wp2_with (at_builtin; refine wpList_pair 41 22 Try.underlying22 inf39 wr rfl (.tmp 51) (.tmp 61) rfl w1.heap.size ah j ch _ (10 * (r : Int) + (i : Int), 10 * (r : Int) + (k2 : Int)) _ rfl rfl rfl (unhide hl3) (unhide P2) (unhide hb4) ht9 ?_; intro g7 cap7 w7 a7 a8; replace a7 := hide a7; replace a8 := hide a8)
          have b7 := hide ((unhide b3).grown (unhide a8) (unhide b3).size (fun x hx => ((unhide P2).lt x hx).1))
          have Y7 := hide (is_app (unhide Y2) (unhide P2) (unhide a8))
          have C := hide (lyounger_any w7 ((unhide G1).next (unhide b7)) (unhide hT) (10 * (r : Int) + (i : Int)) y)
          clear P2 Y2 a8
          refine (unhide C).mono ?_
          rintro e w8 ⟨rfl, rfl⟩
          clear C
          cases hg : ygB T (10 * (r : Int) + (i : Int)) y
          · rw [hg, if_neg (by decide)] at st
            replace st := hide st
            go_wp2
            go_roundw
            case rel => exact ⟨i + 1, j + 1, y, some ⟨g7, 0, none⟩, cap7, by omega, by omega, by omega, rfl, rfl, by go_num, (unhide st).symm, by rw [unhide hrg]; exact unhide a7, unhide Y7, unhide b7⟩
            case measure => simp [intOf]; omega
          · rw [hg, if_pos rfl] at st
            replace st := hide st
            go_wp2
            go_roundw
            case rel => exact ⟨i + 1, j + 1, _, some ⟨g7, 0, none⟩, cap7, by omega, by omega, by omega, rfl, rfl, by go_num, (unhide st).symm, by rw [unhide hrg]; exact unhide a7, unhide Y7, unhide b7⟩
            case measure => simp [intOf]; omega
        · obtain rfl : i = N := by omega
          have hb4 : Hid (w1.heap.size ≤ wr.heap.size) := (unhide b3).size
          have hr9 : r < 10000000 := by omega
          have hyl : Hid ((rgsY T i r).length = r) := rgsy_len T i r
          have yE := unhide yN
          rw [← unhide hy] at yE
          rw [← unhide lN] at P2
          replace yE := hide yE
          have hl4 : Hid ((rgsL i (r + 1)).length = j) := by show _ = _; rw [unhide lN, List.length_append, unhide hl, rgf_len]; omega
          go_wp2_with (at_builtin; refine wpList_push wr rfl (.tmp 68) (.tmp 70) rfl w1.heap.size ay r cy _ y _ rfl rfl rfl (unhide hyl) (unhide Y2) (unhide hb4) hr9 ?_; intro g7 cap7 w7 a7 a8; replace a7 := hide a7; replace a8 := hide a8)
          have b7 := hide ((unhide b3).grown (unhide a8) (unhide b3).size (fun x hx => ((unhide Y2).lt x hx).1))
          have P7 := hide (pr_app (unhide P2) (unhide Y2) (unhide a8))
          go_roundw
          case rel => exact ⟨r + 1, j, _, some ⟨g7, 0, none⟩, _, cap7, by omega, by omega, rfl, rfl, by go_num, unhide hl4, unhide P7, by rw [unhide yE]; exact unhide a7, unhide b7⟩
          case measure => simp [intOf]; omega
    · obtain rfl : r = R := by omega
      have hv : Hid (vicD T (rgsL N r) = rgsY T N r) := rgs_vic hN hN9
      have hl3 : Hid ((rgsL N r).length ≤ 300) := by show _ ≤ _; rw [unhide hl]; omega
      have hy3 : Hid ((rgsY T N r).length < 100000000) := by show _ < _; rw [rgsy_len]; omega
      have L3 := hide (unhide P1).re
      have Y3 := hide (unhide Y1).rd
      have B3 := hide (below_then (unhide b1) (unhide b2))
      have G3 := hide ((unhide G1).next (unhide b2))
      have C4 := hide (frs_any wr)
      clear P1 Y1 b1 b2 G1 hl
      generalize rgsL N r = l at *
      generalize rgsY T N r = ys at *
      go_wp2_with fail
      refine (unhide C4).mono ?_
      rintro e w4 ⟨rfl, b4⟩
      have L4 := hide ((unhide L3).next b4)
      have Y4 := hide ((unhide Y3).next b4)
      have G4 := hide ((unhide G3).next b4)
      have B4 := hide (below_then (unhide B3) b4)
      have C5 := hide (victims_any w4 (unhide G4) (unhide hT) (unhide L4) (unhide hl3))
      rw [unhide hv] at C5
      clear b4 C4 L3 Y3 G3 B3
      go_wp2_with fail
      refine (unhide C5).mono ?_
      rintro e w5 ⟨v5, rfl, i5, b5⟩
      have C6 := hide (ints_any v5 _ ys ys w5 i5.rd ((unhide Y4).next b5) (unhide hy3) (unhide hy3))
      rw [show (ys == ys) = true from by simp] at C6
      have B5 := hide (below_then (unhide B4) b5)
      clear b5 C5 L4 Y4 G4 B4 i5
      go_wp2_with fail
      refine (unhide C6).mono ?_
      rintro e w6 ⟨rfl, b6⟩
      have B6 := hide (below_then (unhide B5) b6)
      clear b6 C6 B5
      go_wp2
      go_ret
      exact ⟨rfl, unhide B6⟩
end Go.Proofs.Ytjgepcifknmdhaa
