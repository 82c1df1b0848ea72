/- Texts of this claim, put together in their order. -/
import Derived.Deep.Cut
import Derived.Deep.CutRange
import Derived.Deep.RegionHeld3
import Derived.Test.YtjgepcifknmdhaaBase1
import Derived.Test.YtjgepcifknmdhaaBase2
import Derived.Test.YtjgepcifknmdhaaBase3
import Derived.Test.YtjgepcifknmdhaaBase4
import Derived.Test.YtjgepcifknmdhaaBase5
import Derived.Test.YtjgepcifknmdhaaBase6
import Derived.Test.YtjgepcifknmdhaaBase7
import Derived.Test.YtjgepcifknmdhaaBase8
import Derived.Test.YtjgepcifknmdhaaOfRuletells9
/- RuleShift: the plain part; two rows that grow side by side. -/
namespace Go.Proofs.Ytjgepcifknmdhaa
open Go.RowKit
set_option linter.unusedVariables false

/-- Two slices that do not share a row. -/
def Dj (u v : Value) : Prop := ∀ g, u.ownBlock = some g → v.ownBlock ≠ some g
theorem Dj.comm {u v : Value} (h : Dj u v) : Dj v u := fun g h1 h2 => h g h2 h1
theorem own_slice (g n c : Nat) : (Value.slice (some ⟨g, 0, none⟩) n c).ownBlock = some g := rfl
/-- Behind an append to the one. -/
theorem dj_step {M : Nat} {u v : Value} {l m : List Int} {w w' : World} (hu : Is M u l w) (hv : Is M v m w) (d : Dj u v) {g n c : Nat} (k : w.grownBy w' u.ownBlock) (hg : u.ownBlock = some g ∨ w.heap.size ≤ g) : Is M v m w' ∧ Dj (.slice (some ⟨g, 0, none⟩) n c) v := by
  refine ⟨hv.keep fun j hj => k.block j (hv.lt j hj).2 fun e => d j e.symm hj, fun j hj e => ?_⟩
  rw [own_slice] at hj
  injection hj with hj
  subst hj
  rcases hg with h | h
  · exact d g h e
  · have := (hv.lt g e).2
    omega
theorem wpList_pushd (w : World) {ops : Array Oper} {rest : List Oper} {o : Oper} {a : Act} {Q : Exit → Act → World → Prop} (hgd : o.guard = none) (s x : Operand)
    (ho : o.op = .call { callee := .builtin .append, args := #[s, x], argTypes := #[23, 23] }) (base : Nat) (ag : Option Addr) (n cg : Nat) (l : List Int) (z : Int)
    (N : Nat) (hs : a.eval s = .slice ag n cg) (hx : a.eval x = .slice (some ⟨N, 0, none⟩) 1 1) (hN : w.heap.size = N) (hn : l.length = n) (hown : Is base (.slice ag n cg) l w) (hb : base ≤ w.heap.size) (hm : n < 10000000)
    (h : ∀ g cap w', Is base (.slice (some ⟨g, 0, none⟩) (n + 1) cap) (l ++ [z]) w' → w.grownBy w' (Value.slice ag n cg).ownBlock → ((Value.slice ag n cg).ownBlock = some g ∨ w.heap.size ≤ g) → wpList Try.prog ops Q rest (a.put o.dst (.slice (some ⟨g, 0, none⟩) (n + 1) cap)) w') :
    wpList Try.prog ops Q (o :: rest) a (w.alloc (.cells #[.int .i64 z] 3)) := by
  subst hN
  obtain ⟨i3, hi3, hz0, hz1, hz2⟩ := info_parts inf3
  have B5 := below_new w (.cells #[.int .i64 z] 3)
  have G5 := hown.next B5
  have own5 : (w.alloc (.cells #[.int .i64 z] 3)).ownsRow base 3 1 (.slice ag n cg) n (vals l) := by
    have := G5
    unfold Is at this
    rw [hn] at this
    exact this
  refine wpList_append_lies _ hgd s x 23 ho base 3 i3 _ 1 8 Try.underlying23 hi3 hz0 hz1 hz2 rfl (by decide) _ n _ hs own5 ⟨w.heap.size, 0, none⟩ 1 1 [.int .i64 z] hx rfl (World.news_of_block (heap_alloc_new w _)) (vals_one [z]) (by decide) (by unfold maxLen; omega) (by omega) (Nat.le_trans hb B5.size) _ rfl ?_
  intro g cap w' a1 a2 a3 _
  refine h g cap w' ?_ (grown_trans (grown_of_below B5 _) a2) (a3.imp id fun e => by rw [e]; exact B5.size)
  unfold Is vals
  rw [List.length_append, hn, List.map_append]
  exact a1
/-- Tickets that are greater by the same; tickets that are all the same. -/
def upL (T : List Int) (by_ : Int) (n : Nat) : List Int := (List.range n).map fun (i : Nat) => tkD T (i : Int) + by_
def smL (by_ : Int) (n : Nat) : List Int := (List.range n).map fun _ => by_
theorem up_succ (T : List Int) (b : Int) (n : Nat) : upL T b (n + 1) = upL T b n ++ [tkD T (n : Int) + b] := by unfold upL; rw [List.range_succ, List.map_append]; rfl
theorem sm_succ (b : Int) (n : Nat) : smL b (n + 1) = smL b n ++ [b] := by unfold smL; rw [List.range_succ, List.map_append]; rfl
theorem up_len (T : List Int) (b : Int) (n : Nat) : (upL T b n).length = n := by unfold upL; simp
theorem sm_len (b : Int) (n : Nat) : (smL b n).length = n := by unfold smL; simp
theorem up_tk {T : List Int} {b : Int} {n : Nat} {x : Int} (h0 : 0 ≤ x) (hx : x < n) : tkD (upL T b n) x = tkD T x + b := by
  obtain ⟨k, rfl⟩ := Int.eq_ofNat_of_zero_le h0
  have hk : k < n := by omega
  rw [show tkD (upL T b n) (k : Int) = (upL T b n).getD k 0 by unfold tkD; rw [if_pos (by rw [up_len]; omega)]; rfl]
  unfold upL
  simp [List.getD, hk]
theorem sm_tk {b : Int} {n : Nat} {x : Int} (h0 : 0 ≤ x) (hx : x < n) : tkD (smL b n) x = b := by
  obtain ⟨k, rfl⟩ := Int.eq_ofNat_of_zero_le h0
  have hk : k < n := by omega
  rw [show tkD (smL b n) (k : Int) = (smL b n).getD k 0 by unfold tkD; rw [if_pos (by rw [sm_len]; omega)]; rfl]
  unfold smL
  simp [List.getD, hk]
/-- What the law says. -/
theorem shift_plain (T : List Int) (b : Int) (l : List En) (h : ∀ e ∈ l, (0 ≤ e.1 ∧ e.1 ≤ 99) ∧ 0 ≤ e.2 ∧ e.2 ≤ 99) :
    vicD T l = vicD (upL T b 100) l ∧ canon (wouL T l) = canon (wouL (upL T b 100) l) ∧ canon (deaL T l) = canon (deaL (upL T b 100) l) ∧ ∀ e ∈ l, e.1 < e.2 → hasB e.2 (canon (wouL (smL b 100) l)) = true := by
  have hn : ∀ a ∈ nodL l, 0 ≤ a ∧ a < (100 : Nat) := fun a ha => by
    obtain ⟨e, h1, h2⟩ := nod_mem.1 ha
    have := h e h1
    omega
  have hy : ∀ a ∈ nodL l, ∀ c ∈ nodL l, ygB T a c = ygB (upL T b 100) a c := fun a ha c hc => by
    have h1 := hn a ha
    have h2 := hn c hc
    rw [Bool.eq_iff_iff, yg_iff, yg_iff, up_tk h1.1 h1.2, up_tk h2.1 h2.2]
    omega
  refine ⟨vic_like l hy, by rw [wou_like hy], by rw [dea_like hy], fun e he hlt => ?_⟩
  have h1 := h e he
  have hm : e.2 ∈ canon (wouL (smL b 100) l) := by
    rw [(canon_facts _).1, wou_mem]
    refine ⟨e.1, he, ?_⟩
    rw [yg_iff, sm_tk (by omega) (by omega), sm_tk (by omega) (by omega)]
    omega
  obtain ⟨i, hi, e2⟩ := mem_at hm
  exact has_yes _ _ i hi e2.symm
end Go.Proofs.Ytjgepcifknmdhaa

/- The reference's reach and On. -/
namespace Go.Proofs.Ytjgepcifknmdhaa
open Go.RowKit
set_option linter.unusedVariables false

theorem hasB_mem {x : Int} {l : List Int} : hasB x l = true ↔ x ∈ l := by rw [hasB_dec, decide_eq_true_iff]
theorem hasB_not {x : Int} {l : List Int} : hasB x l = false ↔ x ∉ l := by rw [hasB_dec, decide_eq_false_iff_not]
/-- So far: the first i lead to nothing else. -/
def Cl (E : Int → Int → Prop) (A : List Int) (o : List Int) (i : Nat) : Prop := ∀ j, j < i → ∀ z, E (o.getD j 0) z → z ∉ A → z ∈ o
theorem Cl.all {E : Int → Int → Prop} {A o : List Int} (h : Cl E A o o.length) : ∀ y ∈ o, ∀ z, E y z → ¬ z ∈ A → z ∈ o := fun y hy z e hz => by
  obtain ⟨j, hj, rfl⟩ := mem_at hy
  exact h j hj z e hz
theorem getD_app {o m : List Int} {j : Nat} (h : j < o.length) : (o ++ m).getD j 0 = o.getD j 0 := by
  rw [List.getD_eq_getElem?_getD, List.getD_eq_getElem?_getD, List.getElem?_append_left h]
theorem Cl.more {E : Int → Int → Prop} {A o : List Int} {i : Nat} (h : Cl E A o i) (hi : i ≤ o.length) (m : List Int) : Cl E A (o ++ m) i := fun j hj z e hz => by
  rw [getD_app (by omega)] at e
  exact List.mem_append_left _ (h j hj z e hz)
set_option maxRecDepth 100000 in
set_option maxHeartbeats 2000000 in
theorem reach_any (w : World) {u x v : Value} {F A : List Int} {l : List En} (hF : Rd w u F) (hz : Nz u) (hF9 : F.length ≤ 300) (hnd : F.Nodup) (hFA : ∀ y ∈ F, y ∉ A) (hA : Rd w x A) (hA9 : A.length ≤ 1000) (h : Re w v l) (hn : l.length ≤ 300) :
    Calls Try.prog 41 #[u, x, v] w fun e w' => ∃ v' o, e = .returned v' ∧ Is w.heap.size v' o w' ∧ o.length ≤ 900 ∧ (∀ s, s ∈ o ↔ ∃ y, y ∈ F ∧ Av (CE l) (· ∈ A) y s) ∧ Below w.heap.size w w' := by
  have C0 := hide (rcopy_any w hF hz (by omega))
  have r0 := hide (Rcd.begin (E := CE l) (A := (· ∈ A)) hnd hFA)
  obtain ⟨av, cv, rfl⟩ := h.form
  obtain ⟨au, cu, rfl, _⟩ := hF
  have X0 := hA
  obtain ⟨ax, cx, rfl, _⟩ := X0
  have L := hide h
  have X := hide hA
  have small : Hid (∀ o, Rcd (CE l) (· ∈ A) F o → o.length ≤ 900) := fun o ho => by have := ho.small; omega
  clear hz hnd hFA h hF9
  obtain ⟨nA, hnA⟩ : ∃ nA, nA = A.length := ⟨_, rfl⟩
  have hA10 : Hid (A.length ≤ 100000) := by show _ ≤ _; omega
  rw [← hnA] at X hA9 ⊢
  obtain ⟨nl, hnl⟩ : ∃ nl, nl = l.length := ⟨_, rfl⟩
  have hl7 : Hid (l.length ≤ 700) := by show _ ≤ _; omega
  rw [← hnl] at L hn ⊢
  replace hnA := hide hnA
  replace hnl := hide hnl
  go_enter Try.func41, Try.ntmps41
  go_wp2_with fail
  refine (unhide C0).mono ?_
  rintro e w1 ⟨v1, rfl, I1, b1⟩
  obtain ⟨a1, c1, rfl⟩ := I1.form
  obtain ⟨n1, hn1⟩ : ∃ n1, n1 = F.length := ⟨_, rfl⟩
  rw [← hn1] at I1 ⊢
  replace hn1 := hide hn1
  replace I1 := hide I1
  replace b1 := hide b1
  clear C0
  go_wp2
  go_loopw [7, 8] (fun s7 s8 wr => ∃ (i n : Nat) (ag : Option Addr) (cg : Nat) (o : List Int), i ≤ n ∧ n ≤ 900 ∧ s7 = .slice ag n cg ∧ s8 = .int .i64 i ∧ Hid (o.length = n) ∧ Hid (Rcd (CE l) (· ∈ A) F o) ∧ Hid (Cl (CE l) A o i) ∧ Hid (Is w.heap.size (.slice ag n cg) o wr) ∧ Hid (Below w.heap.size w wr)) (fun _ s8 _ => 1000 - (intOf s8).toNat)
  case atStart => exact ⟨0, n1, a1, c1, F, Nat.zero_le _, by have := unhide small F (unhide r0); rw [unhide hn1]; exact this, rfl, rfl, (unhide hn1).symm, unhide r0, (fun j hj => by omega), unhide I1, unhide b1⟩
  case round =>
    clear I1 b1 r0
    obtain ⟨i, n, ag, cg, o, hi, hn9, rfl, rfl, ho, rc, cl, I, b2⟩ := hrel
    by_cases hlt : i < n
    · obtain ⟨y, hy⟩ : ∃ y, y = o.getD i 0 := ⟨_, rfl⟩
      obtain ⟨g, of, rfl, d, _⟩ := (unhide I).elem' (i := i) (by rw [unhide ho]; exact hlt)
      rw [← hy] at d
      have C := hide (rnext_any wr y ((unhide L).next (unhide b2)) (unhide hl7))
      have hym : Hid (y ∈ o) := by show _ ∈ _; rw [hy]; exact at_mem (by rw [unhide ho]; exact hlt)
      replace hy := hide hy
      go_wp2_with fail
      refine (unhide C).mono ?_
      rintro e w3 ⟨v3, rfl, i3, b3⟩
      have I3 := hide ((unhide I).next b3)
      have B3 := hide (bt (unhide b2) b3 (unhide b2).size)
      have nx : Hid (∀ z, z ∈ canon (nexL y l) ↔ CE l y z) := fun z => by rw [(canon_facts _).1, nex_mem]; rfl
      obtain ⟨a3, c3, rfl⟩ := i3.form
      have hq9 : (canon (nexL y l)).length ≤ 300 := by have q1 := canon_le (nexL y l); have q2 := nex_le y l; have q3 := unhide hnl; omega
      generalize canon (nexL y l) = N at *
      obtain ⟨q, hq⟩ : ∃ q, q = N.length := ⟨_, rfl⟩
      rw [← hq] at i3 hq9 ⊢
      replace hq := hide hq
      replace i3 := hide i3
      have dj : Hid (Dj (.slice (some ⟨g, of, none⟩) n cg) (.slice a3 q c3)) := fun g' h1 h2 => by
        have q1 := ((unhide I).lt g' h1).2
        have q2 := ((unhide i3).lt g' h2).1
        omega
      replace i3 := hide ((unhide i3).down (unhide b2).size)
      clear C b3 I d b2
      have start : Hid (∃ m, o = o ++ m) := ⟨[], (List.append_nil o).symm⟩
      go_wp2
      go_loopw [7, 10] (fun s7 s10 wq => ∃ (k n2 : Nat) (ah : Option Addr) (ch : Nat) (o2 : List Int) (wz : World), k ≤ q ∧ n ≤ n2 ∧ n2 ≤ 900 ∧ s7 = .slice ah n2 ch ∧ s10 = .int .i64 k ∧ wz = wq ∧ Hid (o2.length = n2) ∧ Hid (∃ m, o2 = o ++ m) ∧ Hid (Rcd (CE l) (· ∈ A) F o2) ∧ Hid (∀ j, j < k → N.getD j 0 ∈ A ∨ N.getD j 0 ∈ o2) ∧ Hid (Is w.heap.size (.slice ah n2 ch) o2 wz) ∧ Hid (Is w.heap.size (.slice a3 q c3) N wz) ∧ Hid (Dj (.slice ah n2 ch) (.slice a3 q c3)) ∧ Hid (Below w.heap.size w wz)) (fun _ s10 _ => q - (intOf s10).toNat)
      case atStart => exact ⟨0, n, _, cg, o, _, Nat.zero_le _, Nat.le_refl _, hn9, rfl, rfl, rfl, unhide ho, unhide start, unhide rc, (fun j hj => by omega), unhide I3, unhide i3, unhide dj, unhide B3⟩
      case round =>
        clear I3 i3 dj B3 start
        obtain ⟨k, n2, ah, ch, o2, wz, hk, hn2, hn29, rfl, rfl, hwz, ho2, hm2, rc2, cl2, I4, i4, dj, B4⟩ := hrel
        subst hwz
        by_cases hlt2 : k < q
        · obtain ⟨z, hz⟩ : ∃ z, z = N.getD k 0 := ⟨_, rfl⟩
          obtain ⟨g2, of2, rfl, d2, _⟩ := (unhide i4).elem' (i := k) (by rw [← unhide hq]; exact hlt2)
          rw [← hz] at d2
          have hzN : Hid (CE l y z) := by show CE l y z; rw [← unhide nx, hz]; exact at_mem (by rw [← unhide hq]; exact hlt2)
          have stp : Hid (∀ o3 : List Int, (∃ m, o3 = o2 ++ m) → (z ∈ A ∨ z ∈ o3) → ∀ j, j < k + 1 → N.getD j 0 ∈ A ∨ N.getD j 0 ∈ o3) := fun o3 hm h j hj => by
            rcases (show j < k ∨ j = k by omega) with h1 | rfl
            · obtain ⟨m, rfl⟩ := hm
              exact (unhide cl2 j h1).imp id fun h => List.mem_append_left _ h
            · rw [← hz]; exact h
          have H1 := has_any z wz ((unhide X).next (unhide B4)) (by rw [← unhide hnA]; omega)
          replace hz := hide hz
          have H2 : Hid (Calls Try.prog 32 #[.slice ah n2 ch, .int .i64 z] wz fun e w' => e = .returned (.bool (hasB z o2)) ∧ w' = wz) := has_any z wz (by have := (unhide I4).rd; exact this) (by rw [unhide ho2]; omega)
          cases hA1 : hasB z A
          · rw [hA1] at H1
            replace H1 := hide H1
            have hzA : Hid (z ∉ A) := hasB_not.1 hA1
            cases hO1 : hasB z o2
            · have hzO : Hid (z ∉ o2) := hasB_not.1 hO1
              have rc3 : Hid (Rcd (CE l) (· ∈ A) F (o2 ++ [z])) := by
                refine (unhide rc2).add (y := y) ?_ (unhide hzN) (unhide hzA) (unhide hzO)
                obtain ⟨m, e⟩ := unhide hm2
                rw [e]
                exact List.mem_append_left _ (unhide hym)
              have hm3 : Hid (∃ m, o2 ++ [z] = o ++ m) := by
                obtain ⟨m, e⟩ := unhide hm2
                exact ⟨m ++ [z], by rw [e, List.append_assoc]⟩
              have cl3 := hide (unhide stp (o2 ++ [z]) ⟨[z], rfl⟩ (.inr (by simp)))
              have hn39 : n2 + 1 ≤ 900 := by
                have := unhide small _ (unhide rc3)
                rw [List.length_append, unhide ho2] at this
                exact this
              have ho3 : Hid ((o2 ++ [z]).length = n2 + 1) := by show _ = _; rw [List.length_append, unhide ho2]; rfl
              have hb4 : Hid (w.heap.size ≤ wz.heap.size) := (unhide B4).size
              have hn3 : n2 < 10000000 := by omega
              rw [hO1] at H2
              clear hA1 hO1 stp cl2 rc2 hzN hzA hzO
              go_wp2_with fail
              refine (unhide H1).mono ?_
              rintro e w5 ⟨rfl, rfl⟩
              go_wp2_with fail
              refine (unhide H2).mono ?_
              rintro e w6 ⟨rfl, rfl⟩
              clear H1 H2
              go_wp2_with (at_builtin; refine wpList_pushd _ rfl (.tmp 47) (.tmp 52) rfl w.heap.size ah n2 ch _ z _ rfl rfl rfl (unhide ho2) (unhide I4) (unhide hb4) hn3 ?_; intro g7 c7 w7 x1 x2 x3; have y1 := dj_step (n := n2 + 1) (c := c7) (unhide I4) (unhide i4) (unhide dj) x2 x3; have y2 := (unhide B4).grown x2 (unhide B4).size (fun k hk => ((unhide I4).lt k hk).1); replace x1 := hide x1; replace y1 := hide y1; replace y2 := hide y2; clear x2 x3)
              go_roundw
              case rel => exact ⟨k + 1, n2 + 1, some ⟨g7, 0, none⟩, c7, o2 ++ [z], _, by omega, by omega, hn39, rfl, by go_num, rfl, unhide ho3, unhide hm3, unhide rc3, unhide cl3, unhide x1, (unhide y1).1, (unhide y1).2, unhide y2⟩
              case measure => simp [intOf]; omega
            · have cl3 := hide (unhide stp o2 ⟨[], (List.append_nil _).symm⟩ (.inr (hasB_mem.1 hO1)))
              rw [hO1] at H2
              clear hA1 hO1 stp cl2 hzN hzA
              go_wp2_with fail
              refine (unhide H1).mono ?_
              rintro e w5 ⟨rfl, rfl⟩
              go_wp2_with fail
              refine (unhide H2).mono ?_
              rintro e w6 ⟨rfl, rfl⟩
              clear H1 H2
              go_wp2
              go_roundw
              case rel => exact ⟨k + 1, n2, ah, ch, o2, _, by omega, by omega, hn29, rfl, by go_num, rfl, unhide ho2, unhide hm2, unhide rc2, unhide cl3, unhide I4, unhide i4, unhide dj, unhide B4⟩
              case measure => simp [intOf]; omega
          · rw [hA1] at H1
            replace H1 := hide H1
            have cl3 := hide (unhide stp o2 ⟨[], (List.append_nil _).symm⟩ (.inl (hasB_mem.1 hA1)))
            clear hA1 stp cl2 H2 hzN
            go_wp2_with fail
            refine (unhide H1).mono ?_
            rintro e w5 ⟨rfl, rfl⟩
            clear H1
            go_wp2
            go_roundw
            case rel => exact ⟨k + 1, n2, ah, ch, o2, _, by omega, by omega, hn29, rfl, by go_num, rfl, unhide ho2, unhide hm2, unhide rc2, unhide cl3, unhide I4, unhide i4, unhide dj, unhide B4⟩
            case measure => simp [intOf]; omega
        · obtain rfl : k = q := by omega
          have cl5 : Hid (Cl (CE l) A o2 (i + 1)) := by
            intro j hj z e hz
            obtain ⟨m, em⟩ := unhide hm2
            rcases (show j < i ∨ j = i by omega) with h1 | rfl
            · rw [em] at e ⊢
              exact (unhide cl).more (by rw [unhide ho]; omega) m j h1 z e hz
            · have e2 : CE l y z := by
                rw [unhide hy, ← getD_app (m := m) (by rw [unhide ho]; exact hlt), ← em]
                exact e
              obtain ⟨j2, hj2, ej2⟩ := mem_at ((unhide nx z).2 e2)
              rcases unhide cl2 j2 (by rw [unhide hq]; exact hj2) with h3 | h3
              · rw [ej2] at h3; exact absurd h3 hz
              · rw [ej2] at h3; exact h3
          clear cl2 i4 dj hm2
          go_wp2
          go_roundw
          case rel => exact ⟨i + 1, n2, ah, ch, o2, by omega, hn29, rfl, by go_num, unhide ho2, unhide rc2, unhide cl5, unhide I4, unhide B4⟩
          case measure => simp [intOf]; omega
    · obtain rfl : i = n := by omega
      have fin : Hid (∀ s, s ∈ o ↔ ∃ y, y ∈ F ∧ Av (CE l) (· ∈ A) y s) := (unhide rc).done (Cl.all (by rw [unhide ho]; exact unhide cl))
      go_wp2
      go_ret
      exact ⟨_, o, rfl, unhide I, by rw [unhide ho]; exact hn9, unhide fin, unhide b2⟩
end Go.Proofs.Ytjgepcifknmdhaa

/- The reference's On, circle and Circle. -/
namespace Go.Proofs.Ytjgepcifknmdhaa
open Go.RowKit
set_option linter.unusedVariables false

theorem up_nodup {l : List Int} (h : Up l) : l.Nodup := h.imp fun k => by omega
theorem nex_small (n : Int) (l : List En) : (canon (nexL n l)).length ≤ l.length := Nat.le_trans (canon_le _) (nex_le n l)
theorem rd_nil (w : World) : Rd w (.slice none 0 0) [] := ⟨none, 0, rfl, seg_nil _ _⟩
/-- On, as the reference has it. -/
theorem on_reach {l : List En} {n : Int} {o : List Int} (h : ∀ s, s ∈ o ↔ ∃ y, y ∈ canon (nexL n l) ∧ Av (CE l) (· ∈ ([] : List Int)) y s) : hasB n o = onB l n := by
  rw [Bool.eq_iff_iff, hasB_mem, onB_iff, h]
  constructor
  · rintro ⟨y, h1, h2⟩
    rw [(canon_facts _).1, nex_mem] at h1
    exact ⟨y, h1, h2.rch⟩
  · rintro ⟨t, e, r⟩
    exact ⟨t, by rw [(canon_facts _).1, nex_mem]; exact e, Av.mono r (fun x hx => by cases hx) (fun _ _ k => k)⟩
set_option maxRecDepth 100000 in
theorem ron_any (w : World) {v : Value} {l : List En} (n : Int) (h : Re w v l) (hn : l.length ≤ 300) :
    Calls Try.prog 22 #[.int .i64 n, v] w fun e w' => e = .returned (.bool (onB l n)) ∧ Below w.heap.size w w' := by
  have C1 := hide (rnext_any w n h (by omega))
  obtain ⟨av, cv, rfl⟩ := h.form
  have L := hide h
  have hF9 := nex_small n l
  have hup := up_nodup (canon_up (nexL n l))
  have fin : Hid (∀ o : List Int, (∀ s, s ∈ o ↔ ∃ y, y ∈ canon (nexL n l) ∧ Av (CE l) (· ∈ ([] : List Int)) y s) → hasB n o = onB l n) := fun o => on_reach
  generalize canon (nexL n l) = F at *
  clear h
  replace hup := hide hup
  replace hF9 := hide (Nat.le_trans hF9 hn)
  replace hn := hide hn
  go_enter Try.func22, Try.ntmps22
  go_wp2_with fail
  refine (unhide C1).mono ?_
  rintro e w1 ⟨v1, rfl, i1, b1⟩
  have C2 := hide (reach_any w1 i1.rd i1.nz (unhide hF9) (unhide hup) (fun y _ h => by cases h) (rd_nil w1) (Nat.zero_le _) ((unhide L).next b1) (unhide hn))
  replace b1 := hide b1
  clear i1 C1
  go_wp2_with fail
  refine (unhide C2).mono ?_
  rintro e w2 ⟨v2, o, rfl, i2, ho, hs, b2⟩
  have C3 := has_any n w2 i2.rd (by omega)
  rw [unhide fin o hs] at C3
  replace C3 := hide C3
  have b3 := hide (below_then (unhide b1) b2)
  clear i2 hs b2 C2
  go_wp2_with fail
  refine (unhide C3).mono ?_
  rintro e w3 ⟨rfl, rfl⟩
  go_wp2
  go_ret
  exact ⟨rfl, unhide b3⟩
end Go.Proofs.Ytjgepcifknmdhaa

/- The reference's circle. -/
namespace Go.Proofs.Ytjgepcifknmdhaa
open Go.RowKit
set_option linter.unusedVariables false

set_option linter.unusedSimpArgs false
theorem circ_small (l : List En) : (circD l).length ≤ 2 * l.length := by
  rcases circ_is l with ⟨e, _⟩ | ⟨s, p, v, e, _, _, hw, _⟩
  · rw [e]; exact Nat.zero_le _
  · have := nd_sub (circD l) (nodL l) (by rw [e]; exact hw.nodup) fun x hx => on_node ((circ_is l).on x hx)
    rw [nod_len] at this
    omega
theorem is_one (w : World) (z : Int) : Is w.heap.size (.slice (some ⟨w.heap.size, 0, none⟩) 1 1) [z] (w.alloc (.cells #[.int .i64 z] 3)) := World.ownsRow_lit w #[.int .i64 z] 1 (Nat.le_refl _) (by decide) rfl
set_option maxRecDepth 100000 in
set_option maxHeartbeats 2000000 in
theorem rcirc_any (w : World) {v : Value} {l : List En} (s : Int) (h : Re w v l) (hn : l.length ≤ 300) (hon : On (CE l) s) (hleast : ∀ n, On (CE l) n → s ≤ n) :
    Calls Try.prog 39 #[.int .i64 s, v] w fun e w' => ∃ v', e = .returned v' ∧ Is w.heap.size v' (circD l) w' ∧ Below w.heap.size w w' := by
  obtain ⟨hw, hlast, hpos⟩ := circ_head hon hleast
  have hc6 := circ_small l
  obtain ⟨av, cv, rfl⟩ := h.form
  have L := hide h
  obtain ⟨c, hc⟩ : ∃ c, c = circD l := ⟨_, rfl⟩
  rw [← hc] at hw hlast hpos hc6 ⊢
  have h1s : Hid ([s] = c.take 1) := by
    obtain ⟨r, e⟩ := hw.head
    show _ = _
    rw [e]; rfl
  have hw := hide hw
  have step : Hid (∀ k, k < c.length → (CE l (c.getD k 0) s ↔ k + 1 = c.length) ∧ (k + 1 < c.length → CE l (c.getD k 0) (c.getD (k + 1) 0) ∧ c.getD (k + 1) 0 ∉ c.take (k + 1) ∧ Av (CE l) (fun x => x ∈ c.take (k + 1) ∧ x ≠ s) (c.getD (k + 1) 0) s ∧
      ∀ m', m' < c.getD (k + 1) 0 → CE l (c.getD k 0) m' → m' ∉ c.take (k + 1) → ¬ Av (CE l) (fun x => x ∈ c.take (k + 1) ∧ x ≠ s) m' s)) := fun k hk => circ_step (unhide hw) hlast (k := k + 1) (by omega) (by omega)
  have tail : Hid (∀ k, k < c.length → ∀ x, x ∈ (c.take (k + 1)).drop 1 ↔ x ∈ c.take (k + 1) ∧ x ≠ s) := fun k hk x => way_tail ((unhide hw).pre (by omega) (by omega)) x
  replace hw := hide (unhide hw)
  have hl7 : Hid (l.length ≤ 700) := by show _ ≤ _; omega
  have hl3 : Hid (l.length ≤ 300) := hn
  obtain ⟨nc, hnc⟩ : ∃ nc, nc = c.length := ⟨_, rfl⟩
  have hnc6 : nc ≤ 600 := by omega
  have hnc0 : 0 < nc := by omega
  clear hlast h hc6 hon hleast hc hpos
  obtain ⟨nl, hnl⟩ : ∃ nl, nl = l.length := ⟨_, rfl⟩
  rw [← hnl] at L hn ⊢
  replace hnc := hide hnc
  replace hnl := hide hnl
  have o1 := is_one w s
  rw [unhide h1s] at o1
  replace o1 := hide o1
  have b1 := hide (below_new w (.cells #[.int .i64 s] 3))
  go_enter Try.func39, Try.ntmps39
  go_wp2
  go_loopw [5] (fun s5 wq => ∃ (k : Nat) (g cg : Nat) (wr : World), k < nc ∧ k < cg ∧ s5 = .slice (some ⟨g, 0, none⟩) (k + 1) cg ∧ wr = wq ∧ Hid (Is w.heap.size (.slice (some ⟨g, 0, none⟩) (k + 1) cg) (c.take (k + 1)) wr) ∧ Hid (Below w.heap.size w wr)) (fun s5 _ => nc - lenOf s5)
  case atStart => exact ⟨0, _, 1, _, hnc0, by decide, rfl, rfl, unhide o1, unhide b1⟩
  case round =>
    clear o1 b1
    obtain ⟨k, g, cg, wr, hk, hcg, rfl, hwr, I, B⟩ := hrel
    subst hwr
    obtain ⟨y, hy⟩ : ∃ y, y = c.getD k 0 := ⟨_, rfl⟩
    have hlen : Hid ((c.take (k + 1)).length = k + 1) := by show _ = _; rw [List.length_take, ← unhide hnc]; omega
    obtain ⟨g', of, e', d, _⟩ := (unhide I).elem' (i := k) (by rw [unhide hlen]; omega)
    injection e' with e'
    obtain ⟨rfl, rfl⟩ : g = g' ∧ 0 = of := by injection e' with q1 q2 _; exact ⟨q1, q2⟩
    clear e'
    have et : (c.take (k + 1)).getD k 0 = y := by
      rw [hy, List.getD_eq_getElem?_getD, List.getD_eq_getElem?_getD, List.getElem?_take_of_lt (by omega)]
    rw [et, Nat.zero_add] at d
    obtain ⟨st1, st2⟩ := unhide step k (by rw [← unhide hnc]; exact hk)
    rw [← hy] at st1 st2
    replace st1 := hide st1
    replace st2 := hide st2
    replace hy := hide hy
    have C := hide (rnext_any wr y ((unhide L).next (unhide B)) (unhide hl7))
    clear et
    have q1 : IntKind.i64.wrap ((k : Int) + 1 - 1) = (k : Int) := by rw [IntKind.wrap_i64]; omega
    have q2 : ((k + 1 : Nat) : Int) - 1 = (k : Int) := by omega
    go_wp2_with fail
    clear d
    refine (unhide C).mono ?_
    rintro e w3 ⟨v3, rfl, i3, b3⟩
    have I3 := hide ((unhide I).next b3)
    have B3 := hide (bt (unhide B) b3 (unhide B).size)
    have nx : Hid (∀ z, z ∈ canon (nexL y l) ↔ CE l y z) := fun z => by rw [(canon_facts _).1, nex_mem]; rfl
    have nup : Hid (Up (canon (nexL y l))) := canon_up _
    obtain ⟨a3, c3, rfl⟩ := i3.form
    have hq9 : (canon (nexL y l)).length ≤ 300 := Nat.le_trans (nex_small y l) (unhide hl3)
    generalize canon (nexL y l) = N at *
    have H0 := has_any s w3 i3.rd (by omega)
    obtain ⟨q, hq⟩ : ∃ q, q = N.length := ⟨_, rfl⟩
    rw [← hq] at i3 hq9 H0 ⊢
    replace hq := hide hq
    replace i3 := hide (i3.down (unhide B).size)
    clear C b3 I B
    cases hs : hasB s N
    · rw [hs] at H0
      replace H0 := hide H0
      have hk1 : k + 1 < nc := by
        rcases (show k + 1 < nc ∨ k + 1 = nc by omega) with h | h
        · exact h
        · have h2 : CE l y s := (unhide st1).2 (by rw [h]; exact unhide hnc)
          have h3 := (unhide nx s).2 h2
          rw [← hasB_mem, hs] at h3
          cases h3
      obtain ⟨m1, m2, m3, m4⟩ := unhide st2 (by rw [← unhide hnc]; exact hk1)
      obtain ⟨m, hm⟩ : ∃ m, m = c.getD (k + 1) 0 := ⟨_, rfl⟩
      rw [← hm] at m1 m2 m3 m4
      have ext : Hid (c.take (k + 1 + 1) = c.take (k + 1) ++ [m]) := by
        show _ = _
        rw [hm, List.take_succ_eq_append_getElem (by rw [← unhide hnc]; exact hk1)]
        have hk2 : k + 1 < c.length := by rw [← unhide hnc]; exact hk1
        simp [List.getD, hk2]
      have mN : Hid (m ∈ N) := (unhide nx m).2 m1
      have m5 : Hid (∀ z, z ∈ N → z < m → z ∉ c.take (k + 1) → ¬ Av (CE l) (fun x => x ∈ c.take (k + 1) ∧ x ≠ s) z s) := fun z hz hlt => m4 z hlt ((unhide nx z).1 hz)
      have tl := hide (unhide tail k (by rw [← unhide hnc]; exact hk))
      replace m2 := hide m2
      replace m3 := hide m3
      replace hm := hide hm
      clear m1 m4 st1 st2 hs nx hy
      go_wp2_with fail
      refine (unhide H0).mono ?_
      rintro e w4 ⟨rfl, rfl⟩
      clear H0
      go_wp2
      go_loopw [5, 7] (fun s5 s7 wq => ∃ (i : Nat) (wz : World), i ≤ q ∧ s5 = .slice (some ⟨g, 0, none⟩) (k + 1) cg ∧ s7 = .int .i64 i ∧ wz = wq ∧ Hid (∀ j, j < i → N.getD j 0 < m) ∧ Hid (Is w.heap.size (.slice (some ⟨g, 0, none⟩) (k + 1) cg) (c.take (k + 1)) wz) ∧ Hid (Is w.heap.size (.slice a3 q c3) N wz) ∧ Hid (Below w.heap.size w wz)) (fun _ s7 _ => q - (intOf s7).toNat)
      case atStart => exact ⟨0, _, Nat.zero_le _, rfl, rfl, rfl, (fun j hj => by omega), unhide I3, unhide i3, unhide B3⟩
      case round =>
        clear I3 i3 B3
        obtain ⟨i, wz, hi, rfl, rfl, hwz, lo, I4, i4, B4⟩ := hrel
        subst hwz
        by_cases hlt : i < q
        · obtain ⟨z, hz⟩ : ∃ z, z = N.getD i 0 := ⟨_, rfl⟩
          obtain ⟨g2, of2, rfl, d2, _⟩ := (unhide i4).elem' (i := i) (by rw [← unhide hq]; exact hlt)
          rw [← hz] at d2
          have hzN : z ∈ N := by rw [hz]; exact at_mem (by rw [← unhide hq]; exact hlt)
          have hzm : z ≤ m := by
            obtain ⟨j, hj, ej⟩ := mem_at (unhide mN)
            rcases (show j < i ∨ i ≤ j by omega) with h | h
            · have := unhide lo j h; omega
            · rcases (show i = j ∨ i < j by omega) with h2 | h2
              · rw [hz, h2, ej]; exact Int.le_refl _
              · have := up_lt (unhide nup) h2 hj; omega
          have lo2 : Hid (z < m → ∀ j, j < i + 1 → N.getD j 0 < m) := fun h j hj => by
            rcases (show j < i ∨ j = i by omega) with h1 | rfl
            · exact unhide lo j h1
            · rw [← hz]; exact h
          have H1 : ∀ n, Calls Try.prog 32 #[.slice (some ⟨g, 0, none⟩) (k + 1) cg, .int .i64 z] (wz.drewN n) fun e w' => e = .returned (.bool (hasB z (c.take (k + 1)))) ∧ w' = wz.drewN n := fun n => has_any z _ (((unhide I4).next (blw_drewN _ n)).rd) (by rw [unhide hlen]; omega)
          replace hz := hide hz
          cases hO : hasB z (c.take (k + 1))
          · have hzO := hasB_not.1 hO
            rw [hO] at H1
            have HH : Hid (∀ W, Below wz.heap.size wz W → Calls Try.prog 32 #[.slice (some ⟨g, 0, none⟩) (k + 1) cg, .int .i64 z] W fun e w' => e = .returned (.bool false) ∧ w' = W) := fun W b => by
              have := has_any z W ((unhide I4).next b).rd (by rw [unhide hlen]; omega)
              rw [hO] at this
              exact this
            have hS : Hid (∀ W, Below wz.heap.size wz W → W.cell? ⟨g2, of2 + i, none⟩ = some (.int .i64 z)) := fun W b => (b.cell (World.block_lt_of_cell? _ _ d2)).trans d2
            have RR : Hid (∀ W N A C, Below wz.heap.size wz W → W.heap[N]? = some (.cells #[.int .i64 z] 3 (0, 0)) → Rd W (.slice A k C) ((c.take (k + 1)).drop 1) → Calls Try.prog 41 #[.slice (some ⟨N, 0, none⟩) 1 1, .slice A k C, .slice av nl cv] W fun e w' => ∃ v' o, e = .returned v' ∧ Is W.heap.size v' o w' ∧ o.length ≤ 900 ∧ (∀ s, s ∈ o ↔ ∃ y, y ∈ [z] ∧ Av (CE l) (· ∈ (c.take (k + 1)).drop 1) y s) ∧ Below W.heap.size W w') := fun W N A C b hN hA => by
              refine reach_any W (F := [z]) ⟨_, 1, rfl, seg_one hN⟩ (fun n c e => by cases e) (by show 1 ≤ 300; decide) (by simp) (fun y hy hm => ?_) hA (by rw [List.length_drop, unhide hlen]; omega) ((unhide L).next ((unhide B4).trans (b.mono (unhide B4).size))) (unhide hl3)
              rw [List.mem_singleton.1 hy] at hm
              exact hzO ((unhide tl z).1 hm).1
            have TT : Hid (∀ W A C, Below wz.heap.size wz W → (k = 0 ∨ A = some ⟨g, 1, none⟩) → Rd W (.slice A k C) ((c.take (k + 1)).drop 1)) := fun W A C b hA => by
              obtain ⟨a', c', e', sg⟩ := ((unhide I4).next b).rd
              injection e' with e1 e2 e3
              subst e1
              rw [unhide hlen] at sg
              have sd := seg_drop sg 1 (by omega)
              rw [show k + 1 - 1 = k from rfl] at sd
              have hdl : ((c.take (k + 1)).drop 1).length = k := by rw [List.length_drop, unhide hlen]; rfl
              rcases hA with h0 | rfl
              · refine ⟨A, C, by rw [hdl], ?_⟩
                rw [hdl]
                exact ⟨hdl, .inl h0⟩
              · refine ⟨_, C, by rw [hdl], ?_⟩
                rw [hdl]
                exact sd
            have dz : ∀ n, (wz.drewN n).cell? ⟨g2, of2 + i, none⟩ = some (.int .i64 z) := fun _ => d2
            clear H1 hO lo
            go_upto_region 8 with fail
            go_cut [47] from 22 to 54 (fun t47 wc => ∃ bb : Bool, t47 = .bool bb ∧ Hid (bb = true ↔ Av (CE l) (fun x => x ∈ c.take (k + 1) ∧ x ≠ s) z s) ∧ Hid (Below wz.heap.size wz wc))
            case first =>
             by_cases hc1 : cg = 1
             · have hk0 : Hid (k = 0) := by show _ = _; omega
               subst hc1
               have f1 : (1 : Int) ≤ (k : Int) + 1 := by omega
               go_wp2_with fail
               refine wp_region_held_drew (S := (fun wy => wy.cell? ⟨g2, of2 + i, none⟩ = some (.int .i64 z))) (by kernel_rfl) ?hS0 (fun hHeld => ?_)
               case hS0 => exact unhide hS _ (by repeat (first | exact unhide b6h | exact Below.refl _ _ | refine Below.drew ?_ | refine below_add ?_ _))
               refine wpAnyH_take (i := 0) (v := ?_) rfl (by kernel_rfl) (by kernel_rfl) (by kernel_rfl) (fun _ _ _ h => h) (Or.inl ⟨by rfl, ?_⟩) (by assumption) ?_
               rotate_left
               · (intro w hSw; (try dsimp only at hSw); go_simp; first | done | with_reducible rfl)
               try simp only [Act.put, List.setIfInBounds_toArray, List.set_cons_zero, List.set_cons_succ, List.getElem_toArray, List.getElem_cons_succ, List.getElem_cons_zero]
               refine wpAnyH_take (i := 1) (v := ?_) rfl (by kernel_rfl) (by kernel_rfl) (by kernel_rfl) (fun _ _ _ h => h) (Or.inl ⟨by rfl, ?_⟩) (by assumption) ?_
               rotate_left
               · (intro w hSw; (try dsimp only at hSw); go_simp; first | done | with_reducible rfl)
               try simp only [Act.put, List.setIfInBounds_toArray, List.set_cons_zero, List.set_cons_succ, List.getElem_toArray, List.getElem_cons_succ, List.getElem_cons_zero]
               refine wpAnyH_take (i := 2) (v := ?_) rfl (by kernel_rfl) (by kernel_rfl) (by kernel_rfl) (fun _ _ _ h => h) (Or.inl ⟨by rfl, ?_⟩) (by assumption) ?_
               rotate_left
               · (intro w hSw; (try dsimp only at hSw); go_simp; first | done | with_reducible rfl)
               try simp only [Act.put, List.setIfInBounds_toArray, List.set_cons_zero, List.set_cons_succ, List.getElem_toArray, List.getElem_cons_succ, List.getElem_cons_zero]
               refine wpAnyH_take (i := 3) (v := ?_) rfl (by kernel_rfl) (by kernel_rfl) (by kernel_rfl) (fun _ _ _ h => h) (Or.inl ⟨by rfl, ?_⟩) (by assumption) ?_
               rotate_left
               · (intro w hSw; (try dsimp only at hSw); go_simp; first | done | with_reducible rfl)
               try simp only [Act.put, List.setIfInBounds_toArray, List.set_cons_zero, List.set_cons_succ, List.getElem_toArray, List.getElem_cons_succ, List.getElem_cons_zero]
               refine wpAnyH_take (i := 4) (v := ?_) rfl (by kernel_rfl) (by kernel_rfl) (by kernel_rfl) (fun _ _ _ h => h) (Or.inl ⟨by rfl, ?_⟩) (by assumption) ?_
               rotate_left
               · (intro w hSw; (try dsimp only at hSw); go_simp; first | done | with_reducible rfl)
               try simp only [Act.put, List.setIfInBounds_toArray, List.set_cons_zero, List.set_cons_succ, List.getElem_toArray, List.getElem_cons_succ, List.getElem_cons_zero]
               refine wpAnyH_ready (rs := [5]) (by kernel_rfl) (by simp) ?_
               refine AllReadyH.cons rfl (fun K hK => ?_) AllReadyH.nil
               go_simp
               go_wp2_with (go_at_call 32; refine Calls.mono (unhide HH _ (by repeat (first | exact unhide b6h | exact Below.refl _ _ | refine Below.drew ?_ | refine below_add ?_ _))) ?_; rintro e w5 ⟨rfl, rfl⟩)
               refine hK.out _ _ (by (try dsimp only); exact unhide hS _ (by repeat (first | exact unhide b6h | exact Below.refl _ _ | refine Below.drew ?_ | refine below_add ?_ _))) (fun hHeld => ?_)
               clear hK K
               refine wpAnyH_take (i := 6) (v := ?_) rfl (by kernel_rfl) (by kernel_rfl) (by kernel_rfl) (fun _ _ _ h => h) (Or.inl ⟨by rfl, ?_⟩) (by assumption) ?_
               rotate_left
               · (intro w hSw; (try dsimp only at hSw); go_simp; first | done | with_reducible rfl)
               try simp only [Act.put, List.setIfInBounds_toArray, List.set_cons_zero, List.set_cons_succ, List.getElem_toArray, List.getElem_cons_succ, List.getElem_cons_zero]
               refine wpAnyH_take (i := 7) (v := ?_) rfl (by kernel_rfl) (by kernel_rfl) (by kernel_rfl) (fun _ _ _ h => h) (Or.inl ⟨by rfl, ?_⟩) (by assumption) ?_
               rotate_left
               · (intro w hSw; (try dsimp only at hSw); go_simp; first | done | with_reducible rfl)
               try simp only [Act.put, List.setIfInBounds_toArray, List.set_cons_zero, List.set_cons_succ, List.getElem_toArray, List.getElem_cons_succ, List.getElem_cons_zero]
               refine wpAnyH_take (i := 8) (v := ?_) rfl (by kernel_rfl) (by kernel_rfl) (by kernel_rfl) (fun _ _ _ h => h) (Or.inl ⟨by rfl, ?_⟩) (by assumption) ?_
               rotate_left
               · (intro w hSw; (try dsimp only at hSw); go_simp; first | done | with_reducible rfl)
               try simp only [Act.put, List.setIfInBounds_toArray, List.set_cons_zero, List.set_cons_succ, List.getElem_toArray, List.getElem_cons_succ, List.getElem_cons_zero]
               refine wpAnyH_take (i := 9) (v := ?_) rfl (by kernel_rfl) (by kernel_rfl) (by kernel_rfl) (fun _ _ _ h => h) (Or.inl ⟨by rfl, ?_⟩) (by assumption) ?_
               rotate_left
               · (intro w hSw; (try dsimp only at hSw); go_simp; first | done | with_reducible rfl)
               try simp only [Act.put, List.setIfInBounds_toArray, List.set_cons_zero, List.set_cons_succ, List.getElem_toArray, List.getElem_cons_succ, List.getElem_cons_zero]
               refine wpAnyH_take (i := 10) (v := ?_) rfl (by kernel_rfl) (by kernel_rfl) (by kernel_rfl) (fun _ _ _ h => h) (Or.inl ⟨by rfl, ?_⟩) (by assumption) ?_
               rotate_left
               · (intro w hSw; (try dsimp only at hSw); go_simp; first | done | with_reducible rfl)
               try simp only [Act.put, List.setIfInBounds_toArray, List.set_cons_zero, List.set_cons_succ, List.getElem_toArray, List.getElem_cons_succ, List.getElem_cons_zero]
               refine wpAnyH_take (i := 11) (v := ?_) rfl (by kernel_rfl) (by kernel_rfl) (by kernel_rfl) (fun _ _ _ h => h) (Or.inl ⟨by rfl, ?_⟩) (by assumption) ?_
               rotate_left
               · (intro w hSw; (try dsimp only at hSw); go_simp; first | done | with_reducible rfl)
               try simp only [Act.put, List.setIfInBounds_toArray, List.set_cons_zero, List.set_cons_succ, List.getElem_toArray, List.getElem_cons_succ, List.getElem_cons_zero]
               refine wpAnyH_take (i := 13) (v := ?_) rfl (by kernel_rfl) (by kernel_rfl) (by kernel_rfl) (fun _ _ _ h => h) (Or.inl ⟨by rfl, ?_⟩) (by assumption) ?_
               rotate_left
               · (intro w hSw; (try dsimp only at hSw); go_simp; first | done | with_reducible rfl)
               try simp only [Act.put, List.setIfInBounds_toArray, List.set_cons_zero, List.set_cons_succ, List.getElem_toArray, List.getElem_cons_succ, List.getElem_cons_zero]
               refine wpAnyH_take (i := 14) (v := ?_) rfl (by kernel_rfl) (by kernel_rfl) (by kernel_rfl) (fun _ _ _ h => h) (Or.inl ⟨by rfl, ?_⟩) (by assumption) ?_
               rotate_left
               · (intro w hSw; (try dsimp only at hSw); go_simp; first | done | with_reducible rfl)
               try simp only [Act.put, List.setIfInBounds_toArray, List.set_cons_zero, List.set_cons_succ, List.getElem_toArray, List.getElem_cons_succ, List.getElem_cons_zero]
               refine wpAnyH_take (i := 15) (v := ?_) rfl (by kernel_rfl) (by kernel_rfl) (by kernel_rfl) (fun _ _ _ h => h) (Or.inl ⟨by rfl, ?_⟩) (by assumption) ?_
               rotate_left
               · (intro w hSw; (try dsimp only at hSw); go_simp; first | done | with_reducible rfl)
               try simp only [Act.put, List.setIfInBounds_toArray, List.set_cons_zero, List.set_cons_succ, List.getElem_toArray, List.getElem_cons_succ, List.getElem_cons_zero]
               refine wpAnyH_take (i := 17) (v := ?_) rfl (by kernel_rfl) (by kernel_rfl) (by kernel_rfl) (fun _ _ _ h => h) (Or.inl ⟨by rfl, ?_⟩) (by assumption) ?_
               rotate_left
               · (intro w hSw; (try dsimp only at hSw); go_simp; first | done | with_reducible rfl)
               try simp only [Act.put, List.setIfInBounds_toArray, List.set_cons_zero, List.set_cons_succ, List.getElem_toArray, List.getElem_cons_succ, List.getElem_cons_zero]
               refine wpAnyH_ready (rs := [12]) (by kernel_rfl) (by simp) ?_
               refine AllReadyH.cons rfl (fun K hK => ?_) AllReadyH.nil
               go_simp
               refine hK.out _ _ (by (try dsimp only); exact unhide hS _ (by repeat (first | exact unhide b6h | exact Below.refl _ _ | refine Below.drew ?_ | refine below_add ?_ _))) (fun hHeld => ?_)
               clear hK K
               refine wpAnyH_ready (rs := [16]) (by kernel_rfl) (by simp) ?_
               refine AllReadyH.cons rfl (fun K hK => ?_) AllReadyH.nil
               go_simp
               go_wp2_with (go_at_call 41; refine Calls.mono (unhide RR _ _ _ _ (by repeat (first | exact unhide b6h | exact Below.refl _ _ | refine Below.drew ?_ | refine below_add ?_ _)) (by first | exact heap_alloc_new _ _ | exact heap_dnew _ _ _) (unhide TT _ _ _ (by repeat (first | exact unhide b6h | exact Below.refl _ _ | refine Below.drew ?_ | refine below_add ?_ _)) (.inl (unhide hk0)))) ?_; rintro e w6 ⟨v6, o6, rfl, i6, n6, s6, b6⟩; have H3 := has_any s w6 i6.rd (by omega); have b6h := hide (below_then (below_dnew wz _) b6))
               refine hK.out _ _ (by (try dsimp only); exact unhide hS _ (by repeat (first | exact unhide b6h | exact Below.refl _ _ | refine Below.drew ?_ | refine below_add ?_ _))) (fun hHeld => ?_)
               clear hK K
               refine wpAnyH_ready (rs := [18]) (by kernel_rfl) (by simp) ?_
               refine AllReadyH.cons rfl (fun K hK => ?_) AllReadyH.nil
               go_simp
               go_wp2_with (go_at_call 32; refine Calls.mono H3 ?_; rintro e w7 ⟨rfl, rfl⟩)
               refine hK.out _ _ (by (try dsimp only); exact unhide hS _ (by repeat (first | exact unhide b6h | exact Below.refl _ _ | refine Below.drew ?_ | refine below_add ?_ _))) (fun hHeld => ?_)
               clear hK K
               refine wpAnyH_take (i := 19) (v := ?_) rfl (by kernel_rfl) (by kernel_rfl) (by kernel_rfl) (fun _ _ _ h => h) (Or.inl ⟨by rfl, ?_⟩) (by assumption) ?_
               rotate_left
               · (intro w hSw; (try dsimp only at hSw); go_simp; first | done | with_reducible rfl)
               try simp only [Act.put, List.setIfInBounds_toArray, List.set_cons_zero, List.set_cons_succ, List.getElem_toArray, List.getElem_cons_succ, List.getElem_cons_zero]
               refine wpAnyH_done (by kernel_rfl) ?_ _
               have bb := hide (below_then (Below.refl _ _) (unhide b6h))
               have sA : Hid (hasB s o6 = true ↔ Av (CE l) (fun x => x ∈ c.take (k + 1) ∧ x ≠ s) z s) := by
                 show _ ↔ _
                 rw [hasB_mem, s6]
                 constructor
                 · rintro ⟨y, h1, h2⟩
                   rw [List.mem_singleton.1 h1] at h2
                   exact h2.mono (fun x hx => (unhide tl x).2 hx) (fun _ _ k => k)
                 · intro h2
                   exact ⟨z, List.mem_singleton.2 rfl, h2.mono (fun x hx => (unhide tl x).1 hx) (fun _ _ k => k)⟩
               go_wp2_with fail
               go_meet
               case rel => exact ⟨_, rfl, unhide sA, unhide b6h⟩
             · have f1 : (1 : Int) ≤ (k : Int) + 1 := by omega
               have f2 : k + 1 ≤ cg := by omega
               go_wp2_with fail
               refine wp_region_held_drew (S := (fun wy => wy.cell? ⟨g2, of2 + i, none⟩ = some (.int .i64 z))) (by kernel_rfl) ?hS0 (fun hHeld => ?_)
               case hS0 => exact unhide hS _ (by repeat (first | exact unhide b6h | exact Below.refl _ _ | refine Below.drew ?_ | refine below_add ?_ _))
               refine wpAnyH_take (i := 0) (v := ?_) rfl (by kernel_rfl) (by kernel_rfl) (by kernel_rfl) (fun _ _ _ h => h) (Or.inl ⟨by rfl, ?_⟩) (by assumption) ?_
               rotate_left
               · (intro w hSw; (try dsimp only at hSw); go_simp; first | done | with_reducible rfl)
               try simp only [Act.put, List.setIfInBounds_toArray, List.set_cons_zero, List.set_cons_succ, List.getElem_toArray, List.getElem_cons_succ, List.getElem_cons_zero]
               refine wpAnyH_take (i := 1) (v := ?_) rfl (by kernel_rfl) (by kernel_rfl) (by kernel_rfl) (fun _ _ _ h => h) (Or.inl ⟨by rfl, ?_⟩) (by assumption) ?_
               rotate_left
               · (intro w hSw; (try dsimp only at hSw); go_simp; first | done | with_reducible rfl)
               try simp only [Act.put, List.setIfInBounds_toArray, List.set_cons_zero, List.set_cons_succ, List.getElem_toArray, List.getElem_cons_succ, List.getElem_cons_zero]
               refine wpAnyH_take (i := 2) (v := ?_) rfl (by kernel_rfl) (by kernel_rfl) (by kernel_rfl) (fun _ _ _ h => h) (Or.inl ⟨by rfl, ?_⟩) (by assumption) ?_
               rotate_left
               · (intro w hSw; (try dsimp only at hSw); go_simp; first | done | with_reducible rfl)
               try simp only [Act.put, List.setIfInBounds_toArray, List.set_cons_zero, List.set_cons_succ, List.getElem_toArray, List.getElem_cons_succ, List.getElem_cons_zero]
               refine wpAnyH_take (i := 3) (v := ?_) rfl (by kernel_rfl) (by kernel_rfl) (by kernel_rfl) (fun _ _ _ h => h) (Or.inl ⟨by rfl, ?_⟩) (by assumption) ?_
               rotate_left
               · (intro w hSw; (try dsimp only at hSw); go_simp; first | done | with_reducible rfl)
               try simp only [Act.put, List.setIfInBounds_toArray, List.set_cons_zero, List.set_cons_succ, List.getElem_toArray, List.getElem_cons_succ, List.getElem_cons_zero]
               refine wpAnyH_take (i := 4) (v := ?_) rfl (by kernel_rfl) (by kernel_rfl) (by kernel_rfl) (fun _ _ _ h => h) (Or.inl ⟨by rfl, ?_⟩) (by assumption) ?_
               rotate_left
               · (intro w hSw; (try dsimp only at hSw); go_simp; first | done | with_reducible rfl)
               try simp only [Act.put, List.setIfInBounds_toArray, List.set_cons_zero, List.set_cons_succ, List.getElem_toArray, List.getElem_cons_succ, List.getElem_cons_zero]
               refine wpAnyH_ready (rs := [5]) (by kernel_rfl) (by simp) ?_
               refine AllReadyH.cons rfl (fun K hK => ?_) AllReadyH.nil
               go_simp
               go_wp2_with (go_at_call 32; refine Calls.mono (unhide HH _ (by repeat (first | exact unhide b6h | exact Below.refl _ _ | refine Below.drew ?_ | refine below_add ?_ _))) ?_; rintro e w5 ⟨rfl, rfl⟩)
               refine hK.out _ _ (by (try dsimp only); exact unhide hS _ (by repeat (first | exact unhide b6h | exact Below.refl _ _ | refine Below.drew ?_ | refine below_add ?_ _))) (fun hHeld => ?_)
               clear hK K
               refine wpAnyH_take (i := 6) (v := ?_) rfl (by kernel_rfl) (by kernel_rfl) (by kernel_rfl) (fun _ _ _ h => h) (Or.inl ⟨by rfl, ?_⟩) (by assumption) ?_
               rotate_left
               · (intro w hSw; (try dsimp only at hSw); go_simp; first | done | with_reducible rfl)
               try simp only [Act.put, List.setIfInBounds_toArray, List.set_cons_zero, List.set_cons_succ, List.getElem_toArray, List.getElem_cons_succ, List.getElem_cons_zero]
               refine wpAnyH_take (i := 7) (v := ?_) rfl (by kernel_rfl) (by kernel_rfl) (by kernel_rfl) (fun _ _ _ h => h) (Or.inl ⟨by rfl, ?_⟩) (by assumption) ?_
               rotate_left
               · (intro w hSw; (try dsimp only at hSw); go_simp; first | done | with_reducible rfl)
               try simp only [Act.put, List.setIfInBounds_toArray, List.set_cons_zero, List.set_cons_succ, List.getElem_toArray, List.getElem_cons_succ, List.getElem_cons_zero]
               refine wpAnyH_take (i := 8) (v := ?_) rfl (by kernel_rfl) (by kernel_rfl) (by kernel_rfl) (fun _ _ _ h => h) (Or.inl ⟨by rfl, ?_⟩) (by assumption) ?_
               rotate_left
               · (intro w hSw; (try dsimp only at hSw); go_simp; first | done | with_reducible rfl)
               try simp only [Act.put, List.setIfInBounds_toArray, List.set_cons_zero, List.set_cons_succ, List.getElem_toArray, List.getElem_cons_succ, List.getElem_cons_zero]
               refine wpAnyH_take (i := 9) (v := ?_) rfl (by kernel_rfl) (by kernel_rfl) (by kernel_rfl) (fun _ _ _ h => h) (Or.inl ⟨by rfl, ?_⟩) (by assumption) ?_
               rotate_left
               · (intro w hSw; (try dsimp only at hSw); go_simp; first | done | with_reducible rfl)
               try simp only [Act.put, List.setIfInBounds_toArray, List.set_cons_zero, List.set_cons_succ, List.getElem_toArray, List.getElem_cons_succ, List.getElem_cons_zero]
               refine wpAnyH_take (i := 10) (v := ?_) rfl (by kernel_rfl) (by kernel_rfl) (by kernel_rfl) (fun _ _ _ h => h) (Or.inl ⟨by rfl, ?_⟩) (by assumption) ?_
               rotate_left
               · (intro w hSw; (try dsimp only at hSw); go_simp; first | done | with_reducible rfl)
               try simp only [Act.put, List.setIfInBounds_toArray, List.set_cons_zero, List.set_cons_succ, List.getElem_toArray, List.getElem_cons_succ, List.getElem_cons_zero]
               refine wpAnyH_take (i := 11) (v := ?_) rfl (by kernel_rfl) (by kernel_rfl) (by kernel_rfl) (fun _ _ _ h => h) (Or.inl ⟨by rfl, ?_⟩) (by assumption) ?_
               rotate_left
               · (intro w hSw; (try dsimp only at hSw); go_simp; first | done | with_reducible rfl)
               try simp only [Act.put, List.setIfInBounds_toArray, List.set_cons_zero, List.set_cons_succ, List.getElem_toArray, List.getElem_cons_succ, List.getElem_cons_zero]
               refine wpAnyH_take (i := 13) (v := ?_) rfl (by kernel_rfl) (by kernel_rfl) (by kernel_rfl) (fun _ _ _ h => h) (Or.inl ⟨by rfl, ?_⟩) (by assumption) ?_
               rotate_left
               · (intro w hSw; (try dsimp only at hSw); go_simp; first | done | with_reducible rfl)
               try simp only [Act.put, List.setIfInBounds_toArray, List.set_cons_zero, List.set_cons_succ, List.getElem_toArray, List.getElem_cons_succ, List.getElem_cons_zero]
               refine wpAnyH_take (i := 14) (v := ?_) rfl (by kernel_rfl) (by kernel_rfl) (by kernel_rfl) (fun _ _ _ h => h) (Or.inl ⟨by rfl, ?_⟩) (by assumption) ?_
               rotate_left
               · (intro w hSw; (try dsimp only at hSw); go_simp; first | done | with_reducible rfl)
               try simp only [Act.put, List.setIfInBounds_toArray, List.set_cons_zero, List.set_cons_succ, List.getElem_toArray, List.getElem_cons_succ, List.getElem_cons_zero]
               refine wpAnyH_take (i := 15) (v := ?_) rfl (by kernel_rfl) (by kernel_rfl) (by kernel_rfl) (fun _ _ _ h => h) (Or.inl ⟨by rfl, ?_⟩) (by assumption) ?_
               rotate_left
               · (intro w hSw; (try dsimp only at hSw); go_simp; first | done | with_reducible rfl)
               try simp only [Act.put, List.setIfInBounds_toArray, List.set_cons_zero, List.set_cons_succ, List.getElem_toArray, List.getElem_cons_succ, List.getElem_cons_zero]
               refine wpAnyH_take (i := 17) (v := ?_) rfl (by kernel_rfl) (by kernel_rfl) (by kernel_rfl) (fun _ _ _ h => h) (Or.inl ⟨by rfl, ?_⟩) (by assumption) ?_
               rotate_left
               · (intro w hSw; (try dsimp only at hSw); go_simp; first | done | with_reducible rfl)
               try simp only [Act.put, List.setIfInBounds_toArray, List.set_cons_zero, List.set_cons_succ, List.getElem_toArray, List.getElem_cons_succ, List.getElem_cons_zero]
               refine wpAnyH_ready (rs := [12]) (by kernel_rfl) (by simp) ?_
               refine AllReadyH.cons rfl (fun K hK => ?_) AllReadyH.nil
               go_simp
               refine hK.out _ _ (by (try dsimp only); exact unhide hS _ (by repeat (first | exact unhide b6h | exact Below.refl _ _ | refine Below.drew ?_ | refine below_add ?_ _))) (fun hHeld => ?_)
               clear hK K
               refine wpAnyH_ready (rs := [16]) (by kernel_rfl) (by simp) ?_
               refine AllReadyH.cons rfl (fun K hK => ?_) AllReadyH.nil
               go_simp
               go_wp2_with (go_at_call 41; refine Calls.mono (unhide RR _ _ _ _ (by repeat (first | exact unhide b6h | exact Below.refl _ _ | refine Below.drew ?_ | refine below_add ?_ _)) (by first | exact heap_alloc_new _ _ | exact heap_dnew _ _ _) (unhide TT _ _ _ (by repeat (first | exact unhide b6h | exact Below.refl _ _ | refine Below.drew ?_ | refine below_add ?_ _)) (.inr rfl))) ?_; rintro e w6 ⟨v6, o6, rfl, i6, n6, s6, b6⟩; have H3 := has_any s w6 i6.rd (by omega); have b6h := hide (below_then (below_dnew wz _) b6))
               refine hK.out _ _ (by (try dsimp only); exact unhide hS _ (by repeat (first | exact unhide b6h | exact Below.refl _ _ | refine Below.drew ?_ | refine below_add ?_ _))) (fun hHeld => ?_)
               clear hK K
               refine wpAnyH_ready (rs := [18]) (by kernel_rfl) (by simp) ?_
               refine AllReadyH.cons rfl (fun K hK => ?_) AllReadyH.nil
               go_simp
               go_wp2_with (go_at_call 32; refine Calls.mono H3 ?_; rintro e w7 ⟨rfl, rfl⟩)
               refine hK.out _ _ (by (try dsimp only); exact unhide hS _ (by repeat (first | exact unhide b6h | exact Below.refl _ _ | refine Below.drew ?_ | refine below_add ?_ _))) (fun hHeld => ?_)
               clear hK K
               refine wpAnyH_take (i := 19) (v := ?_) rfl (by kernel_rfl) (by kernel_rfl) (by kernel_rfl) (fun _ _ _ h => h) (Or.inl ⟨by rfl, ?_⟩) (by assumption) ?_
               rotate_left
               · (intro w hSw; (try dsimp only at hSw); go_simp; first | done | with_reducible rfl)
               try simp only [Act.put, List.setIfInBounds_toArray, List.set_cons_zero, List.set_cons_succ, List.getElem_toArray, List.getElem_cons_succ, List.getElem_cons_zero]
               refine wpAnyH_done (by kernel_rfl) ?_ _
               have bb := hide (below_then (Below.refl _ _) (unhide b6h))
               have sA : Hid (hasB s o6 = true ↔ Av (CE l) (fun x => x ∈ c.take (k + 1) ∧ x ≠ s) z s) := by
                 show _ ↔ _
                 rw [hasB_mem, s6]
                 constructor
                 · rintro ⟨y, h1, h2⟩
                   rw [List.mem_singleton.1 h1] at h2
                   exact h2.mono (fun x hx => (unhide tl x).2 hx) (fun _ _ k => k)
                 · intro h2
                   exact ⟨z, List.mem_singleton.2 rfl, h2.mono (fun x hx => (unhide tl x).1 hx) (fun _ _ k => k)⟩
               go_wp2_with fail
               go_meet
               case rel => exact ⟨_, rfl, unhide sA, unhide b6h⟩
            case rest =>
             obtain ⟨bb, rfl, hbb, b9⟩ := hcut
             have I9 := hide ((unhide I4).next (unhide b9))
             have i9 := hide ((unhide i4).next (unhide b9))
             have B9 := hide (bt (unhide B4) (unhide b9) (unhide B4).size)
             have d9 := unhide hS _ (unhide b9)
             clear HH RR TT hS dz d2
             cases bb
             · have hne : z < m := by
                 rcases (show z < m ∨ z = m by omega) with h | h
                 · exact h
                 · have h2 := (unhide hbb).2 (by rw [h]; exact unhide m3)
                   cases h2
               have lo3 := hide (unhide lo2 hne)
               clear hzN hzm hne hzO lo2 hbb
               go_wp2
               go_roundw
               case rel => exact ⟨i + 1, _, by omega, rfl, by go_num, rfl, unhide lo3, unhide I9, unhide i9, unhide B9⟩
               case measure => simp [intOf]; omega
             · have hzm2 : z = m := by
                 rcases (show z < m ∨ z = m by omega) with h | h
                 · exact absurd ((unhide hbb).1 rfl) (unhide m5 z hzN h hzO)
                 · exact h
               have ext2 := unhide ext
               rw [← hzm2] at ext2
               replace ext2 := hide ext2
               have hb9 : Hid (w.heap.size ≤ wc.heap.size) := (unhide B9).size
               have hk9 : k + 1 < 10000000 := by omega
               clear hzN hzm hzm2 hzO lo2 hbb
               go_wp2_with (at_builtin; refine wpList_push wc rfl (.tmp 48) (.tmp 53) rfl w.heap.size _ (k + 1) cg _ z _ rfl rfl rfl (unhide hlen) (unhide I9) (unhide hb9) hk9 ?_; intro g7 cap7 w7 a1 a2; replace a1 := hide a1; replace a2 := hide a2)
               have hcap : k + 1 < cap7 := by
                 obtain ⟨g8, c8, e8, _, _, h8, _⟩ := is_pos (unhide a1) (by rw [List.length_append]; simp)
                 injection e8 with _ _ e9
                 rw [List.length_append, unhide hlen] at h8
                 simp at h8
                 omega
               go_roundw
               case rel => exact ⟨k + 1, g7, cap7, _, hk1, hcap, rfl, rfl, by rw [unhide ext2]; exact unhide a1, (unhide B9).grown (unhide a2) (unhide B9).size (fun j hj => ((unhide I9).lt j hj).1)⟩
               case measure => simp [lenOf]; omega
          · have hzne : z < m := by
              rcases (show z < m ∨ z = m by omega) with h | h
              · exact h
              · rw [hasB_mem, h] at hO; exact absurd hO (unhide m2)
            have lo3 := hide (unhide lo2 hzne)
            rw [hO] at H1
            clear hzN hzm hzne hO lo lo2
            go_wp2_with fail
            go_quiet ((go_at_call 32; with_reducible exact Calls.quiet_of_same (H1 _)))
            go_wp2
            go_roundw
            case rel => exact ⟨i + 1, _, by omega, rfl, by go_num, rfl, unhide lo3, (unhide I4).next (blw_drewN _ nq), (unhide i4).next (blw_drewN _ nq), bt (unhide B4) (blw_drewN wz nq) (unhide B4).size⟩
            case measure => simp [intOf]; omega
        · exfalso
          obtain ⟨j, hj, ej⟩ := mem_at (unhide mN)
          have := unhide lo j (by have := unhide hq; omega)
          omega
    · rw [hs] at H0
      replace H0 := hide H0
      have hk1 : k + 1 = nc := by
        have h3 := (unhide nx s).1 (hasB_mem.1 hs)
        have := (unhide st1).1 h3
        rw [unhide hnc]; exact this
      have e1 : Hid (c.take (k + 1) = c) := List.take_of_length_le (by rw [← unhide hnc]; omega)
      clear hs st1 st2 nx hy hk1
      go_wp2_with fail
      refine (unhide H0).mono ?_
      rintro e w4 ⟨rfl, rfl⟩
      clear H0
      go_wp2
      go_ret
      exact ⟨_, rfl, by rw [← unhide e1]; exact unhide I3, unhide B3⟩
end Go.Proofs.Ytjgepcifknmdhaa
