/- parseNumbers of package prog. -/
import Derived.Test.YtanieihnkajpdaaDoorFill0
namespace Go.Proofs.YtanieihnkajpdaaDoor
open Go.RowKit
open Go.Lib (atoiAll itoa)

/-- The number that a text is, as Print writes it. -/
def numD (s : List UInt8) : Option Int := match atoiAll s with
  | .ok n => if itoa n = s then some n else none
  | _ => none
def numsD : List (List UInt8) → Option (List Int)
  | [] => some []
  | s :: r => match numD s, numsD r with
    | some n, some l => some (n :: l)
    | _, _ => none
theorem nums_snoc : ∀ (l : List (List UInt8)) (ns : List Int) (s : List UInt8) (n : Int), numsD l = some ns → numD s = some n → numsD (l ++ [s]) = some (ns ++ [n])
  | [], ns, s, n, h, hn => by
    simp only [numsD] at h
    injection h with h
    subst h
    simp [numsD, hn]
  | t :: r, ns, s, n, h, hn => by
    simp only [numsD, List.cons_append] at h ⊢
    cases ht : numD t with
    | none => rw [ht] at h; cases h
    | some m =>
      rw [ht] at h
      cases hr : numsD r with
      | none => rw [hr] at h; cases h
      | some l =>
        rw [hr] at h
        simp only at h
        injection h with h
        subst h
        rw [nums_snoc r l s n hr hn]
        rfl
theorem nums_none : ∀ (l : List (List UInt8)) (s : List UInt8), s ∈ l → numD s = none → numsD l = none
  | [], s, h, _ => by cases h
  | t :: r, s, h, hn => by
    simp only [numsD]
    rcases List.mem_cons.1 h with rfl | h
    · rw [hn]
    · rw [nums_none r s h hn]
      cases numD t <;> rfl
theorem num_ok {s : List UInt8} {n : Int} (h : numD s = some n) : atoiAll s = .ok n ∧ itoa n = s := by
  unfold numD at h
  split at h
  · rename_i m hm
    split at h
    · rename_i hi
      injection h with h
      subst h
      exact ⟨hm, hi⟩
    · cases h
  · cases h
/-- What parseNumbers answers. -/
def Nums (o : Option (List Int)) (w : World) (e : Ending) (w' : World) : Prop :=
  ∃ a n c, e = .returned (.tuple #[.slice a n c, .bool o.isSome]) ∧ Below w.heap.size w w' ∧ ∀ ns, o = some ns → Ls w'.heap.size w' (.slice a n c) ns
theorem nums_len : ∀ (l : List (List UInt8)) (ns : List Int), numsD l = some ns → ns.length = l.length
  | [], ns, h => by simp only [numsD] at h; injection h with h; subst h; rfl
  | t :: r, ns, h => by
    simp only [numsD] at h
    cases ht : numD t with
    | none => rw [ht] at h; cases h
    | some m =>
      rw [ht] at h
      cases hr : numsD r with
      | none => rw [hr] at h; cases h
      | some l =>
        rw [hr] at h
        simp only at h
        injection h with h
        subst h
        simp [nums_len r l hr]
set_option maxRecDepth 100000 in
set_option maxHeartbeats 1000000 in
theorem parseNumbers_any (ss : List (List UInt8)) (v : Value) (w : World) (hv : Ss w.heap.size w v ss) (hn : ss.length ≤ 100000) (hs : ∀ s ∈ ss, s.length ≤ 100000) (hr : Vr w) :
    Calls Tryd.prog 40 #[v] w (Nums (numsD ss) w) := by
  obtain ⟨n, hnn⟩ : ∃ n, n = ss.length := ⟨_, rfl⟩
  have hv0 := hv
  obtain ⟨a, cap, rfl, h1, h2, _, h3⟩ := hv
  have hmax : maxLen = 9223372036854775807 := rfl
  rw [← hnn] at h1 hn ⊢
  replace hnn := hide hnn
  have hnl : (n : Int) ≤ 9223372036854775807 := by omega
  replace hv0 := hide hv0
  replace h3 := hide h3
  replace hs := hide hs
  replace hr := hide hr
  go_enter Tryd.func40, Tryd.ntmps40
  go_wp2_with (at_make; refine wpList_mk elInt _ rfl _ _ rfl n rfl rfl (by omega) (by omega) ?_; intro w1 hown1 hb1)
  replace hown1 := hide hown1
  replace hb1 := hide hb1
  go_loopw [4, 14] (fun u i wr => ∃ (k : Nat) (ns : List Int), k ≤ n ∧ i = .int .i64 k ∧ Below w.heap.size w wr ∧ numsD (ss.take k) = some ns ∧ wr.ownsRow w.heap.size 3 1 u k (vals ns)) (fun _ i _ => n - (RowKit.intOf i).toNat)
  case atStart => exact ⟨0, [], Nat.zero_le _, rfl, unhide hb1, rfl, unhide hown1⟩
  case round =>
    obtain ⟨k, ns, hk, rfl, hb, hns, hown⟩ := hrel
    clear hb1 hown1
    by_cases hlt : k < n
    · have kd : decide ((k : Int) < (n : Int)) = true := decide_eq_true (by omega)
      have kl : (k : Int) < (n : Int) := by omega
      have hk2 : k < ss.length := by have := unhide hnn; omega
      obtain ⟨_, _, hv, _, _, _, h3'⟩ := (unhide hv0).later hb
      cases hv
      rcases h3' with h0 | ⟨b, off, rfl, hbB, hc⟩
      · omega
      have hcell := hc k hk2
      obtain ⟨s, hss⟩ : ∃ s, ss.getD k [] = s := ⟨_, rfl⟩
      rw [hss] at hcell
      have hmem : s ∈ ss := by
        rw [← hss]
        have : ss.getD k [] = ss[k] := by simp [hk2]
        rw [this]; exact List.getElem_mem hk2
      have hsl := unhide hs s hmem
      have hsz := bytes_size s
      have htk : ss.take (k + 1) = ss.take k ++ [s] := by
        have : ss.getD k [] = ss[k] := by simp [hk2]
        rw [List.take_add_one, List.getElem?_eq_getElem hk2, ← hss, this]; rfl
      have vr1 := (unhide hr).next hb
      obtain ⟨⟨t1, p1, hv1⟩, ⟨t2, p2, hv2⟩, htab, _⟩ := vr1
      replace hc := hide hc
      have hbs := hb.size
      replace hb := hide hb
      replace htk := hide htk
      replace hns := hide hns
      replace hmem := hide hmem
      cases ha : atoiAll s with
      | ok y =>
        have hI : I64 y := by have := Lib.atoiAll_bounds ha; exact ⟨by omega, by omega⟩
        have kA := Tryd.strconv_Atoi_ok ⟨s.toArray⟩ (by rw [hsz]; omega) y ha wr
        replace ha := hide ha
        go_wp2_with fail
        refine kA.mono ?_
        rintro e w3 ⟨rfl, hw3⟩
        have hb3 : Below wr.heap.size wr w3 := by
          rcases hw3 with rfl | ⟨t, rfl⟩
          · exact Below.refl _ _
          · exact Lib.bytesWorld_below _ _ _
        have g3 := hide (below_then (unhide hb) hb3)
        have own3 := own_next hown hb3
        have vr3 := (unhide hr).next (unhide g3)
        clear hw3 hown hb kA hb3 hcell hv1 hv2 htab
        go_wp2_with fail
        refine (Tryd.strconv_Itoa y hI.1 hI.2 w3 vr3.tab).mono ?_
        rintro e w4 ⟨rfl, q, os, hw4⟩
        have hb4 : Below w3.heap.size w3 w4 := by rw [hw4]; exact Lib.below_grow _ _ (Nat.le_refl _) _ _
        have g4 := hide (below_then (unhide g3) hb4)
        have own4 := own_next own3 hb4
        clear hw4 own3 g3 vr3 hb4
        by_cases he : itoa y = s
        · have e1 : (itoa y == s) = true := by simpa using he
          have hnum : numD s = some y := by unfold numD; rw [unhide ha]; simp [he]
          have hs2 := hide (nums_snoc _ ns s y (unhide hns) hnum)
          have bA := below_new w4 (.cells #[.int .i64 y] 3)
          have ownA := own_next own4 bA
          have gA := hide (below_then (unhide g4) bA)
          have newsA := news_new w4 [.int .i64 y] 3 1 1 1 w4.heap.size rfl rfl (fun q hq => by simp at hq; subst hq; rfl)
          have sA := (unhide gA).size
          replace he := hide he
          clear own4 g4 bA hnum
          go_wp2_with (at_builtin; refine wpList_app elInt _ rfl _ _ rfl w.heap.size _ k (vals ns) rfl ownA _ 1 [.int .i64 y] rfl newsA (by omega) (by omega) sA ?_; intro v6 w6 hown6 hgr6)
          have g6 := hide ((unhide gA).grown hgr6 sA (fun q hq => (ownA.lt q hq).1))
          have hown7 : w6.ownsRow w.heap.size 3 1 v6 (k + 1) (vals (ns ++ [y])) := by
            unfold vals at hown6 ⊢; rw [List.map_append]; exact hown6
          replace hown7 := hide hown7
          clear hown6 hgr6 newsA ownA gA
          go_wp2
          go_roundw
          case rel => exact ⟨k + 1, ns ++ [y], by omega, by go_num, unhide g6, by rw [unhide htk]; exact unhide hs2, unhide hown7⟩
          case measure => first | omega | (simp; omega) | (simp [RowKit.intOf]; omega)
        · have e1 : (itoa y == s) = false := by simpa using he
          have hnone := hide (nums_none ss s (unhide hmem) (by unfold numD; rw [unhide ha]; simp [he]))
          replace he := hide he
          clear own4
          go_wp2
          go_ret2
          exact ⟨none, 0, 0, by rw [unhide hnone]; rfl, unhide g4, fun l h => by rw [unhide hnone] at h; cases h⟩
      | «syntax» =>
        have kA := Tryd.strconv_Atoi_syntax_var ⟨s.toArray⟩ (by rw [hsz]; omega) ha t1 p1 wr hv1
        have hnone := hide (nums_none ss s (unhide hmem) (by unfold numD; rw [ha]))
        replace ha := hide ha
        go_wp2_with fail
        refine kA.mono ?_
        rintro e w3 ⟨N, rfl, _, _, hb3⟩
        have g3 := hide (below_then (unhide hb) hb3)
        clear hb3 hown hb kA hcell hv1 hv2 htab
        go_wp2
        go_ret2
        exact ⟨none, 0, 0, by rw [unhide hnone]; rfl, unhide g3, fun l h => by rw [unhide hnone] at h; cases h⟩
      | range =>
        have kA := Tryd.strconv_Atoi_range_var ⟨s.toArray⟩ (by rw [hsz]; omega) ha t2 p2 wr hv2
        have hnone := hide (nums_none ss s (unhide hmem) (by unfold numD; rw [ha]))
        replace ha := hide ha
        go_wp2_with fail
        refine kA.mono ?_
        rintro e w3 ⟨N, rfl, _, _, hb3⟩
        have g3 := hide (below_then (unhide hb) hb3)
        clear hb3 hown hb kA hcell hv1 hv2 htab
        go_wp2
        go_ret2
        exact ⟨none, 0, 0, by rw [unhide hnone]; rfl, unhide g3, fun l h => by rw [unhide hnone] at h; cases h⟩
    · have kd : decide ((k : Int) < (n : Int)) = false := decide_eq_false (by omega)
      have e1 : ss.take k = ss := List.take_of_length_le (by have := unhide hnn; omega)
      rw [e1] at hns
      replace hns := hide hns
      have hl := own_ls hown
      obtain ⟨ra, rc, re, _⟩ := ls_len hl
      subst re
      replace hl := hide hl
      replace hb := hide hb
      clear hown
      go_wp2
      go_ret2
      exact ⟨ra, _, rc, by rw [unhide hns]; rfl, unhide hb, fun l h => by rw [unhide hns] at h; injection h with h; subst h; exact unhide hl⟩
end Go.Proofs.YtanieihnkajpdaaDoor
