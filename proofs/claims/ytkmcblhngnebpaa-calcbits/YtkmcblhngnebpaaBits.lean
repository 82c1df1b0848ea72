/- The walk of CalcBits: it answers true. -/
import Derived.Test.YtkmcblhngnebpaaOwn
namespace Go.Proofs.Ytkmcblhngnebpaa
open Go.RowKit

theorem bits_out (a : Option Addr) (len cap : Nat) (n : Int) (w : World) (hbad : ¬ (1 ≤ len ∧ len ≤ 100)) (hm : len ≤ maxLen) :
    Calls Try.prog 6 #[.slice a len cap, .int .i64 n] w fun e w' => e = .returned (.bool true) ∧ Below w.heap.size w w' := by
  unfold maxLen at hm
  by_cases c1 : (len : Int) < 1
  · clear hbad
    go_enter Try.func6, Try.ntmps6
    go_wp2_with fail
    refine (first_any _).mono ?_
    rintro e w1 ⟨rfl, hb1⟩
    go_wp2_with fail
    refine (first_any _).mono ?_
    rintro e w2 ⟨rfl, hb2⟩
    go_wp2
    go_ret
    exact ⟨rfl, bthen hb1 hb2⟩
  have d1 : decide ((len : Int) < 1) = false := decide_eq_false c1
  have c2 : (100 : Int) < (len : Int) := by omega
  clear hbad
  go_enter Try.func6, Try.ntmps6
  go_wp2_with fail
  refine (first_any _).mono ?_
  rintro e w1 ⟨rfl, hb1⟩
  go_wp2_with fail
  refine (first_any _).mono ?_
  rintro e w2 ⟨rfl, hb2⟩
  go_wp2
  go_ret
  exact ⟨rfl, bthen hb1 hb2⟩

theorem and_fold_mem (l : List Int) : ∀ a x, x ∈ l → and2 (l.foldl and2 a) x = l.foldl and2 a := by
  induction l with
  | nil => intro a x hx; simp at hx
  | cons y l ih =>
    intro a x hx
    simp only [List.foldl_cons]
    rcases List.mem_cons.1 hx with rfl | hx
    · have key : ∀ (l : List Int) (b : Int), and2 b x = b → and2 (l.foldl and2 b) x = l.foldl and2 b := by
        intro l
        induction l with
        | nil => intro b hb; simpa using hb
        | cons z l ih2 =>
          intro b hb
          simp only [List.foldl_cons]
          exact ih2 _ (by rw [and_assoc2, and_comm2 z x, ← and_assoc2, hb])
      exact key l _ (by rw [and_assoc2]; unfold and2; simp only [and_B, B_toInt, BitVec.and_self])
    · exact ih _ x hx
theorem or_fold_mem (l : List Int) : ∀ a x, x ∈ l → or2 (l.foldl or2 a) x = l.foldl or2 a := by
  induction l with
  | nil => intro a x hx; simp at hx
  | cons y l ih =>
    intro a x hx
    simp only [List.foldl_cons]
    rcases List.mem_cons.1 hx with rfl | hx
    · have key : ∀ (l : List Int) (b : Int), or2 b x = b → or2 (l.foldl or2 b) x = l.foldl or2 b := by
        intro l
        induction l with
        | nil => intro b hb; simpa using hb
        | cons z l ih2 =>
          intro b hb
          simp only [List.foldl_cons]
          exact ih2 _ (by rw [or_assoc2, or_comm2 z x, ← or_assoc2, hb])
      exact key l _ (by rw [or_assoc2]; unfold or2; simp only [or_B, B_toInt, BitVec.or_self])
    · exact ih _ x hx
theorem or_fold_same : ∀ (k : List Int) (a : Int), (∀ x ∈ k, or2 a x = a) → k.foldl or2 a = a := by
  intro k
  induction k with
  | nil => intro a _; rfl
  | cons y k ih =>
    intro a h
    simp only [List.foldl_cons]
    rw [h y (by simp)]
    exact ih a fun x hx => h x (by simp [hx])
theorem orL_twice (l : List Int) : orL (l ++ l) = orL l := by
  rw [orL_eq, orL_eq, List.foldl_append]
  exact or_fold_same l _ fun x hx => or_fold_mem l 0 x hx
theorem bool_of' {b c : Bool} {p : Prop} (h : b = true ↔ p) (k : c = true ↔ p) : b = c := by rw [Bool.eq_iff_iff, h, k]
theorem getD_mem (l : List Int) (k : Nat) (h : k < l.length) : l.getD k 0 ∈ l := by rw [getD_at l k h]; exact List.getElem_mem _
theorem rise_iffD (l : List Int) (k : Nat) (h0 : 0 < k) : riseTo l (k + 1) ↔ riseTo l k ∧ l.getD (k - 1) 0 < l.getD k 0 := by
  constructor
  · intro hr
    refine ⟨fun i hi => hr i (by omega), ?_⟩
    have := hr (k - 1) (by omega)
    rwa [show k - 1 + 1 = k from by omega] at this
  · rintro ⟨hr, hlt⟩ i hi
    by_cases e : i + 1 < k
    · exact hr i e
    · obtain rfl : i = k - 1 := by omega
      rwa [show k - 1 + 1 = k from by omega]

set_option maxRecDepth 100000 in
set_option maxHeartbeats 2000000 in
theorem bits_in (b off len cap : Nat) (l : List Int) (n : Int) (w : World) (hs : Seg w (some ⟨b, off, none⟩) len l) (hlc : len ≤ cap) (hcm : cap ≤ maxLen) (h1 : 1 ≤ len) (h2 : len ≤ 100) :
    Calls Try.prog 6 #[.slice (some ⟨b, off, none⟩) len cap, .int .i64 n] w fun e w' => e = .returned (.bool true) ∧ Below w.heap.size w w' := by
  have d1 : decide ((len : Int) < 1) = false := decide_eq_false (by omega)
  have d2 : decide ((100 : Int) < (len : Int)) = false := decide_eq_false (by omega)
  have m1 : len ≤ maxLen := by omega
  have hlen := hide hs.1
  obtain ⟨i0, hi, hz0, hz1, hz2⟩ := info_parts Try.info3
  have E5 := hide (show evalL 5 l = (andL l, 0) by simp [evalL])
  have E6 := hide (show evalL 6 l = (orL l, 0) by simp [evalL])
  have E66 := hide (show evalL 6 (l ++ l) = (orL l, 0) by simp [evalL, orL_twice])
  have E3 := hide (show evalL 3 l = (b01 (riseL l), 0) by simp [evalL])
  have HA := hide (fun k (hk : k < len) => and_fold_mem l (-1) (l.getD k 0) (getD_mem l k (by rw [unhide hlen]; exact hk)))
  have HO := hide (fun k (hk : k < len) => or_fold_mem l 0 (l.getD k 0) (getD_mem l k (by rw [unhide hlen]; exact hk)))
  rw [← andL_eq] at HA
  rw [← orL_eq] at HO
  go_enter Try.func6, Try.ntmps6
  go_wp2_with fail
  refine (first_any _).mono ?_
  rintro e w1 ⟨rfl, hb1⟩
  have hs1 := hs.later hb1
  go_wp2_with fail
  refine (eval_any 5 _ _ _ _ w1 hs1 m1 hlc).mono ?_
  rw [unhide E5]
  rintro e w2 ⟨rfl, t1, rfl⟩
  go_wp2_with fail
  refine (eval_any 6 _ _ _ _ (w1.drewN t1) hs1 m1 hlc).mono ?_
  rw [unhide E6]
  rintro e w2 ⟨rfl, t2, hw2⟩
  have hb2 : Below w1.heap.size w1 w2 := by rw [hw2]; exact below_drewN (below_drewN (Below.refl _ _) _) _
  clear hw2
  have hs2 := hs1.later hb2
  have hba : Below w2.heap.size w2 (w2.alloc (.cells #[] 3)) := (Below.refl _ _).alloc (Nat.le_refl _) _
  have hs3 := hs2.later hba
  go_wp2_with (at_builtin; refine wpList_append_own _ rfl _ _ 22 rfl w2.heap.size 3 i0 (.int .i64 0) 1 8 Try.underlying22 hi hz0 hz1 hz2 rfl (by decide) _ _ _ rfl (owns_empty w2 _ (Nat.le_refl _)) ⟨b, off, none⟩ len cap (l.map (Value.int .i64)) rfl (news_len l len (unhide hlen)) (seg_news hs3) (ints_oneCell _ _) ?c2 ?c3 ?c4 ?_)
  case c2 => unfold maxLen; omega
  case c3 => omega
  case c4 => simp
  intro v3 w3 hown3 hgr3 _
  have hb3 : Below w2.heap.size w2 w3 := hba.grown hgr3 (by simp) (fun k hk => by simp [Value.ownBlock] at hk; omega)
  have hs4 := hs2.later hb3
  go_wp2_with (at_builtin; refine wpList_append_own _ rfl _ _ 22 rfl w2.heap.size 3 i0 (.int .i64 0) 1 8 Try.underlying22 hi hz0 hz1 hz2 rfl (by decide) _ _ _ rfl hown3 ⟨b, off, none⟩ len cap (l.map (Value.int .i64)) rfl (news_len l len (unhide hlen)) (seg_news hs4) (ints_oneCell _ _) ?c2 ?c3 ?c4 ?_)
  case c2 => unfold maxLen; omega
  case c3 => omega
  case c4 => exact hb3.size
  intro v4 w4 hown4 hgr4 _
  have hb4 : Below w2.heap.size w2 w4 := hb3.grown hgr4 hb3.size (fun k hk => (hown3.lt k hk).1)
  have hs5 := hs2.later hb4
  rw [← List.map_append] at hown4
  obtain ⟨a5, cap5, rfl, hc5, _, hs6⟩ := owns_seg hown4
  clear hown3 hown4 hgr3 hgr4 hs3 hs4 hba
  go_wp2_with fail
  refine (eval_any 6 a5 (len + len) cap5 (l ++ l) w4 hs6 (by unfold maxLen; omega) hc5).mono ?_
  rw [unhide E66]
  rintro e w5 ⟨rfl, t3, rfl⟩
  go_wp2_with fail
  refine (eval_any 3 _ _ _ _ (w4.drewN t3) hs5 m1 hlc).mono ?_
  rw [unhide E3]
  rintro e w6 ⟨rfl, t4, hw6⟩
  have hb6 : Below w.heap.size w w6 := bthen (bthen (bthen hb1 hb2) hb4) (by rw [hw6]; exact below_drewN (below_drewN (Below.refl _ _) _) _)
  clear hw6 hb4 hb3 hb2 hb1 hs6 hs5
  have hs7 := hs.later hb6
  generalize andL l = A at *
  generalize orL l = O at *
  clear E5 E6 E66 E3
  go_wp2
  go_loopw [13, 14] (fun r i w' => ∃ (k : Nat) (bl : Bool), k ≤ len ∧ i = .int .i64 k ∧ r = .int .i64 (b01 bl) ∧ (bl = true ↔ riseTo l k) ∧ ∃ t, w' = w6.drewN t) (fun _ i _ => len - (intOf i).toNat)
  case atStart => exact ⟨0, true, by omega, rfl, rfl, by simp [riseTo], 0, rfl⟩
  case round =>
    obtain ⟨k, bl, hk, rfl, rfl, hbl, t, rfl⟩ := hrel
    have HBL := hide hbl
    clear hbl
    by_cases hlt : k < len
    · have hax := unhide HA k hlt
      have hox := unhide HO k hlt
      obtain ⟨hc, hcl⟩ : w6.cell? ⟨b, off + k, none⟩ = some (.int .i64 (l.getD k 0)) ∧ (0 < k → w6.cell? ⟨b, off + (k - 1), none⟩ = some (.int .i64 (l.getD (k - 1) 0))) := by
        rcases hs7.2 with h | ⟨b', off', he, hc⟩
        · omega
        · obtain ⟨rfl, rfl⟩ : b = b' ∧ off = off' := by simpa using he
          exact ⟨hc k hlt, fun _ => hc (k - 1) (by omega)⟩
      by_cases h0 : 0 < k
      · have hc1 := hcl h0
        have hri := hide (rise_iffD l k h0)
        have hkI : (0 : Int) < (k : Int) := by omega
        clear hcl
        generalize l.getD k 0 = x at *
        generalize l.getD (k - 1) 0 = y at *
        unfold and2 at hax
        unfold or2 at hox
        by_cases hxy : x ≤ y
        · go_wp2
          go_quiet (fail)
          go_wp2
          go_roundw
          case rel => exact ⟨k + 1, false, by omega, by go_num, rfl, ⟨fun h => (by cases h), fun h => (by have := ((unhide hri).1 h).2; omega)⟩, _, rfl⟩
          case measure => simp [intOf]; omega
        · have dxy : decide (x ≤ y) = false := decide_eq_false hxy
          go_wp2
          go_quiet (fail)
          go_wp2
          go_roundw
          case rel => exact ⟨k + 1, bl, by omega, by go_num, rfl, ⟨fun h => (unhide hri).2 ⟨(unhide HBL).1 h, by omega⟩, fun h => (unhide HBL).2 ((unhide hri).1 h).1⟩, _, rfl⟩
          case measure => simp [intOf]; omega
      · obtain rfl : k = 0 := by omega
        clear hcl
        have hbt : bl = true := (unhide HBL).2 (fun i h => by omega)
        subst hbt
        clear HBL
        rw [Nat.add_zero] at hc
        have hpI : (0 : Int) < (len : Int) := by omega
        generalize l.getD 0 0 = x at *
        unfold and2 at hax
        unfold or2 at hox
        go_wp2
        go_quiet (fail)
        go_wp2
        go_roundw
        case rel => exact ⟨0 + 1, true, by omega, by go_num, rfl, ⟨fun _ i h => by omega, fun _ => rfl⟩, _, rfl⟩
        case measure => simp [intOf]; omega
    · have hbt : bl = riseL l := by
        obtain rfl : k = l.length := by rw [unhide hlen]; omega
        exact bool_of' (unhide HBL) (riseL_iff l)
      subst hbt
      clear HBL
      generalize b01 (riseL l) = r
      go_wp2_with fail
      refine (first_any _).mono ?_
      rintro e w7 ⟨rfl, hb7⟩
      go_wp2
      go_ret
      exact ⟨rfl, bthen (below_drewN hb6 _) hb7⟩

theorem calcBits_walk (a : Option Addr) (len cap : Nat) (l : List Int) (n : Int) (w : World) (hs : Seg w a len l) (hlc : len ≤ cap) (hcm : cap ≤ maxLen) (_hwl : ∀ n ∈ l, (Lit.int .i64 n).wf = true) (_w1 : (Lit.int .i64 n).wf = true) :
    Calls Try.prog 6 #[.slice a len cap, .int .i64 n] w fun e w' => e = .returned (.bool true) ∧ Below w.heap.size w w' := by
  by_cases h : 1 ≤ len ∧ len ≤ 100
  · rcases hs.2 with h0 | ⟨b, off, rfl, _⟩
    · omega
    · exact bits_in b off len cap l n w hs hlc hcm h.1 h.2
  · exact bits_out a len cap n w h (Nat.le_trans hlc hcm)
end Go.Proofs.Ytkmcblhngnebpaa
