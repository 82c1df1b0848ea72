/- The walk of CalcParts: it answers true. -/
import Derived.Test.YtkmcblhngnebpaaFew
import Derived.Test.YtkmcblhngnebpaaWraps
namespace Go.Proofs.Ytkmcblhngnebpaa
open Go.RowKit

def kinds6 : List Int := [0, 2, 5, 6, 7, 8]
theorem kinds6_at (k : Nat) (h : k < 6) : Joins (kinds6.getD k 0) := by
  match k, h with
  | 0, _ => exact .inl rfl
  | 1, _ => exact .inr (.inl rfl)
  | 2, _ => exact .inr (.inr (.inl rfl))
  | 3, _ => exact .inr (.inr (.inr (.inl rfl)))
  | 4, _ => exact .inr (.inr (.inr (.inr (.inl rfl))))
  | 5, _ => exact .inr (.inr (.inr (.inr (.inr rfl))))
def kindCells : Array Value := #[.int .i64 0, .int .i64 2, .int .i64 5, .int .i64 6, .int .i64 7, .int .i64 8]
theorem kindCells_at (k : Nat) (h : k < 6) : kindCells[k]? = some (.int .i64 (kinds6.getD k 0)) := by
  match k, h with
  | 0, _ => rfl
  | 1, _ => rfl
  | 2, _ => rfl
  | 3, _ => rfl
  | 4, _ => rfl
  | 5, _ => rfl

/-- A part of a slice, from its head and to its end. -/
theorem seg_take {w : World} {b off len : Nat} {l : List Int} (hs : Seg w (some ⟨b, off, none⟩) len l) (k : Nat) (hk : k ≤ len) : Seg w (some ⟨b, off, none⟩) k (l.take k) := by
  refine ⟨by rw [List.length_take, hs.1]; omega, ?_⟩
  by_cases h0 : k = 0
  · exact .inl h0
  · rcases hs.2 with h | ⟨b', off', he, hc⟩
    · omega
    · obtain ⟨rfl, rfl⟩ : b = b' ∧ off = off' := by simpa using he
      refine .inr ⟨b, off, rfl, fun i hi => ?_⟩
      rw [hc i (by omega)]
      simp [hi]
theorem seg_drop {w : World} {b off len : Nat} {l : List Int} (hs : Seg w (some ⟨b, off, none⟩) len l) (k : Nat) (hk : k < len) : Seg w (some ⟨b, off + k, none⟩) (len - k) (l.drop k) := by
  refine ⟨by rw [List.length_drop, hs.1], ?_⟩
  rcases hs.2 with h | ⟨b', off', he, hc⟩
  · omega
  · obtain ⟨rfl, rfl⟩ : b = b' ∧ off = off' := by simpa using he
    refine .inr ⟨b, off + k, rfl, fun i hi => ?_⟩
    rw [show off + k + i = off + (k + i) from by omega, hc (k + i) (by omega)]
    simp

theorem eval_quiet (q : Int) (a : Option Addr) (len cap : Nat) (l : List Int) (w : World) (t : Nat) (hs : Seg w a len l) (hm : len ≤ maxLen) (hcap : len ≤ cap) :
    Calls Try.prog 10 #[.int .i64 q, .slice a len cap] (w.drewN t) fun e w' => e = .returned (.tuple #[.int .i64 (evalL q l).1, .int .i64 (evalL q l).2]) ∧ ∃ n, w' = w.drewN n := by
  refine (eval_any q a len cap l (w.drewN t) hs hm hcap).mono ?_
  rintro e w' ⟨rfl, n, rfl⟩
  exact ⟨rfl, t + n, by simp⟩

theorem eval_quiet2 (q : Int) (a : Option Addr) (len cap : Nat) (l : List Int) (w : World) (s t : Nat) (hs : Seg w a len l) (hm : len ≤ maxLen) (hcap : len ≤ cap) :
    Calls Try.prog 10 #[.int .i64 q, .slice a len cap] (w.drewN (s + t)) fun e w' => e = .returned (.tuple #[.int .i64 (evalL q l).1, .int .i64 (evalL q l).2]) ∧ ∃ n, w' = w.drewN (s + n) := by
  refine (eval_any q a len cap l (w.drewN (s + t)) hs hm hcap).mono ?_
  rintro e w' ⟨rfl, n, rfl⟩
  exact ⟨rfl, t + n, by simp [Nat.add_assoc]⟩

theorem tmod_case (n m : Int) (h : 1 ≤ m) : n.tmod m = wrapL n m ∨ n.tmod m = wrapL n m - m := by
  rw [wrapL_in n m h]
  by_cases hn : n.tmod m < 0
  · right
    have h1 := Int.lt_tmod_of_pos n (show 0 < m by omega)
    rw [tmod_emod n m, ← Int.add_emod_right, Int.emod_eq_of_lt (by omega) (by omega)]
    omega
  · left
    exact wrap_high n m h (by omega)
theorem turn_zero (v m : Int) : ((v - m - v).tmod m == 0) = true := by
  rw [show v - m - v = -m by omega]; simp [Int.neg_tmod]

theorem parts_out (a : Option Addr) (len cap : Nat) (at_ n m : Int) (w : World) (hbad : ¬ ((len : Int) ≤ 1000 ∧ 1 ≤ at_ ∧ at_ < len)) (hm : len ≤ maxLen) :
    Calls Try.prog 5 #[.slice a len cap, .int .i64 at_, .int .i64 n, .int .i64 m] w fun e w' => e = .returned (.bool true) ∧ Below w.heap.size w w' := by
  unfold maxLen at hm
  by_cases c1 : (1000 : Int) < (len : Int)
  · clear hbad
    go_enter Try.func5, Try.ntmps5
    go_wp2_with fail
    refine (first_any _).mono ?_
    rintro e w1 ⟨rfl, hb1⟩
    go_wp2_with fail
    refine (first_any _).mono ?_
    rintro e w2 ⟨rfl, hb2⟩
    go_wp2
    go_ret
    exact ⟨rfl, bthen hb1 hb2⟩
  have d1 : decide ((1000 : Int) < (len : Int)) = false := decide_eq_false c1
  by_cases c2 : at_ < 1
  · clear hbad
    go_enter Try.func5, Try.ntmps5
    go_wp2_with fail
    refine (first_any _).mono ?_
    rintro e w1 ⟨rfl, hb1⟩
    go_wp2_with fail
    refine (first_any _).mono ?_
    rintro e w2 ⟨rfl, hb2⟩
    go_wp2
    go_ret
    exact ⟨rfl, bthen hb1 hb2⟩
  have d2 : decide (at_ < 1) = false := decide_eq_false c2
  by_cases c3 : (len : Int) ≤ at_
  · clear hbad
    go_enter Try.func5, Try.ntmps5
    go_wp2_with fail
    refine (first_any _).mono ?_
    rintro e w1 ⟨rfl, hb1⟩
    go_wp2_with fail
    refine (first_any _).mono ?_
    rintro e w2 ⟨rfl, hb2⟩
    go_wp2
    go_ret
    exact ⟨rfl, bthen hb1 hb2⟩
  exact absurd ⟨by omega, by omega, by omega⟩ hbad

set_option maxRecDepth 100000 in
set_option maxHeartbeats 2000000 in
theorem parts_in (b off len cap k : Nat) (l : List Int) (n m : Int) (w : World) (hs : Seg w (some ⟨b, off, none⟩) len l) (hin : ∀ x ∈ l, In x) (hlc : len ≤ cap) (hcm : cap ≤ maxLen) (h1 : 1 ≤ k) (h2 : k < len) (h3 : len ≤ 1000) (hn : In n) (hm : In m) :
    Calls Try.prog 5 #[.slice (some ⟨b, off, none⟩) len cap, .int .i64 k, .int .i64 n, .int .i64 m] w fun e w' => e = .returned (.bool true) ∧ Below w.heap.size w w' := by
  have d1 : decide ((1000 : Int) < (len : Int)) = false := decide_eq_false (by omega)
  have d2 : decide ((k : Int) < 1) = false := decide_eq_false (by omega)
  have d3 : decide ((len : Int) ≤ (k : Int)) = false := decide_eq_false (by omega)
  have d3' : decide (len ≤ k) = false := decide_eq_false (by omega)
  have hck : ¬ cap = k := by omega
  have hkc : (k : Int) ≤ (cap : Int) := by omega
  have hkl : (k : Int) ≤ (len : Int) := by omega
  have hk0 : (0 : Int) ≤ (k : Int) := by omega
  have hlen := hide hs.1
  unfold maxLen at hcm
  go_enter Try.func5, Try.ntmps5
  go_wp2_with fail
  refine (first_any _).mono ?_
  rintro e w1 ⟨rfl, hb1⟩
  go_wp2
  go_loopw [10] (fun i w' => ∃ j : Nat, j ≤ 6 ∧ i = .int .i64 j ∧ Below (w1.heap.size + 1) (w1.alloc (.cells kindCells 3)) w') (fun i _ => 6 - (intOf i).toNat)
  case atStart => exact ⟨0, by omega, rfl, Below.refl _ _⟩
  case round =>
    obtain ⟨j, hj, rfl, hb⟩ := hrel
    have hsz : w1.heap.size + 1 ≤ wr.heap.size := by have := hb.size; simpa using this
    have hb2 : Below w.heap.size w wr := bthen hb1 (((Below.refl _ _).alloc (Nat.le_refl _) _).trans (hb.mono (by omega)))
    have hsr : Seg wr (some ⟨b, off, none⟩) len l := hs.later hb2
    by_cases hlt : j < 6
    · obtain ⟨q, hq, hcell⟩ : ∃ q, Joins q ∧ wr.cell? ⟨w1.heap.size, j, none⟩ = some (.int .i64 q) :=
        ⟨_, kinds6_at j hlt, by rw [hb.cell (p := ⟨w1.heap.size, j, none⟩) (by simp), World.cell?_alloc_new, kindCells_at j hlt]⟩
      have hst := seg_take hsr k (by omega)
      have hsd := seg_drop hsr k h2
      have m1 : k ≤ maxLen := by unfold maxLen; omega
      have m2 : len - k ≤ maxLen := by unfold maxLen; omega
      have m3 : len ≤ maxLen := by unfold maxLen; omega
      have m4 : k ≤ cap := by omega
      have m5 : len - k ≤ cap - k := by omega
      go_wp2
      go_quiet ((go_at_call 10; exact eval_quiet q _ _ _ _ wr _ hst m1 m4))
      go_wp2
      go_quiet ((go_at_call 10; exact eval_quiet2 q _ _ _ _ wr _ _ hsd m2 m5))
      have htk : l.take k ≠ [] := fun h => by have := congrArg List.length h; rw [List.length_take, unhide hlen] at this; simp at this; omega
      have hdk : l.drop k ≠ [] := fun h => by have := congrArg List.length h; rw [List.length_drop, unhide hlen] at this; simp at this; omega
      have hl0 : l ≠ [] := fun h => by have := unhide hlen; rw [h] at this; simp at this; omega
      have E := evalL_parts q hq (l.take k) (l.drop k) htk hdk (fun x hx => hin x (List.mem_of_mem_take hx)) (fun x hx => hin x (List.mem_of_mem_drop hx))
      rw [List.take_append_drop] at E
      have EH := hide E
      have O1 := hide (evalL_ok q hq _ htk)
      have O2 := hide (evalL_ok q hq _ hdk)
      have O3 := hide (evalL_ok q hq _ hl0)
      clear E htk hdk hl0
      rw [unhide O1, unhide O2]
      go_wp2_with fail
      refine (eval_new2 q _ _ (wr.drewN _) (unhide EH)).mono ?_
      rintro e w2 ⟨rfl, hb3⟩
      rw [unhide O3]
      generalize (evalL q (l.take k)).1 = x1
      generalize (evalL q (l.drop k)).1 = x2
      have hs2 : Seg w2 (some ⟨b, off, none⟩) len l := hsr.later (bthen (below_drewN (Below.refl _ _) _) hb3)
      have hcell2 : w2.cell? ⟨w1.heap.size, j, none⟩ = some (.int .i64 q) := cell_later (bthen (below_drewN (Below.refl wr.heap.size wr) _) hb3) hcell
      clear hst hsd
      go_wp2_with fail
      refine (eval_any q _ _ _ _ _ hs2 m3 hlc).mono ?_
      rw [unhide O3]
      rintro e w3 ⟨rfl, n3, rfl⟩
      generalize (evalL q l).1 = x3
      go_wp2
      go_roundw
      case rel => exact ⟨j + 1, by omega, by go_num, below_drewN (hb.trans ((bthen (below_drewN (Below.refl wr.heap.size wr) _) hb3).mono hsz)) _⟩
      case measure => simp [intOf]; omega
    · clear hb hsz hsr hb1
      obtain ⟨n0, n1⟩ := hn
      obtain ⟨m0, m1⟩ := hm
      by_cases hm1 : m < 1
      · have e0 : wrapL n m = 0 := by rw [wrapL, if_pos hm1]
        go_wp2_with fail
        refine (wrap_any n m _ n0 n1 m0 m1).mono ?_
        rw [e0]
        rintro e w2 ⟨rfl, hw2⟩
        subst w2
        clear e0
        go_wp2_with fail
        refine (first_any _).mono ?_
        rintro e w3 ⟨rfl, hb3⟩
        go_wp2
        go_ret
        exact ⟨rfl, bthen hb2 hb3⟩
      · have hmp : 1 ≤ m := by omega
        obtain ⟨q1, q2⟩ := wrap_bd n m hmp
        have hc := tmod_case n m hmp
        have hmz : (m == 0) = false := beq_eq_false_iff_ne.2 (by omega)
        go_wp2_with fail
        refine (wrap_any n m _ n0 n1 m0 m1).mono ?_
        generalize wrapL n m = v at *
        rintro e w2 ⟨rfl, hw2⟩
        subst w2
        have T := turn_zero v m
        rcases hc with hc | hc
        · go_wp2_with fail
          refine (first_any _).mono ?_
          rintro e w3 ⟨rfl, hb3⟩
          go_wp2
          go_ret
          exact ⟨rfl, bthen hb2 hb3⟩
        · go_wp2_with fail
          refine (first_any _).mono ?_
          rintro e w3 ⟨rfl, hb3⟩
          go_wp2
          go_ret
          exact ⟨rfl, bthen hb2 hb3⟩

theorem calcParts_walk (a : Option Addr) (len cap : Nat) (l : List Int) (at_ n m : Int) (w : World) (hs : Seg w a len l) (hlc : len ≤ cap) (hcm : cap ≤ maxLen) (hwl : ∀ n ∈ l, (Lit.int .i64 n).wf = true) (_w1 : (Lit.int .i64 at_).wf = true) (w2 : (Lit.int .i64 n).wf = true) (w3 : (Lit.int .i64 m).wf = true) :
    Calls Try.prog 5 #[.slice a len cap, .int .i64 at_, .int .i64 n, .int .i64 m] w fun e w' => e = .returned (.bool true) ∧ Below w.heap.size w w' := by
  by_cases hbad : (len : Int) ≤ 1000 ∧ 1 ≤ at_ ∧ at_ < len
  · obtain ⟨h3, h1, h2⟩ := hbad
    obtain ⟨k, rfl⟩ := Int.eq_ofNat_of_zero_le (show 0 ≤ at_ by omega)
    rcases hs.2 with h | ⟨b, off, rfl, _⟩
    · omega
    · exact parts_in b off len cap k l n m w hs (fun x hx => in_of_wf (hwl x hx)) hlc hcm (by omega) (by omega) (by omega) (in_of_wf w2) (in_of_wf w3)
  · exact parts_out a len cap at_ n m w hbad (Nat.le_trans hlc hcm)
end Go.Proofs.Ytkmcblhngnebpaa
