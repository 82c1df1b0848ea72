/- LaneTurns. -/
import Derived.Test.YtbmoapeeahigkaaFst
namespace Go.Proofs.Ytbmoapeeahigkaa
open Go.RowKit
variable {B : Nat} {H Q : List En} {b : Nat}

def t2 (a b : Int) : Int × List En × List En := askD 2 b [(1, a)] []
def t3 (a b : Int) : Int × List En × List En := askD 3 5 (t2 a b).2.1 (t2 a b).2.2
def t4 (a b m : Int) : Int × List En × List En := askD 1 m (t3 a b).2.1 (t3 a b).2.2
def t5 (a b m : Int) : List Int × List En × List En := leaveD 2 (t4 a b m).2.1 (t4 a b m).2.2
def tt (a m : Int) : Int := supL [a, m]
def tok (a b m : Int) : Bool :=
  decide (askD 1 a [] [] = (1, [(1, a)], [])) && (((t2 a b).1 == 1) == fitsB a b) && ((t3 a b).1 == 2) && (((t4 a b m).1 == 1) == ((tt a m == a) || (!((t2 a b).1 == 1) || fitsB (tt a m) b))) && (((t4 a b m).1 == 1) || ((t4 a b m).1 == 2))
  && (if (t4 a b m).1 == 1 then (lookD 1 (t4 a b m).2.1 == tt a m) && decide (0 < (t4 a b m).2.2.length) && !(((t4 a b m).2.2.getD 0 (0, 0)).1 == 1)
      else (lookD 1 (t4 a b m).2.1 == a) && decide (0 < (t4 a b m).2.2.length) && (((t4 a b m).2.2.getD 0 (0, 0)).1 == 1) && (((t4 a b m).2.2.getD 0 (0, 0)).2 == tt a m) && decide ((t5 a b m).1 = [1]) && (lookD 1 (t5 a b m).2.1 == tt a m))
  && decide ((t2 a b).2.1.length + (t2 a b).2.2.length < 10) && decide ((t3 a b).2.1.length + (t3 a b).2.2.length < 10) && decide ((t4 a b m).2.1.length + (t4 a b m).2.2.length < 10) && decide ((t5 a b m).2.1.length < 10)
theorem tok_all : ∀ i j k : Fin 5, tok ((i.val : Int) + 1) ((j.val : Int) + 1) ((k.val : Int) + 1) = true := by decide +kernel
set_option maxRecDepth 100000 in
set_option maxHeartbeats 4000000 in
theorem turn_a_ft (a b m t s2 : Int) (H2 Q2 H3 Q3 H4 Q4 : List En) (w : World) (ha : 1 ≤ a ∧ a ≤ 5) (hb : 1 ≤ b ∧ b ≤ 5) (hm : 1 ≤ m ∧ m ≤ 5)
    (h1 : askD 1 a [] [] = (1, [(1, a)], [])) (h2 : askD 2 b [(1, a)] [] = (s2, H2, Q2)) (hs2 : (s2 == 1) = false) (hfb : fitsB a b = false) (h3 : askD 3 5 H2 Q2 = (2, H3, Q3)) (ht : supL [a, m] = t)
    (h4 : askD 1 m H3 Q3 = (1, H4, Q4)) (het : (t == a) = true) (fa : Bool) (hfa : fitsB t b = fa) (n2 : H2.length + Q2.length < 10) (n3 : H3.length + Q3.length < 10) (n4 : H4.length + Q4.length < 10)
    (hq : 0 < Q4.length) (hlook : lookD 1 H4 = t) (hy : ((Q4.getD 0 (0, 0)).1 == 1) = false) :
    Calls Try.prog 7 #[.int .i64 a, .int .i64 b, .int .i64 m] w fun e w' => e = .returned (.bool true) ∧ Below w.heap.size w w' := by
  replace hlook := hide hlook
  obtain ⟨N, hN⟩ : ∃ N, N = w.heap.size := ⟨_, rfl⟩
  have hs3 : (s2 != 1) = !false := by unfold bne; rw [hs2]
  replace h1 := hide h1
  replace h2 := hide h2
  replace h3 := hide h3
  replace h4 := hide h4
  replace ht := hide ht
  replace hfa := hide hfa
  replace hfb := hide hfb
  obtain ⟨ha1, ha2⟩ := ha
  obtain ⟨hb1, hb2⟩ := hb
  obtain ⟨hm1, hm2⟩ := hm
  have hy2 : ((Q4.getD 0 (0, 0)).1 != 1) = true := by unfold bne; rw [hy]; rfl
  replace hy := hide hy
  go_enter Try.func7, Try.ntmps7
  go_wp2_with fail
  refine (first_any w).mono ?_
  rintro e w1 ⟨rfl, b1⟩
  rw [← hN] at b1
  replace b1 := hide b1
  replace hN := hide hN
  go_wp2_with fail
  refine (new_ln w1).mono ?_
  rintro e w2 ⟨rfl, L2, b2⟩
  obtain ⟨q, hqq⟩ : ∃ q, q = w1.heap.size := ⟨_, rfl⟩
  rw [← hqq] at L2 b2 ⊢
  have hNb : Hid (N ≤ q) := by have := (unhide b1).size; rw [unhide hN, hqq]; exact this
  replace b2 := hide ((unhide b1).trans (b2.mono (unhide hNb)))
  replace hqq := hide hqq
  replace L2 := hide L2
  go_wp2_with fail
  refine (ask_ln w2 (unhide L2) (by decide) 1 a (unhide h1)).mono ?_
  rintro e w3 ⟨rfl, L3, b3⟩
  replace b3 := hide ((unhide b2).trans (b3.mono (unhide hNb)))
  replace L3 := hide L3
  go_wp2_with fail
  refine (ask_ln w3 (unhide L3) (by simp) 2 b (unhide h2)).mono ?_
  rintro e w4 ⟨rfl, L4, b4⟩
  replace b4 := hide ((unhide b3).trans (b4.mono (unhide hNb)))
  replace L4 := hide L4
  go_wp2_with fail
  refine (fits_any a b _).mono ?_
  rw [unhide hfb]
  rintro e w5 ⟨rfl, b5⟩
  have L5 := hide ((unhide L4).next b5)
  replace b5 := hide (bt (unhide b4) b5 (Nat.le_trans (unhide hNb) (unhide L4).low))
  go_wp2_with fail
  refine (ask_ln w5 (unhide L5) (by omega) 3 5 (unhide h3)).mono ?_
  rintro e w6 ⟨rfl, L6, b6⟩
  replace b6 := hide ((unhide b5).trans (b6.mono (unhide hNb)))
  replace L6 := hide L6
  go_wp2_with fail
  refine (sup_any _ 2 2 [a, m] _ (seg2 w6 a m) (by decide)).mono ?_
  rw [unhide ht]
  rintro e w7 ⟨rfl, rfl⟩
  have b7 := hide (bt (unhide b6) (below_new w6 (.cells #[.int .i64 a, .int .i64 m] 3)) (Nat.le_trans (unhide hNb) (unhide L6).low))
  have L7 := hide ((unhide L6).next (below_new w6 (.cells #[.int .i64 a, .int .i64 m] 3)))
  go_wp2_with fail
  refine (ask_ln _ (unhide L7) (by omega) 1 m (unhide h4)).mono ?_
  rintro e w8 ⟨rfl, L8, b8⟩
  replace b8 := hide ((unhide b7).trans (b8.mono (unhide hNb)))
  replace L8 := hide L8
  go_wp2_with fail
  refine (queue_ln w8 (unhide L8) (by omega)).mono ?_
  rintro e w10 ⟨v10, rfl, E10, b10⟩
  have L10 := hide ((unhide L8).next b10)
  replace b10' := hide b10
  replace b10 := hide (bt (unhide b8) b10 (Nat.le_trans (unhide hNb) (unhide L8).low))
  obtain ⟨g, cap, rfl, r10⟩ : ∃ g cap, v10 = .slice (some ⟨g, 0, none⟩) Q4.length cap ∧ Rb g cap Q4 w10 := by
    rcases E10 with ⟨_, e⟩ | ⟨g, cap, e, _, r⟩
    · rw [e] at hq; simp at hq
    · exact ⟨g, cap, e, r⟩
  replace r10 := hide r10
  replace E10 := hide trivial
  have hqi : (0 : Int) < (Q4.length : Int) := by omega
  go_wp2_with fail
  refine (first_any w10).mono ?_
  rintro e w11 ⟨rfl, b11⟩
  have L11 := hide ((unhide L10).next b11)
  have r11 := hide ((unhide r10).next b11)
  replace b11 := hide (bt (unhide b10) b11 (Nat.le_trans (unhide hNb) (unhide L10).low))
  go_wp2_with fail
  refine (holds_ln w11 (unhide L11) (by omega) 1 (unhide hlook)).mono ?_
  rintro e w12 ⟨rfl, b12⟩
  have L12 := hide ((unhide L11).next b12)
  have r12 := (unhide r11).next b12
  have c0 := r12.fst hq
  have c1 := r12.snd hq
  rw [Nat.zero_mul] at c0
  rw [Nat.zero_mul, Nat.zero_add] at c1
  replace b12 := hide (bt (unhide b11) b12 (Nat.le_trans (unhide hNb) (unhide L11).low))
  replace r12 := hide r12
  generalize (Q4.getD 0 (0, 0)).1 = y1 at *
  generalize (Q4.getD 0 (0, 0)).2 = y2 at *
  go_wp2
  go_ret
  exact ⟨by simp, by rw [← unhide hN]; exact unhide b12⟩
set_option maxRecDepth 100000 in
set_option maxHeartbeats 4000000 in
theorem turn_a_ttt (a b m t s2 : Int) (H2 Q2 H3 Q3 H4 Q4 : List En) (w : World) (ha : 1 ≤ a ∧ a ≤ 5) (hb : 1 ≤ b ∧ b ≤ 5) (hm : 1 ≤ m ∧ m ≤ 5)
    (h1 : askD 1 a [] [] = (1, [(1, a)], [])) (h2 : askD 2 b [(1, a)] [] = (s2, H2, Q2)) (hs2 : (s2 == 1) = true) (hfb : fitsB a b = true) (h3 : askD 3 5 H2 Q2 = (2, H3, Q3)) (ht : supL [a, m] = t)
    (h4 : askD 1 m H3 Q3 = (1, H4, Q4)) (het : (t == a) = true) (hfa : fitsB t b = true) (n2 : H2.length + Q2.length < 10) (n3 : H3.length + Q3.length < 10) (n4 : H4.length + Q4.length < 10)
    (hq : 0 < Q4.length) (hlook : lookD 1 H4 = t) (hy : ((Q4.getD 0 (0, 0)).1 == 1) = false) :
    Calls Try.prog 7 #[.int .i64 a, .int .i64 b, .int .i64 m] w fun e w' => e = .returned (.bool true) ∧ Below w.heap.size w w' := by
  replace hlook := hide hlook
  obtain ⟨N, hN⟩ : ∃ N, N = w.heap.size := ⟨_, rfl⟩
  have hs3 : (s2 != 1) = !true := by unfold bne; rw [hs2]
  replace h1 := hide h1
  replace h2 := hide h2
  replace h3 := hide h3
  replace h4 := hide h4
  replace ht := hide ht
  replace hfa := hide hfa
  replace hfb := hide hfb
  obtain ⟨ha1, ha2⟩ := ha
  obtain ⟨hb1, hb2⟩ := hb
  obtain ⟨hm1, hm2⟩ := hm
  have hy2 : ((Q4.getD 0 (0, 0)).1 != 1) = true := by unfold bne; rw [hy]; rfl
  replace hy := hide hy
  go_enter Try.func7, Try.ntmps7
  go_wp2_with fail
  refine (first_any w).mono ?_
  rintro e w1 ⟨rfl, b1⟩
  rw [← hN] at b1
  replace b1 := hide b1
  replace hN := hide hN
  go_wp2_with fail
  refine (new_ln w1).mono ?_
  rintro e w2 ⟨rfl, L2, b2⟩
  obtain ⟨q, hqq⟩ : ∃ q, q = w1.heap.size := ⟨_, rfl⟩
  rw [← hqq] at L2 b2 ⊢
  have hNb : Hid (N ≤ q) := by have := (unhide b1).size; rw [unhide hN, hqq]; exact this
  replace b2 := hide ((unhide b1).trans (b2.mono (unhide hNb)))
  replace hqq := hide hqq
  replace L2 := hide L2
  go_wp2_with fail
  refine (ask_ln w2 (unhide L2) (by decide) 1 a (unhide h1)).mono ?_
  rintro e w3 ⟨rfl, L3, b3⟩
  replace b3 := hide ((unhide b2).trans (b3.mono (unhide hNb)))
  replace L3 := hide L3
  go_wp2_with fail
  refine (ask_ln w3 (unhide L3) (by simp) 2 b (unhide h2)).mono ?_
  rintro e w4 ⟨rfl, L4, b4⟩
  replace b4 := hide ((unhide b3).trans (b4.mono (unhide hNb)))
  replace L4 := hide L4
  go_wp2_with fail
  refine (fits_any a b _).mono ?_
  rw [unhide hfb]
  rintro e w5 ⟨rfl, b5⟩
  have L5 := hide ((unhide L4).next b5)
  replace b5 := hide (bt (unhide b4) b5 (Nat.le_trans (unhide hNb) (unhide L4).low))
  go_wp2_with fail
  refine (ask_ln w5 (unhide L5) (by omega) 3 5 (unhide h3)).mono ?_
  rintro e w6 ⟨rfl, L6, b6⟩
  replace b6 := hide ((unhide b5).trans (b6.mono (unhide hNb)))
  replace L6 := hide L6
  go_wp2_with fail
  refine (sup_any _ 2 2 [a, m] _ (seg2 w6 a m) (by decide)).mono ?_
  rw [unhide ht]
  rintro e w7 ⟨rfl, rfl⟩
  have b7 := hide (bt (unhide b6) (below_new w6 (.cells #[.int .i64 a, .int .i64 m] 3)) (Nat.le_trans (unhide hNb) (unhide L6).low))
  have L7 := hide ((unhide L6).next (below_new w6 (.cells #[.int .i64 a, .int .i64 m] 3)))
  go_wp2_with fail
  refine (ask_ln _ (unhide L7) (by omega) 1 m (unhide h4)).mono ?_
  rintro e w8 ⟨rfl, L8, b8⟩
  replace b8 := hide ((unhide b7).trans (b8.mono (unhide hNb)))
  replace L8 := hide L8
  go_wp2_with fail
  refine (fits_any t b _).mono ?_
  rw [unhide hfa]
  rintro e w9 ⟨rfl, b9⟩
  have L9 := hide ((unhide L8).next b9)
  replace b9 := hide (bt (unhide b8) b9 (Nat.le_trans (unhide hNb) (unhide L8).low))
  go_wp2_with fail
  refine (queue_ln w9 (unhide L9) (by omega)).mono ?_
  rintro e w10 ⟨v10, rfl, E10, b10⟩
  have L10 := hide ((unhide L9).next b10)
  replace b10' := hide b10
  replace b10 := hide (bt (unhide b9) b10 (Nat.le_trans (unhide hNb) (unhide L9).low))
  obtain ⟨g, cap, rfl, r10⟩ : ∃ g cap, v10 = .slice (some ⟨g, 0, none⟩) Q4.length cap ∧ Rb g cap Q4 w10 := by
    rcases E10 with ⟨_, e⟩ | ⟨g, cap, e, _, r⟩
    · rw [e] at hq; simp at hq
    · exact ⟨g, cap, e, r⟩
  replace r10 := hide r10
  replace E10 := hide trivial
  have hqi : (0 : Int) < (Q4.length : Int) := by omega
  go_wp2_with fail
  refine (first_any w10).mono ?_
  rintro e w11 ⟨rfl, b11⟩
  have L11 := hide ((unhide L10).next b11)
  have r11 := hide ((unhide r10).next b11)
  replace b11 := hide (bt (unhide b10) b11 (Nat.le_trans (unhide hNb) (unhide L10).low))
  go_wp2_with fail
  refine (holds_ln w11 (unhide L11) (by omega) 1 (unhide hlook)).mono ?_
  rintro e w12 ⟨rfl, b12⟩
  have L12 := hide ((unhide L11).next b12)
  have r12 := (unhide r11).next b12
  have c0 := r12.fst hq
  have c1 := r12.snd hq
  rw [Nat.zero_mul] at c0
  rw [Nat.zero_mul, Nat.zero_add] at c1
  replace b12 := hide (bt (unhide b11) b12 (Nat.le_trans (unhide hNb) (unhide L11).low))
  replace r12 := hide r12
  generalize (Q4.getD 0 (0, 0)).1 = y1 at *
  generalize (Q4.getD 0 (0, 0)).2 = y2 at *
  go_wp2
  go_ret
  exact ⟨by simp, by rw [← unhide hN]; exact unhide b12⟩
set_option maxRecDepth 100000 in
set_option maxHeartbeats 4000000 in
theorem turn_a_ff (a b m t s2 : Int) (H2 Q2 H3 Q3 H4 Q4 : List En) (w : World) (ha : 1 ≤ a ∧ a ≤ 5) (hb : 1 ≤ b ∧ b ≤ 5) (hm : 1 ≤ m ∧ m ≤ 5)
    (h1 : askD 1 a [] [] = (1, [(1, a)], [])) (h2 : askD 2 b [(1, a)] [] = (s2, H2, Q2)) (hs2 : (s2 == 1) = false) (hfb : fitsB a b = false) (h3 : askD 3 5 H2 Q2 = (2, H3, Q3)) (ht : supL [a, m] = t)
    (h4 : askD 1 m H3 Q3 = (1, H4, Q4)) (het : (t == a) = false) (fa : Bool) (hfa : fitsB t b = fa) (n2 : H2.length + Q2.length < 10) (n3 : H3.length + Q3.length < 10) (n4 : H4.length + Q4.length < 10)
    (hq : 0 < Q4.length) (hlook : lookD 1 H4 = t) (hy : ((Q4.getD 0 (0, 0)).1 == 1) = false) :
    Calls Try.prog 7 #[.int .i64 a, .int .i64 b, .int .i64 m] w fun e w' => e = .returned (.bool true) ∧ Below w.heap.size w w' := by
  replace hlook := hide hlook
  obtain ⟨N, hN⟩ : ∃ N, N = w.heap.size := ⟨_, rfl⟩
  have hs3 : (s2 != 1) = !false := by unfold bne; rw [hs2]
  replace h1 := hide h1
  replace h2 := hide h2
  replace h3 := hide h3
  replace h4 := hide h4
  replace ht := hide ht
  replace hfa := hide hfa
  replace hfb := hide hfb
  obtain ⟨ha1, ha2⟩ := ha
  obtain ⟨hb1, hb2⟩ := hb
  obtain ⟨hm1, hm2⟩ := hm
  have hy2 : ((Q4.getD 0 (0, 0)).1 != 1) = true := by unfold bne; rw [hy]; rfl
  replace hy := hide hy
  go_enter Try.func7, Try.ntmps7
  go_wp2_with fail
  refine (first_any w).mono ?_
  rintro e w1 ⟨rfl, b1⟩
  rw [← hN] at b1
  replace b1 := hide b1
  replace hN := hide hN
  go_wp2_with fail
  refine (new_ln w1).mono ?_
  rintro e w2 ⟨rfl, L2, b2⟩
  obtain ⟨q, hqq⟩ : ∃ q, q = w1.heap.size := ⟨_, rfl⟩
  rw [← hqq] at L2 b2 ⊢
  have hNb : Hid (N ≤ q) := by have := (unhide b1).size; rw [unhide hN, hqq]; exact this
  replace b2 := hide ((unhide b1).trans (b2.mono (unhide hNb)))
  replace hqq := hide hqq
  replace L2 := hide L2
  go_wp2_with fail
  refine (ask_ln w2 (unhide L2) (by decide) 1 a (unhide h1)).mono ?_
  rintro e w3 ⟨rfl, L3, b3⟩
  replace b3 := hide ((unhide b2).trans (b3.mono (unhide hNb)))
  replace L3 := hide L3
  go_wp2_with fail
  refine (ask_ln w3 (unhide L3) (by simp) 2 b (unhide h2)).mono ?_
  rintro e w4 ⟨rfl, L4, b4⟩
  replace b4 := hide ((unhide b3).trans (b4.mono (unhide hNb)))
  replace L4 := hide L4
  go_wp2_with fail
  refine (fits_any a b _).mono ?_
  rw [unhide hfb]
  rintro e w5 ⟨rfl, b5⟩
  have L5 := hide ((unhide L4).next b5)
  replace b5 := hide (bt (unhide b4) b5 (Nat.le_trans (unhide hNb) (unhide L4).low))
  go_wp2_with fail
  refine (ask_ln w5 (unhide L5) (by omega) 3 5 (unhide h3)).mono ?_
  rintro e w6 ⟨rfl, L6, b6⟩
  replace b6 := hide ((unhide b5).trans (b6.mono (unhide hNb)))
  replace L6 := hide L6
  go_wp2_with fail
  refine (sup_any _ 2 2 [a, m] _ (seg2 w6 a m) (by decide)).mono ?_
  rw [unhide ht]
  rintro e w7 ⟨rfl, rfl⟩
  have b7 := hide (bt (unhide b6) (below_new w6 (.cells #[.int .i64 a, .int .i64 m] 3)) (Nat.le_trans (unhide hNb) (unhide L6).low))
  have L7 := hide ((unhide L6).next (below_new w6 (.cells #[.int .i64 a, .int .i64 m] 3)))
  go_wp2_with fail
  refine (ask_ln _ (unhide L7) (by omega) 1 m (unhide h4)).mono ?_
  rintro e w8 ⟨rfl, L8, b8⟩
  replace b8 := hide ((unhide b7).trans (b8.mono (unhide hNb)))
  replace L8 := hide L8
  go_wp2_with fail
  refine (queue_ln w8 (unhide L8) (by omega)).mono ?_
  rintro e w10 ⟨v10, rfl, E10, b10⟩
  have L10 := hide ((unhide L8).next b10)
  replace b10' := hide b10
  replace b10 := hide (bt (unhide b8) b10 (Nat.le_trans (unhide hNb) (unhide L8).low))
  obtain ⟨g, cap, rfl, r10⟩ : ∃ g cap, v10 = .slice (some ⟨g, 0, none⟩) Q4.length cap ∧ Rb g cap Q4 w10 := by
    rcases E10 with ⟨_, e⟩ | ⟨g, cap, e, _, r⟩
    · rw [e] at hq; simp at hq
    · exact ⟨g, cap, e, r⟩
  replace r10 := hide r10
  replace E10 := hide trivial
  have hqi : (0 : Int) < (Q4.length : Int) := by omega
  go_wp2_with fail
  refine (first_any w10).mono ?_
  rintro e w11 ⟨rfl, b11⟩
  have L11 := hide ((unhide L10).next b11)
  have r11 := hide ((unhide r10).next b11)
  replace b11 := hide (bt (unhide b10) b11 (Nat.le_trans (unhide hNb) (unhide L10).low))
  go_wp2_with fail
  refine (holds_ln w11 (unhide L11) (by omega) 1 (unhide hlook)).mono ?_
  rintro e w12 ⟨rfl, b12⟩
  have L12 := hide ((unhide L11).next b12)
  have r12 := (unhide r11).next b12
  have c0 := r12.fst hq
  have c1 := r12.snd hq
  rw [Nat.zero_mul] at c0
  rw [Nat.zero_mul, Nat.zero_add] at c1
  replace b12 := hide (bt (unhide b11) b12 (Nat.le_trans (unhide hNb) (unhide L11).low))
  replace r12 := hide r12
  generalize (Q4.getD 0 (0, 0)).1 = y1 at *
  generalize (Q4.getD 0 (0, 0)).2 = y2 at *
  go_wp2
  go_ret
  exact ⟨by simp, by rw [← unhide hN]; exact unhide b12⟩
set_option maxRecDepth 100000 in
set_option maxHeartbeats 4000000 in
theorem turn_a_ttf (a b m t s2 : Int) (H2 Q2 H3 Q3 H4 Q4 : List En) (w : World) (ha : 1 ≤ a ∧ a ≤ 5) (hb : 1 ≤ b ∧ b ≤ 5) (hm : 1 ≤ m ∧ m ≤ 5)
    (h1 : askD 1 a [] [] = (1, [(1, a)], [])) (h2 : askD 2 b [(1, a)] [] = (s2, H2, Q2)) (hs2 : (s2 == 1) = true) (hfb : fitsB a b = true) (h3 : askD 3 5 H2 Q2 = (2, H3, Q3)) (ht : supL [a, m] = t)
    (h4 : askD 1 m H3 Q3 = (1, H4, Q4)) (het : (t == a) = false) (hfa : fitsB t b = true) (n2 : H2.length + Q2.length < 10) (n3 : H3.length + Q3.length < 10) (n4 : H4.length + Q4.length < 10)
    (hq : 0 < Q4.length) (hlook : lookD 1 H4 = t) (hy : ((Q4.getD 0 (0, 0)).1 == 1) = false) :
    Calls Try.prog 7 #[.int .i64 a, .int .i64 b, .int .i64 m] w fun e w' => e = .returned (.bool true) ∧ Below w.heap.size w w' := by
  replace hlook := hide hlook
  obtain ⟨N, hN⟩ : ∃ N, N = w.heap.size := ⟨_, rfl⟩
  have hs3 : (s2 != 1) = !true := by unfold bne; rw [hs2]
  replace h1 := hide h1
  replace h2 := hide h2
  replace h3 := hide h3
  replace h4 := hide h4
  replace ht := hide ht
  replace hfa := hide hfa
  replace hfb := hide hfb
  obtain ⟨ha1, ha2⟩ := ha
  obtain ⟨hb1, hb2⟩ := hb
  obtain ⟨hm1, hm2⟩ := hm
  have hy2 : ((Q4.getD 0 (0, 0)).1 != 1) = true := by unfold bne; rw [hy]; rfl
  replace hy := hide hy
  go_enter Try.func7, Try.ntmps7
  go_wp2_with fail
  refine (first_any w).mono ?_
  rintro e w1 ⟨rfl, b1⟩
  rw [← hN] at b1
  replace b1 := hide b1
  replace hN := hide hN
  go_wp2_with fail
  refine (new_ln w1).mono ?_
  rintro e w2 ⟨rfl, L2, b2⟩
  obtain ⟨q, hqq⟩ : ∃ q, q = w1.heap.size := ⟨_, rfl⟩
  rw [← hqq] at L2 b2 ⊢
  have hNb : Hid (N ≤ q) := by have := (unhide b1).size; rw [unhide hN, hqq]; exact this
  replace b2 := hide ((unhide b1).trans (b2.mono (unhide hNb)))
  replace hqq := hide hqq
  replace L2 := hide L2
  go_wp2_with fail
  refine (ask_ln w2 (unhide L2) (by decide) 1 a (unhide h1)).mono ?_
  rintro e w3 ⟨rfl, L3, b3⟩
  replace b3 := hide ((unhide b2).trans (b3.mono (unhide hNb)))
  replace L3 := hide L3
  go_wp2_with fail
  refine (ask_ln w3 (unhide L3) (by simp) 2 b (unhide h2)).mono ?_
  rintro e w4 ⟨rfl, L4, b4⟩
  replace b4 := hide ((unhide b3).trans (b4.mono (unhide hNb)))
  replace L4 := hide L4
  go_wp2_with fail
  refine (fits_any a b _).mono ?_
  rw [unhide hfb]
  rintro e w5 ⟨rfl, b5⟩
  have L5 := hide ((unhide L4).next b5)
  replace b5 := hide (bt (unhide b4) b5 (Nat.le_trans (unhide hNb) (unhide L4).low))
  go_wp2_with fail
  refine (ask_ln w5 (unhide L5) (by omega) 3 5 (unhide h3)).mono ?_
  rintro e w6 ⟨rfl, L6, b6⟩
  replace b6 := hide ((unhide b5).trans (b6.mono (unhide hNb)))
  replace L6 := hide L6
  go_wp2_with fail
  refine (sup_any _ 2 2 [a, m] _ (seg2 w6 a m) (by decide)).mono ?_
  rw [unhide ht]
  rintro e w7 ⟨rfl, rfl⟩
  have b7 := hide (bt (unhide b6) (below_new w6 (.cells #[.int .i64 a, .int .i64 m] 3)) (Nat.le_trans (unhide hNb) (unhide L6).low))
  have L7 := hide ((unhide L6).next (below_new w6 (.cells #[.int .i64 a, .int .i64 m] 3)))
  go_wp2_with fail
  refine (ask_ln _ (unhide L7) (by omega) 1 m (unhide h4)).mono ?_
  rintro e w8 ⟨rfl, L8, b8⟩
  replace b8 := hide ((unhide b7).trans (b8.mono (unhide hNb)))
  replace L8 := hide L8
  go_wp2_with fail
  refine (fits_any t b _).mono ?_
  rw [unhide hfa]
  rintro e w9 ⟨rfl, b9⟩
  have L9 := hide ((unhide L8).next b9)
  replace b9 := hide (bt (unhide b8) b9 (Nat.le_trans (unhide hNb) (unhide L8).low))
  go_wp2_with fail
  refine (queue_ln w9 (unhide L9) (by omega)).mono ?_
  rintro e w10 ⟨v10, rfl, E10, b10⟩
  have L10 := hide ((unhide L9).next b10)
  replace b10' := hide b10
  replace b10 := hide (bt (unhide b9) b10 (Nat.le_trans (unhide hNb) (unhide L9).low))
  obtain ⟨g, cap, rfl, r10⟩ : ∃ g cap, v10 = .slice (some ⟨g, 0, none⟩) Q4.length cap ∧ Rb g cap Q4 w10 := by
    rcases E10 with ⟨_, e⟩ | ⟨g, cap, e, _, r⟩
    · rw [e] at hq; simp at hq
    · exact ⟨g, cap, e, r⟩
  replace r10 := hide r10
  replace E10 := hide trivial
  have hqi : (0 : Int) < (Q4.length : Int) := by omega
  go_wp2_with fail
  refine (first_any w10).mono ?_
  rintro e w11 ⟨rfl, b11⟩
  have L11 := hide ((unhide L10).next b11)
  have r11 := hide ((unhide r10).next b11)
  replace b11 := hide (bt (unhide b10) b11 (Nat.le_trans (unhide hNb) (unhide L10).low))
  go_wp2_with fail
  refine (holds_ln w11 (unhide L11) (by omega) 1 (unhide hlook)).mono ?_
  rintro e w12 ⟨rfl, b12⟩
  have L12 := hide ((unhide L11).next b12)
  have r12 := (unhide r11).next b12
  have c0 := r12.fst hq
  have c1 := r12.snd hq
  rw [Nat.zero_mul] at c0
  rw [Nat.zero_mul, Nat.zero_add] at c1
  replace b12 := hide (bt (unhide b11) b12 (Nat.le_trans (unhide hNb) (unhide L11).low))
  replace r12 := hide r12
  generalize (Q4.getD 0 (0, 0)).1 = y1 at *
  generalize (Q4.getD 0 (0, 0)).2 = y2 at *
  go_wp2
  go_ret
  exact ⟨by simp, by rw [← unhide hN]; exact unhide b12⟩
set_option maxRecDepth 100000 in
set_option maxHeartbeats 4000000 in
theorem turn_a_tft (a b m t s2 : Int) (H2 Q2 H3 Q3 H4 Q4 : List En) (w : World) (ha : 1 ≤ a ∧ a ≤ 5) (hb : 1 ≤ b ∧ b ≤ 5) (hm : 1 ≤ m ∧ m ≤ 5)
    (h1 : askD 1 a [] [] = (1, [(1, a)], [])) (h2 : askD 2 b [(1, a)] [] = (s2, H2, Q2)) (hs2 : (s2 == 1) = true) (hfb : fitsB a b = true) (h3 : askD 3 5 H2 Q2 = (2, H3, Q3)) (ht : supL [a, m] = t)
    (h4 : askD 1 m H3 Q3 = (1, H4, Q4)) (het : (t == a) = true) (hfa : fitsB t b = false) (n2 : H2.length + Q2.length < 10) (n3 : H3.length + Q3.length < 10) (n4 : H4.length + Q4.length < 10)
    (hq : 0 < Q4.length) (hlook : lookD 1 H4 = t) (hy : ((Q4.getD 0 (0, 0)).1 == 1) = false) :
    Calls Try.prog 7 #[.int .i64 a, .int .i64 b, .int .i64 m] w fun e w' => e = .returned (.bool true) ∧ Below w.heap.size w w' := by
  replace hlook := hide hlook
  obtain ⟨N, hN⟩ : ∃ N, N = w.heap.size := ⟨_, rfl⟩
  have hs3 : (s2 != 1) = !true := by unfold bne; rw [hs2]
  replace h1 := hide h1
  replace h2 := hide h2
  replace h3 := hide h3
  replace h4 := hide h4
  replace ht := hide ht
  replace hfa := hide hfa
  replace hfb := hide hfb
  obtain ⟨ha1, ha2⟩ := ha
  obtain ⟨hb1, hb2⟩ := hb
  obtain ⟨hm1, hm2⟩ := hm
  have hy2 : ((Q4.getD 0 (0, 0)).1 != 1) = true := by unfold bne; rw [hy]; rfl
  replace hy := hide hy
  go_enter Try.func7, Try.ntmps7
  go_wp2_with fail
  refine (first_any w).mono ?_
  rintro e w1 ⟨rfl, b1⟩
  rw [← hN] at b1
  replace b1 := hide b1
  replace hN := hide hN
  go_wp2_with fail
  refine (new_ln w1).mono ?_
  rintro e w2 ⟨rfl, L2, b2⟩
  obtain ⟨q, hqq⟩ : ∃ q, q = w1.heap.size := ⟨_, rfl⟩
  rw [← hqq] at L2 b2 ⊢
  have hNb : Hid (N ≤ q) := by have := (unhide b1).size; rw [unhide hN, hqq]; exact this
  replace b2 := hide ((unhide b1).trans (b2.mono (unhide hNb)))
  replace hqq := hide hqq
  replace L2 := hide L2
  go_wp2_with fail
  refine (ask_ln w2 (unhide L2) (by decide) 1 a (unhide h1)).mono ?_
  rintro e w3 ⟨rfl, L3, b3⟩
  replace b3 := hide ((unhide b2).trans (b3.mono (unhide hNb)))
  replace L3 := hide L3
  go_wp2_with fail
  refine (ask_ln w3 (unhide L3) (by simp) 2 b (unhide h2)).mono ?_
  rintro e w4 ⟨rfl, L4, b4⟩
  replace b4 := hide ((unhide b3).trans (b4.mono (unhide hNb)))
  replace L4 := hide L4
  go_wp2_with fail
  refine (fits_any a b _).mono ?_
  rw [unhide hfb]
  rintro e w5 ⟨rfl, b5⟩
  have L5 := hide ((unhide L4).next b5)
  replace b5 := hide (bt (unhide b4) b5 (Nat.le_trans (unhide hNb) (unhide L4).low))
  go_wp2_with fail
  refine (ask_ln w5 (unhide L5) (by omega) 3 5 (unhide h3)).mono ?_
  rintro e w6 ⟨rfl, L6, b6⟩
  replace b6 := hide ((unhide b5).trans (b6.mono (unhide hNb)))
  replace L6 := hide L6
  go_wp2_with fail
  refine (sup_any _ 2 2 [a, m] _ (seg2 w6 a m) (by decide)).mono ?_
  rw [unhide ht]
  rintro e w7 ⟨rfl, rfl⟩
  have b7 := hide (bt (unhide b6) (below_new w6 (.cells #[.int .i64 a, .int .i64 m] 3)) (Nat.le_trans (unhide hNb) (unhide L6).low))
  have L7 := hide ((unhide L6).next (below_new w6 (.cells #[.int .i64 a, .int .i64 m] 3)))
  go_wp2_with fail
  refine (ask_ln _ (unhide L7) (by omega) 1 m (unhide h4)).mono ?_
  rintro e w8 ⟨rfl, L8, b8⟩
  replace b8 := hide ((unhide b7).trans (b8.mono (unhide hNb)))
  replace L8 := hide L8
  go_wp2_with fail
  refine (fits_any t b _).mono ?_
  rw [unhide hfa]
  rintro e w9 ⟨rfl, b9⟩
  have L9 := hide ((unhide L8).next b9)
  replace b9 := hide (bt (unhide b8) b9 (Nat.le_trans (unhide hNb) (unhide L8).low))
  go_wp2_with fail
  refine (queue_ln w9 (unhide L9) (by omega)).mono ?_
  rintro e w10 ⟨v10, rfl, E10, b10⟩
  have L10 := hide ((unhide L9).next b10)
  replace b10' := hide b10
  replace b10 := hide (bt (unhide b9) b10 (Nat.le_trans (unhide hNb) (unhide L9).low))
  obtain ⟨g, cap, rfl, r10⟩ : ∃ g cap, v10 = .slice (some ⟨g, 0, none⟩) Q4.length cap ∧ Rb g cap Q4 w10 := by
    rcases E10 with ⟨_, e⟩ | ⟨g, cap, e, _, r⟩
    · rw [e] at hq; simp at hq
    · exact ⟨g, cap, e, r⟩
  replace r10 := hide r10
  replace E10 := hide trivial
  have hqi : (0 : Int) < (Q4.length : Int) := by omega
  go_wp2_with fail
  refine (first_any w10).mono ?_
  rintro e w11 ⟨rfl, b11⟩
  have L11 := hide ((unhide L10).next b11)
  have r11 := hide ((unhide r10).next b11)
  replace b11 := hide (bt (unhide b10) b11 (Nat.le_trans (unhide hNb) (unhide L10).low))
  go_wp2_with fail
  refine (holds_ln w11 (unhide L11) (by omega) 1 (unhide hlook)).mono ?_
  rintro e w12 ⟨rfl, b12⟩
  have L12 := hide ((unhide L11).next b12)
  have r12 := (unhide r11).next b12
  have c0 := r12.fst hq
  have c1 := r12.snd hq
  rw [Nat.zero_mul] at c0
  rw [Nat.zero_mul, Nat.zero_add] at c1
  replace b12 := hide (bt (unhide b11) b12 (Nat.le_trans (unhide hNb) (unhide L11).low))
  replace r12 := hide r12
  generalize (Q4.getD 0 (0, 0)).1 = y1 at *
  generalize (Q4.getD 0 (0, 0)).2 = y2 at *
  go_wp2
  go_ret
  exact ⟨by simp, by rw [← unhide hN]; exact unhide b12⟩
set_option maxRecDepth 100000 in
set_option maxHeartbeats 4000000 in
theorem turn_b (a b m t s2 : Int) (H2 Q2 H3 Q3 H4 Q4 : List En) (fb et fa : Bool) (w : World) (ha : 1 ≤ a ∧ a ≤ 5) (hb : 1 ≤ b ∧ b ≤ 5) (hm : 1 ≤ m ∧ m ≤ 5)
    (h1 : askD 1 a [] [] = (1, [(1, a)], [])) (h2 : askD 2 b [(1, a)] [] = (s2, H2, Q2)) (hs2 : (s2 == 1) = fb) (hfb : fitsB a b = fb) (h3 : askD 3 5 H2 Q2 = (2, H3, Q3)) (ht : supL [a, m] = t)
    (h4 : askD 1 m H3 Q3 = (2, H4, Q4)) (het : (t == a) = et) (hfa : fitsB t b = fa) (hal : (et || (!fb || fa)) = false) (n2 : H2.length + Q2.length < 10) (n3 : H3.length + Q3.length < 10) (n4 : H4.length + Q4.length < 10)
    (hq : 0 < Q4.length) (hlook : lookD 1 H4 = a) (hy : (Q4.getD 0 (0, 0)).1 = 1) (hy2 : (Q4.getD 0 (0, 0)).2 = t) (H5 Q5 : List En) (h5 : leaveD 2 H4 Q4 = ([1], H5, Q5)) (hl5 : lookD 1 H5 = t) (n5 : H5.length < 10) :
    Calls Try.prog 7 #[.int .i64 a, .int .i64 b, .int .i64 m] w fun e w' => e = .returned (.bool true) ∧ Below w.heap.size w w' := by
  obtain ⟨rfl, rfl, rfl⟩ : et = false ∧ fb = true ∧ fa = false := by cases et <;> cases fb <;> cases fa <;> simp_all
  replace hlook := hide hlook
  replace hy := hide hy
  replace hy2 := hide hy2
  replace h5 := hide h5
  replace hl5 := hide hl5
  obtain ⟨N, hN⟩ : ∃ N, N = w.heap.size := ⟨_, rfl⟩
  have hs3 : (s2 != 1) = !true := by unfold bne; rw [hs2]
  replace h1 := hide h1
  replace h2 := hide h2
  replace h3 := hide h3
  replace h4 := hide h4
  replace ht := hide ht
  replace hfa := hide hfa
  replace hfb := hide hfb
  obtain ⟨ha1, ha2⟩ := ha
  obtain ⟨hb1, hb2⟩ := hb
  obtain ⟨hm1, hm2⟩ := hm
  go_enter Try.func7, Try.ntmps7
  go_wp2_with fail
  refine (first_any w).mono ?_
  rintro e w1 ⟨rfl, b1⟩
  rw [← hN] at b1
  replace b1 := hide b1
  replace hN := hide hN
  go_wp2_with fail
  refine (new_ln w1).mono ?_
  rintro e w2 ⟨rfl, L2, b2⟩
  obtain ⟨q, hqq⟩ : ∃ q, q = w1.heap.size := ⟨_, rfl⟩
  rw [← hqq] at L2 b2 ⊢
  have hNb : Hid (N ≤ q) := by have := (unhide b1).size; rw [unhide hN, hqq]; exact this
  replace b2 := hide ((unhide b1).trans (b2.mono (unhide hNb)))
  replace hqq := hide hqq
  replace L2 := hide L2
  go_wp2_with fail
  refine (ask_ln w2 (unhide L2) (by decide) 1 a (unhide h1)).mono ?_
  rintro e w3 ⟨rfl, L3, b3⟩
  replace b3 := hide ((unhide b2).trans (b3.mono (unhide hNb)))
  replace L3 := hide L3
  go_wp2_with fail
  refine (ask_ln w3 (unhide L3) (by simp) 2 b (unhide h2)).mono ?_
  rintro e w4 ⟨rfl, L4, b4⟩
  replace b4 := hide ((unhide b3).trans (b4.mono (unhide hNb)))
  replace L4 := hide L4
  go_wp2_with fail
  refine (fits_any a b _).mono ?_
  rw [unhide hfb]
  rintro e w5 ⟨rfl, b5⟩
  have L5 := hide ((unhide L4).next b5)
  replace b5 := hide (bt (unhide b4) b5 (Nat.le_trans (unhide hNb) (unhide L4).low))
  go_wp2_with fail
  refine (ask_ln w5 (unhide L5) (by omega) 3 5 (unhide h3)).mono ?_
  rintro e w6 ⟨rfl, L6, b6⟩
  replace b6 := hide ((unhide b5).trans (b6.mono (unhide hNb)))
  replace L6 := hide L6
  go_wp2_with fail
  refine (sup_any _ 2 2 [a, m] _ (seg2 w6 a m) (by decide)).mono ?_
  rw [unhide ht]
  rintro e w7 ⟨rfl, rfl⟩
  have b7 := hide (bt (unhide b6) (below_new w6 (.cells #[.int .i64 a, .int .i64 m] 3)) (Nat.le_trans (unhide hNb) (unhide L6).low))
  have L7 := hide ((unhide L6).next (below_new w6 (.cells #[.int .i64 a, .int .i64 m] 3)))
  go_wp2_with fail
  refine (ask_ln _ (unhide L7) (by omega) 1 m (unhide h4)).mono ?_
  rintro e w8 ⟨rfl, L8, b8⟩
  replace b8 := hide ((unhide b7).trans (b8.mono (unhide hNb)))
  replace L8 := hide L8
  go_wp2_with fail
  refine (fits_any t b _).mono ?_
  rw [unhide hfa]
  rintro e w9 ⟨rfl, b9⟩
  have L9 := hide ((unhide L8).next b9)
  replace b9 := hide (bt (unhide b8) b9 (Nat.le_trans (unhide hNb) (unhide L8).low))
  go_wp2_with fail
  refine (queue_ln w9 (unhide L9) (by omega)).mono ?_
  rintro e w10 ⟨v10, rfl, E10, b10⟩
  have L10 := hide ((unhide L9).next b10)
  replace b10' := hide b10
  replace b10 := hide (bt (unhide b9) b10 (Nat.le_trans (unhide hNb) (unhide L9).low))
  obtain ⟨g, cap, rfl, r10⟩ : ∃ g cap, v10 = .slice (some ⟨g, 0, none⟩) Q4.length cap ∧ Rb g cap Q4 w10 := by
    rcases E10 with ⟨_, e⟩ | ⟨g, cap, e, _, r⟩
    · rw [e] at hq; simp at hq
    · exact ⟨g, cap, e, r⟩
  replace r10 := hide r10
  replace E10 := hide trivial
  have hqi : (0 : Int) < (Q4.length : Int) := by omega
  go_wp2_with fail
  refine (first_any w10).mono ?_
  rintro e w11 ⟨rfl, b11⟩
  have L11 := hide ((unhide L10).next b11)
  have r11 := hide ((unhide r10).next b11)
  replace b11 := hide (bt (unhide b10) b11 (Nat.le_trans (unhide hNb) (unhide L10).low))
  go_wp2_with fail
  refine (holds_ln w11 (unhide L11) (by omega) 1 (unhide hlook)).mono ?_
  rintro e w12 ⟨rfl, b12⟩
  have L12 := hide ((unhide L11).next b12)
  have r12 := (unhide r11).next b12
  have c0 := r12.fst hq
  have c1 := r12.snd hq
  rw [Nat.zero_mul] at c0
  rw [Nat.zero_mul, Nat.zero_add] at c1
  replace b12 := hide (bt (unhide b11) b12 (Nat.le_trans (unhide hNb) (unhide L11).low))
  replace r12 := hide r12
  rw [unhide hy] at c0
  rw [unhide hy2] at c1
  go_wp2_with fail
  refine (leave_ln w12 (unhide L12) (by omega) 2 (unhide h5)).mono ?_
  rintro e w13 ⟨v13, rfl, I13, L13, b13⟩
  replace b13 := hide ((unhide b12).trans (b13.mono (unhide hNb)))
  replace L13 := hide L13
  replace I13 := hide I13
  clear c0 c1
  go_wp2_with fail
  refine (ints_is w13 (unhide I13) (by decide) 1 _ rfl _ rfl).mono ?_
  rintro e w14 ⟨rfl, b14⟩
  have L14 := hide ((unhide L13).next b14)
  replace b14 := hide (bt (unhide b13) b14 (Nat.le_trans (unhide hNb) (unhide L13).low))
  go_wp2_with fail
  refine (holds_ln w14 (unhide L14) (by omega) 1 (unhide hl5)).mono ?_
  rintro e w15 ⟨rfl, b15⟩
  replace b15 := hide (bt (unhide b14) b15 (Nat.le_trans (unhide hNb) (unhide L14).low))
  go_wp2
  go_ret
  exact ⟨by simp, by rw [← unhide hN]; exact unhide b15⟩
set_option maxRecDepth 100000 in
set_option maxHeartbeats 4000000 in
theorem turn_out (a b m : Int) (w : World) (h : a < 1 ∨ (1 ≤ a ∧ 5 < a) ∨ (1 ≤ a ∧ a ≤ 5 ∧ b < 1) ∨ (1 ≤ a ∧ a ≤ 5 ∧ 1 ≤ b ∧ 5 < b) ∨ (1 ≤ a ∧ a ≤ 5 ∧ 1 ≤ b ∧ b ≤ 5 ∧ m < 1) ∨ (1 ≤ a ∧ a ≤ 5 ∧ 1 ≤ b ∧ b ≤ 5 ∧ 1 ≤ m ∧ 5 < m)) : Calls Try.prog 7 #[.int .i64 a, .int .i64 b, .int .i64 m] w fun e w' => e = .returned (.bool true) ∧ Below w.heap.size w w' := by
  rcases h with h | ⟨h1, h2⟩ | ⟨h1, h2, h3⟩ | ⟨h1, h2, h3, h4⟩ | ⟨h1, h2, h3, h4, h5⟩ | ⟨h1, h2, h3, h4, h5, h6⟩
  all_goals
    go_enter Try.func7, Try.ntmps7
    go_wp2_with fail
    refine (first_any w).mono ?_
    rintro e w1 ⟨rfl, b1⟩
    replace b1 := hide b1
    go_wp2_with fail
    refine (new_ln w1).mono ?_
    rintro e w2 ⟨rfl, L2, b2⟩
    replace b2 := hide (below_then (unhide b1) b2)
    replace L2 := hide L2
    go_wp2_with fail
    refine (first_any w2).mono ?_
    rintro e w3 ⟨rfl, b3⟩
    replace b3 := hide (below_then (unhide b2) b3)
    go_wp2
    go_ret
    exact ⟨rfl, unhide b3⟩
end Go.Proofs.Ytbmoapeeahigkaa
