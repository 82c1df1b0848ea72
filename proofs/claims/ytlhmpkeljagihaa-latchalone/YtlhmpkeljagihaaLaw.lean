/- Steps of a latch, one behind the other; through. -/
import Derived.Test.YtlhmpkeljagihaaMake
namespace Go.Proofs.Ytlhmpkeljagihaa
open Go.RowKit

/-- A latch that may be stepped. -/
def Ok (n : Nat) (L : LS) : Prop := 0 ≤ L.p ∧ (L.o < 0 ∨ Gd n L)
theorem look_in (L : LS) (v : Int) : 0 ≤ lookP L v := by unfold lookP; split <;> omega
theorem claim_in (f : Nat → Int) (L : LS) : 0 ≤ claimP f L := by unfold claimP; split <;> omega
theorem Gd.setP {n : Nat} {L : LS} (g : Gd n L) (p : Int) : Gd n { L with p := p } := ⟨g.t0, g.t1, g.ts, g.o0, g.o1, g.n1, g.w0, g.w1⟩
theorem Ok.acc {n : Nat} {L : LS} (f : Nat → Int) (g : Gd n L) : 0 ≤ (accL f L).p ∧ Gd n (accL f L) := by
  unfold accL
  split
  · exact ⟨by simp, g.setP _⟩
  split
  · exact ⟨look_in _ _, g.setP _⟩
  split
  · exact ⟨by simp, g.setP _⟩
  split
  · exact ⟨claim_in _ _, g.setP _⟩
  split
  · unfold drainL
    split
    · exact ⟨by simp, g.setP _⟩
    split
    · rename_i h
      exact ⟨by simp, ⟨g.t0, g.t1, g.ts, g.o0, g.o1, g.n1, by have := g.w0; show 0 ≤ L.wd + 1; omega, by show L.wd + 1 ≤ 7; omega⟩⟩
    split
    · exact ⟨by simp, g.setP _⟩
    · exact ⟨by simp, g.setP _⟩
  split
  · exact ⟨by simp, g.setP _⟩
  split
  · exact ⟨by simp, g.setP _⟩
  · exact ⟨by simp, g.setP _⟩
theorem acc_o (f : Nat → Int) (L : LS) : (accL f L).o = L.o := by
  unfold accL drainL
  repeat' split
  all_goals rfl
theorem Ok.step {n : Nat} {L : LS} (f : Nat → Int) (h : Ok n L) : Ok n (stepL f L) := by
  unfold stepL
  split
  · exact h
  split
  · rename_i ho
    exact ⟨by simp, .inl ho⟩
  · rename_i ho
    have g := (h.2.resolve_left ho).more
    have := Ok.acc f g
    exact ⟨this.1, .inr this.2⟩

/-- A latch, the words, the count: a step of it. -/
structure St where
  L : LS
  f : Nat → Int
  c : Int
def stS (s : St) : St := ⟨stepL s.f s.L, stepF s.f s.L, stepC s.c s.L⟩
/-- k steps. -/
def itS : Nat → St → St
  | 0, s => s
  | k + 1, s => stS (itS k s)
theorem stS_done {s : St} (h : 8 ≤ s.L.p) : stS s = s := by
  unfold stS stepL stepF stepC
  rw [if_pos h, if_pos h, if_pos h]
theorem itS_done {s : St} {k : Nat} (h : 8 ≤ (itS k s).L.p) : ∀ m, k ≤ m → itS m s = itS k s := by
  intro m hm
  induction m with
  | zero => have : k = 0 := by omega
            subst this; rfl
  | succ m ih =>
    by_cases e : k = m + 1
    · subst e; rfl
    · show stS (itS m s) = _
      rw [ih (by omega), stS_done h]
theorem itS_ok {n : Nat} {s : St} (h : Ok n s.L) (k : Nat) : Ok n (itS k s).L := by
  induction k with
  | zero => exact h
  | succ k ih => exact ih.step _

theorem step_st (b cb r n : Nat) (s : St) (w : World) (h : Lat w b s.L) (hc : Cel 70 w cb r n s.f s.c) (ok : Ok n s.L) (n1 : b ≠ cb) (n2 : b ≠ r) :
    Calls Try.prog 17 #[.pointer (some ⟨b, 0, none⟩), .pointer (some ⟨cb, 0, none⟩)] w fun e w' => e = .returned (.bool (decide (8 ≤ (stS s).L.p))) ∧ Lat w' b (stS s).L ∧ Cel 70 w' cb r n (stS s).f (stS s).c ∧ Tri b cb r w w' :=
  step_any b cb r n s.f s.c s.L w h hc ok.2 n1 n2 ok.1

set_option maxRecDepth 100000 in
theorem through_any (b cb r n : Nat) (s : St) (w : World) (h : Lat w b s.L) (hc : Cel 70 w cb r n s.f s.c) (ok : Ok n s.L) (n1 : b ≠ cb) (n2 : b ≠ r) :
    Calls Try.prog 29 #[.pointer (some ⟨b, 0, none⟩), .pointer (some ⟨cb, 0, none⟩)] w fun e w' => e = .returned (.bool ((itS 20 s).L.p == 9)) ∧ Lat w' b (itS 20 s).L ∧ Cel 70 w' cb r n (itS 20 s).f (itS 20 s).c ∧ Tri b cb r w w' := by
  have h' := hide h
  have hc' := hide hc
  clear h hc
  go_enter Try.func29, Try.ntmps29
  go_wp2_with fail
  go_loopw [5] (fun i wr => ∃ k : Nat, k ≤ 20 ∧ i = .int .i64 k ∧ (k = 0 ∨ (itS k s).L.p < 8) ∧ Lat wr b (itS k s).L ∧ Cel 70 wr cb r n (itS k s).f (itS k s).c ∧ Tri b cb r w wr) (fun i _ => 20 - (intOf i).toNat)
  case atStart => exact ⟨0, by omega, rfl, .inl rfl, unhide h', unhide hc', Tri.refl _ _ _ _⟩
  case round =>
    obtain ⟨k, hk, rfl, hd, hl, hcr, ht⟩ := hrel
    by_cases hlt : k < 20
    · by_cases hq : 8 ≤ (itS (k + 1) s).L.p
      · have e1 := hide (itS_done hq 20 (by omega))
        go_wp2_with fail
        refine (step_st b cb r n (itS k s) _ hl hcr (itS_ok ok k) n1 n2).mono ?_
        rw [show decide (8 ≤ (stS (itS k s)).L.p) = true from decide_eq_true hq]
        rintro e w1 ⟨rfl, hl1, hc1, ht1⟩
        go_wp2_with fail
        refine (got_any b _ _ hl1).mono ?_
        rintro e _ ⟨rfl, rfl⟩
        go_wp2
        go_ret
        rw [unhide e1]
        exact ⟨rfl, hl1, hc1, ht.trans ht1⟩
      · have hq' := hide hq
        clear hq
        go_wp2_with fail
        refine (step_st b cb r n (itS k s) _ hl hcr (itS_ok ok k) n1 n2).mono ?_
        rw [show decide (8 ≤ (stS (itS k s)).L.p) = false from decide_eq_false (Int.not_le.2 (unhide hq'))]
        rintro e w1 ⟨rfl, hl1, hc1, ht1⟩
        go_wp2
        go_roundw
        case rel => exact ⟨k + 1, by omega, by go_num, .inr (unhide hq'), hl1, hc1, ht.trans ht1⟩
        case measure => simp [intOf]; omega
    · obtain rfl : k = 20 := by omega
      have e1 : ((itS 20 s).L.p == 9) = false := by simp; omega
      have e1' := hide e1
      clear e1
      go_wp2
      go_ret
      rw [unhide e1']
      exact ⟨rfl, hl, hcr, ht⟩
end Go.Proofs.Ytlhmpkeljagihaa
