/- Plain facts on programs: what is written, what is read. No Go in sight. -/
import Derived.Test.YtdhfpfkcbcgnaaaRund
namespace Go.Proofs.Ytdhfpfkcbcgnaaa
open Go.RowKit

theorem step_mono (c : Cf) (x : In) (i : Nat) (s : St) : ∃ t, (stepD c x i s).1.wr = s.wr ++ t ∧ (t = [] → (stepD c x i s).1.h = s.h) := by
  unfold stepD
  split
  · exact ⟨[], by simp [readD], fun _ => rfl⟩
  · split
    · exact ⟨[_], rfl, fun h => by cases h⟩
    · split
      · exact ⟨[], by simp, fun _ => rfl⟩
      · split
        · exact ⟨[], by simp, fun _ => rfl⟩
        · split
          · split
            · exact ⟨[], by simp, fun _ => rfl⟩
            · exact ⟨[], by simp, fun _ => rfl⟩
          · exact ⟨[], by simp, fun _ => rfl⟩
theorem play_mono (c : Cf) (ps : List In) : ∀ (f k : Nat) (s : St), ∃ t, (playD c ps f k s).1.wr = s.wr ++ t ∧ (t = [] → (playD c ps f k s).1.h = s.h)
  | 0, _, s => ⟨[], by simp [playD], fun _ => rfl⟩
  | f + 1, k, s => by
    rw [playD]
    split
    · split
      · exact ⟨[], by simp, fun _ => rfl⟩
      · split
        · exact ⟨[], by simp, fun _ => rfl⟩
        · obtain ⟨t, h1, h2⟩ := step_mono c (ps.getD k z0) k s
          obtain ⟨u, g1, g2⟩ := play_mono c ps f (stepD c (ps.getD k z0) k s).2 (stepD c (ps.getD k z0) k s).1
          refine ⟨t ++ u, by rw [g1, h1, List.append_assoc], fun e => ?_⟩
          obtain ⟨e1, e2⟩ := List.append_eq_nil_iff.1 e
          rw [g2 e2, h2 e1]
    · exact ⟨[], by simp, fun _ => rfl⟩
/-- A run that succeeds and writes nothing leaves the heap as it was. -/
theorem run_quiet {c : Cf} {H : List Int} {ps : List In} (hx : (runD c H ps).x = 0) (hw : (runD c H ps).wr = []) : (runD c H ps).h = H := by
  unfold runD at hx hw ⊢
  split
  · rename_i h1
    rw [if_pos h1] at hx hw
    split
    · rename_i h2
      rw [if_pos h2] at hw
      unfold endD at hw ⊢
      obtain ⟨t, g1, g2⟩ := play_mono c ps ps.length 0 (st0 c H)
      have e : t = [] := by
        replace hw : (playD c ps ps.length 0 (st0 c H)).1.wr = [] := hw
        rw [g1] at hw
        simpa [st0] using hw
      show (if _ then (playD c ps ps.length 0 (st0 c H)).1.h else H) = H
      rw [g2 e]
      split <;> rfl
    · rename_i h2
      rw [if_neg h2] at hx
      exact absurd hx (by decide)
  · rename_i h1
    rw [if_neg h1] at hx
    exact absurd hx (by decide)
/-- The heap behind writes. -/
def setAll (H : List Int) (l : List (Int × Int)) : List Int := l.foldl (fun h p => h.set p.1.toNat p.2) H
theorem setAll_snoc (H : List Int) (l : List (Int × Int)) (p : Int × Int) : setAll H (l ++ [p]) = (setAll H l).set p.1.toNat p.2 := by
  unfold setAll
  rw [List.foldl_append]; rfl
theorem setAll_len (l : List (Int × Int)) : ∀ H : List Int, (setAll H l).length = H.length := by
  induction l with
  | nil => exact fun _ => rfl
  | cons p r ih => exact fun H => (ih _).trans (List.length_set ..)
/-- What lies at i is what was there, or was written there. -/
theorem setAll_at (i : Nat) : ∀ (l : List (Int × Int)) (H : List Int), (setAll H l).getD i 0 = H.getD i 0 ∨ ∃ p ∈ l, p.1.toNat = i ∧ p.2 = (setAll H l).getD i 0
  | [], H => .inl rfl
  | p :: r, H => by
    rcases setAll_at i r (H.set p.1.toNat p.2) with h | ⟨q, hq, h1, h2⟩
    · by_cases e : p.1.toNat = i
      · by_cases hi : i < H.length
        · right
          refine ⟨p, by simp, e, ?_⟩
          show p.2 = (setAll (H.set p.1.toNat p.2) r).getD i 0
          rw [h, e]
          simp [hi]
        · left
          show (setAll (H.set p.1.toNat p.2) r).getD i 0 = _
          rw [h, List.set_eq_of_length_le (by omega)]
      · left
        show (setAll (H.set p.1.toNat p.2) r).getD i 0 = _
        rw [h]
        simp [e]
    · exact .inr ⟨q, by simp [hq], h1, h2⟩
/-- What holds of a run all along. -/
structure Ok (H : List Int) (s : St) : Prop where
  h : s.h = setAll H s.wr
  w : ∀ p ∈ s.wr, 0 ≤ p.1 ∧ p.1 < (H.length : Int)
  r : ∀ p ∈ s.rd, 0 ≤ p.1 ∧ p.1 < (H.length : Int) ∧ (p.2 = H.getD p.1.toNat 0 ∨ p ∈ s.wr)
theorem ok_step {c : Cf} {H : List Int} {s : St} (hok : okB c = true) (hl : (H.length : Int) = wordsD c) (h : Ok H s) (x : In) (i : Nat) : Ok H (stepD c x i s).1 := by
  have ad := addr_in hok x s.r
  have ea : ((addrD c x s.r).toNat : Int) = addrD c x s.r := by omega
  unfold stepD
  split
  · refine ⟨h.h, h.w, fun p hp => ?_⟩
    replace hp : p ∈ s.rd ++ [(((addrD c x s.r).toNat : Int), s.h.getD (addrD c x s.r).toNat 0)] := hp
    rcases List.mem_append.1 hp with hp | hp
    · exact h.r p hp
    · obtain rfl := List.mem_singleton.1 hp
      refine ⟨by show 0 ≤ ((addrD c x s.r).toNat : Int); omega, by show ((addrD c x s.r).toNat : Int) < _; omega, ?_⟩
      show s.h.getD _ 0 = H.getD (((addrD c x s.r).toNat : Int)).toNat 0 ∨ _
      rw [Int.toNat_natCast, h.h]
      rcases setAll_at (addrD c x s.r).toNat s.wr H with e | ⟨q, hq, e1, e2⟩
      · exact .inl e
      · right
        show _ ∈ s.wr
        have := (h.w q hq).1
        have e3 : (((addrD c x s.r).toNat : Int), (setAll H s.wr).getD (addrD c x s.r).toNat 0) = q := by
          rw [← e2]
          ext
          · show ((addrD c x s.r).toNat : Int) = q.1; omega
          · rfl
        rw [e3]
        exact hq
  · split
    · refine ⟨?_, fun p hp => ?_, fun p hp => ?_⟩
      · show s.h.set _ _ = setAll H (s.wr ++ [_])
        rw [setAll_snoc, h.h, Int.toNat_natCast]
      · replace hp : p ∈ s.wr ++ [(((addrD c x s.r).toNat : Int), s.r.getD x.a.toNat 0)] := hp
        rcases List.mem_append.1 hp with hp | hp
        · exact h.w p hp
        · obtain rfl := List.mem_singleton.1 hp
          exact ⟨by show 0 ≤ ((addrD c x s.r).toNat : Int); omega, by show ((addrD c x s.r).toNat : Int) < _; omega⟩
      · obtain ⟨h1, h2, h3⟩ := h.r p hp
        exact ⟨h1, h2, h3.imp id fun h4 => List.mem_append.2 (.inl h4)⟩
    · split
      · exact ⟨h.h, h.w, h.r⟩
      · split
        · exact ⟨h.h, h.w, h.r⟩
        · split
          · split <;> exact h
          · exact h
theorem ok_play {c : Cf} {H : List Int} (hok : okB c = true) (hl : (H.length : Int) = wordsD c) (ps : List In) : ∀ (f k : Nat) (s : St), Ok H s → Ok H (playD c ps f k s).1 ∧ ((playD c ps f k s).2 = 1 ∨ (playD c ps f k s).2 = 2 ∨ (playD c ps f k s).2 = 3)
  | 0, _, s, h => ⟨h, .inl rfl⟩
  | f + 1, k, s, h => by
    rw [playD]
    split
    · split
      · exact ⟨h, .inr (.inl rfl)⟩
      · split
        · exact ⟨h, .inr (.inr rfl)⟩
        · exact ok_play hok hl ps f _ _ (ok_step hok hl h _ _)
    · exact ⟨h, .inl rfl⟩
/-- A run, told without the machine. -/
theorem run_own {c : Cf} {H : List Int} {ps : List In} (hx : (runD c H ps).x = 0) : (H.length : Int) = wordsD c ∧ Ok H ⟨setAll H (runD c H ps).wr, [], (runD c H ps).rd, (runD c H ps).wr⟩ ∧
    ((runD c H ps).e = 1 ∧ (runD c H ps).h = setAll H (runD c H ps).wr ∨ ((runD c H ps).e = 2 ∨ (runD c H ps).e = 3) ∧ (runD c H ps).h = H) := by
  unfold runD at hx ⊢
  by_cases h1 : chB c ps = true
  · rw [if_pos h1] at hx ⊢
    by_cases h2 : (H.length : Int) = wordsD c
    · rw [if_pos h2]
      have hok := (ch_iff h1).1
      obtain ⟨o, e⟩ := ok_play hok h2 ps ps.length 0 (st0 c H) ⟨rfl, (fun p hp => by cases hp), (fun p hp => by cases hp)⟩
      refine ⟨h2, ⟨rfl, o.w, o.r⟩, ?_⟩
      unfold endD
      generalize playD c ps ps.length 0 (st0 c H) = R at o e ⊢
      rcases e with e | e | e
      · left
        refine ⟨e, ?_⟩
        show (if R.2 = 1 then R.1.h else H) = _
        rw [if_pos e, o.h]
      · right
        refine ⟨.inl e, ?_⟩
        show (if R.2 = 1 then R.1.h else H) = _
        rw [if_neg (by omega)]
      · right
        refine ⟨.inr e, ?_⟩
        show (if R.2 = 1 then R.1.h else H) = _
        rw [if_neg (by omega)]
    · rw [if_neg h2] at hx
      exact absurd hx (by decide)
  · rw [if_neg h1] at hx
    exact absurd hx (by decide)
/-- A run that fails answers nothing. -/
theorem run_fails {c : Cf} {H : List Int} {ps : List In} (hx : (runD c H ps).x ≠ 0) : (runD c H ps).h = [] := by
  unfold runD at hx ⊢
  by_cases h1 : chB c ps = true
  · rw [if_pos h1] at hx ⊢
    by_cases h2 : (H.length : Int) = wordsD c
    · rw [if_pos h2] at hx
      exact absurd rfl hx
    · rw [if_neg h2]
  · rw [if_neg h1]
end Go.Proofs.Ytdhfpfkcbcgnaaa
