/- What LatchReaders meets: readers that come and go, a writer that drains. No Go in sight. -/
import Derived.Test.YtlhmpkeljagihaaMem
namespace Go.Proofs.Ytlhmpkeljagihaa
open Go.RowKit

theorem wordA_le {sl u : Nat} (h : u < 16) : 1 ≤ wordA sl u ∧ wordA sl u ≤ 7 := by unfold wordA; split <;> omega
theorem got_of {k : Nat} {L : LS} {m : Mm} (h : (itL k L m).p = 9) : gotB k L m = true := by unfold gotB; rw [h]; rfl
theorem got_not {k : Nat} {L : LS} {m : Mm} (h : (itL k L m).p ≠ 9) : gotB k L m = false := by unfold gotB; simpa using h
section
variable {sl t : Nat} {L : LS} {own : Int} {R : Nat → Bool} {m : Mm}
/-- A Read where nobody writes. -/
theorem read_got {wd : Nat} (h : La sl t false 0 wd L) (ha : Ab sl 0 R m.f) (h16 : t < 16) (hR : R t = false) : gotB 20 L m = true ∧ Ab sl 0 (up R t true) (itM 20 L m).f := by
  obtain ⟨h1, a1⟩ := st0 h ha h16 hR
  obtain ⟨h2, a2⟩ := st1 h1 a1
  rw [if_pos (.inl rfl)] at h2
  have e1 := it_add 1 19 L m
  have e2 := it_add 1 18 (itL 1 L m) (itM 1 L m)
  have e3 := st8 (L := itL 1 (itL 1 L m) (itM 1 L m)) (m := itM 1 (itL 1 L m) (itM 1 L m)) (by rw [h2.p]; decide) 18
  have eL : itL 20 L m = itL 1 (itL 1 L m) (itM 1 L m) := e1.1.trans (e2.1.trans e3.1)
  have eM : itM 20 L m = itM 1 (itL 1 L m) (itM 1 L m) := e1.2.trans (e2.2.trans e3.2)
  exact ⟨got_of (by rw [eL, h2.p]), by rw [eM]; exact a2⟩
/-- A Read where another one writes. -/
theorem read_not {wd : Nat} (h : La sl t false 0 wd L) (ha : Ab sl own R m.f) (h16 : t < 16) (hR : R t = false) (h0 : own ≠ 0) (h1 : own ≠ (t : Int) + 1) : gotB 20 L m = false ∧ Ab sl own R (itM 20 L m).f := by
  obtain ⟨h1', a1⟩ := st0 h ha h16 hR
  obtain ⟨h2, a2⟩ := st1 h1' a1
  rw [if_neg (by rintro (e | e); exact h0 e; exact h1 e)] at h2
  obtain ⟨h3, a3⟩ := st2 h2 a2 h16 (up_at R t true)
  rw [up_up, up_self R t false hR] at a3
  have e1 := it_add 1 19 L m
  have e2 := it_add 1 18 (itL 1 L m) (itM 1 L m)
  have e3 := it_add 1 17 (itL 1 (itL 1 L m) (itM 1 L m)) (itM 1 (itL 1 L m) (itM 1 L m))
  have e4 := st8 (m := itM 1 (itL 1 (itL 1 L m) (itM 1 L m)) (itM 1 (itL 1 L m) (itM 1 L m))) (show 8 ≤ (itL 1 (itL 1 (itL 1 L m) (itM 1 L m)) (itM 1 (itL 1 L m) (itM 1 L m))).p by rw [h3.p]; decide) 17
  have eL : itL 20 L m = _ := e1.1.trans (e2.1.trans (e3.1.trans e4.1))
  have eM : itM 20 L m = _ := e1.2.trans (e2.2.trans (e3.2.trans e4.2))
  exact ⟨got_not (by rw [eL, h3.p]; decide), by rw [eM]; exact a3⟩
/-- An EndRead. -/
theorem endRead_got {wd : Nat} (h : La sl t false 6 wd L) (ha : Ab sl own R m.f) (h16 : t < 16) (hR : R t = true) : gotB 20 L m = true ∧ Ab sl own (up R t false) (itM 20 L m).f := by
  obtain ⟨h1, a1⟩ := st6 h ha h16 hR
  have e1 := it_add 1 19 L m
  have e3 := st8 (L := itL 1 L m) (m := itM 1 L m) (by rw [h1.p]; decide) 19
  have eL : itL 20 L m = itL 1 L m := e1.1.trans e3.1
  have eM : itM 20 L m = itM 1 L m := e1.2.trans e3.2
  exact ⟨got_of (by rw [eL, h1.p]), by rw [eM]; exact a1⟩
/-- n steps of a drain. -/
theorem drain_run {wd : Nat} (h : La sl t false 4 wd L) (ha : Ab sl own R m.f) (h16 : t < 16) (w1 : 1 ≤ wd) (w7 : wd ≤ 7) (n : Nat) :
    Ab sl own R (itM n L m).f ∧ (((itL n L m).p = 9 ∧ ∀ u, R u = true → wordA sl u < wd) ∨ ∃ wd', La sl t false 4 wd' (itL n L m) ∧ wd ≤ wd' ∧ wd' ≤ 7 ∧ (∀ u, R u = true → wd ≤ wordA sl u → wd' ≤ wordA sl u) ∧ (¬ FreeA sl t false R wd' ∨ wd' = wd + n)) := by
  induction n with
  | zero => exact ⟨ha, .inr ⟨wd, h, Nat.le_refl _, w7, fun _ _ h => h, .inr rfl⟩⟩
  | succ n ih =>
    obtain ⟨a, ih⟩ := ih
    rw [← (it_succ n L m).1, ← (it_succ n L m).2]
    rcases ih with ⟨hp, hu⟩ | ⟨wd', hl, g1, g2, g3, g4⟩
    · have := st8 (L := itL n L m) (m := itM n L m) (by rw [hp]; decide) 1
      rw [this.1, this.2]
      exact ⟨a, .inl ⟨hp, hu⟩⟩
    · obtain ⟨b, k1, k2, k3, k4⟩ := st4 hl a h16 (by simp) (by omega) g2
      refine ⟨b, ?_⟩
      by_cases hF : FreeA sl t false R wd'
      · have hno : ∀ u, R u = true → wordA sl u ≠ wd' := fun u hu e => by have := (hF u hu e).1; cases this
        by_cases e7 : wd' < 7
        · refine .inr ⟨wd' + 1, k2 hF e7, by omega, by omega, fun u hu hw => ?_, .inr ?_⟩
          · have := g3 u hu hw; have := hno u hu; omega
          · rcases g4 with g4 | g4
            · exact absurd hF g4
            · omega
        · refine .inl ⟨(k4 hF (by omega) rfl).p, fun u hu => ?_⟩
          have h16u : u < 16 := by
            by_cases e : u < 16
            · exact e
            · rw [ha.r u (by omega)] at hu; cases hu
          have := wordA_le (sl := sl) h16u
          have := g3 u hu
          have := hno u hu
          omega
      · exact .inr ⟨wd', k1 hF, g1, g2, g3, .inl hF⟩
/-- A Write that waits, or has got it and nobody reads. -/
def Jj (sl t : Nat) (R : Nat → Bool) (L : LS) : Prop :=
  (∃ wd, La sl t false 4 wd L ∧ 1 ≤ wd ∧ wd ≤ 7 ∧ (∀ u, R u = true → wd ≤ wordA sl u) ∧ ∃ u, R u = true) ∨ (L.p = 9 ∧ ∀ u, R u = false)
theorem Jj.run {wd : Nat} (h : La sl t false 4 wd L) (ha : Ab sl own R m.f) (h16 : t < 16) (w1 : 1 ≤ wd) (w7 : wd ≤ 7) (hw : ∀ u, R u = true → wd ≤ wordA sl u) (n : Nat) (hn : 7 ≤ n) :
    Ab sl own R (itM n L m).f ∧ Jj sl t R (itL n L m) := by
  obtain ⟨a, h⟩ := drain_run h ha h16 w1 w7 n
  refine ⟨a, ?_⟩
  rcases h with ⟨hp, hu⟩ | ⟨wd', hl, g1, g2, g3, g4⟩
  · refine .inr ⟨hp, fun u => ?_⟩
    rcases hb : R u
    · rfl
    · have := hu u hb; have := hw u hb; omega
  · refine .inl ⟨wd', hl, by omega, g2, fun u hu => g3 u hu (hw u hu), ?_⟩
    rcases g4 with g4 | g4
    · apply Classical.byContradiction
      intro hn
      exact g4 (fun u hu _ => absurd ⟨u, hu⟩ hn)
    · omega
/-- The Write's first twelve steps. -/
theorem Jj.start (h : La sl t false 3 1 L) (ha : Ab sl 0 R m.f) (h16 : t < 16) : Ab sl ((t : Int) + 1) R (itM 12 L m).f ∧ Jj sl t R (itL 12 L m) := by
  obtain ⟨h1, a1⟩ := st3a h ha
  have e1 := it_add 1 11 L m
  rw [show 12 = 1 + 11 from rfl, e1.1, e1.2]
  refine Jj.run h1 a1 h16 (by decide) (by decide) (fun u hu => ?_) 11 (by decide)
  unfold wordA; split <;> omega
/-- One that reads has gone: twelve steps more. -/
theorem Jj.next (h : Jj sl t R L) (hR : ∃ u, R u = true) (v : Nat) (ha : Ab sl own (up R v false) m.f) (h16 : t < 16) : Ab sl own (up R v false) (itM 12 L m).f ∧ Jj sl t (up R v false) (itL 12 L m) := by
  rcases h with ⟨wd, hl, g1, g2, g3, g4⟩ | ⟨_, hz⟩
  · refine Jj.run hl ha h16 g1 g2 (fun u hu => ?_) 12 (by decide)
    unfold up at hu
    split at hu
    · cases hu
    · exact g3 u hu
  · obtain ⟨u, hu⟩ := hR
    rw [hz u] at hu; cases hu
theorem Jj.done (h : Jj sl t R L) (hR : ∃ u, R u = true) : decide (8 ≤ L.p) = false := by
  rcases h with ⟨wd, hl, _⟩ | ⟨_, hz⟩
  · rw [hl.p]; rfl
  · obtain ⟨u, hu⟩ := hR
    rw [hz u] at hu; cases hu
theorem Jj.got (h : Jj sl t R L) (hR : ∀ u, R u = false) : L.p = 9 := by
  rcases h with ⟨wd, _, _, _, _, u, hu⟩ | ⟨hp, _⟩
  · rw [hR u] at hu; cases hu
  · exact hp
end
/-- The first k read. -/
def Rk (k : Nat) : Nat → Bool := fun u => decide (u < k)
theorem Rk_up (k : Nat) : up (Rk k) k true = Rk (k + 1) := by
  funext u; unfold up Rk; split
  · rename_i e; subst e; simp
  · rename_i e; simp; omega
/-- The first k read but for those that have gone. -/
def Rg (k : Nat) (g : Nat → Bool) : Nat → Bool := fun u => decide (u < k) && !g u
theorem Rg_none (k : Nat) : Rg k (fun _ => false) = Rk k := by funext u; simp [Rg, Rk]
theorem Rg_gone (k : Nat) (g : Nat → Bool) (t : Nat) : Rg k (up g t true) = up (Rg k g) t false := by
  funext u; unfold Rg up; split
  · simp
  · rfl
theorem cnt_pos {R : Nat → Bool} {n : Nat} {u : Nat} (hu : R u = true) (hn : u < n) : 0 < cnt 0 R n := by
  have h1 := cnt_in 0 R n
  by_cases e : cnt 0 R n = 0
  · rw [(cnt_zero 0 R n).1 e u hn (Nat.zero_le _)] at hu; cases hu
  · omega
theorem cnt_some {R : Nat → Bool} {n : Nat} (h : 0 < cnt 0 R n) : ∃ u, R u = true := by
  apply Classical.byContradiction
  intro hn
  have := (cnt_zero 0 R n).2 (fun u _ _ => by
    rcases hb : R u
    · rfl
    · exact absurd ⟨u, hb⟩ hn)
  omega
theorem cnt_Rk (k n : Nat) (h : n ≤ k) : cnt 0 (Rk k) n = n := by
  induction n with
  | zero => rfl
  | succ n ih =>
    unfold cnt
    rw [ih (by omega), if_pos ⟨Nat.zero_le _, by unfold Rk; simp; omega⟩]; omega
end Go.Proofs.Ytlhmpkeljagihaa
