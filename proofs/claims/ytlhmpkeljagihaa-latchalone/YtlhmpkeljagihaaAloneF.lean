/- Threads that read and write at one latch, step by step: who has a Write is alone. No Go in sight. -/
import Derived.Test.YtlhmpkeljagihaaReadF
namespace Go.Proofs.Ytlhmpkeljagihaa
open Go.RowKit

/-- Where a thread is: nothing under way (it has nothing, a Read, a Write) · a Read · a Write (does it read? where it stands, its word) · an EndRead · an EndWrite. -/
inductive Ph where
  | idle (h : Nat)
  | read (p : Nat)
  | write (rd : Bool) (p wd : Nat)
  | endR
  | endW
def marks : Ph → Bool
  | .idle h => h == 1
  | .read p => p != 0
  | .write rd _ _ => rd
  | .endR => true
  | .endW => false
def owns : Ph → Bool
  | .idle h => h == 2
  | .write _ p _ => p != 3
  | .endW => true
  | _ => false
/-- It has a Read. -/
def hasR : Ph → Bool
  | .idle h => h == 1
  | .write rd _ _ => rd
  | .endR => true
  | _ => false
/-- The word below which no other one has a Read. -/
def strong : Ph → Nat
  | .idle h => if h = 2 then 8 else 0
  | .write _ p wd => if p = 4 then wd else if p = 6 then 8 else 0
  | .endW => 8
  | _ => 0
def hasOf : Ph → Nat
  | .idle h => h
  | .read _ => 0
  | .write rd _ _ => if rd then 1 else 0
  | .endR => 1
  | .endW => 2
def kindOf : Ph → Nat
  | .idle _ => 0
  | .read _ => 1
  | .write _ _ _ => 2
  | .endR => 3
  | .endW => 4
def Wf : Ph → Prop
  | .idle h => h ≤ 2
  | .read p => p ≤ 2
  | .write rd p wd => 3 ≤ p ∧ p ≤ 6 ∧ 1 ≤ wd ∧ wd ≤ 7 ∧ (p = 6 → rd = true) ∧ (p = 3 → wd = 1)
  | _ => True
/-- The latch of the thread t in this place. -/
def Fit (sl t : Nat) (L : LS) : Ph → Prop
  | .idle _ => False
  | .read p => ∃ wd, La sl t false (p : Int) wd L
  | .write rd p wd => La sl t rd (p : Int) wd L
  | .endR => ∃ wd, La sl t false 6 wd L
  | .endW => ∃ wd, La sl t false 7 wd L
def upP (P : Nat → Ph) (t : Nat) (ph : Ph) : Nat → Ph := fun u => if u = t then ph else P u
theorem upP_at (P : Nat → Ph) (t : Nat) (ph : Ph) : upP P t ph t = ph := by simp [upP]
theorem upP_ne (P : Nat → Ph) {t u : Nat} (ph : Ph) (h : u ≠ t) : upP P t ph u = P u := by simp [upP, h]
theorem hasR_marks (ph : Ph) (h : hasR ph = true) : marks ph = true := by cases ph <;> simp_all [hasR, marks]
theorem strong_owns (ph : Ph) (w : Wf ph) (h : owns ph = false) : strong ph = 0 := by
  cases ph with
  | idle h' => simp [owns] at h; simp [strong, h]
  | read p => rfl
  | write rd p wd => simp [owns] at h; simp [strong, h]
  | endR => rfl
  | endW => simp [owns] at h
def mkR (P : Nat → Ph) : Nat → Bool := fun u => marks (P u)
theorem mk_up (P : Nat → Ph) (t : Nat) (ph : Ph) : mkR (upP P t ph) = up (mkR P) t (marks ph) := by
  funext u; unfold mkR upP up; split <;> rfl
theorem mk_same (P : Nat → Ph) (t : Nat) (ph : Ph) (h : marks ph = marks (P t)) : mkR (upP P t ph) = mkR P := by
  rw [mk_up, h]; exact up_self _ _ _ rfl

structure Inv (sl T : Nat) (P : Nat → Ph) (own : Int) : Prop where
  out : ∀ t, T ≤ t → P t = .idle 0
  wf : ∀ t, Wf (P t)
  o1 : ∀ t : Nat, owns (P t) = true ↔ own = (t : Int) + 1
  o2 : own = 0 ∨ ∃ t : Nat, own = (t : Int) + 1
  dr : ∀ t u, u ≠ t → hasR (P u) = true → strong (P t) ≤ wordA sl u
theorem inv_zero (sl T : Nat) : Inv sl T (fun _ => .idle 0) 0 :=
  ⟨fun _ _ => rfl, fun _ => Nat.zero_le _, fun t => ⟨fun h => by simp [owns] at h, fun h => by omega⟩, .inl rfl, fun t u _ h => by simp [hasR] at h⟩
theorem Inv.set {sl T : Nat} {P : Nat → Ph} {own : Int} (I : Inv sl T P own) {t : Nat} (ht : t < T) (ph : Ph) (own' : Int) (w : Wf ph) (h1 : ∀ u : Nat, u ≠ t → (own = (u : Int) + 1 ↔ own' = (u : Int) + 1)) (h2 : owns ph = true ↔ own' = (t : Int) + 1) (h3 : own' = 0 ∨ ∃ t : Nat, own' = (t : Int) + 1)
    (hs : ∀ u, u ≠ t → hasR (P u) = true → strong ph ≤ wordA sl u) (hr : hasR ph = true → ∀ u, u ≠ t → strong (P u) ≤ wordA sl t) : Inv sl T (upP P t ph) own' := by
  refine ⟨fun u hu => ?_, fun u => ?_, fun u => ?_, h3, fun a b hn hb => ?_⟩
  · rw [upP_ne P ph (by omega)]; exact I.out u hu
  · by_cases e : u = t
    · subst e; rw [upP_at]; exact w
    · rw [upP_ne P ph e]; exact I.wf u
  · by_cases e : u = t
    · subst e; rw [upP_at]; exact h2
    · rw [upP_ne P ph e, I.o1 u]; exact h1 u e
  · by_cases ea : a = t
    · subst ea
      rw [upP_ne P ph hn] at hb
      rw [upP_at]; exact hs b hn hb
    · rw [upP_ne P ph ea]
      by_cases eb : b = t
      · subst eb
        rw [upP_at] at hb
        exact hr hb a ea
      · rw [upP_ne P ph eb] at hb
        exact I.dr a b hn hb
/-- The owner stays. -/
theorem Inv.set0 {sl T : Nat} {P : Nat → Ph} {own : Int} (I : Inv sl T P own) {t : Nat} (ht : t < T) (ph : Ph) (w : Wf ph) (ho : owns ph = owns (P t))
    (hs : ∀ u, u ≠ t → hasR (P u) = true → strong ph ≤ wordA sl u) (hr : hasR ph = true → hasR (P t) = true) : Inv sl T (upP P t ph) own :=
  I.set ht ph own w (fun _ _ => Iff.rfl) (by rw [ho]; exact I.o1 t) I.o2 hs (fun h u hu => I.dr u t (fun e => hu e.symm) (hr h))
/-- It was the owner, and nobody is. -/
theorem Inv.leave {sl T : Nat} {P : Nat → Ph} {own : Int} (I : Inv sl T P own) {t : Nat} (ht : t < T) (ph : Ph) (w : Wf ph) (hP : owns (P t) = true) (ho : owns ph = false) (hs : strong ph = 0) (hr : hasR ph = true → hasR (P t) = true) : Inv sl T (upP P t ph) 0 :=
  I.set ht ph 0 w (fun u hu => by have := (I.o1 t).1 hP; omega) (by rw [ho]; constructor; intro h; cases h; intro h; omega) (.inl rfl) (fun u _ _ => by rw [hs]; exact Nat.zero_le _) (fun h u hu => I.dr u t (fun e => hu e.symm) (hr h))
/-- Nobody was the owner: it is now. -/
theorem Inv.claim {sl T : Nat} {P : Nat → Ph} (I : Inv sl T P 0) {t : Nat} (ht : t < T) (ph : Ph) (w : Wf ph) (ho : owns ph = true) (hs : strong ph ≤ 1) (hr : hasR ph = true → hasR (P t) = true) : Inv sl T (upP P t ph) ((t : Int) + 1) :=
  I.set ht ph _ w (fun u hu => by omega) (by rw [ho]; simp) (.inr ⟨t, rfl⟩) (fun u _ _ => Nat.le_trans hs (by unfold wordA; split <;> omega)) (fun h u hu => I.dr u t (fun e => hu e.symm) (hr h))
theorem Inv.free {sl T : Nat} {P : Nat → Ph} (I : Inv sl T P 0) (u : Nat) : strong (P u) = 0 := by
  apply strong_owns _ (I.wf u)
  rcases h : owns (P u)
  · rfl
  · have := (I.o1 u).1 h; omega

/-- It needs no other one. -/
def quick : Ph → Bool
  | .idle _ => false
  | .write _ p _ => decide (5 ≤ p)
  | _ => true
/-- How many steps such a one takes at most. -/
def rank : Ph → Nat
  | .read p => 3 - p
  | .idle _ => 0
  | _ => 1
/-- What a step of the thread t leaves. -/
def Stepped (sl T t : Nat) (P : Nat → Ph) (L : LS) (m : Mm) : Prop :=
  ∃ (ph : Ph) (own : Int), Inv sl T (upP P t ph) own ∧ Ab sl own (mkR (upP P t ph)) (itM 1 L m).f ∧
    (((itL 1 L m).p < 8 ∧ Fit sl t (itL 1 L m) ph ∧ kindOf ph = kindOf (P t) ∧ hasOf ph = hasOf (P t) ∧ (quick (P t) = true → quick ph = true ∧ rank ph < rank (P t))) ∨
     ((itL 1 L m).p = 9 ∧ ph = .idle (if kindOf (P t) ≤ 2 then kindOf (P t) else 0)) ∨
     ((itL 1 L m).p = 8 ∧ kindOf (P t) ≤ 2 ∧ ph = .idle (hasOf (P t))))
theorem inv_step {sl T t : Nat} {P : Nat → Ph} {own : Int} {L : LS} {m : Mm} (I : Inv sl T P own) (hT : T ≤ 16) (ht : t < T) (ha : Ab sl own (mkR P) m.f) (hf : Fit sl t L (P t)) : Stepped sl T t P L m := by
  have h16 : t < 16 := by omega
  have wf := I.wf t
  have mt : mkR P t = marks (P t) := rfl
  have hmr : ∀ u, hasR (P u) = true → mkR P u = true := fun u h => hasR_marks _ h
  unfold Stepped
  have no : owns (P t) = false → own ≠ (t : Int) + 1 := fun h e => by rw [(I.o1 t).2 e] at h; cases h
  generalize hP : P t = ph at *
  cases ph with
  | idle h => exact hf.elim
  | read p =>
    obtain ⟨wd, hl⟩ := hf
    have wf' : p ≤ 2 := wf
    have hp : p = 0 ∨ p = 1 ∨ p = 2 := by omega
    rcases hp with rfl | rfl | rfl
    · obtain ⟨h1, a1⟩ := st0 hl ha h16 (by rw [mt]; rfl)
      refine ⟨.read 1, own, I.set0 ht _ (by show 1 ≤ 2; omega) (by rw [hP]; rfl) (fun _ _ _ => Nat.zero_le _) (fun h => by cases h), by rw [mk_up]; exact a1, .inl ⟨by rw [h1.p]; decide, ⟨wd, h1⟩, rfl, rfl, fun _ => ⟨rfl, by decide⟩⟩⟩
    · obtain ⟨h1, a1⟩ := st1 hl ha
      have nt := no rfl
      by_cases h0 : own = 0
      · subst h0
        rw [if_pos (.inl rfl)] at h1
        refine ⟨.idle 1, 0, I.set ht _ 0 (by show 1 ≤ 2; omega) (fun _ _ => Iff.rfl) ⟨(fun h => by cases h), fun h => by omega⟩ (.inl rfl) (fun _ _ _ => Nat.zero_le _) (fun _ u _ => by rw [I.free u]; exact Nat.zero_le _), by rw [mk_same P t _ (by rw [hP]; rfl)]; exact a1, .inr (.inl ⟨h1.p, rfl⟩)⟩
      · rw [if_neg (by rintro (e | e); exact h0 e; exact nt e)] at h1
        refine ⟨.read 2, own, I.set0 ht _ (by show 2 ≤ 2; omega) (by rw [hP]; rfl) (fun _ _ _ => Nat.zero_le _) (fun h => by cases h), by rw [mk_same P t _ (by rw [hP]; rfl)]; exact a1, .inl ⟨by rw [h1.p]; decide, ⟨wd, h1⟩, rfl, rfl, fun _ => ⟨rfl, by decide⟩⟩⟩
    · obtain ⟨h1, a1⟩ := st2 hl ha h16 (by rw [mt]; rfl)
      refine ⟨.idle 0, own, I.set0 ht _ (by show 0 ≤ 2; omega) (by rw [hP]; rfl) (fun _ _ _ => Nat.zero_le _) (fun h => by cases h), by rw [mk_up]; exact a1, .inr (.inr ⟨h1.p, (by show (1 : Nat) ≤ 2; omega), rfl⟩)⟩
  | write rd p wd =>
    have hl : La sl t rd (p : Int) wd L := hf
    obtain ⟨w1, w2, w3, w4, w5, w6⟩ := wf
    have hp : p = 3 ∨ p = 4 ∨ p = 5 ∨ p = 6 := by omega
    rcases hp with rfl | rfl | rfl | rfl
    · have e1 := w6 rfl
      subst e1
      by_cases h0 : own = 0
      · subst h0
        obtain ⟨h1, a1⟩ := st3a hl ha
        refine ⟨.write rd 4 1, (t : Int) + 1, I.claim ht _ ⟨by decide, by decide, by decide, by decide, (fun h => by cases h), fun _ => rfl⟩ rfl (by show (1 : Nat) ≤ 1; omega) (by rw [hP]; exact id), by rw [mk_same P t _ (by rw [hP]; rfl)]; exact a1, .inl ⟨by rw [h1.p]; decide, h1, rfl, rfl, fun h => by simp [quick] at h⟩⟩
      · obtain ⟨h1, a1⟩ := st3b hl ha h0
        refine ⟨.idle (if rd then 1 else 0), own, I.set0 ht _ (by show (if rd then 1 else 0) ≤ 2; split <;> omega) (by rw [hP]; cases rd <;> rfl) (fun _ _ _ => by cases rd <;> exact Nat.zero_le _) (by rw [hP]; cases rd <;> exact id), by rw [mk_same P t _ (by rw [hP]; cases rd <;> rfl)]; exact a1, .inr (.inr ⟨h1.p, (by show (2 : Nat) ≤ 2; omega), rfl⟩)⟩
    · obtain ⟨a1, k1, k2, k3, k4⟩ := st4 hl ha h16 (fun h => by rw [mt]; exact h) w3 w4
      by_cases hF : FreeA sl t rd (mkR P) wd
      · have hne : ∀ u, u ≠ t → hasR (P u) = true → wordA sl u ≠ wd := fun u hu hr e => hu (hF u (hmr u hr) e).2
        have hle : ∀ u, u ≠ t → hasR (P u) = true → wd ≤ wordA sl u := fun u hu hr => by have := I.dr t u hu hr; rw [hP] at this; exact this
        by_cases e7 : wd < 7
        · refine ⟨.write rd 4 (wd + 1), own, I.set0 ht _ ⟨by decide, by decide, by omega, by omega, (fun h => by cases h), (fun h => by cases h)⟩ (by rw [hP]; rfl) (fun u hu hr => by show wd + 1 ≤ _; have := hne u hu hr; have := hle u hu hr; omega) (by rw [hP]; exact id), by rw [mk_same P t _ (by rw [hP]; rfl)]; exact a1, .inl ⟨by rw [(k2 hF e7).p]; decide, k2 hF e7, rfl, rfl, fun h => by simp [quick] at h⟩⟩
        · have e7' : wd = 7 := by omega
          subst e7'
          cases rd with
          | true =>
            have h1 := k3 hF rfl rfl
            refine ⟨.write true 6 7, own, I.set0 ht _ ⟨by decide, by decide, by decide, by decide, fun _ => rfl, (fun h => by cases h)⟩ (by rw [hP]; rfl) (fun u hu hr => by show 8 ≤ _; have := hne u hu hr; have := hle u hu hr; omega) (by rw [hP]; exact id), by rw [mk_same P t _ (by rw [hP]; rfl)]; exact a1, .inl ⟨by rw [h1.p]; decide, h1, rfl, rfl, fun h => by simp [quick] at h⟩⟩
          | false =>
            have h1 := k4 hF rfl rfl
            refine ⟨.idle 2, own, I.set0 ht _ (by show 2 ≤ 2; omega) (by rw [hP]; rfl) (fun u hu hr => by show 8 ≤ _; have := hne u hu hr; have := hle u hu hr; omega) (fun h => by cases h), by rw [mk_same P t _ (by rw [hP]; rfl)]; exact a1, .inr (.inl ⟨h1.p, rfl⟩)⟩
      · have h1 := k1 hF
        refine ⟨.write rd 4 wd, own, I.set0 ht _ ⟨w1, w2, w3, w4, w5, w6⟩ (by rw [hP]) (fun u hu hr => by have := I.dr t u hu hr; rw [hP] at this; exact this) (by rw [hP]; exact id), by rw [mk_same P t _ (by rw [hP])]; exact a1, .inl ⟨by rw [h1.p]; decide, h1, rfl, rfl, fun h => by simp [quick] at h⟩⟩
    · obtain ⟨h1, a1⟩ := st5 hl ha
      refine ⟨.idle (if rd then 1 else 0), 0, I.leave ht _ (by show (if rd then 1 else 0) ≤ 2; split <;> omega) (by rw [hP]; rfl) (by cases rd <;> rfl) (by cases rd <;> rfl) (by rw [hP]; cases rd <;> exact id), by rw [mk_same P t _ (by rw [hP]; cases rd <;> rfl)]; exact a1, .inr (.inr ⟨h1.p, (by show (2 : Nat) ≤ 2; omega), rfl⟩)⟩
    · have e1 := w5 rfl
      subst e1
      obtain ⟨h1, a1⟩ := st6 hl ha h16 (by rw [mt]; rfl)
      refine ⟨.idle 2, own, I.set0 ht _ (by show 2 ≤ 2; omega) (by rw [hP]; rfl) (fun u hu hr => by have := I.dr t u hu hr; rw [hP] at this; exact this) (fun h => by cases h), by rw [mk_up]; exact a1, .inr (.inl ⟨h1.p, rfl⟩)⟩
  | endR =>
    obtain ⟨wd, hl⟩ := hf
    obtain ⟨h1, a1⟩ := st6 hl ha h16 (by rw [mt]; rfl)
    refine ⟨.idle 0, own, I.set0 ht _ (by show 0 ≤ 2; omega) (by rw [hP]; rfl) (fun _ _ _ => Nat.zero_le _) (fun h => by cases h), by rw [mk_up]; exact a1, .inr (.inl ⟨h1.p, rfl⟩)⟩
  | endW =>
    obtain ⟨wd, hl⟩ := hf
    obtain ⟨h1, a1⟩ := st7 hl ha
    refine ⟨.idle 0, 0, I.leave ht _ (by show 0 ≤ 2; omega) (by rw [hP]; rfl) rfl rfl (fun h => by cases h), by rw [mk_same P t _ (by rw [hP]; rfl)]; exact a1, .inr (.inl ⟨h1.p, rfl⟩)⟩
end Go.Proofs.Ytlhmpkeljagihaa
