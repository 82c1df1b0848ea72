/- LatchAlone: how a program begins, is cancelled and ends; the threads as they lie in memory. -/
import Derived.Test.YtlhmpkeljagihaaAloneF
namespace Go.Proofs.Ytlhmpkeljagihaa
open Go.RowKit

def live : Ph → Bool
  | .idle _ => false
  | _ => true
/-- Where a thread that has h is when it begins a program of the kind k. -/
def bornP (h k : Nat) : Ph := if k = 1 then .read 0 else if k = 2 then .write (h == 1) 3 1 else if k = 3 then .endR else .endW
/-- May it? -/
def Born (h k : Nat) : Prop := (h = 0 ∧ k = 1) ∨ (h = 0 ∧ k = 2) ∨ (h = 1 ∧ k = 2) ∨ (h = 1 ∧ k = 3) ∨ (h = 2 ∧ k = 4)
def beginL (k : Nat) (c : Cf) (t : Int) (rd : Bool) : LS :=
  if k = 1 then newL 0 c 2 t false 0 else if k = 2 then newL 3 c 2 t rd 1 else if k = 3 then newL 6 c 2 t false 0 else newL 7 c 2 t false 0
theorem upP_upP (P : Nat → Ph) (t : Nat) (a b : Ph) : upP (upP P t a) t b = upP P t b := by
  funext u; unfold upP; split <;> rfl
theorem born_all {h k : Nat} (b : Born h k) : live (bornP h k) = true ∧ kindOf (bornP h k) = k ∧ hasOf (bornP h k) = h ∧ marks (bornP h k) = marks (.idle h) ∧ owns (bornP h k) = owns (.idle h) ∧ hasR (bornP h k) = hasR (.idle h) ∧ strong (bornP h k) = strong (.idle h) ∧ Wf (bornP h k) ∧ 1 ≤ k ∧ k ≤ 4 := by
  rcases b with ⟨rfl, rfl⟩ | ⟨rfl, rfl⟩ | ⟨rfl, rfl⟩ | ⟨rfl, rfl⟩ | ⟨rfl, rfl⟩
  · exact ⟨rfl, rfl, rfl, rfl, rfl, rfl, rfl, by show 0 ≤ 2; omega, by omega, by omega⟩
  · exact ⟨rfl, rfl, rfl, rfl, rfl, rfl, rfl, ⟨by decide, by decide, by decide, by decide, by decide, by decide⟩, by omega, by omega⟩
  · exact ⟨rfl, rfl, rfl, rfl, rfl, rfl, rfl, ⟨by decide, by decide, by decide, by decide, by decide, by decide⟩, by omega, by omega⟩
  · exact ⟨rfl, rfl, rfl, rfl, rfl, rfl, rfl, trivial, by omega, by omega⟩
  · exact ⟨rfl, rfl, rfl, rfl, rfl, rfl, rfl, trivial, by omega, by omega⟩
theorem Inv.born {sl T : Nat} {P : Nat → Ph} {own : Int} (I : Inv sl T P own) {t : Nat} (ht : t < T) {h k : Nat} (hP : P t = .idle h) (b : Born h k) : Inv sl T (upP P t (bornP h k)) own ∧ mkR (upP P t (bornP h k)) = mkR P := by
  obtain ⟨_, _, _, e1, e2, e3, e4, e5, _⟩ := born_all b
  refine ⟨I.set0 ht _ e5 (by rw [hP, e2]) (fun u hu hr => ?_) (by rw [hP, e3]; exact id), mk_same P t _ (by rw [hP, e1])⟩
  have := I.dr t u hu hr
  rw [hP] at this
  rw [e4]; exact this
theorem born_fit {sl T t : Nat} {c : Cf} (hc : c = oneC (T : Int) (sl : Int)) (hl : latchD c 2 = 1) (ht : t < T) {h k : Nat} (b : Born h k) : Fit sl t (beginL k c (t : Int) (h == 1)) (bornP h k) := by
  rcases b with ⟨rfl, rfl⟩ | ⟨rfl, rfl⟩ | ⟨rfl, rfl⟩ | ⟨rfl, rfl⟩ | ⟨rfl, rfl⟩
  · exact ⟨0, la_new c hc hl ht 0 false 0⟩
  · exact la_new c hc hl ht 3 false 1
  · exact la_new c hc hl ht 3 true 1
  · exact ⟨0, la_new c hc hl ht 6 false 0⟩
  · exact ⟨0, la_new c hc hl ht 7 false 0⟩
theorem begin_ok {c : Cf} {n : Nat} (hn : cellsD c = n) (k : Nat) (t : Int) (rd : Bool) : Ok n (beginL k c t rd) := by
  unfold beginL
  split
  · exact ok_new hn _ _ _ _ _ (by decide) (by decide) (by decide)
  split
  · exact ok_new hn _ _ _ _ _ (by decide) (by decide) (by decide)
  split <;> exact ok_new hn _ _ _ _ _ (by decide) (by decide) (by decide)

/-- A Write that is cancelled and stepped. -/
theorem cancel_step {sl T t : Nat} {P : Nat → Ph} {own : Int} {L : LS} {m : Mm} (I : Inv sl T P own) (hT : T ≤ 16) (ht : t < T) (ha : Ab sl own (mkR P) m.f) (hf : Fit sl t L (P t)) (hk : kindOf (P t) = 2) : Stepped sl T t P (cancelL L) m := by
  have wf := I.wf t
  cases hP : P t with
  | idle h => rw [hP] at hk; cases hk
  | read p => rw [hP] at hk; cases hk
  | endR => rw [hP] at hk; cases hk
  | endW => rw [hP] at hk; cases hk
  | write rd p wd =>
    rw [hP] at hf wf
    have hl : La sl t rd (p : Int) wd L := hf
    obtain ⟨w1, w2, w3, w4, w5, w6⟩ := wf
    have hp : p = 3 ∨ p = 4 ∨ p = 5 ∨ p = 6 := by omega
    rcases hp with rfl | rfl | rfl | rfl
    · have e : cancelL L = { L with p := 8 } := by unfold cancelL; rw [if_pos (show L.p = 3 from hl.p)]
      rw [e]
      have e2 := st8 (L := { L with p := 8 }) (m := m) (by show (8 : Int) ≤ 8; omega) 1
      unfold Stepped
      rw [e2.1, e2.2, hP]
      refine ⟨.idle (if rd then 1 else 0), own, I.set0 ht _ (by show (if rd then 1 else 0) ≤ 2; split <;> omega) (by rw [hP]; cases rd <;> rfl) (fun _ _ _ => by cases rd <;> exact Nat.zero_le _) (by rw [hP]; cases rd <;> exact id), by rw [mk_same P t _ (by rw [hP]; cases rd <;> rfl)]; exact ha, .inr (.inr ⟨rfl, (by show (2 : Nat) ≤ 2; omega), rfl⟩)⟩
    · have e : cancelL L = { L with p := 5 } := by unfold cancelL; rw [if_neg (by rw [hl.p]; decide), if_pos (show L.p = 4 from hl.p)]
      rw [e]
      have I2 : Inv sl T (upP P t (.write rd 5 wd)) own := I.set0 ht _ ⟨by decide, by decide, w3, w4, (fun h => by cases h), (fun h => by cases h)⟩ (by rw [hP]; rfl) (fun _ _ _ => Nat.zero_le _) (by rw [hP]; exact id)
      have m2 : mkR (upP P t (.write rd 5 wd)) = mkR P := mk_same P t _ (by rw [hP]; rfl)
      obtain ⟨ph, own', J1, J2, J3⟩ := inv_step (L := { L with p := 5 }) (m := m) I2 hT ht (by rw [m2]; exact ha) (by rw [upP_at]; exact ⟨hl.me.setP _, rfl, hl.wd⟩)
      rw [upP_upP] at J1 J2
      rw [upP_at] at J3
      unfold Stepped
      rw [hP]
      refine ⟨ph, own', J1, J2, ?_⟩
      rcases J3 with ⟨g1, g2, g3, g4, _⟩ | J3 | J3
      · exact .inl ⟨g1, g2, g3, g4, fun h => by simp [quick] at h⟩
      · exact .inr (.inl J3)
      · exact .inr (.inr J3)
    · have e : cancelL L = L := by unfold cancelL; rw [if_neg (by rw [hl.p]; decide), if_neg (by rw [hl.p]; decide)]
      rw [e]; exact inv_step I hT ht ha (by rw [hP]; exact hl)
    · have e : cancelL L = L := by unfold cancelL; rw [if_neg (by rw [hl.p]; decide), if_neg (by rw [hl.p]; decide)]
      rw [e]; exact inv_step I hT ht ha (by rw [hP]; exact hl)

/-- It has a Write, and nothing is under way. -/
def isW : Ph → Bool
  | .idle h => h == 2
  | _ => false
theorem isW_owns (ph : Ph) (h : isW ph = true) : owns ph = true ∧ strong ph = 8 ∧ hasR ph = false := by
  cases ph with
  | idle h' => simp [isW] at h; subst h; exact ⟨rfl, rfl, rfl⟩
  | read p => cases h
  | write rd p wd => cases h
  | endR => cases h
  | endW => cases h
theorem cnt_one {R : Nat → Bool} (h : ∀ a b, R a = true → R b = true → a = b) (n : Nat) : cnt 0 R n ≤ 1 := by
  induction n with
  | zero => unfold cnt; omega
  | succ n ih =>
    unfold cnt
    by_cases e : R n = true
    · rw [if_pos ⟨Nat.zero_le _, e⟩, (cnt_zero 0 R n).2 (fun u hu _ => by
        rcases hb : R u
        · rfl
        · have := h u n hb e; omega)]; omega
    · rw [if_neg (fun k => e k.2)]; omega
/-- What the law looks at behind each pick. -/
theorem Inv.fine {sl T : Nat} {P : Nat → Ph} {own : Int} (I : Inv sl T P own) (hT : T ≤ 16) (n : Nat) (hn : n ≤ T) : cnt 0 (fun u => isW (P u)) n ≤ 1 ∧ (0 < cnt 0 (fun u => isW (P u)) n → cnt 0 (fun u => hasR (P u)) n = 0) := by
  refine ⟨cnt_one (fun a b ha hb => ?_) n, fun h => ?_⟩
  · have h1 := (I.o1 a).1 (isW_owns _ ha).1
    have h2 := (I.o1 b).1 (isW_owns _ hb).1
    omega
  · obtain ⟨t, ht⟩ := cnt_some h
    obtain ⟨_, k2, k3⟩ := isW_owns _ ht
    apply (cnt_zero 0 _ n).2
    intro u hu _
    rcases hb : hasR (P u)
    · rfl
    · by_cases e : u = t
      · subst e; rw [k3] at hb; cases hb
      · have h1 := I.dr t u e hb
        rw [k2] at h1
        have := wordA_le (sl := sl) (show u < 16 by omega)
        omega
/-- A Write that is cancelled: it is at its end, or needs no other one. -/
theorem Inv.cancels {sl T t : Nat} {P : Nat → Ph} {own : Int} {L : LS} (I : Inv sl T P own) (ht : t < T) (hf : Fit sl t L (P t)) (hk : kindOf (P t) = 2) :
    ((cancelL L).p = 8 ∧ Inv sl T (upP P t (.idle (hasOf (P t)))) own ∧ mkR (upP P t (.idle (hasOf (P t)))) = mkR P) ∨
    ∃ ph, Inv sl T (upP P t ph) own ∧ mkR (upP P t ph) = mkR P ∧ Fit sl t (cancelL L) ph ∧ quick ph = true ∧ rank ph ≤ 3 ∧ kindOf ph = 2 ∧ hasOf ph = hasOf (P t) := by
  have wf := I.wf t
  cases hP : P t with
  | idle h => rw [hP] at hk; cases hk
  | read p => rw [hP] at hk; cases hk
  | endR => rw [hP] at hk; cases hk
  | endW => rw [hP] at hk; cases hk
  | write rd p wd =>
    rw [hP] at hf wf
    have hl : La sl t rd (p : Int) wd L := hf
    obtain ⟨w1, w2, w3, w4, w5, w6⟩ := wf
    have hp : p = 3 ∨ p = 4 ∨ p = 5 ∨ p = 6 := by omega
    have hself : upP P t (.write rd p wd) = P := by
      funext u; unfold upP; split
      · rename_i e; rw [e, hP]
      · rfl
    rcases hp with rfl | rfl | rfl | rfl
    · have e : cancelL L = { L with p := 8 } := by unfold cancelL; rw [if_pos (show L.p = 3 from hl.p)]
      rw [e]
      exact .inl ⟨rfl, I.set0 ht _ (by show (if rd then 1 else 0) ≤ 2; split <;> omega) (by rw [hP]; cases rd <;> rfl) (fun _ _ _ => by cases rd <;> exact Nat.zero_le _) (by rw [hP]; cases rd <;> exact id), mk_same P t _ (by rw [hP]; cases rd <;> rfl)⟩
    · have e : cancelL L = { L with p := 5 } := by unfold cancelL; rw [if_neg (by rw [hl.p]; decide), if_pos (show L.p = 4 from hl.p)]
      rw [e]
      exact .inr ⟨.write rd 5 wd, I.set0 ht _ ⟨by decide, by decide, w3, w4, (fun h => by cases h), (fun h => by cases h)⟩ (by rw [hP]; rfl) (fun _ _ _ => Nat.zero_le _) (by rw [hP]; exact id), mk_same P t _ (by rw [hP]; rfl), ⟨hl.me.setP _, rfl, hl.wd⟩, rfl, by show 1 ≤ 3; omega, rfl, rfl⟩
    · have e : cancelL L = L := by unfold cancelL; rw [if_neg (by rw [hl.p]; decide), if_neg (by rw [hl.p]; decide)]
      rw [e]; exact .inr ⟨.write rd 5 wd, by rw [hself]; exact I, by rw [hself], hl, rfl, by show 1 ≤ 3; omega, rfl, rfl⟩
    · have e : cancelL L = L := by unfold cancelL; rw [if_neg (by rw [hl.p]; decide), if_neg (by rw [hl.p]; decide)]
      rw [e]; exact .inr ⟨.write rd 6 wd, by rw [hself]; exact I, by rw [hself], hl, rfl, by show 1 ≤ 3; omega, rfl, rfl⟩
theorem quick_of {ph : Ph} (hl : live ph = true) (hk : kindOf ph ≠ 2) : quick ph = true ∧ rank ph ≤ 3 := by
  cases ph with
  | idle h => cases hl
  | read p => exact ⟨rfl, by show 3 - p ≤ 3; omega⟩
  | write rd p wd => exact absurd rfl hk
  | endR => exact ⟨rfl, by show 1 ≤ 3; omega⟩
  | endW => exact ⟨rfl, by show 1 ≤ 3; omega⟩
end Go.Proofs.Ytlhmpkeljagihaa
