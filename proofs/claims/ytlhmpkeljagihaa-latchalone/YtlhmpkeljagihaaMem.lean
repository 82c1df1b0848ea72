/- The words of one latch, as who marks and who owns; a step of a latch in these words. No Go in sight. -/
import Derived.Test.YtlhmpkeljagihaaEnv
import Derived.Test.YtlhmpkeljagihaaMathb
namespace Go.Proofs.Ytlhmpkeljagihaa
open Go.RowKit

theorem nat_mask (X s : Nat) : X &&& (255 * 2 ^ s) = X / 2 ^ s % 256 * 2 ^ s := by
  apply Nat.eq_of_testBit_eq
  intro i
  rw [Nat.testBit_and, bit_ff, Nat.testBit_mul_two_pow, show (256 : Nat) = 2 ^ 8 from rfl, Nat.testBit_mod_two_pow, Nat.testBit_div_two_pow]
  by_cases h : s ≤ i
  · rw [show i - s + s = i by omega]
    by_cases h' : i < s + 8
    · simp [h, h']; omega
    · simp [h, h']; omega
  · simp [h]
theorem and_mask (x : Int) (j : Nat) (hj : j < 8) : bits .and .i64 x (wrap64 (255 * 2 ^ (8 * j))) = wrap64 (byteOf x j * 2 ^ (8 * j)) := by
  rw [and_i64, B_wrap, B_ff, BitVec.toNat_and, BitVec.toNat_ofNat]
  have hX := toNat_B x
  generalize (B x).toNat = X at hX
  have hm : 255 * 2 ^ (8 * j) % 2 ^ 64 = 255 * 2 ^ (8 * j) := by
    rcases eight hj with rfl | rfl | rfl | rfl | rfl | rfl | rfl | rfl <;> decide
  rw [hm, nat_mask]
  unfold byteOf
  rcases eight hj with rfl | rfl | rfl | rfl | rfl | rfl | rfl | rfl <;> (simp; unfold wrap64; omega)
theorem word_zero {x : Int} (hi : In x) (h : ∀ k, k < 8 → byteOf x k = 0) : x = 0 := by
  have e8 := top_eight x
  have e7 := (top_parts x 7 (by decide)).1
  have e6 := (top_parts x 6 (by decide)).1
  have e5 := (top_parts x 5 (by decide)).1
  have e4 := (top_parts x 4 (by decide)).1
  have e3 := (top_parts x 3 (by decide)).1
  have e2 := (top_parts x 2 (by decide)).1
  have e1 := (top_parts x 1 (by decide)).1
  have e0 := (top_parts x 0 (by decide)).1
  rw [h 7 (by decide), e8] at e7
  rw [h 6 (by decide), e7] at e6
  rw [h 5 (by decide), e6] at e5
  rw [h 4 (by decide), e5] at e4
  rw [h 3 (by decide), e4] at e3
  rw [h 2 (by decide), e3] at e2
  rw [h 1 (by decide), e2] at e1
  rw [h 0 (by decide), e1, top_zero] at e0
  unfold In at hi
  omega
theorem byte_zero (j : Nat) : byteOf 0 j = 0 := by unfold byteOf; simp
theorem one_byte {v : Int} (hi : In v) (k : Nat) (hk : k < 8) : v = wrap64 (byteOf v k * 2 ^ (8 * k)) ↔ ∀ j, j < 8 → j ≠ k → byteOf v j = 0 := by
  have hp : putByte 0 k (byteOf v k) = wrap64 (byteOf v k * 2 ^ (8 * k)) := by unfold putByte; simp
  constructor
  · intro h j hj hn
    rw [h, ← hp, get_put_other 0 k j _ hk hj hn (byte_range v k).1 (byte_range v k).2, byte_zero]
  · intro h
    have h0 : putByte v k 0 = 0 := by
      refine word_zero (x := putByte v k 0) (in_wrap _) ?_
      intro j hj
      by_cases e : j = k
      · subst e; exact get_put_same v j 0 hj (by decide) (by decide)
      · rw [get_put_other v k j 0 hk hj e (by decide) (by decide)]; exact h j hj e
    unfold putByte at h0
    unfold byteOf at *
    unfold In at hi
    unfold wrap64 at *
    rcases eight hk with rfl | rfl | rfl | rfl | rfl | rfl | rfl | rfl <;> (simp at h0 ⊢; omega)

/-- R, with t turned to b. -/
def up (R : Nat → Bool) (t : Nat) (b : Bool) : Nat → Bool := fun u => if u = t then b else R u
/-- How many of the first n threads mark that have no slot. -/
def cnt (sl : Nat) (R : Nat → Bool) : Nat → Int
  | 0 => 0
  | n + 1 => cnt sl R n + if sl ≤ n ∧ R n = true then 1 else 0
theorem cnt_in (sl : Nat) (R : Nat → Bool) (n : Nat) : 0 ≤ cnt sl R n ∧ cnt sl R n ≤ n := by
  induction n with
  | zero => exact ⟨Int.le_refl _, Int.le_refl _⟩
  | succ n ih => unfold cnt; split <;> omega
theorem cnt_zero (sl : Nat) (R : Nat → Bool) (n : Nat) : cnt sl R n = 0 ↔ ∀ u, u < n → sl ≤ u → R u = false := by
  induction n with
  | zero => exact ⟨fun _ u hu => absurd hu (Nat.not_lt_zero u), fun _ => rfl⟩
  | succ n ih =>
    have hi := cnt_in sl R n
    unfold cnt
    constructor
    · intro h u hu hs
      split at h
      · omega
      · rename_i hn
        by_cases e : u = n
        · subst e
          rcases hb : R u
          · rfl
          · exact absurd ⟨hs, hb⟩ hn
        · exact ih.1 (by omega) u (by omega) hs
    · intro h
      rw [if_neg (by rintro ⟨h1, h2⟩; rw [h n (by omega) h1] at h2; cases h2)]
      rw [ih.2 (fun u hu => h u (by omega))]; rfl
theorem cnt_same (sl : Nat) (R R' : Nat → Bool) (n : Nat) (h : ∀ u, u < n → sl ≤ u → R u = R' u) : cnt sl R n = cnt sl R' n := by
  induction n with
  | zero => rfl
  | succ n ih =>
    unfold cnt
    rw [ih (fun u hu => h u (by omega))]
    by_cases hs : sl ≤ n
    · rw [h n (by omega) hs]
    · rw [if_neg (fun e => hs e.1), if_neg (fun e => hs e.1)]
theorem cnt_up (sl : Nat) (R : Nat → Bool) (t n : Nat) (ht : t < n) (hs : sl ≤ t) (hR : R t = false) : cnt sl (up R t true) n = cnt sl R n + 1 := by
  induction n with
  | zero => omega
  | succ n ih =>
    unfold cnt
    by_cases e : t = n
    · subst e
      rw [cnt_same sl (up R t true) R t (fun u hu _ => by unfold up; rw [if_neg (by omega)])]
      rw [if_pos ⟨hs, by simp [up]⟩, if_neg (by rw [hR]; simp)]; omega
    · rw [ih (by omega), show up R t true n = R n by unfold up; rw [if_neg (by omega)]]; omega
theorem up_up (R : Nat → Bool) (t : Nat) (a b : Bool) : up (up R t a) t b = up R t b := by
  funext u; unfold up; split <;> rfl
theorem up_self (R : Nat → Bool) (t : Nat) (b : Bool) (h : R t = b) : up R t b = R := by
  funext u; unfold up; split
  · rename_i e; rw [e, h]
  · rfl
theorem up_at (R : Nat → Bool) (t : Nat) (b : Bool) : up R t b t = b := by simp [up]
theorem cnt_down (sl : Nat) (R : Nat → Bool) (t n : Nat) (ht : t < n) (hs : sl ≤ t) (hR : R t = true) : cnt sl R n = cnt sl (up R t false) n + 1 := by
  have := cnt_up sl (up R t false) t n ht hs (up_at R t false)
  rw [up_up, up_self R t true hR] at this
  exact this

/-- The words of a latch whose owner's cell is 1: who owns, who marks (sl threads have a slot, sixteen threads in all). -/
structure Ab (sl : Nat) (own : Int) (R : Nat → Bool) (f : Nat → Int) : Prop where
  z : f 0 = 0
  o : f 1 = own
  b : ∀ q k, q < 6 → k < 8 → byteOf (f (2 + q)) k = if 8 * q + k < sl ∧ R (8 * q + k) = true then 1 else 0
  i : ∀ q, q < 6 → In (f (2 + q))
  c : f 8 = cnt sl R 16
  r : ∀ u, 16 ≤ u → R u = false
theorem ab_zero (sl : Nat) : Ab sl 0 (fun _ => false) (fun _ => 0) :=
  ⟨rfl, rfl, fun q k _ _ => by rw [byte_zero, if_neg (by simp)], fun _ _ => by unfold In; omega, ((cnt_zero sl _ 16).2 (fun _ _ _ => rfl)).symm, fun _ _ => rfl⟩
theorem Ab.own {sl : Nat} {own : Int} {R : Nat → Bool} {f : Nat → Int} (h : Ab sl own R f) (v : Int) : Ab sl v R (setW f 1 v) := by
  refine ⟨?_, ?_, fun q k hq hk => ?_, fun q hq => ?_, ?_, h.r⟩
  · unfold setW; rw [if_neg (by omega)]; exact h.z
  · unfold setW; rw [if_pos (by omega)]
  · unfold setW; rw [if_neg (by omega)]; exact h.b q k hq hk
  · unfold setW; rw [if_neg (by omega)]; exact h.i q hq
  · unfold setW; rw [if_neg (by omega)]; exact h.c
/-- All words are 0 when nobody is there. -/
theorem Ab.clean {sl : Nat} {R : Nat → Bool} {f : Nat → Int} (h : Ab sl 0 R f) (hR : ∀ u, R u = false) (i : Nat) (hi : i < 9) : f i = 0 := by
  have : i = 0 ∨ i = 1 ∨ i = 8 ∨ (2 ≤ i ∧ i < 8) := by omega
  rcases this with rfl | rfl | rfl | ⟨h1, h2⟩
  · exact h.z
  · exact h.o
  · rw [h.c]; exact (cnt_zero sl R 16).2 (fun u _ _ => hR u)
  · obtain ⟨q, rfl⟩ : ∃ q, i = 2 + q := ⟨i - 2, by omega⟩
    apply word_zero (h.i q (by omega))
    intro k hk
    rw [h.b q k (by omega) hk, hR, if_neg (by simp)]

/-- A latch of the thread t over these words. -/
structure Me (sl t : Nat) (rd : Bool) (L : LS) : Prop where
  mo : L.o = 1
  mt : L.t = (t : Int)
  ms : L.sl = decide (t < sl)
  mr : L.rd = rd
theorem markF_slot {sl t : Nat} {rd : Bool} {L : LS} (m : Me sl t rd L) (ht : t < sl) (f : Nat → Int) (u : Bool) : markF f L u = setW f ((2 + t / 8 : Nat) : Int) (putByte (f (2 + t / 8)) (t % 8) (if u then 1 else 0)) := by
  have hsl : L.sl = true := by rw [m.ms]; simp [ht]
  have ho : L.o + ow L = ((2 + t / 8 : Nat) : Int) := by unfold ow; rw [hsl, if_pos rfl, m.mo, m.mt]; omega
  unfold markF
  rw [hsl, if_pos rfl, ho, m.mt, show ((2 + t / 8 : Nat) : Int).toNat = 2 + t / 8 by omega, show ((t : Int) % 8).toNat = t % 8 by omega]
theorem markF_cnt {sl t : Nat} {rd : Bool} {L : LS} (m : Me sl t rd L) (ht : ¬ t < sl) (f : Nat → Int) (u : Bool) : markF f L u = setW f 8 (wrap64 (f 8 + if u then 1 else -1)) := by
  have hsl : L.sl = false := by rw [m.ms]; simp; omega
  unfold markF
  rw [hsl, m.mo]; rfl
theorem Ab.mark {sl : Nat} {own : Int} {R : Nat → Bool} {f : Nat → Int} (h : Ab sl own R f) {t : Nat} {rd : Bool} {L : LS} (m : Me sl t rd L) (h16 : t < 16) (u : Bool) (hR : R t = !u) : Ab sl own (up R t u) (markF f L u) := by
  by_cases ht : t < sl
  · rw [markF_slot m ht]
    refine ⟨?_, ?_, fun q k hq hk => ?_, fun q hq => ?_, ?_, fun v hv => ?_⟩
    · unfold setW; rw [if_neg (by omega)]; exact h.z
    · unfold setW; rw [if_neg (by omega)]; exact h.o
    · unfold setW
      by_cases e : q = t / 8
      · subst e
        rw [if_pos rfl]
        by_cases ek : k = t % 8
        · subst ek
          rw [get_put_same _ _ _ (by omega) (by split <;> omega) (by split <;> omega), show 8 * (t / 8) + t % 8 = t by omega, up_at]
          cases u
          · simp
          · simp [ht]
        · rw [get_put_other _ _ _ _ (by omega) hk ek (by split <;> omega) (by split <;> omega), h.b _ _ hq hk]
          unfold up; rw [if_neg (show ¬ 8 * (t / 8) + k = t by omega)]
      · rw [if_neg (by omega), h.b q k hq hk]
        unfold up; rw [if_neg (show ¬ 8 * q + k = t by omega)]
    · unfold setW
      by_cases e : q = t / 8
      · subst e; rw [if_pos rfl]; exact in_wrap _
      · rw [if_neg (by omega)]; exact h.i q hq
    · unfold setW; rw [if_neg (by omega), h.c]
      apply cnt_same
      intro v hv hs; unfold up; rw [if_neg (by omega)]
    · unfold up; rw [if_neg (by omega)]; exact h.r v hv
  · rw [markF_cnt m ht]
    have hc := cnt_in sl R 16
    refine ⟨?_, ?_, fun q k hq hk => ?_, fun q hq => ?_, ?_, fun v hv => ?_⟩
    · unfold setW; rw [if_neg (by omega)]; exact h.z
    · unfold setW; rw [if_neg (by omega)]; exact h.o
    · unfold setW; rw [if_neg (by omega), h.b q k hq hk]
      by_cases e : 8 * q + k = t
      · rw [if_neg (by omega), if_neg (by omega)]
      · unfold up; rw [if_neg e]
    · unfold setW; rw [if_neg (by omega)]; exact h.i q hq
    · unfold setW; rw [if_pos (by rfl), h.c]
      cases u
      · have := cnt_down sl R t 16 h16 (by omega) (by simpa using hR)
        have := cnt_in sl (up R t false) 16
        simp only [Bool.false_eq_true, if_false]
        rw [wrap_in (by omega) (by omega)]; omega
      · have := cnt_up sl R t 16 h16 (by omega) (by simpa using hR)
        simp only [if_true]
        rw [wrap_in (by omega) (by omega)]; omega
    · unfold up; rw [if_neg (by omega)]; exact h.r v hv

/-- The word in which the thread u marks. -/
def wordA (sl u : Nat) : Nat := if u < sl then 1 + u / 8 else 7
/-- Nobody but itself keeps it waiting at the word wd. -/
def FreeA (sl t : Nat) (rd : Bool) (R : Nat → Bool) (wd : Nat) : Prop := ∀ u, R u = true → wordA sl u = wd → rd = true ∧ u = t
theorem Ab.free {sl : Nat} {own : Int} {R : Nat → Bool} {f : Nat → Int} (h : Ab sl own R f) {t : Nat} {rd : Bool} {L : LS} (m : Me sl t rd L) (h16 : t < 16) (hR : rd = true → R t = true) (wd : Nat) (w1 : 1 ≤ wd) (w7 : wd ≤ 7) (hw : L.wd = (wd : Int)) :
    (f (1 + wd) = part L (f (1 + wd))) ↔ FreeA sl t rd R wd := by
  have how : ow L = (wordA sl t : Int) := by
    unfold ow wordA; rw [m.ms, m.mt]
    by_cases ht : t < sl
    · simp [ht]
    · simp [ht]
  by_cases e7 : wd = 7
  · subst e7
    have h8 : ∀ u, R u = true → u < 16 := fun u hu => by
      by_cases e : u < 16
      · exact e
      · rw [h.r u (by omega)] at hu; cases hu
    have hwd : ∀ u, u < 48 → wordA sl u = 7 → sl ≤ u := fun u hu e => by unfold wordA at e; split at e <;> omega
    show f 8 = part L (f 8) ↔ _
    rw [h.c]
    unfold part
    rw [how, hw, m.mr, m.ms]
    by_cases hrd : rd = true ∧ ¬ t < sl
    · obtain ⟨hr, hts⟩ := hrd
      have h7 : wordA sl t = 7 := by unfold wordA; rw [if_neg hts]
      rw [if_neg (by rw [h7, hr]; simp), if_neg (by simp; omega)]
      have hd := cnt_down sl R t 16 h16 (by omega) (hR hr)
      constructor
      · intro hc u hu hw
        refine ⟨hr, ?_⟩
        have hz := (cnt_zero sl (up R t false) 16).1 (by omega) u (h8 u hu) (hwd u (by have := h8 u hu; omega) hw)
        by_cases e : u = t
        · exact e
        · unfold up at hz; rw [if_neg e, hu] at hz; cases hz
      · intro hF
        have hz := (cnt_zero sl (up R t false) 16).2 (fun u hu hs => by
          unfold up
          split
          · rfl
          · rename_i e
            rcases hb : R u
            · rfl
            · exact absurd (hF u hb (by unfold wordA; rw [if_neg (by omega)])).2 e)
        omega
    · have h0 : part L (cnt sl R 16) = 0 := by
        unfold part
        rw [how, hw, m.mr, m.ms]
        rw [if_pos]
        rcases hr : rd
        · exact .inl rfl
        · refine .inr (fun e => hrd ⟨hr, fun hts => ?_⟩)
          unfold wordA at e; rw [if_pos hts] at e; omega
      unfold part at h0
      rw [how, hw, m.mr, m.ms] at h0
      rw [h0, cnt_zero]
      constructor
      · intro hz u hu hw
        rw [hz u (h8 u hu) (hwd u (by have := h8 u hu; omega) hw)] at hu; cases hu
      · intro hF u hu hs
        rcases hb : R u
        · rfl
        · have := hF u hb (by unfold wordA; rw [if_neg (by omega)])
          exact absurd ⟨this.1, by omega⟩ hrd
  · obtain ⟨q, rfl⟩ : ∃ q, wd = 1 + q := ⟨wd - 1, by omega⟩
    have hq : q < 6 := by omega
    have hb := h.b q
    have hi := h.i q hq
    rw [show 1 + (1 + q) = 2 + q by omega]
    have hmem : ∀ u, R u = true → wordA sl u = 1 + q → u = 8 * q + u % 8 ∧ 8 * q + u % 8 < sl := fun u hu e => by
      unfold wordA at e; split at e <;> omega
    unfold part
    rw [how, hw, m.mr, m.ms, m.mt]
    by_cases hrd : rd = true ∧ wordA sl t = 1 + q
    · obtain ⟨hr, hwt⟩ := hrd
      have hts : t < sl := by unfold wordA at hwt; split at hwt <;> omega
      have hq8 : t = 8 * q + t % 8 := (hmem t (hR hr) hwt).1
      rw [if_neg (by rw [hr, hwt]; simp), if_pos (by simp [hts]), show ((t : Int) % 8).toNat = t % 8 by omega, and_mask _ _ (by omega), one_byte hi _ (by omega)]
      constructor
      · intro hz u hu hw
        refine ⟨hr, ?_⟩
        obtain ⟨g1, g2⟩ := hmem u hu hw
        by_cases e : u % 8 = t % 8
        · omega
        · have := hz (u % 8) (by omega) e
          rw [hb _ hq (by omega), ← g1, if_pos ⟨by omega, hu⟩] at this
          omega
      · intro hF j hj hn
        rw [hb j hq hj, if_neg]
        rintro ⟨g1, g2⟩
        have := (hF (8 * q + j) g2 (by unfold wordA; rw [if_pos g1]; omega)).2
        omega
    · rw [if_pos]
      · constructor
        · intro hz u hu hw
          obtain ⟨g1, g2⟩ := hmem u hu hw
          have := hb (u % 8) hq (by omega)
          rw [hz, byte_zero, ← g1, if_pos ⟨by omega, hu⟩] at this
          omega
        · intro hF
          apply word_zero hi
          intro j hj
          rw [hb j hq hj, if_neg]
          rintro ⟨g1, g2⟩
          have hw' : wordA sl (8 * q + j) = 1 + q := by unfold wordA; rw [if_pos g1]; omega
          have := hF (8 * q + j) g2 hw'
          exact hrd ⟨this.1, by rw [← this.2]; exact hw'⟩
      · rcases hr : rd
        · exact .inl rfl
        · refine .inr (fun e => hrd ⟨hr, by omega⟩)

/-- A latch of t that stands at p, and drains the word wd. -/
structure La (sl t : Nat) (rd : Bool) (p : Int) (wd : Nat) (L : LS) : Prop where
  me : Me sl t rd L
  p : L.p = p
  wd : L.wd = (wd : Int)
theorem Me.more {sl t : Nat} {rd : Bool} {L : LS} (m : Me sl t rd L) : Me sl t rd (more L) := ⟨m.mo, m.mt, m.ms, m.mr⟩
theorem Me.setP {sl t : Nat} {rd : Bool} {L : LS} (m : Me sl t rd L) (p : Int) : Me sl t rd { L with p := p } := ⟨m.mo, m.mt, m.ms, m.mr⟩
theorem it1L (L : LS) (m : Mm) : itL 1 L m = stepL m.f L := rfl
theorem it1M (L : LS) (m : Mm) : (itM 1 L m).f = stepF m.f L := rfl
theorem La.step {sl t : Nat} {rd : Bool} {p : Int} {wd : Nat} {L : LS} (h : La sl t rd p wd L) (hp : p < 8) (m : Mm) : itL 1 L m = accL m.f (more L) ∧ (itM 1 L m).f = accF m.f (more L) ∧ (more L).p = p ∧ (more L).wd = (wd : Int) ∧ (more L).o = 1 := by
  have h1 : ¬ 8 ≤ L.p := by rw [h.p]; omega
  have h2 : ¬ L.o < 0 := by rw [h.me.mo]; omega
  rw [it1L, it1M]
  unfold stepL stepF
  rw [if_neg h1, if_neg h1, if_neg h2, if_neg h2]
  exact ⟨rfl, rfl, h.p, h.wd, h.me.mo⟩
section
variable {sl t : Nat} {rd : Bool} {wd : Nat} {L : LS} {own : Int} {R : Nat → Bool} {m : Mm}
theorem st0 (h : La sl t rd 0 wd L) (ha : Ab sl own R m.f) (h16 : t < 16) (hR : R t = false) : La sl t rd 1 wd (itL 1 L m) ∧ Ab sl own (up R t true) (itM 1 L m).f := by
  obtain ⟨e1, e2, e3, e4, e5⟩ := h.step (by decide) m
  rw [e1, e2]; unfold accL accF; simp only [e3]
  exact ⟨⟨h.me.more.setP _, rfl, e4⟩, ha.mark h.me.more h16 true hR⟩
theorem st1 (h : La sl t rd 1 wd L) (ha : Ab sl own R m.f) : La sl t rd (if own = 0 ∨ own = (t : Int) + 1 then 9 else 2) wd (itL 1 L m) ∧ Ab sl own R (itM 1 L m).f := by
  obtain ⟨e1, e2, e3, e4, e5⟩ := h.step (by decide) m
  rw [e1, e2]; unfold accL accF; simp only [e3]
  refine ⟨⟨h.me.more.setP _, ?_, e4⟩, ha⟩
  show lookP (more L) (m.f (more L).o.toNat) = _
  unfold lookP
  rw [e5, show (1 : Int).toNat = 1 from rfl, ha.o, h.me.more.mt]
theorem st2 (h : La sl t rd 2 wd L) (ha : Ab sl own R m.f) (h16 : t < 16) (hR : R t = true) : La sl t rd 8 wd (itL 1 L m) ∧ Ab sl own (up R t false) (itM 1 L m).f := by
  obtain ⟨e1, e2, e3, e4, e5⟩ := h.step (by decide) m
  rw [e1, e2]; unfold accL accF; simp only [e3]
  exact ⟨⟨h.me.more.setP _, rfl, e4⟩, ha.mark h.me.more h16 false hR⟩
theorem st3a (h : La sl t rd 3 wd L) (ha : Ab sl 0 R m.f) : La sl t rd 4 wd (itL 1 L m) ∧ Ab sl ((t : Int) + 1) R (itM 1 L m).f := by
  obtain ⟨e1, e2, e3, e4, e5⟩ := h.step (by decide) m
  have e6 : m.f (more L).o.toNat = 0 := by rw [e5]; exact ha.o
  rw [e1, e2]; unfold accL accF; simp only [e3]
  refine ⟨⟨h.me.more.setP _, ?_, e4⟩, ?_⟩
  · show claimP m.f (more L) = 4
    unfold claimP; rw [if_pos e6]
  · show Ab sl ((t : Int) + 1) R (claimF m.f (more L))
    unfold claimF; rw [if_pos e6, e5, h.me.more.mt]
    exact ha.own _
theorem st3b (h : La sl t rd 3 wd L) (ha : Ab sl own R m.f) (ho : own ≠ 0) : La sl t rd 8 wd (itL 1 L m) ∧ Ab sl own R (itM 1 L m).f := by
  obtain ⟨e1, e2, e3, e4, e5⟩ := h.step (by decide) m
  have e6 : ¬ m.f (more L).o.toNat = 0 := by rw [e5]; show ¬ m.f 1 = 0; rw [ha.o]; exact ho
  rw [e1, e2]; unfold accL accF; simp only [e3]
  refine ⟨⟨h.me.more.setP _, ?_, e4⟩, ?_⟩
  · show claimP m.f (more L) = 8
    unfold claimP; rw [if_neg e6]
  · show Ab sl own R (claimF m.f (more L))
    unfold claimF; rw [if_neg e6]; exact ha
theorem st4 (h : La sl t rd 4 wd L) (ha : Ab sl own R m.f) (h16 : t < 16) (hR : rd = true → R t = true) (w1 : 1 ≤ wd) (w7 : wd ≤ 7) :
    Ab sl own R (itM 1 L m).f ∧ (¬ FreeA sl t rd R wd → La sl t rd 4 wd (itL 1 L m)) ∧ (FreeA sl t rd R wd → wd < 7 → La sl t rd 4 (wd + 1) (itL 1 L m)) ∧ (FreeA sl t rd R wd → wd = 7 → rd = true → La sl t rd 6 wd (itL 1 L m)) ∧ (FreeA sl t rd R wd → wd = 7 → rd = false → La sl t rd 9 wd (itL 1 L m)) := by
  obtain ⟨e1, e2, e3, e4, e5⟩ := h.step (by decide) m
  have hf := ha.free h.me.more h16 hR wd w1 w7 e4
  have e6 : ((more L).o + (more L).wd).toNat = 1 + wd := by rw [e5, e4]; omega
  rw [e1, e2]; unfold accL accF; simp only [e3]
  refine ⟨ha, ?_⟩
  show (_ → La sl t rd 4 wd (drainL (more L) (m.f ((more L).o + (more L).wd).toNat))) ∧ (_ → _ → La sl t rd 4 (wd + 1) (drainL (more L) (m.f ((more L).o + (more L).wd).toNat))) ∧ (_ → _ → _ → La sl t rd 6 wd (drainL (more L) (m.f ((more L).o + (more L).wd).toNat))) ∧ (_ → _ → _ → La sl t rd 9 wd (drainL (more L) (m.f ((more L).o + (more L).wd).toNat)))
  rw [e6]
  unfold drainL
  refine ⟨fun hn => ?_, fun hy hw => ?_, fun hy hw hr => ?_, fun hy hw hr => ?_⟩
  · rw [if_pos (fun e => hn (hf.1 e))]
    exact ⟨h.me.more.setP _, rfl, e4⟩
  · rw [if_neg (fun e => e (hf.2 hy)), if_pos (by rw [e4]; omega)]
    exact ⟨⟨h.me.mo, h.me.mt, h.me.ms, h.me.mr⟩, rfl, by show (more L).wd + 1 = _; rw [e4]; omega⟩
  · rw [if_neg (fun e => e (hf.2 hy)), if_neg (by rw [e4]; omega), if_pos (by rw [h.me.more.mr]; exact hr)]
    exact ⟨h.me.more.setP _, rfl, e4⟩
  · rw [if_neg (fun e => e (hf.2 hy)), if_neg (by rw [e4]; omega), if_neg (by rw [h.me.more.mr, hr]; simp)]
    exact ⟨h.me.more.setP _, rfl, e4⟩
theorem st5 (h : La sl t rd 5 wd L) (ha : Ab sl own R m.f) : La sl t rd 8 wd (itL 1 L m) ∧ Ab sl 0 R (itM 1 L m).f := by
  obtain ⟨e1, e2, e3, e4, e5⟩ := h.step (by decide) m
  rw [e1, e2]; unfold accL accF; simp only [e3]
  refine ⟨⟨h.me.more.setP _, rfl, e4⟩, ?_⟩
  show Ab sl 0 R (setW m.f (more L).o 0)
  rw [e5]; exact ha.own _
theorem st6 (h : La sl t rd 6 wd L) (ha : Ab sl own R m.f) (h16 : t < 16) (hR : R t = true) : La sl t rd 9 wd (itL 1 L m) ∧ Ab sl own (up R t false) (itM 1 L m).f := by
  obtain ⟨e1, e2, e3, e4, e5⟩ := h.step (by decide) m
  rw [e1, e2]; unfold accL accF; simp only [e3]
  exact ⟨⟨h.me.more.setP _, rfl, e4⟩, ha.mark h.me.more h16 false hR⟩
theorem st7 (h : La sl t rd 7 wd L) (ha : Ab sl own R m.f) : La sl t rd 9 wd (itL 1 L m) ∧ Ab sl 0 R (itM 1 L m).f := by
  obtain ⟨e1, e2, e3, e4, e5⟩ := h.step (by decide) m
  rw [e1, e2]; unfold accL accF; simp only [e3]
  refine ⟨⟨h.me.more.setP _, rfl, e4⟩, ?_⟩
  show Ab sl 0 R (setW m.f (more L).o 0)
  rw [e5]; exact ha.own _
theorem st8 (h : 8 ≤ L.p) (k : Nat) : itL k L m = L ∧ itM k L m = m := by
  have := itS_done (s := ⟨L, m.f, m.c⟩) (k := 0) h k (Nat.zero_le _)
  unfold itL itM
  rw [this]
  exact ⟨rfl, rfl⟩
end
theorem it_add (j k : Nat) (L : LS) (m : Mm) : itL (j + k) L m = itL k (itL j L m) (itM j L m) ∧ itM (j + k) L m = itM k (itL j L m) (itM j L m) := by
  induction k with
  | zero => exact ⟨rfl, rfl⟩
  | succ k ih =>
    have h1 := it_succ (j + k) L m
    have h2 := it_succ k (itL j L m) (itM j L m)
    rw [show j + (k + 1) = j + k + 1 from rfl, ← h1.1, ← h1.2, ← h2.1, ← h2.2, ih.1, ih.2]
    exact ⟨rfl, rfl⟩
/-- New latches. -/
theorem la_new {sl T t : Nat} (c : Cf) (hc : c = oneC (T : Int) (sl : Int)) (hl : latchD c 2 = 1) (ht : t < T) (p : Int) (rd : Bool) (wd : Nat) : La sl t rd p wd (newL p c 2 (t : Int) rd (wd : Int)) := by
  subst hc
  refine ⟨⟨?_, rfl, ?_, rfl⟩, rfl, rfl⟩
  · show (if 0 ≤ (t : Int) ∧ (t : Int) < (T : Int) then _ else _) = _
    rw [if_pos (by omega), hl]
  · show decide ((t : Int) < (sl : Int)) = _
    simp
end Go.Proofs.Ytlhmpkeljagihaa
