/- Texts of this claim, put together in their order. -/
import Derived.Test.YtdhpahopfmcdkaaBase1
import Derived.Test.YtdhpahopfmcdkaaBase2
import Derived.Test.YtdhpahopfmcdkaaBase3
import Derived.Test.YtdhpahopfmcdkaaBase4
import Derived.Test.YtdhpahopfmcdkaaBase5
import Derived.Test.YtdhpahopfmcdkaaBase6
import Derived.Test.YtdhpahopfmcdkaaBase7
import Derived.Test.YtdhpahopfmcdkaaBase8
/- PathThree, plainly: the six requests. -/
namespace Go.Proofs.Ytdhpahopfmcdkaa
open Go.RowKit

def vr (i : Nat) : Int := if 4 ≤ i then 2 else if 1 ≤ i then 1 else 0
def vo (i : Nat) : Int := if 5 ≤ i then 2 else if 2 ≤ i then 1 else 0
def vs (i : Nat) : Int := if 6 ≤ i then 5 else if 3 ≤ i then 3 else 0
/-- What is held behind i requests. -/
def fS (r o s i : Nat) : Nat → Int := fun j => if j = r then vr i else if j = o then vo i else if j = s then vs i else 0
/-- The request i: where, and for what. -/
def nd (r o s i : Nat) : Nat := if i % 3 = 0 then r else if i % 3 = 1 then o else s
def wS (i : Nat) : Int := [1, 1, 3, 2, 2, 5].getD i 0
theorem fS_0 (r o s : Nat) : fS r o s 0 = zer := by
  funext j; unfold fS zer vr vo vs; simp
variable {c : Cf} {n : Nat} {a : Int} {r o s : Nat}
theorem N3.fr (_ : N3 c n a r o s) (i : Nat) : fS r o s i r = vr i := by simp [fS]
theorem N3.fo (h : N3 c n a r o s) (i : Nat) : fS r o s i o = vo i := by simp [fS, h.ro.symm]
theorem N3.fs (h : N3 c n a r o s) (i : Nat) : fS r o s i s = vs i := by simp [fS, h.rs.symm, h.os.symm]
theorem six_of {i : Nat} (h : i < 6) : i = 0 ∨ i = 1 ∨ i = 2 ∨ i = 3 ∨ i = 4 ∨ i = 5 := by omega
theorem N3.set_r (_ : N3 c n a r o s) (i : Nat) {x : Int} (hx : x = vr (i + 1)) (h2 : vo (i + 1) = vo i) (h3 : vs (i + 1) = vs i) : set1 (fS r o s i) r x = fS r o s (i + 1) := by
  funext j
  unfold set1 fS
  rw [h2, h3, hx]
  by_cases e : j = r
  · rw [if_pos e, if_pos e]
  · rw [if_neg e, if_neg e, if_neg e]
theorem N3.set_o (h : N3 c n a r o s) (i : Nat) {x : Int} (hx : x = vo (i + 1)) (h1 : vr (i + 1) = vr i) (h3 : vs (i + 1) = vs i) : set1 (fS r o s i) o x = fS r o s (i + 1) := by
  funext j
  unfold set1 fS
  rw [h1, h3, hx]
  by_cases e : j = o
  · rw [if_pos e, if_neg (by rw [e]; exact h.ro.symm), if_pos e]
  · rw [if_neg e, if_neg e, if_neg e]
theorem N3.set_s (h : N3 c n a r o s) (i : Nat) {x : Int} (hx : x = vs (i + 1)) (h1 : vr (i + 1) = vr i) (h2 : vo (i + 1) = vo i) : set1 (fS r o s i) s x = fS r o s (i + 1) := by
  funext j
  unfold set1 fS
  rw [h1, h2, hx]
  by_cases e : j = s
  · rw [if_pos e, if_neg (by rw [e]; exact h.rs.symm), if_neg (by rw [e]; exact h.os.symm), if_pos e]
  · rw [if_neg e, if_neg e, if_neg e]
theorem N3.step (h : N3 c n a r o s) {i : Nat} (hi : i < 6) : set1 (fS r o s i) (nd r o s i) (goal (fS r o s i (nd r o s i)) (wS i)) = fS r o s (i + 1) := by
  rcases six_of hi with rfl | rfl | rfl | rfl | rfl | rfl
  · show set1 _ r (goal (fS r o s 0 r) _) = _
    rw [h.fr]; exact h.set_r 0 (by decide +kernel) (by decide) (by decide)
  · show set1 _ o (goal (fS r o s 1 o) _) = _
    rw [h.fo]; exact h.set_o 1 (by decide +kernel) (by decide) (by decide)
  · show set1 _ s (goal (fS r o s 2 s) _) = _
    rw [h.fs]; exact h.set_s 2 (by decide +kernel) (by decide) (by decide)
  · show set1 _ r (goal (fS r o s 3 r) _) = _
    rw [h.fr]; exact h.set_r 3 (by decide +kernel) (by decide) (by decide)
  · show set1 _ o (goal (fS r o s 4 o) _) = _
    rw [h.fo]; exact h.set_o 4 (by decide +kernel) (by decide) (by decide)
  · show set1 _ s (goal (fS r o s 5 s) _) = _
    rw [h.fs]; exact h.set_s 5 (by decide +kernel) (by decide) (by decide)
theorem N3.cnt (h : N3 c n a r o s) : ∀ i, i ≤ 6 → cntN (fS r o s i) n ≤ i
  | 0, _ => by rw [fS_0, cntN_zer]; omega
  | i + 1, hi => by
    have := h.cnt i (by omega)
    have h2 := cntN_set1 (fS r o s i) (nd r o s i) (goal (fS r o s i (nd r o s i)) (wS i)) n
    rw [h.step (by omega)] at h2
    omega
theorem N3.three_ask (h : N3 c n a r o s) {i : Nat} (hi : i < 6) : askT n 100 (duo (fS r o s i) zer) 0 (nd r o s i : Int) (wS i) = ((1, 0), duo (fS r o s (i + 1)) zer) := by
  have hn : nd r o s i < n := by
    unfold nd
    split
    · exact h.rn
    · split
      · exact h.on
      · exact h.sn
  have hz : mz (fS r o s i (nd r o s i)) := by
    unfold fS vr vo vs mz
    repeat' split
    all_goals omega
  have hm : md (wS i) := by
    rcases six_of hi with rfl | rfl | rfl | rfl | rfl | rfl <;> exact ⟨by decide, by decide⟩
  have e := duo_ask0 (f := fS r o s i) (g := zer) (m := wS i) (most := 100) hn hm hz (show mz 0 from ⟨by decide, by decide⟩) (.inl rfl) (by rw [duo_len, cntN_zer]; have := h.cnt i (by omega); omega)
  rw [h.step hi] at e
  exact e
/-- Which of the kinds: 0 nothing, 1 the region, 2 the whole object, 3 the object, 4 the stripe. -/
def kindK (hr ho hs : Int) (esc write : Bool) : Nat :=
  if coversB hr (inD write) = false then 1 else if wholeB write ho = true then 0 else if coversB hs (wantD write) = false ∧ esc = true then 2
  else if coversB ho (inD write) = false then 3 else if coversB hs (wantD write) = false then 4 else 0
def pickK (write : Bool) (r o s : Int) (k : Nat) : (Int × Int) × Bool :=
  if k = 1 then ((r, inD write), true) else if k = 2 then ((o, wantD write), true) else if k = 3 then ((o, inD write), true) else if k = 4 then ((s, wantD write), true) else ((0, 0), false)
theorem nextK_kind (hr ho hs : Int) (esc write : Bool) (r o s : Int) : nextK hr ho hs esc write r o s = pickK write r o s (kindK hr ho hs esc write) := by
  unfold nextK kindK pickK
  cases coversB hr (inD write) <;> cases wholeB write ho <;> cases coversB hs (wantD write) <;> cases esc <;> cases coversB ho (inD write) <;> rfl
theorem three_kind : ∀ i : Fin 6, kindK (vr i.val) (vo i.val) (vs i.val) false (decide (3 ≤ i.val)) = [1, 3, 4, 1, 3, 4].getD i.val 0 := by decide +kernel
theorem N3.three_next (h : N3 c n a r o s) (he : c.e = 0) {i : Nat} (hi : i < 6) : nextD c n (duo (fS r o s i) zer) 0 a (decide (3 ≤ i)) = (((nd r o s i : Int), wS i), true) := by
  rw [h.next0, esc_zero he, h.fr, h.fo, h.fs, nextK_kind, three_kind ⟨i, hi⟩]
  rcases six_of hi with rfl | rfl | rfl | rfl | rfl | rfl <;> rfl
theorem three_end : ∀ i : Fin 6, i.val % 3 = 2 → nx2 (vr (i.val + 1)) (vo (i.val + 1)) (vs (i.val + 1)) false (decide (3 ≤ i.val)) = false := by decide +kernel
theorem N3.three_more (h : N3 c n a r o s) (he : c.e = 0) {i : Nat} (hi : i < 6) (h2 : i % 3 = 2) : (nextD c n (duo (fS r o s (i + 1)) zer) 0 a (decide (3 ≤ i))).2 = false := by
  rw [h.next0, esc_zero he, h.fr, h.fo, h.fs, nextK_2]
  exact three_end ⟨i, hi⟩ h2
theorem N3.three_read (h : N3 c n a r o s) (he : c.e = 0) : (nextD c n (duo (fS r o s 6) zer) 0 a false).2 = false := by
  rw [h.next0, esc_zero he, h.fr, h.fo, h.fs, nextK_2]
  decide +kernel
theorem N3.three_str (h : N3 c n a r o s) (hok : okB c = true) (hn : (n : Int) = nodesD c) (h0 : 0 ≤ a) (h1 : a < nw c) : strD c n (duo (fS r o s 6) zer) 0 (o : Int) = 1 ∧ strD c n (duo (fS r o s 6) zer) 1 (o : Int) = 0 := by
  obtain ⟨hl, f, i, k, f1, f2, f3, f4, f5, f6⟩ := h.str hok hn h0 h1
  have hrf : r < f := by
    have e1 := h.hr
    have e2 := h.ho
    have hp := okB_hp hok
    have := (o_in hp h0 h1).1
    have := (r_in hp h0 h1).2
    omega
  have hk : c.s.toNat = k := by omega
  unfold strD
  rw [if_pos hl, if_pos hl, f1, hk]
  constructor
  · have := strK_one (n := n) (T := duo (fS r o s 6) zer) (who := 0) (f := (f : Int)) (i := i) ?_ k (fun j hj hne => ?_)
    · rw [this, if_pos f4]
    · rw [show (f : Int) + (i : Int) = ((f + i : Nat) : Int) by omega, holdT_in (by omega)]
      show lookD 0 (duoL _ _) ≠ 0
      rw [duoL_0, ← f3, h.fs]
      decide
    · rw [show (f : Int) + (j : Int) = ((f + j : Nat) : Int) by omega, holdT_in (by omega)]
      show lookD 0 (duoL _ _) = 0
      rw [duoL_0]
      unfold fS
      rw [if_neg (by omega), if_neg (by omega), if_neg (by omega)]
  · refine strK_zero _ (fun j hj => ?_)
    rw [show (f : Int) + (j : Int) = ((f + j : Nat) : Int) by omega, holdT_in (by omega)]
    show lookD 1 (duoL _ _) = 0
    rw [duoL_1]; rfl
end Go.Proofs.Ytdhpahopfmcdkaa

/- PathUp, plainly: one object with its stripes, escalation. -/
namespace Go.Proofs.Ytdhpahopfmcdkaa
open Go.RowKit

/-- The configuration: one region, one object, s stripes of one word. -/
def cU (s up : Nat) : Cf := ⟨1, 1, s, 1, 1, 0, 1, 100, 1, up, 1, 0⟩
theorem cU_ok {s up : Nat} (h1 : 1 ≤ s) (h2 : s ≤ 8) (h3 : 1 ≤ up) (h4 : up ≤ 8) : okB (cU s up) = true := by
  refine ok_iff.2 ?_
  simp only [cU]
  omega
theorem cU_no (s up : Nat) : no (cU s up) = 1 := rfl
theorem cU_ns (s up : Nat) : ns (cU s up) = s := by show (1 : Int) * 1 * s = s; omega
theorem cU_nw (s up : Nat) : nw (cU s up) = s := by unfold nw; rw [cU_ns]; show (s : Int) * 1 = s; omega
theorem cU_nodes {s up : Nat} (h : okB (cU s up) = true) : nodesD (cU s up) = ((2 + s : Nat) : Int) := by
  rw [nodes_ok h, cU_no, cU_ns]
  show (1 : Int) + 1 + s = _
  omega
theorem cU_n3 {s up a : Nat} (h : a < s) : N3 (cU s up) (2 + s) (a : Int) 0 1 (2 + a) := by
  have e0 : sD (cU s up) (a : Int) = a := by show (a : Int) / 1 = a; omega
  have e1 : oD (cU s up) (a : Int) = 0 := by
    show (a : Int) / 1 / (s : Int) = 0
    rw [Int.ediv_one]
    exact Int.ediv_eq_zero_of_lt (by omega) (by omega)
  have e2 : rD (cU s up) (a : Int) = 0 := by
    show (a : Int) / 1 / (s : Int) / 1 = 0
    rw [Int.ediv_one, Int.ediv_one]
    exact Int.ediv_eq_zero_of_lt (by omega) (by omega)
  refine ⟨by rw [e2]; rfl, ?_, ?_, by omega, by omega, by omega, by omega, by omega, by omega⟩
  · rw [e1]; rfl
  · rw [e0, cU_no]; show (1 : Int) + 1 + a = _; omega
/-- The region is held as x, the object as y, z stripes as v. -/
def gU (x y v : Int) (z : Nat) : Nat → Int := fun j => if j = 0 then x else if j = 1 then y else if j < 2 + z then v else 0
theorem gU_0 (x y v x' : Int) (z : Nat) : set1 (gU x y v z) 0 x' = gU x' y v z := by
  funext j; unfold set1 gU
  by_cases h : j = 0
  · rw [if_pos h, if_pos h]
  · rw [if_neg h, if_neg h, if_neg h]
theorem gU_1 (x y v y' : Int) (z : Nat) : set1 (gU x y v z) 1 y' = gU x y' v z := by
  funext j; unfold set1 gU
  by_cases h : j = 1
  · rw [if_pos h, if_neg (by omega), if_pos h]
  · rw [if_neg h, if_neg h, if_neg h]
theorem gU_s (x y v : Int) (z : Nat) : set1 (gU x y v z) (2 + z) v = gU x y v (z + 1) := by
  funext j; unfold set1 gU
  by_cases h : j = 2 + z
  · rw [if_pos h, if_neg (by omega), if_neg (by omega), if_pos (by omega)]
  · rw [if_neg h]
    by_cases h0 : j = 0
    · rw [if_pos h0, if_pos h0]
    · by_cases h1 : j = 1
      · rw [if_neg h0, if_neg h0, if_pos h1, if_pos h1]
      · rw [if_neg h0, if_neg h0, if_neg h1, if_neg h1]
        by_cases h2 : j < 2 + z
        · rw [if_pos h2, if_pos (by omega)]
        · rw [if_neg h2, if_neg (by omega)]
theorem cntN_n (f : Nat → Int) : ∀ n, cntN f n ≤ n
  | 0 => Nat.le_refl _
  | n + 1 => by
    have := cntN_n f n
    unfold cntN
    split <;> omega
theorem cntN_top {f : Nat → Int} {m : Nat} (h : ∀ j, m ≤ j → f j = 0) : ∀ n, cntN f n ≤ m
  | 0 => Nat.zero_le _
  | n + 1 => by
    by_cases e : n < m
    · have := cntN_n f (n + 1)
      omega
    · have := cntN_top h n
      unfold cntN
      rw [if_pos (h n (by omega))]
      omega
theorem gU_cnt (x y v : Int) (z n : Nat) : lenD (duo (gU x y v z) zer) n ≤ 2 + z := by
  rw [duo_len, cntN_zer]
  have := cntN_top (f := gU x y v z) (m := 2 + z) (fun j hj => by unfold gU; rw [if_neg (by omega), if_neg (by omega), if_neg (by omega)]) n
  omega
theorem strK_first {n : Nat} {T : Nat → Lv} {who f : Int} {z : Nat} : ∀ k : Nat, (∀ j : Nat, j < k → (holdT n T who (f + j) ≠ 0 ↔ j < z)) → strK n T who f k = min k z
  | 0, _ => by simp [strK]
  | k + 1, h => by
    unfold strK
    rw [strK_first k (fun j hj => h j (by omega))]
    have := h k (by omega)
    by_cases e : k < z
    · rw [if_neg (this.2 e)]; omega
    · rw [if_pos (by
        by_cases e2 : holdT n T who (f + k) = 0
        · exact e2
        · exact absurd (this.1 e2) e)]
      omega
theorem cU_str {s up z : Nat} (hok : okB (cU s up) = true) (x y : Int) {v : Int} (hv : v ≠ 0) (hz : z ≤ s) : strD (cU s up) (2 + s) (duo (gU x y v z) zer) 0 1 = z := by
  have hl : levelD (cU s up) 1 = 1 := by
    have := level_o hok (n := 0) (by omega) (by rw [cU_no]; omega)
    exact this
  unfold strD
  rw [if_pos hl]
  have hf : fstS (cU s up) 1 = ((2 : Nat) : Int) := by unfold fstS; rw [cU_no]; show (1 : Int) + 1 + (1 - 1) * s = _; omega
  have hs : (cU s up).s.toNat = s := rfl
  rw [hf, hs, strK_first (z := z) s (fun j hj => ?_)]
  · omega
  · rw [show ((2 : Nat) : Int) + (j : Int) = ((2 + j : Nat) : Int) by omega, holdT_in (by omega)]
    show lookD 0 (duoL _ _) ≠ 0 ↔ _
    rw [duoL_0]
    unfold gU
    rw [if_neg (by omega), if_neg (by omega)]
    by_cases h : j < z
    · rw [if_pos (by omega)]; exact ⟨fun _ => h, fun _ => hv⟩
    · rw [if_neg (by omega)]; exact ⟨fun h2 => absurd rfl h2, fun h2 => absurd h2 h⟩
/-- What is held behind k requests of the word a. -/
def xU (w : Bool) (a k : Nat) : Int := if a = 0 ∧ k = 0 then 0 else inD w
def yU (w : Bool) (up a k : Nat) : Int := if a = 0 ∧ k ≤ 1 then 0 else if (a = up ∧ 1 ≤ k) ∨ up < a then wantD w else inD w
def zU (up a k : Nat) : Nat := if a = 0 then (if 3 ≤ k then 1 else 0) else if a < up ∧ 1 ≤ k then a + 1 else min a up
def stU (w : Bool) (up a k : Nat) : Nat → Int := gU (xU w a k) (yU w up a k) (wantD w) (zU up a k)
/-- How many requests. -/
def KU (up a : Nat) : Nat := if a = 0 then 3 else if a ≤ up then 1 else 0
theorem KU_le (up a : Nat) : KU up a ≤ 3 := by unfold KU; split <;> (try split) <;> omega
theorem stU_next (w : Bool) {up a : Nat} (hu : 1 ≤ up) : stU w up a (KU up a) = stU w up (a + 1) 0 := by
  unfold stU
  have h4 : a = 0 ∨ (0 < a ∧ a < up) ∨ (0 < a ∧ a = up) ∨ (0 < a ∧ up < a) := by omega
  have key : xU w a (KU up a) = xU w (a + 1) 0 ∧ yU w up a (KU up a) = yU w up (a + 1) 0 ∧ zU up a (KU up a) = zU up (a + 1) 0 := by
    rcases h4 with h | ⟨h, h2⟩ | ⟨h, h2⟩ | ⟨h, h2⟩
    · have e : KU up a = 3 := by unfold KU; rw [if_pos h]
      rw [e]
      unfold xU yU zU
      refine ⟨?_, ?_, ?_⟩
      · rw [if_neg (by omega), if_neg (by omega)]
      · rw [if_neg (by omega), if_neg (by omega), if_neg (by omega), if_neg (by omega)]
      · rw [if_pos h, if_pos (by omega), if_neg (by omega), if_neg (by omega)]; omega
    · have e : KU up a = 1 := by unfold KU; rw [if_neg (by omega), if_pos (by omega)]
      rw [e]
      unfold xU yU zU
      refine ⟨?_, ?_, ?_⟩
      · rw [if_neg (by omega), if_neg (by omega)]
      · rw [if_neg (by omega), if_neg (by omega), if_neg (by omega), if_neg (by omega)]
      · rw [if_neg (by omega), if_pos (by omega), if_neg (by omega), if_neg (by omega)]; omega
    · have e : KU up a = 1 := by unfold KU; rw [if_neg (by omega), if_pos (by omega)]
      rw [e]
      unfold xU yU zU
      refine ⟨?_, ?_, ?_⟩
      · rw [if_neg (by omega), if_neg (by omega)]
      · rw [if_neg (by omega), if_pos (by omega), if_neg (by omega), if_pos (by omega)]
      · rw [if_neg (by omega), if_neg (by omega), if_neg (by omega), if_neg (by omega)]; omega
    · have e : KU up a = 0 := by unfold KU; rw [if_neg (by omega), if_neg (by omega)]
      rw [e]
      unfold xU yU zU
      refine ⟨?_, ?_, ?_⟩
      · rw [if_neg (by omega), if_neg (by omega)]
      · rw [if_neg (by omega), if_pos (by omega), if_neg (by omega), if_pos (by omega)]
      · rw [if_neg (by omega), if_neg (by omega), if_neg (by omega), if_neg (by omega)]; omega
  rw [key.1, key.2.1, key.2.2]
theorem stU_0 (w : Bool) {up : Nat} : stU w up 0 0 = zer := by
  have e1 : xU w 0 0 = 0 := rfl
  have e2 : yU w up 0 0 = 0 := rfl
  have e3 : zU up 0 0 = 0 := rfl
  unfold stU
  rw [e1, e2, e3]
  funext j
  unfold gU zer
  by_cases h0 : j = 0
  · rw [if_pos h0]
  · by_cases h1 : j = 1
    · rw [if_neg h0, if_pos h1]
    · rw [if_neg h0, if_neg h1, if_neg (by omega)]
/-- The word a's stripe, so far. -/
theorem stU_at (w : Bool) (up a k : Nat) : stU w up a k 0 = xU w a k ∧ stU w up a k 1 = yU w up a k ∧ stU w up a k (2 + a) = if a < zU up a k then wantD w else 0 := by
  refine ⟨rfl, rfl, ?_⟩
  unfold stU gU
  rw [if_neg (by omega), if_neg (by omega)]
  by_cases h : a < zU up a k
  · rw [if_pos (by omega), if_pos h]
  · rw [if_neg (by omega), if_neg h]
theorem want_nz (w : Bool) : wantD w ≠ 0 := by cases w <;> decide
theorem zU_le (up a k : Nat) : zU up a k ≤ a + 1 := by
  unfold zU
  split
  · split <;> omega
  · split <;> omega
theorem kinds_u : ∀ w : Bool, kindK 0 0 0 false w = 1 ∧ kindK (inD w) 0 0 false w = 3 ∧ kindK (inD w) (inD w) 0 false w = 4 ∧ kindK (inD w) (inD w) 0 true w = 2 ∧
    (∀ e : Bool, nx2 (inD w) (inD w) (wantD w) e w = false) ∧ ∀ e h : Bool, nx2 (inD w) (wantD w) (if h then wantD w else 0) e w = false := by
  decide +kernel
theorem goals_u : ∀ w : Bool, goal 0 (inD w) = inD w ∧ goal 0 (wantD w) = wantD w ∧ goal (inD w) (wantD w) = wantD w := by decide +kernel
theorem up_next {s up a k : Nat} (hok : okB (cU s up) = true) (ha : a < s) (w : Bool) :
    nextD (cU s up) (2 + s) (duo (stU w up a k) zer) 0 (a : Int) w = pickK w ((0 : Nat) : Int) ((1 : Nat) : Int) ((2 + a : Nat) : Int) (kindK (xU w a k) (yU w up a k) (if a < zU up a k then wantD w else 0) (decide (up ≤ zU up a k) && decide (0 < up)) w) := by
  obtain ⟨e1, e2, e3⟩ := stU_at w up a k
  have he : escB (cU s up) (2 + s) (duo (stU w up a k) zer) 0 ((1 : Nat) : Int) = (decide (up ≤ zU up a k) && decide (0 < up)) := by
    unfold escB
    have := cU_str hok (xU w a k) (yU w up a k) (want_nz w) (z := zU up a k) (by have := zU_le up a k; omega)
    have e4 : strD (cU s up) (2 + s) (duo (stU w up a k) zer) 0 ((1 : Nat) : Int) = zU up a k := this
    rw [e4]
    show (decide (0 < (up : Int)) && decide ((up : Int) ≤ (zU up a k : Int))) = _
    rw [Bool.and_comm]
    congr 1
    · exact decide_eq_decide.2 (by omega)
    · exact decide_eq_decide.2 (by omega)
  rw [(cU_n3 ha).next0, he, e1, e2, e3, nextK_kind]
/-- A request, and what it brings. -/
theorem up_step {s up a k : Nat} (hok : okB (cU s up) = true) (hu : 1 ≤ up) (ha : a < s) (hs : s ≤ 8) (hk : k < KU up a) (w : Bool) :
    ∃ (node : Nat) (m : Int), nextD (cU s up) (2 + s) (duo (stU w up a k) zer) 0 (a : Int) w = (((node : Int), m), true) ∧
      askT (2 + s) 100 (duo (stU w up a k) zer) 0 (node : Int) m = ((1, 0), duo (stU w up a (k + 1)) zer) ∧ (node = 1 → ((m == 3) || (m == 5)) = decide (up ≤ a)) := by
  obtain ⟨q1, q2, q3, q4, _, _⟩ := kinds_u w
  obtain ⟨g1, g2, g3⟩ := goals_u w
  have hN := up_next (k := k) hok ha w
  have room : (lenD (duo (stU w up a k) zer) (2 + s) : Int) < 100 := by
    have := gU_cnt (xU w a k) (yU w up a k) (wantD w) (zU up a k) (2 + s)
    have := zU_le up a k
    unfold stU
    omega
  have zi : md (inD w) := by cases w <;> exact ⟨by decide, by decide⟩
  have zw : md (wantD w) := by cases w <;> exact ⟨by decide, by decide⟩
  have z0 : mz 0 := ⟨by decide, by decide⟩
  have zz : mz (zer 0) := z0
  have ask : ∀ (node : Nat) (m : Int), node < 2 + s → md m → mz (stU w up a k node) → set1 (stU w up a k) node (goal (stU w up a k node) m) = stU w up a (k + 1) → askT (2 + s) 100 (duo (stU w up a k) zer) 0 (node : Int) m = ((1, 0), duo (stU w up a (k + 1)) zer) := fun node m h1 h2 h3 h4 => by
    have e := duo_ask0 (f := stU w up a k) (g := zer) (m := m) (most := 100) h1 h2 h3 z0 (.inl rfl) room
    rw [h4] at e
    exact e
  obtain ⟨e1, e2, e3⟩ := stU_at w up a k
  unfold KU at hk
  by_cases h0 : a = 0
  · subst h0
    rw [if_pos rfl] at hk
    have hk3 : k = 0 ∨ k = 1 ∨ k = 2 := by omega
    rcases hk3 with rfl | rfl | rfl
    · have x1 : xU w 0 0 = 0 := rfl
      have y1 : yU w up 0 0 = 0 := rfl
      have z1 : zU up 0 0 = 0 := rfl
      have hf : (decide (up ≤ 0) && decide (0 < up)) = false := by simp
      rw [x1, y1, z1, hf, if_neg (by omega), q1] at hN
      refine ⟨0, inD w, hN, ask 0 _ (by omega) zi (by rw [e1, x1]; exact z0) ?_, fun e => by omega⟩
      rw [e1, x1, g1]
      show set1 (gU _ _ _ _) 0 _ = gU _ _ _ _
      rw [gU_0]; rfl
    · have x1 : xU w 0 1 = inD w := rfl
      have y1 : yU w up 0 1 = 0 := rfl
      have z1 : zU up 0 1 = 0 := rfl
      have hf : (decide (up ≤ 0) && decide (0 < up)) = false := by simp
      rw [x1, y1, z1, hf, if_neg (by omega), q2] at hN
      refine ⟨1, inD w, hN, ask 1 _ (by omega) zi (by rw [e2, y1]; exact z0) ?_, fun _ => ?_⟩
      · rw [e2, y1, g1]
        show set1 (gU _ _ _ _) 1 _ = gU _ _ _ _
        rw [gU_1]
        have y2 : yU w up 0 2 = inD w := by unfold yU; rw [if_neg (by omega), if_neg (by omega)]
        rw [y2]; rfl
      · rw [decide_eq_false (by omega)]; cases w <;> decide
    · have x1 : xU w 0 2 = inD w := rfl
      have y1 : yU w up 0 2 = inD w := by unfold yU; rw [if_neg (by omega), if_neg (by omega)]
      have z1 : zU up 0 2 = 0 := rfl
      have hf : (decide (up ≤ 0) && decide (0 < up)) = false := by simp
      rw [x1, y1, z1, hf, if_neg (by omega), q3] at hN
      refine ⟨2 + 0, wantD w, hN, ask (2 + 0) _ (by omega) zw (by rw [e3, z1, if_neg (by omega)]; exact z0) ?_, fun e => by omega⟩
      rw [e3, z1, if_neg (by omega), g2]
      show set1 (gU _ _ _ 0) (2 + 0) _ = gU _ _ _ _
      rw [gU_s]
      have y2 : yU w up 0 3 = inD w := by unfold yU; rw [if_neg (by omega), if_neg (by omega)]
      rw [y1, y2]; rfl
  · rw [if_neg h0] at hk
    have hk0 : k = 0 ∧ a ≤ up := by
      by_cases h : a ≤ up
      · rw [if_pos h] at hk; omega
      · rw [if_neg h] at hk; omega
    obtain ⟨rfl, hau⟩ := hk0
    have x1 : xU w a 0 = inD w := by unfold xU; rw [if_neg (by omega)]
    have x2 : xU w a 1 = inD w := by unfold xU; rw [if_neg (by omega)]
    have y1 : yU w up a 0 = inD w := by unfold yU; rw [if_neg (by omega), if_neg (by omega)]
    have z1 : zU up a 0 = a := by unfold zU; rw [if_neg h0, if_neg (by omega)]; omega
    by_cases h : a < up
    · have hf : (decide (up ≤ a) && decide (0 < up)) = false := by simp; omega
      rw [x1, y1, z1, hf, if_neg (by omega), q3] at hN
      refine ⟨2 + a, wantD w, hN, ask (2 + a) _ (by omega) zw (by rw [e3, z1, if_neg (by omega)]; exact z0) ?_, fun e => by omega⟩
      rw [e3, z1, if_neg (by omega), g2]
      unfold stU
      rw [z1, gU_s]
      have y2 : yU w up a 1 = inD w := by unfold yU; rw [if_neg (by omega), if_neg (by omega)]
      have z2 : zU up a 1 = a + 1 := by unfold zU; rw [if_neg h0, if_pos ⟨h, by omega⟩]
      show _ = gU (xU w a 1) (yU w up a 1) (wantD w) (zU up a 1)
      rw [x1, x2, y1, y2, z2]
    · have hf : (decide (up ≤ a) && decide (0 < up)) = true := by simp; omega
      rw [x1, y1, z1, hf, if_neg (by omega), q4] at hN
      refine ⟨1, wantD w, hN, ask 1 _ (by omega) zw (by rw [e2, y1]; cases w <;> exact ⟨by decide, by decide⟩) ?_, fun _ => ?_⟩
      · rw [e2, y1, g3]
        unfold stU
        rw [gU_1]
        have y2 : yU w up a 1 = wantD w := by unfold yU; rw [if_neg (by omega), if_pos (by omega)]
        have z2 : zU up a 1 = zU up a 0 := by rw [z1]; unfold zU; rw [if_neg h0, if_neg (by omega)]; omega
        show _ = gU (xU w a 1) (yU w up a 1) (wantD w) (zU up a 1)
        rw [x1, x2, y2, z2]
      · rw [decide_eq_true (by omega)]; cases w <;> decide
theorem pickK_2 (w : Bool) (r o s : Int) (hr ho hs : Int) (e : Bool) : (pickK w r o s (kindK hr ho hs e w)).2 = nx2 hr ho hs e w := by
  rw [← nextK_kind hr ho hs e w, nextK_2]
/-- Nothing more, then. -/
theorem up_end {s up a : Nat} (hok : okB (cU s up) = true) (hu : 1 ≤ up) (ha : a < s) (w : Bool) : (nextD (cU s up) (2 + s) (duo (stU w up a (KU up a)) zer) 0 (a : Int) w).2 = false := by
  obtain ⟨_, _, _, _, q5, q6⟩ := kinds_u w
  rw [up_next hok ha w, pickK_2]
  have h4 : a = 0 ∨ (0 < a ∧ a < up) ∨ (0 < a ∧ a = up) ∨ (0 < a ∧ up < a) := by omega
  rcases h4 with h | ⟨h, h2⟩ | ⟨h, h2⟩ | ⟨h, h2⟩
  · have e : KU up a = 3 := by unfold KU; rw [if_pos h]
    rw [e]
    have x1 : xU w a 3 = inD w := by unfold xU; rw [if_neg (by omega)]
    have y1 : yU w up a 3 = inD w := by unfold yU; rw [if_neg (by omega), if_neg (by omega)]
    have z1 : zU up a 3 = 1 := by unfold zU; rw [if_pos h, if_pos (by omega)]
    rw [x1, y1, z1, if_pos (by omega)]
    exact q5 _
  · have e : KU up a = 1 := by unfold KU; rw [if_neg (by omega), if_pos (by omega)]
    rw [e]
    have x1 : xU w a 1 = inD w := by unfold xU; rw [if_neg (by omega)]
    have y1 : yU w up a 1 = inD w := by unfold yU; rw [if_neg (by omega), if_neg (by omega)]
    have z1 : zU up a 1 = a + 1 := by unfold zU; rw [if_neg (by omega), if_pos (by omega)]
    rw [x1, y1, z1, if_pos (by omega)]
    exact q5 _
  · have e : KU up a = 1 := by unfold KU; rw [if_neg (by omega), if_pos (by omega)]
    rw [e]
    have x1 : xU w a 1 = inD w := by unfold xU; rw [if_neg (by omega)]
    have y1 : yU w up a 1 = wantD w := by unfold yU; rw [if_neg (by omega), if_pos (by omega)]
    rw [x1, y1]
    have := q6 (decide (up ≤ zU up a 1) && decide (0 < up)) (decide (a < zU up a 1))
    simpa using this
  · have e : KU up a = 0 := by unfold KU; rw [if_neg (by omega), if_neg (by omega)]
    rw [e]
    have x1 : xU w a 0 = inD w := by unfold xU; rw [if_neg (by omega)]
    have y1 : yU w up a 0 = wantD w := by unfold yU; rw [if_neg (by omega), if_pos (by omega)]
    rw [x1, y1]
    have := q6 (decide (up ≤ zU up a 0) && decide (0 < up)) (decide (a < zU up a 0))
    simpa using this
/-- What the law asks at its end. -/
theorem up_last {s up : Nat} (hok : okB (cU s up) = true) (h1 : 1 ≤ s) (w : Bool) :
    strD (cU s up) (2 + s) (duo (stU w up s 0) zer) 0 1 = min s up ∧ ∃ y, holdT (2 + s) (duo (stU w up s 0) zer) 0 1 = y ∧ readsB y = decide (up < s) := by
  have z1 : zU up s 0 = min s up := by unfold zU; rw [if_neg (by omega), if_neg (by omega)]
  constructor
  · have := cU_str hok (xU w s 0) (yU w up s 0) (want_nz w) (z := zU up s 0) (by rw [z1]; omega)
    rw [z1] at this
    unfold stU
    rw [z1]
    exact this
  · refine ⟨yU w up s 0, ?_, ?_⟩
    · have := holdT_in (n := 2 + s) (T := duo (stU w up s 0) zer) (who := 0) (k := 1) (by omega)
      refine this.trans ?_
      show lookD 0 (duoL _ _) = _
      rw [duoL_0]; rfl
    · unfold yU
      rw [if_neg (by omega)]
      by_cases h : up < s
      · rw [if_pos (.inr h), decide_eq_true h]; cases w <;> decide
      · rw [if_neg (by omega), decide_eq_false h]; cases w <;> decide
end Go.Proofs.Ytdhpahopfmcdkaa

/- PathUp: its walk. -/
namespace Go.Proofs.Ytdhpahopfmcdkaa
open Go.RowKit

set_option maxRecDepth 100000 in
set_option maxHeartbeats 8000000 in
theorem up_in (s up : Nat) (write : Bool) (w : World) (h1 : 1 ≤ s) (h2 : s ≤ 8) (h3 : 1 ≤ up) (h4 : up ≤ 8) :
    Calls Try.prog 8 #[.int .i64 (s : Int), .int .i64 (up : Int), .bool write] w fun e w' => e = .returned (.bool true) ∧ Below w.heap.size w w' := by
  have hok := cU_ok h1 h2 h3 h4
  have HN : Hid (∀ w', Calls Try.prog 39 #[cv (cU s up)] w' fun e w'' => e = .returned (.int .i64 ((2 + s : Nat) : Int)) ∧ Below w'.heap.size w' w'') := fun w' => nodes_at (cU_nodes hok).symm w'
  have HS := hide (fun a k (ha : a < s) (hk : k < KU up a) => up_step (k := k) hok h3 ha h2 hk write)
  have HE : Hid (∀ a, a < s → ∃ y z, nextD (cU s up) (2 + s) (duo (stU write up a (KU up a)) zer) 0 (a : Int) write = ((y, z), false)) := fun a ha => by
    have := up_end hok h3 ha write
    obtain ⟨⟨⟨y, z⟩, u⟩, e⟩ : ∃ v, nextD (cU s up) (2 + s) (duo (stU write up a (KU up a)) zer) 0 (a : Int) write = v := ⟨_, rfl⟩
    rw [e] at this
    exact ⟨y, z, by rw [e, show u = false from this]⟩
  obtain ⟨L1, y, L2, L3⟩ := up_last hok h1 write
  have HW : Hid (nw (cU s up) = (s : Int)) := cU_nw s up
  have HK := hide hok
  obtain ⟨N, hNn⟩ : ∃ N, N = 2 + s := ⟨_, rfl⟩
  rw [← hNn] at HN HS HE L1 L2
  have hN10 : N ≤ 10 := by omega
  have hN1 : 1 ≤ N := by omega
  replace hNn := hide hNn
  obtain ⟨m, hm⟩ : ∃ m, m = min s up := ⟨_, rfl⟩
  rw [← hm] at L1
  have hmz : (m : Int) = min (s : Int) (up : Int) := by omega
  clear hm hok
  replace L1 := hide L1
  replace L2 := hide L2
  have k1 : ¬ (s : Int) < 1 := by omega
  have k2 : ¬ (8 : Int) < (s : Int) := by omega
  have k3 : ¬ (up : Int) < 1 := by omega
  have k4 : ¬ (8 : Int) < (up : Int) := by omega
  go_enter Try.func8, Try.ntmps8
  go_wp2_with fail
  refine (first10_any w).mono ?_
  rintro e w1 ⟨rfl, b1⟩
  have hx := bx_new (cU s up) w1
  have b2 := below_add b1 (.cells #[.int .i64 1, .int .i64 1, .int .i64 s, .int .i64 1, .int .i64 1, .int .i64 0, .int .i64 1, .int .i64 100, .int .i64 1, .int .i64 up, .int .i64 1, .int .i64 0] 73)
  simp only [cU] at hx
  obtain ⟨w2, hw2⟩ : ∃ w2, w2 = w1.alloc (.cells #[.int .i64 1, .int .i64 1, .int .i64 s, .int .i64 1, .int .i64 1, .int .i64 0, .int .i64 1, .int .i64 100, .int .i64 1, .int .i64 up, .int .i64 1, .int .i64 0] 73) := ⟨_, rfl⟩
  obtain ⟨q, hq⟩ : ∃ q, q = w1.heap.size := ⟨_, rfl⟩
  rw [← hw2, ← hq] at hx
  rw [← hw2] at b2
  replace b2 := hide b2
  have HX : Hid (Bx (cU s up) q w2) := hx
  clear hx b1
  go_wp2_with fail
  rw [← hw2, ← hq]
  replace hw2 := hide hw2
  replace hq := hide hq
  refine (unhide HN w2).mono ?_
  rintro e w3 ⟨rfl, b3⟩
  have x3 := hide ((unhide HX).next b3)
  have B3 := hide (below_then (unhide b2) b3)
  clear b3
  go_wp2_with fail
  refine (new_n N 100 w3 hN1 (by omega) (by decide) (by decide)).mono ?_
  rintro e w4 ⟨b, rfl, L4, b4⟩
  obtain ⟨B, hB⟩ : ∃ B, B = w3.heap.size := ⟨_, rfl⟩
  rw [← hB] at L4
  have X4 : Hid (Py (cU s up) q B N 100 none0 b w w4) := hide ⟨(unhide x3).next b4, L4, below_then (unhide B3) b4, by rw [hB]; exact (unhide B3).size⟩
  replace hB := hide hB
  clear b4 L4
  go_wp2_with fail
  go_loopw [10] (fun s10 wr => ∃ a : Nat, a ≤ s ∧ s10 = .int .i64 a ∧ Hid (Py (cU s up) q B N 100 (duo (stU write up a 0) zer) b w wr)) (fun s10 _ => s - (intOf s10).toNat)
  case atStart => exact ⟨0, Nat.zero_le _, rfl, by show Py _ _ _ _ _ _ _ _ _; rw [stU_0, duo_none]; exact unhide X4⟩
  case round =>
    obtain ⟨a, ha, rfl, X⟩ := hrel
    by_cases hlt : a < s
    · have H1 : Hid ((a : Int) < nw (cU s up)) := by show _ < _; rw [unhide HW]; omega
      have H0 : Hid (0 ≤ (a : Int)) := by show _ ≤ _; omega
      have hKU := KU_le up a
      obtain ⟨K, hK⟩ : ∃ K, K = KU up a := ⟨_, rfl⟩
      rw [← hK] at hKU
      obtain ⟨ye, ze, hE⟩ := unhide HE a hlt
      have hS := hide (fun k (hk : k < K) => unhide HS a k hlt (by rw [← hK]; exact hk))
      have hnx := hide (stU_next write (a := a) h3)
      rw [← hK] at hE hnx
      replace hK := hide hK
      replace hE := hide hE
      go_wp2_with fail
      go_loopw [11] (fun s11 wq => ∃ (k : Nat) (wz : World), wz = wq ∧ k ≤ K ∧ s11 = .int .i64 k ∧ Hid (Py (cU s up) q B N 100 (duo (stU write up a k) zer) b w wz)) (fun s11 _ => 4 - (intOf s11).toNat)
      case atStart => exact ⟨0, _, rfl, by omega, rfl, unhide X⟩
      case round =>
        obtain ⟨k, wq, hwq, hk, rfl, Xk⟩ := hrel
        subst hwq
        have hk4 : (k : Int) < 4 := by omega
        obtain ⟨a0, a1, a2, a3, a4, a5, a6, a7, a8, a9, a10, a11⟩ := (unhide Xk).bx.cells
        simp only [cU] at a0 a1 a2 a3 a4 a5 a6 a7 a8 a9 a10 a11
        by_cases hkK : k < K
        · obtain ⟨node, md', hn1, hn2, hn3⟩ := unhide hS k hkK
          have hk3 : ¬ (k : Int) = 3 := by omega
          replace hn1 := hide hn1
          replace hn2 := hide hn2
          replace hn3 := hide hn3
          go_wp2_with fail
          refine (next_in (cU s up) wq (unhide Xk).tn (duo_few _ _ _) 0 (a : Int) write (unhide HK) (unhide H0) (unhide H1) (unhide hn1)).mono ?_
          rintro e w10 ⟨rfl, b10⟩
          obtain ⟨p, hp⟩ : ∃ p, p = w10.heap.size := ⟨_, rfl⟩
          obtain ⟨w11, hw11⟩ : ∃ w11, w11 = w10.alloc (.cells #[.int .i64 node, .int .i64 md'] 50) := ⟨_, rfl⟩
          have P11 : w11.heap[p]? = some (.cells #[.int .i64 node, .int .i64 md'] 50 (0, 0)) := by rw [hw11, hp]; exact heap_alloc_new w10 _
          have X11 : Hid (Py (cU s up) q B N 100 (duo (stU write up a k) zer) b w w11) := by rw [hw11]; exact (unhide Xk).next (below_add b10 _)
          obtain ⟨y0, y1, _, _⟩ := lock_cells P11
          clear a0 a1 a2 a3 a4 a5 a6 a7 a8 a9 a10 a11 b10 P11
          unfold nxV
          dsimp only
          go_upto_region 16 with fail
          rw [← hw11, ← hp]
          replace hw11 := hide hw11
          replace hp := hide hp
          have ways : ((node : Int) == 1) = false ∨ (((node : Int) == 1) = true ∧ (((md' == 3) = true ∧ (up : Int) ≤ (a : Int)) ∨ ((md' == 3) = false ∧ (md' == 5) = true ∧ (up : Int) ≤ (a : Int)) ∨ ((md' == 3) = false ∧ (md' == 5) = false ∧ ¬ (up : Int) ≤ (a : Int)))) := by
            by_cases e : node = 1
            · right
              have := unhide hn3 e
              refine ⟨by simp; omega, ?_⟩
              cases e3 : (md' == 3) <;> cases e5 : (md' == 5) <;> rw [e3, e5] at this
              · exact .inr (.inr ⟨rfl, rfl, by have := of_decide_eq_false this.symm; omega⟩)
              · exact .inr (.inl ⟨rfl, rfl, by have := of_decide_eq_true this.symm; omega⟩)
              · exact .inl ⟨rfl, by have := of_decide_eq_true this.symm; omega⟩
              · exact .inl ⟨rfl, by have := of_decide_eq_true this.symm; omega⟩
            · left; simp; omega
          rcases ways with e1 | ⟨e1, ⟨e3, e4⟩ | ⟨e3, e5, e4⟩ | ⟨e3, e5, e4⟩⟩
          all_goals
            go_wp2_with fail
            refine ((unhide X11).ask (duo_few _ _ _) (by omega) (unhide hn2)).mono ?_
            rintro e w12 ⟨rfl, X12, b12, s12⟩
            replace X12 := hide X12
            clear b12 s12 y0 y1
            go_wp2
            go_roundw
            case rel => exact ⟨k + 1, _, rfl, by omega, by go_num, unhide X12⟩
            case measure => simp [intOf]; omega
        · obtain rfl : k = K := by omega
          go_wp2_with fail
          refine (next_in (cU s up) wq (unhide Xk).tn (duo_few _ _ _) 0 (a : Int) write (unhide HK) (unhide H0) (unhide H1) (unhide hE)).mono ?_
          rintro e w10 ⟨rfl, b10⟩
          have X11 : Hid (Py (cU s up) q B N 100 (duo (stU write up (a + 1) 0) zer) b w (w10.alloc (.cells #[.int .i64 ye, .int .i64 ze] 50))) := by
            show Py _ _ _ _ _ _ _ _ _
            rw [← unhide hnx]
            exact (unhide Xk).next (below_add b10 _)
          clear a0 a1 a2 a3 a4 a5 a6 a7 a8 a9 a10 a11 b10
          unfold nxV
          dsimp only
          go_wp2
          go_roundw
          case rel => exact ⟨a + 1, by omega, by go_num, unhide X11⟩
          case measure => simp [intOf]; omega
    · obtain rfl : a = s := by omega
      obtain ⟨a0, a1, a2, a3, a4, a5, a6, a7, a8, a9, a10, a11⟩ := (unhide X).bx.cells
      simp only [cU] at a0 a1 a2 a3 a4 a5 a6 a7 a8 a9 a10 a11
      go_wp2_with fail
      refine (stripes_p (cU a up) wr (unhide X).tn (duo_few _ _ _) 0 1 (unhide L1)).mono ?_
      rintro e w5 ⟨rfl, b5⟩
      have X5 := hide ((unhide X).next b5)
      clear b5 a0 a1 a2 a3 a4 a5 a6 a7 a8 a9 a10 a11
      go_wp2_with fail
      refine (holds_n2 w5 (unhide X5).tn (duo_few _ _ _) 0 1 (unhide L2)).mono ?_
      rintro e w6 ⟨rfl, b6⟩
      have X6 := hide ((unhide X5).next b6)
      clear b6
      go_wp2_with fail
      refine (reads_any y w6).mono ?_
      rw [L3]
      rintro e w7 ⟨rfl, b7⟩
      have X7 := hide ((unhide X6).next b7)
      clear b7
      by_cases hus : up < a
      · have d1 : decide (up < a) = true := decide_eq_true hus
        have d2 : (up : Int) < (a : Int) := by omega
        rw [d1]
        clear hus
        go_wp2_with fail
        refine (first10_any _).mono ?_
        rintro e w8 ⟨rfl, b8⟩
        have X8 := hide ((unhide X7).next b8)
        clear b8
        go_wp2
        go_ret
        exact ⟨rfl, (unhide X8).bel⟩
      · have d1 : decide (up < a) = false := decide_eq_false hus
        have d2 : ¬ (up : Int) < (a : Int) := by omega
        rw [d1]
        clear hus
        go_wp2_with fail
        refine (first10_any _).mono ?_
        rintro e w8 ⟨rfl, b8⟩
        have X8 := hide ((unhide X7).next b8)
        clear b8
        go_wp2
        go_ret
        exact ⟨rfl, (unhide X8).bel⟩
set_option maxRecDepth 100000 in
set_option maxHeartbeats 4000000 in
theorem up_out (s up : Int) (write : Bool) (w : World) (h : s < 1 ∨ (1 ≤ s ∧ 8 < s) ∨ (1 ≤ s ∧ s ≤ 8 ∧ up < 1) ∨ (1 ≤ s ∧ s ≤ 8 ∧ 1 ≤ up ∧ 8 < up)) :
    Calls Try.prog 8 #[.int .i64 s, .int .i64 up, .bool write] w fun e w' => e = .returned (.bool true) ∧ Below w.heap.size w w' := by
  rcases h with h | ⟨h, h2⟩ | ⟨h, h2, h3⟩ | ⟨h, h2, h3, h4⟩
  all_goals
    go_enter Try.func8, Try.ntmps8
    go_wp2_with fail
    refine (first10_any w).mono ?_
    rintro e w1 ⟨rfl, b1⟩
    replace b1 := hide b1
    go_wp2_with fail
    refine (first10_any w1).mono ?_
    rintro e w3 ⟨rfl, b3⟩
    replace b3 := hide (below_then (unhide b1) b3)
    go_wp2
    go_ret
    exact ⟨rfl, unhide b3⟩
theorem pathUp_walk (s up : Int) (write : Bool) (w : World) (_ : (Lit.int .i64 s).wf = true) (_ : (Lit.int .i64 up).wf = true) :
    Calls Try.prog 8 #[.int .i64 s, .int .i64 up, .bool write] w fun e w' => e = .returned (.bool true) ∧ Below w.heap.size w w' := by
  by_cases h : 1 ≤ s ∧ s ≤ 8 ∧ 1 ≤ up ∧ up ≤ 8
  · obtain ⟨k, rfl⟩ : ∃ k : Nat, s = (k : Int) := ⟨s.toNat, by omega⟩
    obtain ⟨l, rfl⟩ : ∃ l : Nat, up = (l : Int) := ⟨up.toNat, by omega⟩
    exact up_in k l write w (by omega) (by omega) (by omega) (by omega)
  · exact up_out s up write w (by omega)
end Go.Proofs.Ytdhpahopfmcdkaa
