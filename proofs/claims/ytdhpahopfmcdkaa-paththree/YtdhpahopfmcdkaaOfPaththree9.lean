/- Texts of this claim, put together in their order. -/
import Derived.Test.YtdhpahopfmcdkaaBase1
import Derived.Test.YtdhpahopfmcdkaaBase2
import Derived.Test.YtdhpahopfmcdkaaBase3
import Derived.Test.YtdhpahopfmcdkaaBase4
import Derived.Test.YtdhpahopfmcdkaaBase5
import Derived.Test.YtdhpahopfmcdkaaBase6
import Derived.Test.YtdhpahopfmcdkaaBase7
import Derived.Test.YtdhpahopfmcdkaaBase8
/- PathThree, plainly: the six requests. -/
namespace Go.Proofs.Ytdhpahopfmcdkaa
open Go.RowKit

def vr (i : Nat) : Int := if 4 ≤ i then 2 else if 1 ≤ i then 1 else 0
def vo (i : Nat) : Int := if 5 ≤ i then 2 else if 2 ≤ i then 1 else 0
def vs (i : Nat) : Int := if 6 ≤ i then 5 else if 3 ≤ i then 3 else 0
/-- What is held behind i requests. -/
def fS (r o s i : Nat) : Nat → Int := fun j => if j = r then vr i else if j = o then vo i else if j = s then vs i else 0
/-- The request i: where, and for what. -/
def nd (r o s i : Nat) : Nat := if i % 3 = 0 then r else if i % 3 = 1 then o else s
def wS (i : Nat) : Int := [1, 1, 3, 2, 2, 5].getD i 0
theorem fS_0 (r o s : Nat) : fS r o s 0 = zer := by
  funext j; unfold fS zer vr vo vs; simp
variable {c : Cf} {n : Nat} {a : Int} {r o s : Nat}
theorem N3.fr (_ : N3 c n a r o s) (i : Nat) : fS r o s i r = vr i := by simp [fS]
theorem N3.fo (h : N3 c n a r o s) (i : Nat) : fS r o s i o = vo i := by simp [fS, h.ro.symm]
theorem N3.fs (h : N3 c n a r o s) (i : Nat) : fS r o s i s = vs i := by simp [fS, h.rs.symm, h.os.symm]
theorem six_of {i : Nat} (h : i < 6) : i = 0 ∨ i = 1 ∨ i = 2 ∨ i = 3 ∨ i = 4 ∨ i = 5 := by omega
theorem N3.set_r (_ : N3 c n a r o s) (i : Nat) {x : Int} (hx : x = vr (i + 1)) (h2 : vo (i + 1) = vo i) (h3 : vs (i + 1) = vs i) : set1 (fS r o s i) r x = fS r o s (i + 1) := by
  funext j
  unfold set1 fS
  rw [h2, h3, hx]
  by_cases e : j = r
  · rw [if_pos e, if_pos e]
  · rw [if_neg e, if_neg e, if_neg e]
theorem N3.set_o (h : N3 c n a r o s) (i : Nat) {x : Int} (hx : x = vo (i + 1)) (h1 : vr (i + 1) = vr i) (h3 : vs (i + 1) = vs i) : set1 (fS r o s i) o x = fS r o s (i + 1) := by
  funext j
  unfold set1 fS
  rw [h1, h3, hx]
  by_cases e : j = o
  · rw [if_pos e, if_neg (by rw [e]; exact h.ro.symm), if_pos e]
  · rw [if_neg e, if_neg e, if_neg e]
theorem N3.set_s (h : N3 c n a r o s) (i : Nat) {x : Int} (hx : x = vs (i + 1)) (h1 : vr (i + 1) = vr i) (h2 : vo (i + 1) = vo i) : set1 (fS r o s i) s x = fS r o s (i + 1) := by
  funext j
  unfold set1 fS
  rw [h1, h2, hx]
  by_cases e : j = s
  · rw [if_pos e, if_neg (by rw [e]; exact h.rs.symm), if_neg (by rw [e]; exact h.os.symm), if_pos e]
  · rw [if_neg e, if_neg e, if_neg e]
theorem N3.step (h : N3 c n a r o s) {i : Nat} (hi : i < 6) : set1 (fS r o s i) (nd r o s i) (goal (fS r o s i (nd r o s i)) (wS i)) = fS r o s (i + 1) := by
  rcases six_of hi with rfl | rfl | rfl | rfl | rfl | rfl
  · show set1 _ r (goal (fS r o s 0 r) _) = _
    rw [h.fr]; exact h.set_r 0 (by decide +kernel) (by decide) (by decide)
  · show set1 _ o (goal (fS r o s 1 o) _) = _
    rw [h.fo]; exact h.set_o 1 (by decide +kernel) (by decide) (by decide)
  · show set1 _ s (goal (fS r o s 2 s) _) = _
    rw [h.fs]; exact h.set_s 2 (by decide +kernel) (by decide) (by decide)
  · show set1 _ r (goal (fS r o s 3 r) _) = _
    rw [h.fr]; exact h.set_r 3 (by decide +kernel) (by decide) (by decide)
  · show set1 _ o (goal (fS r o s 4 o) _) = _
    rw [h.fo]; exact h.set_o 4 (by decide +kernel) (by decide) (by decide)
  · show set1 _ s (goal (fS r o s 5 s) _) = _
    rw [h.fs]; exact h.set_s 5 (by decide +kernel) (by decide) (by decide)
theorem N3.cnt (h : N3 c n a r o s) : ∀ i, i ≤ 6 → cntN (fS r o s i) n ≤ i
  | 0, _ => by rw [fS_0, cntN_zer]; omega
  | i + 1, hi => by
    have := h.cnt i (by omega)
    have h2 := cntN_set1 (fS r o s i) (nd r o s i) (goal (fS r o s i (nd r o s i)) (wS i)) n
    rw [h.step (by omega)] at h2
    omega
theorem N3.three_ask (h : N3 c n a r o s) {i : Nat} (hi : i < 6) : askT n 100 (duo (fS r o s i) zer) 0 (nd r o s i : Int) (wS i) = ((1, 0), duo (fS r o s (i + 1)) zer) := by
  have hn : nd r o s i < n := by
    unfold nd
    split
    · exact h.rn
    · split
      · exact h.on
      · exact h.sn
  have hz : mz (fS r o s i (nd r o s i)) := by
    unfold fS vr vo vs mz
    repeat' split
    all_goals omega
  have hm : md (wS i) := by
    rcases six_of hi with rfl | rfl | rfl | rfl | rfl | rfl <;> exact ⟨by decide, by decide⟩
  have e := duo_ask0 (f := fS r o s i) (g := zer) (m := wS i) (most := 100) hn hm hz (show mz 0 from ⟨by decide, by decide⟩) (.inl rfl) (by rw [duo_len, cntN_zer]; have := h.cnt i (by omega); omega)
  rw [h.step hi] at e
  exact e
/-- Which of the kinds: 0 nothing, 1 the region, 2 the whole object, 3 the object, 4 the stripe. -/
def kindK (hr ho hs : Int) (esc write : Bool) : Nat :=
  if coversB hr (inD write) = false then 1 else if wholeB write ho = true then 0 else if coversB hs (wantD write) = false ∧ esc = true then 2
  else if coversB ho (inD write) = false then 3 else if coversB hs (wantD write) = false then 4 else 0
def pickK (write : Bool) (r o s : Int) (k : Nat) : (Int × Int) × Bool :=
  if k = 1 then ((r, inD write), true) else if k = 2 then ((o, wantD write), true) else if k = 3 then ((o, inD write), true) else if k = 4 then ((s, wantD write), true) else ((0, 0), false)
theorem nextK_kind (hr ho hs : Int) (esc write : Bool) (r o s : Int) : nextK hr ho hs esc write r o s = pickK write r o s (kindK hr ho hs esc write) := by
  unfold nextK kindK pickK
  cases coversB hr (inD write) <;> cases wholeB write ho <;> cases coversB hs (wantD write) <;> cases esc <;> cases coversB ho (inD write) <;> rfl
theorem three_kind : ∀ i : Fin 6, kindK (vr i.val) (vo i.val) (vs i.val) false (decide (3 ≤ i.val)) = [1, 3, 4, 1, 3, 4].getD i.val 0 := by decide +kernel
theorem N3.three_next (h : N3 c n a r o s) (he : c.e = 0) {i : Nat} (hi : i < 6) : nextD c n (duo (fS r o s i) zer) 0 a (decide (3 ≤ i)) = (((nd r o s i : Int), wS i), true) := by
  rw [h.next0, esc_zero he, h.fr, h.fo, h.fs, nextK_kind, three_kind ⟨i, hi⟩]
  rcases six_of hi with rfl | rfl | rfl | rfl | rfl | rfl <;> rfl
theorem three_end : ∀ i : Fin 6, i.val % 3 = 2 → nx2 (vr (i.val + 1)) (vo (i.val + 1)) (vs (i.val + 1)) false (decide (3 ≤ i.val)) = false := by decide +kernel
theorem N3.three_more (h : N3 c n a r o s) (he : c.e = 0) {i : Nat} (hi : i < 6) (h2 : i % 3 = 2) : (nextD c n (duo (fS r o s (i + 1)) zer) 0 a (decide (3 ≤ i))).2 = false := by
  rw [h.next0, esc_zero he, h.fr, h.fo, h.fs, nextK_2]
  exact three_end ⟨i, hi⟩ h2
theorem N3.three_read (h : N3 c n a r o s) (he : c.e = 0) : (nextD c n (duo (fS r o s 6) zer) 0 a false).2 = false := by
  rw [h.next0, esc_zero he, h.fr, h.fo, h.fs, nextK_2]
  decide +kernel
theorem N3.three_str (h : N3 c n a r o s) (hok : okB c = true) (hn : (n : Int) = nodesD c) (h0 : 0 ≤ a) (h1 : a < nw c) : strD c n (duo (fS r o s 6) zer) 0 (o : Int) = 1 ∧ strD c n (duo (fS r o s 6) zer) 1 (o : Int) = 0 := by
  obtain ⟨hl, f, i, k, f1, f2, f3, f4, f5, f6⟩ := h.str hok hn h0 h1
  have hrf : r < f := by
    have e1 := h.hr
    have e2 := h.ho
    have hp := okB_hp hok
    have := (o_in hp h0 h1).1
    have := (r_in hp h0 h1).2
    omega
  have hk : c.s.toNat = k := by omega
  unfold strD
  rw [if_pos hl, if_pos hl, f1, hk]
  constructor
  · have := strK_one (n := n) (T := duo (fS r o s 6) zer) (who := 0) (f := (f : Int)) (i := i) ?_ k (fun j hj hne => ?_)
    · rw [this, if_pos f4]
    · rw [show (f : Int) + (i : Int) = ((f + i : Nat) : Int) by omega, holdT_in (by omega)]
      show lookD 0 (duoL _ _) ≠ 0
      rw [duoL_0, ← f3, h.fs]
      decide
    · rw [show (f : Int) + (j : Int) = ((f + j : Nat) : Int) by omega, holdT_in (by omega)]
      show lookD 0 (duoL _ _) = 0
      rw [duoL_0]
      unfold fS
      rw [if_neg (by omega), if_neg (by omega), if_neg (by omega)]
  · refine strK_zero _ (fun j hj => ?_)
    rw [show (f : Int) + (j : Int) = ((f + j : Nat) : Int) by omega, holdT_in (by omega)]
    show lookD 1 (duoL _ _) = 0
    rw [duoL_1]; rfl
end Go.Proofs.Ytdhpahopfmcdkaa

/- PathThree: its walk. -/
namespace Go.Proofs.Ytdhpahopfmcdkaa
open Go.RowKit

theorem cf_free {c : Cf} {b : Nat} {w : World} (h : Bx c b w) (k : Nat) : w.frozen? ⟨b, k, none⟩ = false := by
  unfold Bx at h
  simp [World.frozen?, h]
theorem cf_e0 {c : Cf} {b : Nat} {w : World} (h : Bx c b w) : Bx { c with e := 0 } b (w.setCell ⟨b, 9, none⟩ (.int .i64 0)) := by
  unfold Bx at h ⊢
  show (w.heap.modify b _)[b]? = _
  rw [Array.getElem?_modify, if_pos rfl, h]; rfl
/-- The six wanted locks, as they lie. -/
def w6 (r o s : Nat) : Array Value := #[.int .i64 r, .int .i64 1, .int .i64 o, .int .i64 1, .int .i64 s, .int .i64 3, .int .i64 r, .int .i64 2, .int .i64 o, .int .i64 2, .int .i64 s, .int .i64 5]
theorem w6_at (r o s : Nat) {i : Nat} (hi : i < 6) : (w6 r o s)[i * 2]? = some (.int .i64 (nd r o s i : Int)) ∧ (w6 r o s)[i * 2 + 1]? = some (.int .i64 (wS i)) := by
  rcases six_of hi with rfl | rfl | rfl | rfl | rfl | rfl <;> exact ⟨rfl, rfl⟩
set_option maxRecDepth 100000 in
set_option maxHeartbeats 8000000 in
theorem three_in (c0 c : Cf) (hc : c = { c0 with e := 0 }) (a : Int) (w : World) (hok : okB c = true) (h0 : 0 ≤ a) (h1 : a < nw c) :
    Calls Try.prog 7 #[cv c0, .int .i64 a] w fun e w' => e = .returned (.bool true) ∧ Below w.heap.size w w' := by
  obtain ⟨n, hn, n1, n2⟩ := nodes_le hok
  obtain ⟨r, o, s, h3⟩ := n3_of hok hn h0 h1
  have he0 : c.e = 0 := by rw [hc]
  have A := hide (fun i (hi : i < 6) => h3.three_next he0 hi)
  have K := hide (fun i (hi : i < 6) => h3.three_ask hi)
  have M : Hid (∀ i, i < 6 → i % 3 = 2 → ∃ y z, nextD c n (duo (fS r o s (i + 1)) zer) 0 a (decide (3 ≤ i)) = ((y, z), false)) := fun i hi h2 => by
    have := h3.three_more he0 hi h2
    obtain ⟨⟨⟨y, z⟩, u⟩, e⟩ : ∃ x, nextD c n (duo (fS r o s (i + 1)) zer) 0 a (decide (3 ≤ i)) = x := ⟨_, rfl⟩
    rw [e] at this
    exact ⟨y, z, by rw [e]; rw [show u = false from this]⟩
  obtain ⟨⟨⟨y6, z6⟩, u6⟩, N6⟩ : ∃ x, nextD c n (duo (fS r o s 6) zer) 0 a false = x := ⟨_, rfl⟩
  have A6 := h3.three_read he0
  rw [N6] at A6
  replace A6 : u6 = false := A6
  subst A6
  obtain ⟨S0, S1⟩ := h3.three_str hok hn h0 h1
  have hx := bx_new c0 w
  have hb := below_new w (.cells #[.int .i64 c0.r, .int .i64 c0.o, .int .i64 c0.s, .int .i64 c0.d, .int .i64 c0.t, .int .i64 c0.l, .int .i64 c0.g, .int .i64 c0.k, .int .i64 c0.u, .int .i64 c0.e, .int .i64 c0.i, .int .i64 c0.p] 73)
  obtain ⟨w1, hw1⟩ : ∃ w1, w1 = w.alloc (.cells #[.int .i64 c0.r, .int .i64 c0.o, .int .i64 c0.s, .int .i64 c0.d, .int .i64 c0.t, .int .i64 c0.l, .int .i64 c0.g, .int .i64 c0.k, .int .i64 c0.u, .int .i64 c0.e, .int .i64 c0.i, .int .i64 c0.p] 73) := ⟨_, rfl⟩
  obtain ⟨q, hq⟩ : ∃ q, q = w.heap.size := ⟨_, rfl⟩
  rw [← hw1, ← hq] at hx
  rw [← hw1] at hb
  replace hb := hide hb
  have HC := hide (fun w' => check_ok hok w')
  have HW := hide (fun w' => words_at hok w')
  have HP := hide (fun w' => h3.path hok h0 h1 w')
  have HN := hide (fun w' => nodes_at hn w')
  have hle : a < nw c := h1
  have HK := hide hok
  have HN6 := hide N6
  replace S0 := hide S0
  replace S1 := hide S1
  have k0 : ¬ a < 0 := by omega
  have k1 : ¬ nw c ≤ a := by omega
  have H0 := hide h0
  have H1 := hide h1
  have Hq : Hid (w.heap.size ≤ q) := by show _ ≤ _; rw [hq]; exact Nat.le_refl _
  clear hok hn h3 N6 he0
  obtain ⟨a0, a1, a2, a3, a4, a5, a6, a7, a8, a9, a10, a11⟩ := hx.cells
  obtain ⟨V, hV⟩ : ∃ V, V = nw c := ⟨_, rfl⟩
  rw [← hV] at HW k1 hle
  replace hV := hide hV
  unfold cv
  go_enter Try.func7, Try.ntmps7
  go_wp2_with fail
  rw [← hw1, ← hq]
  refine (first10_any w1).mono ?_
  rintro e w2 ⟨rfl, b2⟩
  have x2 := hx.next b2
  have B2 := hide (below_then (unhide hb) b2)
  replace hw1 := hide hw1
  replace hq := hide hq
  clear a0 a1 a2 a3 a4 a5 a6 a7 a8 a9 a10 a11 b2 hx
  obtain ⟨w3, hw3⟩ : ∃ w3, w3 = w2.setCell ⟨q, 9, none⟩ (.int .i64 0) := ⟨_, rfl⟩
  have x3 : Bx c q w3 := by rw [hw3, hc]; exact cf_e0 x2
  have B3 : Hid (Below w.heap.size w w3) := by rw [hw3]; exact (unhide B2).setCell (p := ⟨q, 9, none⟩) (unhide Hq) _
  have f9 := cf_free x2 9
  obtain ⟨a0, a1, a2, a3, a4, a5, a6, a7, a8, a9, a10, a11⟩ := x2.cells
  clear hc
  go_upto_region 4 with fail
  rw [← hw3]
  replace hw3 := hide hw3
  clear a0 a1 a2 a3 a4 a5 a6 a7 a8 a9 a10 a11 f9 x2
  obtain ⟨a0, a1, a2, a3, a4, a5, a6, a7, a8, a9, a10, a11⟩ := x3.cells
  go_wp2_with fail
  refine (unhide HC w3).mono ?_
  rintro e w4 ⟨rfl, b4⟩
  have x4 := x3.next b4
  have B4 := hide (below_then (unhide B3) b4)
  clear a0 a1 a2 a3 a4 a5 a6 a7 a8 a9 a10 a11 b4 x3
  obtain ⟨a0, a1, a2, a3, a4, a5, a6, a7, a8, a9, a10, a11⟩ := x4.cells
  go_wp2_with fail
  refine (unhide HW w4).mono ?_
  rintro e w5 ⟨rfl, b5⟩
  have x5 := x4.next b5
  have B5 := hide (below_then (unhide B4) b5)
  clear a0 a1 a2 a3 a4 a5 a6 a7 a8 a9 a10 a11 b5 x4
  obtain ⟨a0, a1, a2, a3, a4, a5, a6, a7, a8, a9, a10, a11⟩ := x5.cells
  go_wp2_with fail
  refine (unhide HN w5).mono ?_
  rintro e w6' ⟨rfl, b6⟩
  have x6 := x5.next b6
  have B6 := hide (below_then (unhide B5) b6)
  clear a0 a1 a2 a3 a4 a5 a6 a7 a8 a9 a10 a11 b6 x5
  go_wp2_with fail
  refine (new_n n 100 w6' n1 (by omega) (by decide) (by decide)).mono ?_
  rintro e w7 ⟨b, rfl, L7, b7⟩
  obtain ⟨B, hB⟩ : ∃ B, B = w6'.heap.size := ⟨_, rfl⟩
  rw [← hB] at L7
  have X7 : Hid (Py c q B n 100 none0 b w w7) := hide ⟨x6.next b7, L7, below_then (unhide B6) b7, by rw [hB]; exact (unhide B6).size⟩
  replace hB := hide hB
  clear x6 b7 L7
  obtain ⟨a0, a1, a2, a3, a4, a5, a6, a7, a8, a9, a10, a11⟩ := (unhide X7).bx.cells
  go_wp2_with fail
  refine (unhide HP w7).mono ?_
  rintro e w8 ⟨rfl, b8⟩
  have X8 := hide ((unhide X7).next b8)
  clear a0 a1 a2 a3 a4 a5 a6 a7 a8 a9 a10 a11 b8
  obtain ⟨g, hg⟩ : ∃ g, g = w8.heap.size := ⟨_, rfl⟩
  have PG := heap_alloc_new w8 (.cells (w6 r o s) 50)
  have X9 : Py c q B n 100 none0 b w (w8.alloc (.cells (w6 r o s) 50)) := (unhide X8).next (below_new w8 _)
  unfold w6 at PG X9
  obtain ⟨w9, hw9⟩ : ∃ w9, w9 = w8.alloc (.cells #[.int .i64 r, .int .i64 1, .int .i64 o, .int .i64 1, .int .i64 s, .int .i64 3, .int .i64 r, .int .i64 2, .int .i64 o, .int .i64 2, .int .i64 s, .int .i64 5] 50) := ⟨_, rfl⟩
  rw [← hw9, ← hg] at PG
  rw [← hw9] at X9
  have PG' : Hid (w9.heap[g]? = some (.cells (w6 r o s) 50 (0, 0))) := PG
  replace X9 := hide X9
  clear PG
  go_wp2_with fail
  rw [← hw9, ← hg]
  replace hw9 := hide hw9
  replace hg := hide hg
  go_loopw [12] (fun s12 wr => ∃ i : Nat, i ≤ 6 ∧ s12 = .int .i64 i ∧ Hid (Py c q B n 100 (duo (fS r o s i) zer) b w wr) ∧ Hid (wr.heap[g]? = some (.cells (w6 r o s) 50 (0, 0)))) (fun s12 _ => 6 - (intOf s12).toNat)
  case atStart => exact ⟨0, Nat.zero_le _, rfl, by show Py _ _ _ _ _ _ _ _ _; rw [fS_0, duo_none]; exact unhide X9, unhide PG'⟩
  case round =>
    obtain ⟨i, hi, rfl, X, G⟩ := hrel
    by_cases hlt : i < 6
    · obtain ⟨y, hy⟩ : ∃ y : Int, y = (nd r o s i : Int) := ⟨_, rfl⟩
      obtain ⟨z, hz⟩ : ∃ z : Int, z = wS i := ⟨_, rfl⟩
      have hA := unhide A i hlt
      have hK := unhide K i hlt
      have hM := unhide M i hlt
      obtain ⟨g0, g1⟩ := w6_at r o s hlt
      rw [← hy] at hA hK g0
      rw [← hz] at hA hK g1
      replace g0 := hide g0
      replace g1 := hide g1
      replace hK := hide hK
      replace hM := hide hM
      clear hy hz
      obtain ⟨a0, a1, a2, a3, a4, a5, a6, a7, a8, a9, a10, a11⟩ := (unhide X).bx.cells
      obtain ⟨v, hv⟩ : ∃ v, v = decide (3 ≤ i) := ⟨_, rfl⟩
      rw [← hv] at hA hM
      have hvi : decide ((3 : Int) ≤ i) = v := by rw [hv]; simp; omega
      replace hv := hide hv
      replace hA := hide hA
      go_wp2_with fail
      refine (next_in c wr (unhide X).tn (duo_few _ _ _) 0 a v (unhide HK) (unhide H0) (unhide H1) (unhide hA)).mono ?_
      rintro e w10 ⟨rfl, b10⟩
      obtain ⟨p, hp⟩ : ∃ p, p = w10.heap.size := ⟨_, rfl⟩
      obtain ⟨w11, hw11⟩ : ∃ w11, w11 = w10.alloc (.cells #[.int .i64 y, .int .i64 z] 50) := ⟨_, rfl⟩
      have P11 : w11.heap[p]? = some (.cells #[.int .i64 y, .int .i64 z] 50 (0, 0)) := by rw [hw11, hp]; exact heap_alloc_new w10 _
      have b11 : Below wr.heap.size wr w11 := by rw [hw11]; exact below_add b10 _
      have X11 := hide ((unhide X).next b11)
      have G11 : w11.heap[g]? = some (.cells (w6 r o s) 50 (0, 0)) := (b11.block g (heap_lt (unhide G))).trans (unhide G)
      have e0 : w11.cell? ⟨g, i * 2, none⟩ = some (.int .i64 y) := by simp only [World.cell?, G11]; exact unhide g0
      have e1 : w11.cell? ⟨g, i * 2 + 1, none⟩ = some (.int .i64 z) := by simp only [World.cell?, G11]; exact unhide g1
      obtain ⟨y0, y1, _, _⟩ := lock_cells P11
      replace G11 := hide G11
      clear a0 a1 a2 a3 a4 a5 a6 a7 a8 a9 a10 a11 b10 b11 P11
      unfold nxV
      dsimp only
      go_upto_region 15 with fail
      rw [← hw11, ← hp]
      replace hw11 := hide hw11
      replace hp := hide hp
      go_quiet (fail)
      have bq : Below w11.heap.size w11 (w11.drewN nq) := ⟨rfl, rfl, rfl, Nat.le_refl _, fun _ _ => rfl⟩
      have X12 := hide ((unhide X11).next bq)
      have G12 : Hid ((w11.drewN nq).heap[g]? = some (.cells (w6 r o s) 50 (0, 0))) := unhide G11
      clear bq e0 e1
      go_wp2_with fail
      refine ((unhide X12).ask (duo_few _ _ _) (by omega) (unhide hK)).mono ?_
      rintro e w13 ⟨rfl, X13, b13, s13⟩
      have G13 : Hid (w13.heap[g]? = some (.cells (w6 r o s) 50 (0, 0))) := s13 g _ 50 (unhide G12) (by decide) (by decide)
      replace X13 := hide X13
      clear b13 s13 y0 y1
      by_cases h2 : i % 3 = 2
      · obtain ⟨y', z', hM'⟩ := unhide hM h2
        replace hM' := hide hM'
        have hm : ((i : Int) % 3) = 2 := by omega
        obtain ⟨a0, a1, a2, a3, a4, a5, a6, a7, a8, a9, a10, a11⟩ := (unhide X13).bx.cells
        clear h2
        go_wp2_with fail
        refine (next_in c w13 (unhide X13).tn (duo_few _ _ _) 0 a v (unhide HK) (unhide H0) (unhide H1) (unhide hM')).mono ?_
        rintro e w14 ⟨rfl, b14⟩
        have b15 := below_add b14 (.cells #[.int .i64 y', .int .i64 z'] 50)
        have X15 := hide ((unhide X13).next b15)
        have G15 : Hid ((w14.alloc (.cells #[.int .i64 y', .int .i64 z'] 50)).heap[g]? = some (.cells (w6 r o s) 50 (0, 0))) := (b15.block g (heap_lt (unhide G13))).trans (unhide G13)
        clear b14 b15 a0 a1 a2 a3 a4 a5 a6 a7 a8 a9 a10 a11
        unfold nxV
        dsimp only
        go_wp2
        go_roundw
        case rel => exact ⟨i + 1, by omega, by go_num, unhide X15, unhide G15⟩
        case measure => simp [intOf]; omega
      · have hm : ¬ ((i : Int) % 3) = 2 := by omega
        clear h2
        go_wp2
        go_roundw
        case rel => exact ⟨i + 1, by omega, by go_num, unhide X13, unhide G13⟩
        case measure => simp [intOf]; omega
    · obtain rfl : i = 6 := by omega
      obtain ⟨a0, a1, a2, a3, a4, a5, a6, a7, a8, a9, a10, a11⟩ := (unhide X).bx.cells
      go_wp2_with fail
      refine (next_in c wr (unhide X).tn (duo_few _ _ _) 0 a false (unhide HK) (unhide H0) (unhide H1) (unhide HN6)).mono ?_
      rintro e w10 ⟨rfl, b10⟩
      have b11 := below_add b10 (.cells #[.int .i64 y6, .int .i64 z6] 50)
      have X11 := hide ((unhide X).next b11)
      clear b10 b11 a0 a1 a2 a3 a4 a5 a6 a7 a8 a9 a10 a11
      unfold nxV
      dsimp only
      go_wp2_with fail
      refine (first10_any _).mono ?_
      rintro e w12 ⟨rfl, b12⟩
      have X12 := hide ((unhide X11).next b12)
      clear b12
      obtain ⟨a0, a1, a2, a3, a4, a5, a6, a7, a8, a9, a10, a11⟩ := (unhide X12).bx.cells
      go_wp2_with fail
      refine (stripes_p c w12 (unhide X12).tn (duo_few _ _ _) 0 (o : Int) (unhide S0)).mono ?_
      rintro e w13 ⟨rfl, b13⟩
      have X13 := hide ((unhide X12).next b13)
      clear b13 a0 a1 a2 a3 a4 a5 a6 a7 a8 a9 a10 a11
      obtain ⟨a0, a1, a2, a3, a4, a5, a6, a7, a8, a9, a10, a11⟩ := (unhide X13).bx.cells
      go_wp2_with fail
      refine (stripes_p c w13 (unhide X13).tn (duo_few _ _ _) 1 (o : Int) (unhide S1)).mono ?_
      rintro e w14 ⟨rfl, b14⟩
      have X14 := hide ((unhide X13).next b14)
      clear b14 a0 a1 a2 a3 a4 a5 a6 a7 a8 a9 a10 a11
      go_wp2
      go_ret
      exact ⟨rfl, (unhide X14).bel⟩
set_option maxRecDepth 100000 in
set_option maxHeartbeats 4000000 in
theorem three_out (c0 c : Cf) (hc : c = { c0 with e := 0 }) (a : Int) (w : World) (h : okB c = false ∨ (okB c = true ∧ a < 0) ∨ (okB c = true ∧ 0 ≤ a ∧ nw c ≤ a)) :
    Calls Try.prog 7 #[cv c0, .int .i64 a] w fun e w' => e = .returned (.bool true) ∧ Below w.heap.size w w' := by
  have hx := bx_new c0 w
  have hb := below_new w (.cells #[.int .i64 c0.r, .int .i64 c0.o, .int .i64 c0.s, .int .i64 c0.d, .int .i64 c0.t, .int .i64 c0.l, .int .i64 c0.g, .int .i64 c0.k, .int .i64 c0.u, .int .i64 c0.e, .int .i64 c0.i, .int .i64 c0.p] 73)
  obtain ⟨w1, hw1⟩ : ∃ w1, w1 = w.alloc (.cells #[.int .i64 c0.r, .int .i64 c0.o, .int .i64 c0.s, .int .i64 c0.d, .int .i64 c0.t, .int .i64 c0.l, .int .i64 c0.g, .int .i64 c0.k, .int .i64 c0.u, .int .i64 c0.e, .int .i64 c0.i, .int .i64 c0.p] 73) := ⟨_, rfl⟩
  obtain ⟨q, hq⟩ : ∃ q, q = w.heap.size := ⟨_, rfl⟩
  rw [← hw1, ← hq] at hx
  rw [← hw1] at hb
  replace hb := hide hb
  have Hq : Hid (w.heap.size ≤ q) := by show _ ≤ _; rw [hq]; exact Nat.le_refl _
  have R := fun w' => rcheck_any c w'
  obtain ⟨ok, hok⟩ : ∃ ok, ok = okB c := ⟨_, rfl⟩
  have HW : Hid (ok = true → ∀ w', Calls Try.prog 48 #[cv c] w' fun e w'' => e = .returned (.int .i64 (nw c)) ∧ Below w'.heap.size w' w'') := fun e w' => words_at (by rw [← hok]; exact e) w'
  rw [← hok] at h R
  clear hok
  obtain ⟨V, hV⟩ : ∃ V, V = nw c := ⟨_, rfl⟩
  rw [← hV] at HW h
  replace hV := hide hV
  obtain ⟨a0, a1, a2, a3, a4, a5, a6, a7, a8, a9, a10, a11⟩ := hx.cells
  rcases h with rfl | ⟨rfl, h⟩ | ⟨rfl, h, h2⟩
  case inr.inr =>
    rw [errOf_t] at R
    replace R := hide R
    have k0 : ¬ a < 0 := by omega
    unfold cv
    go_enter Try.func7, Try.ntmps7
    go_wp2_with fail
    rw [← hw1, ← hq]
    refine (first10_any w1).mono ?_
    rintro e w2 ⟨rfl, b2⟩
    have z2 := hx.next b2
    have Z2 := hide (below_then (unhide hb) b2)
    replace hw1 := hide hw1
    replace hq := hide hq
    clear a0 a1 a2 a3 a4 a5 a6 a7 a8 a9 a10 a11 b2 hx
    obtain ⟨v2, hv2⟩ : ∃ v2, v2 = w2.setCell ⟨q, 9, none⟩ (.int .i64 0) := ⟨_, rfl⟩
    have x2 : Bx c q v2 := by rw [hv2, hc]; exact cf_e0 z2
    have B2 : Hid (Below w.heap.size w v2) := by rw [hv2]; exact (unhide Z2).setCell (p := ⟨q, 9, none⟩) (unhide Hq) _
    have f9 := cf_free z2 9
    obtain ⟨a0, a1, a2, a3, a4, a5, a6, a7, a8, a9, a10, a11⟩ := z2.cells
    clear hc
    go_upto_region 4 with fail
    rw [← hv2]
    replace hv2 := hide hv2
    clear a0 a1 a2 a3 a4 a5 a6 a7 a8 a9 a10 a11 f9 z2
    obtain ⟨a0, a1, a2, a3, a4, a5, a6, a7, a8, a9, a10, a11⟩ := x2.cells
    go_wp2_with fail
    refine (unhide R v2).mono ?_
    rintro e w3 ⟨rfl, b3⟩
    have x3 := x2.next b3
    have B3 := hide (below_then (unhide B2) b3)
    clear a0 a1 a2 a3 a4 a5 a6 a7 a8 a9 a10 a11 b3 x2
    obtain ⟨a0, a1, a2, a3, a4, a5, a6, a7, a8, a9, a10, a11⟩ := x3.cells
    go_wp2_with fail
    refine (unhide HW trivial w3).mono ?_
    rintro e w4 ⟨rfl, b4⟩
    have B4 := hide (below_then (unhide B3) b4)
    clear a0 a1 a2 a3 a4 a5 a6 a7 a8 a9 a10 a11 b4
    go_wp2_with fail
    refine (first10_any _).mono ?_
    rintro e w5 ⟨rfl, b5⟩
    have B5 := hide (below_then (unhide B4) b5)
    clear b5
    go_wp2
    go_ret
    exact ⟨rfl, unhide B5⟩
  all_goals
    simp only [errOf_t, errOf_f] at R
    replace R := hide R
    unfold cv
    go_enter Try.func7, Try.ntmps7
    go_wp2_with fail
    rw [← hw1, ← hq]
    refine (first10_any w1).mono ?_
    rintro e w2 ⟨rfl, b2⟩
    have z2 := hx.next b2
    have Z2 := hide (below_then (unhide hb) b2)
    replace hw1 := hide hw1
    replace hq := hide hq
    clear a0 a1 a2 a3 a4 a5 a6 a7 a8 a9 a10 a11 b2 hx
    obtain ⟨v2, hv2⟩ : ∃ v2, v2 = w2.setCell ⟨q, 9, none⟩ (.int .i64 0) := ⟨_, rfl⟩
    have x2 : Bx c q v2 := by rw [hv2, hc]; exact cf_e0 z2
    have B2 : Hid (Below w.heap.size w v2) := by rw [hv2]; exact (unhide Z2).setCell (p := ⟨q, 9, none⟩) (unhide Hq) _
    have f9 := cf_free z2 9
    obtain ⟨a0, a1, a2, a3, a4, a5, a6, a7, a8, a9, a10, a11⟩ := z2.cells
    clear hc
    go_upto_region 4 with fail
    rw [← hv2]
    replace hv2 := hide hv2
    clear a0 a1 a2 a3 a4 a5 a6 a7 a8 a9 a10 a11 f9 z2
    obtain ⟨a0, a1, a2, a3, a4, a5, a6, a7, a8, a9, a10, a11⟩ := x2.cells
    go_wp2_with fail
    refine (unhide R v2).mono ?_
    rintro e w3 ⟨rfl, b3⟩
    have x3 := x2.next b3
    have B3 := hide (below_then (unhide B2) b3)
    clear a0 a1 a2 a3 a4 a5 a6 a7 a8 a9 a10 a11 b3 x2
    obtain ⟨a0, a1, a2, a3, a4, a5, a6, a7, a8, a9, a10, a11⟩ := x3.cells
    go_wp2_with fail
    refine (first10_any _).mono ?_
    rintro e w5 ⟨rfl, b5⟩
    have B5 := hide (below_then (unhide B3) b5)
    clear b5 a0 a1 a2 a3 a4 a5 a6 a7 a8 a9 a10 a11
    go_wp2
    go_ret
    exact ⟨rfl, unhide B5⟩
theorem pathThree_walk (c0 : Cf) (a : Int) (w : World) (_ : (Lit.int .i64 a).wf = true) :
    Calls Try.prog 7 #[cv c0, .int .i64 a] w fun e w' => e = .returned (.bool true) ∧ Below w.heap.size w w' := by
  obtain ⟨c, hc⟩ : ∃ c : Cf, c = { c0 with e := 0 } := ⟨_, rfl⟩
  cases hok : okB c
  · exact three_out c0 c hc a w (.inl hok)
  · by_cases h : 0 ≤ a ∧ a < nw c
    · exact three_in c0 c hc a w hok h.1 h.2
    · exact three_out c0 c hc a w (.inr (by
        by_cases h2 : a < 0
        · exact .inl ⟨hok, h2⟩
        · exact .inr ⟨hok, by omega, by omega⟩))
end Go.Proofs.Ytdhpahopfmcdkaa
