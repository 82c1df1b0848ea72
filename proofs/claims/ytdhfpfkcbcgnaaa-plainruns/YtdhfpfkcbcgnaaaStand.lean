/- mayReckon, mayStand, Check, Addr of package prog. -/
import Derived.Test.YtdhfpfkcbcgnaaaIns
namespace Go.Proofs.Ytdhfpfkcbcgnaaa
open Go.RowKit

/-- An instruction. -/
structure In where
  k : Int
  a : Int
  b : Int
  c : Int
  l : List Int
/-- .. as a value; its L is v. -/
def iv (x : In) (v : Value) : Value := .agg #[.int .i64 x.k, .int .i64 x.a, .int .i64 x.b, .int .i64 x.c, v]
/-- .. as it lies in block b. -/
def Ix (x : In) (v : Value) (b : Nat) (w : World) : Prop := w.heap[b]? = some (.cells #[.int .i64 x.k, .int .i64 x.a, .int .i64 x.b, .int .i64 x.c, v] 44 (0, 0))
theorem Ix.lt {x : In} {v : Value} {b : Nat} {w : World} (h : Ix x v b w) : b < w.heap.size := by
  unfold Ix at h
  by_cases hb : b < w.heap.size
  · exact hb
  · rw [Array.getElem?_eq_none (by omega)] at h; cases h
theorem Ix.next {x : In} {v : Value} {b : Nat} {w w' : World} (h : Ix x v b w) (hb : Below w.heap.size w w') : Ix x v b w' := (hb.block b h.lt).trans h
theorem Ix.cells {x : In} {v : Value} {b : Nat} {w : World} (h : Ix x v b w) :
    w.cell? ⟨b, 0, none⟩ = some (.int .i64 x.k) ∧ w.cell? ⟨b, 1, none⟩ = some (.int .i64 x.a) ∧ w.cell? ⟨b, 2, none⟩ = some (.int .i64 x.b) ∧ w.cell? ⟨b, 3, none⟩ = some (.int .i64 x.c) ∧ w.cell? ⟨b, 4, none⟩ = some v := by
  unfold Ix at h
  simp [World.cell?, h]
theorem ix_new (x : In) (v : Value) (w : World) : Ix x v w.heap.size (w.alloc (.cells #[.int .i64 x.k, .int .i64 x.a, .int .i64 x.b, .int .i64 x.c, v] 44)) := by
  show (w.heap.push _)[w.heap.size]? = _
  simp
/-- The slice v holds the numbers l, and lies below B. -/
def Ls (B : Nat) (w : World) (v : Value) (l : List Int) : Prop := ∃ a len cap, v = .slice a len cap ∧ len ≤ cap ∧ cap ≤ maxLen ∧ (a = none → cap = 0) ∧ SegB .i64 B w a len l
theorem Ls.later {B : Nat} {w w' : World} {v : Value} {l : List Int} (h : Ls B w v l) (hb : Below B w w') : Ls B w' v l := by
  obtain ⟨a, len, cap, h1, h2, h3, h5, h4⟩ := h
  exact ⟨a, len, cap, h1, h2, h3, h5, h4.later hb⟩
theorem SegB.up {k : IntKind} {B C : Nat} {w : World} {a : Option Addr} {len : Nat} {l : List Int} (h : SegB k B w a len l) (hB : B ≤ C) : SegB k C w a len l := by
  rcases h.2 with h0 | ⟨b, off, rfl, hlt, hc⟩
  · exact ⟨h.1, .inl h0⟩
  · exact ⟨h.1, .inr ⟨b, off, rfl, by omega, hc⟩⟩
theorem SegB.seg {k : IntKind} {B : Nat} {w : World} {a : Option Addr} {len : Nat} {l : List Int} (h : SegB k B w a len l) : SegK k w a len l := by
  rcases h.2 with h0 | ⟨b, off, rfl, hlt, hc⟩
  · exact ⟨h.1, .inl h0⟩
  · exact ⟨h.1, .inr ⟨b, off, rfl, hc⟩⟩
theorem Ls.up {B C : Nat} {w : World} {v : Value} {l : List Int} (h : Ls B w v l) (hB : B ≤ C) : Ls C w v l := by
  obtain ⟨a, len, cap, h1, h2, h3, h5, h4⟩ := h
  exact ⟨a, len, cap, h1, h2, h3, h5, h4.up hB⟩

def reB (g : Int) (x : In) : Bool := wiB g [x.a] && (knownB x.b && (decide (0 < x.l.length) && (decide (x.l.length ≤ 8) && wiB g x.l)))
set_option maxRecDepth 100000 in
theorem mayReckon_any (c : Cf) (x : In) (v : Value) (w : World) (hl : Ls w.heap.size w v x.l) :
    Calls Try.prog 44 #[cv c, iv x v] w fun e w' => e = .returned (.bool (reB c.g x)) ∧ Below w.heap.size w w' := by
  obtain ⟨a, len, cap, rfl, h1, h2, _, h3⟩ := hl
  have hmax : maxLen = 9223372036854775807 := rfl
  have hlen : len ≤ maxLen := by omega
  have hll : x.l.length = len := h3.1
  unfold cv iv
  have b1 := below_new w (.cells #[.int .i64 c.r, .int .i64 c.o, .int .i64 c.s, .int .i64 c.d, .int .i64 c.t, .int .i64 c.l, .int .i64 c.g, .int .i64 c.k, .int .i64 c.u, .int .i64 c.e, .int .i64 c.i, .int .i64 c.p] 23)
  have b2 := below_then b1 (below_new _ (.cells #[.int .i64 x.k, .int .i64 x.a, .int .i64 x.b, .int .i64 x.c, .slice a len cap] 44))
  have b3 := below_then b2 (below_new _ (.cells #[.int .i64 x.a] 3))
  have s3 := (h3.later b3).seg
  have s1 := seg_one ((w.alloc (.cells #[.int .i64 c.r, .int .i64 c.o, .int .i64 c.s, .int .i64 c.d, .int .i64 c.t, .int .i64 c.l, .int .i64 c.g, .int .i64 c.k, .int .i64 c.u, .int .i64 c.e, .int .i64 c.i, .int .i64 c.p] 23)).alloc (.cells #[.int .i64 x.k, .int .i64 x.a, .int .i64 x.b, .int .i64 x.c, .slice a len cap] 44)) x.a 3 (w.heap.size + 1 + 1) (by simp)
  replace s3 := hide s3
  replace s1 := hide s1
  replace b3 := hide b3
  replace h3 := hide h3
  clear b1 b2
  have fin : ∀ y : Bool, reB c.g x = y → Hid (reB c.g x = y) := fun _ h => h
  cases e1 : wiB c.g [x.a]
  · have r : reB c.g x = false := by simp [reB, e1]
    replace r := fin _ r
    go_enter Try.func44, Try.ntmps44
    go_wp2_with fail
    refine (pwithin_any c.g _ 1 1 [x.a] _ (unhide s1) (by decide)).mono ?_
    rw [e1]
    rintro e _ ⟨rfl, rfl⟩
    go_wp2
    go_ret
    exact ⟨by rw [unhide r]; rfl, unhide b3⟩
  · cases e2 : knownB x.b
    · have r : reB c.g x = false := by simp [reB, e1, e2]
      replace r := fin _ r
      go_enter Try.func44, Try.ntmps44
      go_wp2_with fail
      refine (pwithin_any c.g _ 1 1 [x.a] _ (unhide s1) (by decide)).mono ?_
      rw [e1]
      rintro e _ ⟨rfl, rfl⟩
      go_wp2_with fail
      refine (known_any x.b _).mono ?_
      rw [e2]
      rintro e _ ⟨rfl, rfl⟩
      go_wp2
      go_ret
      exact ⟨by rw [unhide r]; rfl, unhide b3⟩
    · by_cases e3 : 0 < len
      · have d3 : decide (0 < (len : Int)) = true := decide_eq_true (by omega)
        by_cases e4 : len ≤ 8
        · have d4 : decide ((len : Int) ≤ 8) = true := decide_eq_true (by omega)
          have r : reB c.g x = wiB c.g x.l := by simp [reB, e1, e2, hll, e3, e4]
          replace r := fin _ r
          go_enter Try.func44, Try.ntmps44
          go_wp2_with fail
          refine (pwithin_any c.g _ 1 1 [x.a] _ (unhide s1) (by decide)).mono ?_
          rw [e1]
          rintro e _ ⟨rfl, rfl⟩
          go_wp2_with fail
          refine (known_any x.b _).mono ?_
          rw [e2]
          rintro e _ ⟨rfl, rfl⟩
          go_wp2_with fail
          refine (pwithin_any c.g a len cap x.l _ (unhide s3) hlen).mono ?_
          rintro e _ ⟨rfl, rfl⟩
          go_wp2
          go_ret
          exact ⟨by rw [unhide r]; rfl, unhide b3⟩
        · have d4 : decide ((len : Int) ≤ 8) = false := decide_eq_false (by omega)
          have r : reB c.g x = false := by simp [reB, e1, e2, hll, e3, e4]
          replace r := fin _ r
          go_enter Try.func44, Try.ntmps44
          go_wp2_with fail
          refine (pwithin_any c.g _ 1 1 [x.a] _ (unhide s1) (by decide)).mono ?_
          rw [e1]
          rintro e _ ⟨rfl, rfl⟩
          go_wp2_with fail
          refine (known_any x.b _).mono ?_
          rw [e2]
          rintro e _ ⟨rfl, rfl⟩
          go_wp2
          go_ret
          exact ⟨by rw [unhide r]; rfl, unhide b3⟩
      · have d3 : decide (0 < (len : Int)) = false := decide_eq_false (by omega)
        have r : reB c.g x = false := by simp [reB, e1, e2, hll, e3]
        replace r := fin _ r
        go_enter Try.func44, Try.ntmps44
        go_wp2_with fail
        refine (pwithin_any c.g _ 1 1 [x.a] _ (unhide s1) (by decide)).mono ?_
        rw [e1]
        rintro e _ ⟨rfl, rfl⟩
        go_wp2_with fail
        refine (known_any x.b _).mono ?_
        rw [e2]
        rintro e _ ⟨rfl, rfl⟩
        go_wp2
        go_ret
        exact ⟨by rw [unhide r]; rfl, unhide b3⟩
def stB (g : Int) (x : In) (i n : Int) : Bool :=
  if x.k ≠ 4 ∧ 0 < x.l.length then false else
  if x.k = 1 ∨ x.k = 2 then wiB g [x.a] && (decide (x.c = -1) || wiB g [x.c]) else
  if x.k = 3 then wiB g [x.a] else
  if x.k = 4 then reB g x else
  if x.k = 5 then wiB g [x.a] && (decide (i < x.b) && decide (x.b ≤ n)) else
  decide (x.k = 6 ∨ x.k = 7)
set_option maxRecDepth 100000 in
set_option maxHeartbeats 2000000 in
theorem mayStand_any (c : Cf) (x : In) (v : Value) (i n : Int) (w : World) (hl : Ls w.heap.size w v x.l) :
    Calls Try.prog 31 #[cv c, iv x v, .int .i64 i, .int .i64 n] w fun e w' => e = .returned (.bool (stB c.g x i n)) ∧ Below w.heap.size w w' := by
  have hl0 := hl
  obtain ⟨p, len, cap, rfl, h1, h2, _, h3⟩ := hl
  have hmax : maxLen = 9223372036854775807 := rfl
  have hll : x.l.length = len := h3.1
  obtain ⟨k, a, b, d, l⟩ := x
  replace hll : l.length = len := hll
  have b2 := below_then (below_new w (.cells #[.int .i64 c.r, .int .i64 c.o, .int .i64 c.s, .int .i64 c.d, .int .i64 c.t, .int .i64 c.l, .int .i64 c.g, .int .i64 c.k, .int .i64 c.u, .int .i64 c.e, .int .i64 c.i, .int .i64 c.p] 23)) (below_new _ (.cells #[.int .i64 k, .int .i64 a, .int .i64 b, .int .i64 d, .slice p len cap] 44))
  have b3 := below_then b2 (below_new _ (.cells #[.int .i64 a] 3))
  have b4 := below_then b3 (below_new _ (.cells #[.int .i64 d] 3))
  have s1 := seg_one ((w.alloc (.cells #[.int .i64 c.r, .int .i64 c.o, .int .i64 c.s, .int .i64 c.d, .int .i64 c.t, .int .i64 c.l, .int .i64 c.g, .int .i64 c.k, .int .i64 c.u, .int .i64 c.e, .int .i64 c.i, .int .i64 c.p] 23)).alloc (.cells #[.int .i64 k, .int .i64 a, .int .i64 b, .int .i64 d, .slice p len cap] 44)) a 3 (w.heap.size + 1 + 1) (by simp)
  have s2 := seg_one (((w.alloc (.cells #[.int .i64 c.r, .int .i64 c.o, .int .i64 c.s, .int .i64 c.d, .int .i64 c.t, .int .i64 c.l, .int .i64 c.g, .int .i64 c.k, .int .i64 c.u, .int .i64 c.e, .int .i64 c.i, .int .i64 c.p] 23)).alloc (.cells #[.int .i64 k, .int .i64 a, .int .i64 b, .int .i64 d, .slice p len cap] 44)).alloc (.cells #[.int .i64 a] 3)) d 3 (w.heap.size + 1 + 1 + 1) (by simp)
  have hl2 : Ls ((w.alloc (.cells #[.int .i64 c.r, .int .i64 c.o, .int .i64 c.s, .int .i64 c.d, .int .i64 c.t, .int .i64 c.l, .int .i64 c.g, .int .i64 c.k, .int .i64 c.u, .int .i64 c.e, .int .i64 c.i, .int .i64 c.p] 23)).alloc (.cells #[.int .i64 k, .int .i64 a, .int .i64 b, .int .i64 d, .slice p len cap] 44)).heap.size ((w.alloc (.cells #[.int .i64 c.r, .int .i64 c.o, .int .i64 c.s, .int .i64 c.d, .int .i64 c.t, .int .i64 c.l, .int .i64 c.g, .int .i64 c.k, .int .i64 c.u, .int .i64 c.e, .int .i64 c.i, .int .i64 c.p] 23)).alloc (.cells #[.int .i64 k, .int .i64 a, .int .i64 b, .int .i64 d, .slice p len cap] 44)) (.slice p len cap) l := (hl0.later b2).up b2.size
  have kR := mayReckon_any c ⟨k, a, b, d, l⟩ (.slice p len cap) _ hl2
  unfold cv iv at kR
  unfold cv iv
  clear h3 hl0 hl2
  replace b2 := hide b2
  replace b3 := hide b3
  replace b4 := hide b4
  replace s1 := hide s1
  replace s2 := hide s2
  replace kR := hide kR
  by_cases hk4 : k = 4
  · subst hk4
    have r : Hid (stB c.g ⟨4, a, b, d, l⟩ i n = reB c.g ⟨4, a, b, d, l⟩) := hide (by simp [stB])
    go_enter Try.func31, Try.ntmps31
    go_wp2_with fail
    refine (unhide kR).mono ?_
    rintro e w9 ⟨rfl, hb9⟩
    have b9 := hide (below_then (unhide b2) hb9)
    clear hb9
    go_wp2
    go_ret
    exact ⟨by rw [unhide r]; rfl, unhide b9⟩
  · have n4 : (k == 4) = false := by simpa using hk4
    have m4 : (k != 4) = true := by simpa using hk4
    by_cases hlen0 : 0 < len
    · have dl : decide (0 < (len : Int)) = true := decide_eq_true (by omega)
      have r : Hid (stB c.g ⟨k, a, b, d, l⟩ i n = false) := hide (by simp [stB, hk4, hll, hlen0])
      go_enter Try.func31, Try.ntmps31
      go_wp2
      go_ret
      exact ⟨by rw [unhide r]; rfl, unhide b2⟩
    · have z : len = 0 := by omega
      have zl : l = [] := List.length_eq_zero_iff.1 (by omega)
      subst z
      subst zl
      clear kR
      by_cases hk1 : k = 1
      · subst hk1
        cases e1 : wiB c.g [a]
        · skip
          have r : Hid (stB c.g ⟨1, a, b, d, []⟩ i n = false) := hide (by simp [stB, e1])
          go_enter Try.func31, Try.ntmps31
          go_wp2_with fail
          refine (pwithin_any c.g _ 1 1 [a] _ (unhide s1) (by decide)).mono ?_
          rw [e1]
          rintro e _ ⟨rfl, rfl⟩
          go_wp2
          go_ret
          exact ⟨by rw [unhide r]; rfl, unhide b3⟩
        · by_cases hd : d = -1
          · subst hd
            have r : Hid (stB c.g ⟨1, a, b, (-1), []⟩ i n = true) := hide (by simp [stB, e1])
            go_enter Try.func31, Try.ntmps31
            go_wp2_with fail
            refine (pwithin_any c.g _ 1 1 [a] _ (unhide s1) (by decide)).mono ?_
            rw [e1]
            rintro e _ ⟨rfl, rfl⟩
            go_wp2
            go_ret
            exact ⟨by rw [unhide r]; rfl, unhide b3⟩
          · have nd : (d == -1) = false := by simpa using hd
            cases e2 : wiB c.g [d]
            · skip
              have r : Hid (stB c.g ⟨1, a, b, d, []⟩ i n = false) := hide (by simp [stB, e1, e2, hd])
              go_enter Try.func31, Try.ntmps31
              go_wp2_with fail
              refine (pwithin_any c.g _ 1 1 [a] _ (unhide s1) (by decide)).mono ?_
              rw [e1]
              rintro e _ ⟨rfl, rfl⟩
              go_wp2_with fail
              refine (pwithin_any c.g _ 1 1 [d] _ (unhide s2) (by decide)).mono ?_
              rw [e2]
              rintro e _ ⟨rfl, rfl⟩
              go_wp2
              go_ret
              exact ⟨by rw [unhide r]; rfl, unhide b4⟩
            · skip
              have r : Hid (stB c.g ⟨1, a, b, d, []⟩ i n = true) := hide (by simp [stB, e1, e2, hd])
              go_enter Try.func31, Try.ntmps31
              go_wp2_with fail
              refine (pwithin_any c.g _ 1 1 [a] _ (unhide s1) (by decide)).mono ?_
              rw [e1]
              rintro e _ ⟨rfl, rfl⟩
              go_wp2_with fail
              refine (pwithin_any c.g _ 1 1 [d] _ (unhide s2) (by decide)).mono ?_
              rw [e2]
              rintro e _ ⟨rfl, rfl⟩
              go_wp2
              go_ret
              exact ⟨by rw [unhide r]; rfl, unhide b4⟩
      · have n1 : (k == 1) = false := by simpa using hk1
        by_cases hk2 : k = 2
        · subst hk2
          cases e1 : wiB c.g [a]
          · skip
            have r : Hid (stB c.g ⟨2, a, b, d, []⟩ i n = false) := hide (by simp [stB, e1])
            go_enter Try.func31, Try.ntmps31
            go_wp2_with fail
            refine (pwithin_any c.g _ 1 1 [a] _ (unhide s1) (by decide)).mono ?_
            rw [e1]
            rintro e _ ⟨rfl, rfl⟩
            go_wp2
            go_ret
            exact ⟨by rw [unhide r]; rfl, unhide b3⟩
          · by_cases hd : d = -1
            · subst hd
              have r : Hid (stB c.g ⟨2, a, b, (-1), []⟩ i n = true) := hide (by simp [stB, e1])
              go_enter Try.func31, Try.ntmps31
              go_wp2_with fail
              refine (pwithin_any c.g _ 1 1 [a] _ (unhide s1) (by decide)).mono ?_
              rw [e1]
              rintro e _ ⟨rfl, rfl⟩
              go_wp2
              go_ret
              exact ⟨by rw [unhide r]; rfl, unhide b3⟩
            · have nd : (d == -1) = false := by simpa using hd
              cases e2 : wiB c.g [d]
              · skip
                have r : Hid (stB c.g ⟨2, a, b, d, []⟩ i n = false) := hide (by simp [stB, e1, e2, hd])
                go_enter Try.func31, Try.ntmps31
                go_wp2_with fail
                refine (pwithin_any c.g _ 1 1 [a] _ (unhide s1) (by decide)).mono ?_
                rw [e1]
                rintro e _ ⟨rfl, rfl⟩
                go_wp2_with fail
                refine (pwithin_any c.g _ 1 1 [d] _ (unhide s2) (by decide)).mono ?_
                rw [e2]
                rintro e _ ⟨rfl, rfl⟩
                go_wp2
                go_ret
                exact ⟨by rw [unhide r]; rfl, unhide b4⟩
              · skip
                have r : Hid (stB c.g ⟨2, a, b, d, []⟩ i n = true) := hide (by simp [stB, e1, e2, hd])
                go_enter Try.func31, Try.ntmps31
                go_wp2_with fail
                refine (pwithin_any c.g _ 1 1 [a] _ (unhide s1) (by decide)).mono ?_
                rw [e1]
                rintro e _ ⟨rfl, rfl⟩
                go_wp2_with fail
                refine (pwithin_any c.g _ 1 1 [d] _ (unhide s2) (by decide)).mono ?_
                rw [e2]
                rintro e _ ⟨rfl, rfl⟩
                go_wp2
                go_ret
                exact ⟨by rw [unhide r]; rfl, unhide b4⟩
        · have n2 : (k == 2) = false := by simpa using hk2
          by_cases hk3 : k = 3
          · subst hk3
            cases e1 : wiB c.g [a]
            · skip
              have r : Hid (stB c.g ⟨3, a, b, d, []⟩ i n = false) := hide (by simp [stB, e1])
              go_enter Try.func31, Try.ntmps31
              go_wp2_with fail
              refine (pwithin_any c.g _ 1 1 [a] _ (unhide s1) (by decide)).mono ?_
              rw [e1]
              rintro e _ ⟨rfl, rfl⟩
              go_wp2
              go_ret
              exact ⟨by rw [unhide r]; rfl, unhide b3⟩
            · skip
              have r : Hid (stB c.g ⟨3, a, b, d, []⟩ i n = true) := hide (by simp [stB, e1])
              go_enter Try.func31, Try.ntmps31
              go_wp2_with fail
              refine (pwithin_any c.g _ 1 1 [a] _ (unhide s1) (by decide)).mono ?_
              rw [e1]
              rintro e _ ⟨rfl, rfl⟩
              go_wp2
              go_ret
              exact ⟨by rw [unhide r]; rfl, unhide b3⟩
          · have n3 : (k == 3) = false := by simpa using hk3
            by_cases hk5 : k = 5
            · subst hk5
              cases e1 : wiB c.g [a]
              · skip
                have r : Hid (stB c.g ⟨5, a, b, d, []⟩ i n = false) := hide (by simp [stB, e1])
                go_enter Try.func31, Try.ntmps31
                go_wp2_with fail
                refine (pwithin_any c.g _ 1 1 [a] _ (unhide s1) (by decide)).mono ?_
                rw [e1]
                rintro e _ ⟨rfl, rfl⟩
                go_wp2
                go_ret
                exact ⟨by rw [unhide r]; rfl, unhide b3⟩
              · by_cases h5 : i < b
                · have d5 : decide (i < b) = true := decide_eq_true h5
                  by_cases h6 : b ≤ n
                  · have d6 : decide (b ≤ n) = true := decide_eq_true h6
                    have r : Hid (stB c.g ⟨5, a, b, d, []⟩ i n = true) := hide (by simp [stB, e1, h5, h6])
                    go_enter Try.func31, Try.ntmps31
                    go_wp2_with fail
                    refine (pwithin_any c.g _ 1 1 [a] _ (unhide s1) (by decide)).mono ?_
                    rw [e1]
                    rintro e _ ⟨rfl, rfl⟩
                    go_wp2
                    go_ret
                    exact ⟨by rw [unhide r]; rfl, unhide b3⟩
                  · have d6 : decide (b ≤ n) = false := decide_eq_false h6
                    have r : Hid (stB c.g ⟨5, a, b, d, []⟩ i n = false) := hide (by simp [stB, e1, h5, h6])
                    go_enter Try.func31, Try.ntmps31
                    go_wp2_with fail
                    refine (pwithin_any c.g _ 1 1 [a] _ (unhide s1) (by decide)).mono ?_
                    rw [e1]
                    rintro e _ ⟨rfl, rfl⟩
                    go_wp2
                    go_ret
                    exact ⟨by rw [unhide r]; rfl, unhide b3⟩
                · have d5 : decide (i < b) = false := decide_eq_false h5
                  have r : Hid (stB c.g ⟨5, a, b, d, []⟩ i n = false) := hide (by simp [stB, e1, h5])
                  go_enter Try.func31, Try.ntmps31
                  go_wp2_with fail
                  refine (pwithin_any c.g _ 1 1 [a] _ (unhide s1) (by decide)).mono ?_
                  rw [e1]
                  rintro e _ ⟨rfl, rfl⟩
                  go_wp2
                  go_ret
                  exact ⟨by rw [unhide r]; rfl, unhide b3⟩
            · have n5 : (k == 5) = false := by simpa using hk5
              by_cases hk6 : k = 6
              · subst hk6
                have r : Hid (stB c.g ⟨6, a, b, d, []⟩ i n = true) := hide (by simp [stB])
                go_enter Try.func31, Try.ntmps31
                go_wp2
                go_ret
                exact ⟨by rw [unhide r]; rfl, unhide b2⟩
              · have n6 : (k == 6) = false := by simpa using hk6
                by_cases hk7 : k = 7
                · subst hk7
                  have r : Hid (stB c.g ⟨7, a, b, d, []⟩ i n = true) := hide (by simp [stB])
                  go_enter Try.func31, Try.ntmps31
                  go_wp2
                  go_ret
                  exact ⟨by rw [unhide r]; rfl, unhide b2⟩
                · have n7 : (k == 7) = false := by simpa using hk7
                  have r : Hid (stB c.g ⟨k, a, b, d, []⟩ i n = false) := hide (by simp [stB, hk1, hk2, hk3, hk4, hk5, hk6, hk7])
                  go_enter Try.func31, Try.ntmps31
                  go_wp2
                  go_ret
                  exact ⟨by rw [unhide r]; rfl, unhide b2⟩
end Go.Proofs.Ytdhfpfkcbcgnaaa
