/- Texts of this claim, put together in their order. -/
import Derived.OwnWalk
import Derived.Laws.OwnMore
import Derived.Deep.AppendLies
import Derived.Deep.RegionLaw
import Derived.Deep.Heap
import Derived.Test.YtdhfpfkcbcgnaaaRows
import Derived.WalkKit
import Derived.WalkSpells
import Derived.WalkLawsBesides
import Derived.Deep.QuietTactic
import Derived.BigQuiet
import Derived.Outline
import Derived.Test.YtdhfpfkcbcgnaaaOfPlainsteps1
/- Check and Addr of package prog; a program in memory. -/
namespace Go.Proofs.Ytdhfpfkcbcgnaaa
open Go.RowKit

def z0 : In := ⟨0, 0, 0, 0, []⟩
/-- The cells of an instruction from off on in block b. -/
def IsIn (B : Nat) (w : World) (b off : Nat) (x : In) : Prop :=
  w.cell? ⟨b, off, none⟩ = some (.int .i64 x.k) ∧ w.cell? ⟨b, off + 1, none⟩ = some (.int .i64 x.a) ∧ w.cell? ⟨b, off + 2, none⟩ = some (.int .i64 x.b) ∧ w.cell? ⟨b, off + 3, none⟩ = some (.int .i64 x.c) ∧ ∃ u, w.cell? ⟨b, off + 4, none⟩ = some u ∧ Ls B w u x.l
theorem IsIn.later {B : Nat} {w w' : World} {b off : Nat} {x : In} (h : IsIn B w b off x) (hb : Below B w w') (hB : b < B) : IsIn B w' b off x := by
  obtain ⟨h0, h1, h2, h3, u, h4, h5⟩ := h
  exact ⟨(hb.cell hB).trans h0, (hb.cell hB).trans h1, (hb.cell hB).trans h2, (hb.cell hB).trans h3, u, (hb.cell hB).trans h4, h5.later hb⟩
theorem IsIn.up {B C : Nat} {w : World} {b off : Nat} {x : In} (h : IsIn B w b off x) (hB : B ≤ C) : IsIn C w b off x := by
  obtain ⟨h0, h1, h2, h3, u, h4, h5⟩ := h
  exact ⟨h0, h1, h2, h3, u, h4, h5.up hB⟩
/-- The slice v holds the program ps, all of it below B. -/
def Ps (B : Nat) (w : World) (v : Value) (ps : List In) : Prop :=
  ∃ a cap, v = .slice a ps.length cap ∧ ps.length ≤ cap ∧ cap ≤ maxLen ∧ (ps.length = 0 ∨ ∃ b off, a = some ⟨b, off, none⟩ ∧ b < B ∧ ∀ i, i < ps.length → IsIn B w b (off + i * 5) (ps.getD i z0))
theorem Ps.later {B : Nat} {w w' : World} {v : Value} {ps : List In} (h : Ps B w v ps) (hb : Below B w w') : Ps B w' v ps := by
  obtain ⟨a, cap, h1, h2, h3, h4⟩ := h
  refine ⟨a, cap, h1, h2, h3, ?_⟩
  rcases h4 with h0 | ⟨b, off, e, hlt, hc⟩
  · exact .inl h0
  · exact .inr ⟨b, off, e, hlt, fun i hi => (hc i hi).later hb hlt⟩
theorem Ps.up {B C : Nat} {w : World} {v : Value} {ps : List In} (h : Ps B w v ps) (hB : B ≤ C) : Ps C w v ps := by
  obtain ⟨a, cap, h1, h2, h3, h4⟩ := h
  refine ⟨a, cap, h1, h2, h3, ?_⟩
  rcases h4 with h0 | ⟨b, off, e, hlt, hc⟩
  · exact .inl h0
  · exact .inr ⟨b, off, e, by omega, fun i hi => (hc i hi).up hB⟩
theorem Ps.next {w w' : World} {v : Value} {ps : List In} (h : Ps w.heap.size w v ps) (hb : Below w.heap.size w w') : Ps w'.heap.size w' v ps := (h.later hb).up hb.size

def chB (c : Cf) (ps : List In) : Bool := okB c && (decide (ps.length ≤ 60) && (List.range ps.length).all fun (i : Nat) => stB c.g (ps.getD i z0) i ps.length)
def checkD (c : Cf) (ps : List In) : Int := if chB c ps then 0 else 2
theorem ch_no {c : Cf} {ps : List In} {k : Nat} (hk : k < ps.length) (h : stB c.g (ps.getD k z0) k ps.length = false) : checkD c ps = 2 := by
  have : chB c ps = false := by
    unfold chB
    rw [show ((List.range ps.length).all fun (i : Nat) => stB c.g (ps.getD i z0) i ps.length) = false from List.all_eq_false.2 ⟨k, List.mem_range.2 hk, by rw [h]; decide⟩]
    simp
  unfold checkD
  rw [this]; rfl
theorem ch_yes {c : Cf} {ps : List In} (ho : okB c = true) (hl : ps.length ≤ 60) (h : ∀ i : Nat, i < ps.length → stB c.g (ps.getD i z0) i ps.length = true) : checkD c ps = 0 := by
  have : chB c ps = true := by
    unfold chB
    rw [ho, decide_eq_true hl, show ((List.range ps.length).all fun (i : Nat) => stB c.g (ps.getD i z0) i ps.length) = true from List.all_eq_true.2 (fun i hi => h i (List.mem_range.1 hi))]
    rfl
  unfold checkD
  rw [this]; rfl

set_option maxRecDepth 100000 in
set_option maxHeartbeats 1000000 in
theorem progCheck_any (c : Cf) (ps : List In) (v : Value) (w : World) (hp : Ps w.heap.size w v ps) :
    Calls Try.prog 18 #[cv c, v] w fun e w' => e = .returned (.int .i64 (checkD c ps)) ∧ Below w.heap.size w w' := by
  obtain ⟨n, hn⟩ : ∃ n, n = ps.length := ⟨_, rfl⟩
  have hp0 := hp
  obtain ⟨a, cap, rfl, h1, h2, h3⟩ := hp
  have hmax : maxLen = 9223372036854775807 := rfl
  rw [← hn] at h1 ⊢
  replace hn := hide hn
  have hnl : (n : Int) ≤ 9223372036854775807 := by omega
  have hx := bx_new c w
  have b1 := below_new w (.cells #[.int .i64 c.r, .int .i64 c.o, .int .i64 c.s, .int .i64 c.d, .int .i64 c.t, .int .i64 c.l, .int .i64 c.g, .int .i64 c.k, .int .i64 c.u, .int .i64 c.e, .int .i64 c.i, .int .i64 c.p] 23)
  have kC := check_any c (w.alloc (.cells #[.int .i64 c.r, .int .i64 c.o, .int .i64 c.s, .int .i64 c.d, .int .i64 c.t, .int .i64 c.l, .int .i64 c.g, .int .i64 c.k, .int .i64 c.u, .int .i64 c.e, .int .i64 c.i, .int .i64 c.p] 23))
  unfold cv at kC
  unfold cv
  replace hp0 := hide hp0
  replace hx := hide hx
  replace b1 := hide b1
  replace h3 := hide h3
  cases ho : okB c
  · have r : Hid (checkD c ps = 2) := hide (by simp [checkD, chB, ho])
    rw [ho] at kC
    go_enter Try.func18, Try.ntmps18
    go_wp2_with fail
    refine kC.mono ?_
    rintro e w1 ⟨rfl, hb⟩
    have b2 := hide (below_then (unhide b1) hb)
    clear hb kC
    have e1 : (errOf false == 0) = false := rfl
    have e1' : errOf false = 1 := rfl
    go_wp2
    go_ret
    exact ⟨by rw [unhide r]; rfl, unhide b2⟩
  · rw [ho] at kC
    by_cases h60 : n ≤ 60
    · have d60 : decide (60 < (n : Int)) = false := decide_eq_false (by omega)
      go_enter Try.func18, Try.ntmps18
      go_wp2_with fail
      refine kC.mono ?_
      rintro e w1 ⟨rfl, hb⟩
      have b2 := hide (below_then (unhide b1) hb)
      have hx1 := hide ((unhide hx).next hb)
      clear hb kC b1 hx
      have e1' : errOf true = 0 := rfl
      have lB : w.heap.size < w1.heap.size := (unhide hx1).lt
      go_wp2_with fail
      go_loopw [17] (fun i wr => ∃ k : Nat, k ≤ n ∧ i = .int .i64 k ∧ Below w.heap.size w wr ∧ Bx c w.heap.size wr ∧ ∀ j : Nat, j < k → stB c.g (ps.getD j z0) j n = true) (fun i _ => n - (intOf i).toNat)
      case atStart => exact ⟨0, Nat.zero_le _, rfl, unhide b2, unhide hx1, fun j hj => absurd hj (Nat.not_lt_zero j)⟩
      case round =>
        obtain ⟨k, hk, rfl, hb, hx, hall⟩ := hrel
        clear b2 hx1
        replace hall := hide hall
        by_cases hlt : k < n
        · have kd : decide ((k : Int) < (n : Int)) = true := decide_eq_true (by omega)
          have kl : (k : Int) < (n : Int) := by omega
          obtain ⟨_, _, hv, _, _, h3'⟩ := (unhide hp0).later hb
          cases hv
          rcases h3' with h0 | ⟨b, off, rfl, hbB, hc⟩
          · have := unhide hn; omega
          have hI := hc k (by have := unhide hn; omega)
          obtain ⟨x, hxx⟩ : ∃ x, ps.getD k z0 = x := ⟨_, rfl⟩
          rw [hxx] at hI
          obtain ⟨c0, c1, c2, c3, u, c4, hu⟩ := hI
          obtain ⟨ua, ul, uc, rfl⟩ : ∃ ua ul uc, u = .slice ua ul uc := by obtain ⟨ua, ul, uc, e, _⟩ := hu; exact ⟨ua, ul, uc, e⟩
          have b3 := below_then hb (below_new wr (.cells #[.int .i64 x.k, .int .i64 x.a, .int .i64 x.b, .int .i64 x.c, .slice ua ul uc] 44))
          have hx3 := hx.next (below_new wr (.cells #[.int .i64 x.k, .int .i64 x.a, .int .i64 x.b, .int .i64 x.c, .slice ua ul uc] 44))
          have kS := mayStand_any c x (.slice ua ul uc) k n (wr.alloc (.cells #[.int .i64 x.k, .int .i64 x.a, .int .i64 x.b, .int .i64 x.c, .slice ua ul uc] 44)) ((hu.later (below_new wr _ |>.mono (Nat.le_of_lt_succ (Nat.lt_succ_of_le hb.size)))).up (by simp; have := hb.size; omega))
          unfold cv iv at kS
          obtain ⟨x0, x1, x2, x3, x4, x5, x6, x7, x8, x9, x10, x11⟩ := hx3.cells
          have gx := hide hx3
          have gb := hide b3
          replace hu := hide hu
          replace hx := hide hx
          replace hb := hide hb
          replace hc := hide hc
          clear b3 hx3
          cases hst : stB c.g x k n
          · rw [hst] at kS
            have r : Hid (checkD c ps = 2) := hide (ch_no (k := k) (by have := unhide hn; omega) (by rw [hxx, ← unhide hn]; exact hst))
            replace hst := hide hst
            go_wp2_with fail
            refine kS.mono ?_
            rintro e w5 ⟨rfl, hb5⟩
            have b5 := hide (below_then (unhide gb) hb5)
            clear hb5 kS x0 x1 x2 x3 x4 x5 x6 x7 x8 x9 x10 x11 c0 c1 c2 c3 c4
            go_wp2
            go_ret
            exact ⟨by rw [unhide r]; rfl, unhide b5⟩
          · rw [hst] at kS
            replace hst := hide hst
            go_wp2_with fail
            refine kS.mono ?_
            rintro e w5 ⟨rfl, hb5⟩
            have b5 := hide (below_then (unhide gb) hb5)
            have x5' := hide ((unhide gx).next hb5)
            clear hb5 kS x0 x1 x2 x3 x4 x5 x6 x7 x8 x9 x10 x11 c0 c1 c2 c3 c4
            go_wp2
            go_roundw
            case rel => exact ⟨k + 1, by omega, by go_num, unhide b5, unhide x5', fun j hj => by
              by_cases e : j = k
              · subst e; rw [hxx]; exact unhide hst
              · exact unhide hall j (by omega)⟩
            case measure => first | omega | (simp; omega) | (simp [intOf]; omega)
        · have r : Hid (checkD c ps = 0) := hide (ch_yes ho (by have := unhide hn; omega) (fun i hi => by rw [← unhide hn]; exact unhide hall i (by have := unhide hn; omega)))
          have kd : decide ((k : Int) < (n : Int)) = false := decide_eq_false (by omega)
          replace hb := hide hb
          replace hx := hide hx
          go_wp2
          go_ret
          exact ⟨by rw [unhide r]; rfl, unhide hb⟩
    · have d60 : decide (60 < (n : Int)) = true := decide_eq_true (by omega)
      have r : Hid (checkD c ps = 2) := hide (by simp [checkD, chB, ← unhide hn, h60])
      go_enter Try.func18, Try.ntmps18
      go_wp2_with fail
      refine kC.mono ?_
      rintro e w1 ⟨rfl, hb⟩
      have b2 := hide (below_then (unhide b1) hb)
      clear hb kC
      have e1' : errOf true = 0 := rfl
      go_wp2
      go_ret
      exact ⟨by rw [unhide r]; rfl, unhide b2⟩

/-- The address that an instruction tells. -/
def addrD (c : Cf) (x : In) (rs : List Int) : Int :=
  if x.c = -1 then wrapD x.b (wordsD c) else if wiB rs.length [x.c] then wrapD (wrap64 (x.b + rs.getD x.c.toNat 0)) (wordsD c) else 0
theorem Ix.drew {x : In} {v : Value} {b : Nat} {w : World} (h : Ix x v b w) : Ix x v b w.drew := h
theorem wrap_kin (a : Int) : IntKind.i64.wrap a = wrap64 a := by rw [IntKind.wrap_i64]; unfold wrap64; omega
theorem words_in (c : Cf) : 0 ≤ wordsD c ∧ wordsD c ≤ 4096 := by
  unfold wordsD
  split
  · rename_i h; have := nw_in (okB_hp h); omega
  · omega
set_option maxRecDepth 100000 in
set_option maxHeartbeats 1000000 in
theorem addr_any (c : Cf) (x : In) (va : Option Addr) (vl vc : Nat) (r : Value) (rs : List Int) (w : World) (hr : Ls w.heap.size w r rs) :
    Calls Try.prog 46 #[cv c, iv x (.slice va vl vc), r] w fun e w' => e = .returned (.int .i64 (addrD c x rs)) ∧ Below w.heap.size w w' := by
  obtain ⟨p, len, cap, rfl, h1, h2, _, h3⟩ := hr
  have hmax : maxLen = 9223372036854775807 := rfl
  have hll : rs.length = len := h3.1
  have hi := words_in c
  have hi2 : wordsD c ≤ 100000 := by omega
  obtain ⟨k, a, b, d, l⟩ := x
  have b1 := below_new w (.cells #[.int .i64 c.r, .int .i64 c.o, .int .i64 c.s, .int .i64 c.d, .int .i64 c.t, .int .i64 c.l, .int .i64 c.g, .int .i64 c.k, .int .i64 c.u, .int .i64 c.e, .int .i64 c.i, .int .i64 c.p] 23)
  unfold cv iv
  by_cases hc : d = -1
  · subst hc
    have r : Hid (addrD c ⟨k, a, b, -1, l⟩ rs = wrapD b (wordsD c)) := hide (by unfold addrD; rw [if_pos rfl])
    have b2 := below_then b1 (below_new _ (.cells #[.int .i64 k, .int .i64 a, .int .i64 b, .int .i64 (-1), .slice va vl vc] 44))
    have hx := (bx_new c w).next (below_new _ (.cells #[.int .i64 k, .int .i64 a, .int .i64 b, .int .i64 (-1), .slice va vl vc] 44))
    have hy : Ix ⟨k, a, b, -1, l⟩ (.slice va vl vc) (w.heap.size + 1) ((w.alloc (.cells #[.int .i64 c.r, .int .i64 c.o, .int .i64 c.s, .int .i64 c.d, .int .i64 c.t, .int .i64 c.l, .int .i64 c.g, .int .i64 c.k, .int .i64 c.u, .int .i64 c.e, .int .i64 c.i, .int .i64 c.p] 23)).alloc (.cells #[.int .i64 k, .int .i64 a, .int .i64 b, .int .i64 (-1), .slice va vl vc] 44)) := by
      have := ix_new ⟨k, a, b, -1, l⟩ (.slice va vl vc) (w.alloc (.cells #[.int .i64 c.r, .int .i64 c.o, .int .i64 c.s, .int .i64 c.d, .int .i64 c.t, .int .i64 c.l, .int .i64 c.g, .int .i64 c.k, .int .i64 c.u, .int .i64 c.e, .int .i64 c.i, .int .i64 c.p] 23))
      simpa using this
    have kW := words_any c ((w.alloc (.cells #[.int .i64 c.r, .int .i64 c.o, .int .i64 c.s, .int .i64 c.d, .int .i64 c.t, .int .i64 c.l, .int .i64 c.g, .int .i64 c.k, .int .i64 c.u, .int .i64 c.e, .int .i64 c.i, .int .i64 c.p] 23)).alloc (.cells #[.int .i64 k, .int .i64 a, .int .i64 b, .int .i64 (-1), .slice va vl vc] 44)).drew
    unfold cv at kW
    obtain ⟨z0, z1, z2, z3, z4, z5, z6, z7, z8, z9, z10, z11⟩ := hx.cells
    obtain ⟨_, _, z12, _, _⟩ := hy.cells
    replace hx := hide hx
    replace hy := hide hy
    replace b2 := hide b2
    replace h3 := hide h3
    go_enter Try.func46, Try.ntmps46
    go_wp2_with fail
    go_region_held3 (fun wz => wz.cell? ⟨w.heap.size, 0, none⟩ = some (.int .i64 c.r) ∧ wz.cell? ⟨w.heap.size, 1, none⟩ = some (.int .i64 c.o) ∧ wz.cell? ⟨w.heap.size, 2, none⟩ = some (.int .i64 c.s) ∧ wz.cell? ⟨w.heap.size, 3, none⟩ = some (.int .i64 c.d) ∧ wz.cell? ⟨w.heap.size, 4, none⟩ = some (.int .i64 c.t) ∧ wz.cell? ⟨w.heap.size, 5, none⟩ = some (.int .i64 c.l) ∧ wz.cell? ⟨w.heap.size, 6, none⟩ = some (.int .i64 c.g) ∧ wz.cell? ⟨w.heap.size, 7, none⟩ = some (.int .i64 c.k) ∧ wz.cell? ⟨w.heap.size, 8, none⟩ = some (.int .i64 c.u) ∧ wz.cell? ⟨w.heap.size, 9, none⟩ = some (.int .i64 c.e) ∧ wz.cell? ⟨w.heap.size, 10, none⟩ = some (.int .i64 c.i) ∧ wz.cell? ⟨w.heap.size, 11, none⟩ = some (.int .i64 c.p) ∧ wz.cell? ⟨w.heap.size + 1, 2, none⟩ = some (.int .i64 b)) (first | exact ⟨z0, z1, z2, z3, z4, z5, z6, z7, z8, z9, z10, z11, z12⟩ | exact ⟨y0, y1, y2, y3, y4, y5, y6, y7, y8, y9, y10, y11, y12⟩)
      (first
        | (go_at_call 16; with_reducible refine Calls.mono kW ?_; rintro e w1 ⟨rfl, hb⟩; obtain ⟨y0, y1, y2, y3, y4, y5, y6, y7, y8, y9, y10, y11⟩ := ((unhide hx).drew.next hb).cells; obtain ⟨_, _, y12, _, _⟩ := ((unhide hy).drew.next hb).cells; have b3 := below_then (unhide b2).drew hb)
        | (go_at_call 52; with_reducible refine Calls.mono (calcWrap_any b (wordsD c) hi2 _) ?_; rintro e _ ⟨rfl, rfl⟩))
    go_wp2
    go_ret
    exact ⟨by rw [unhide r]; rfl, b3⟩
  · have nd : (d == -1) = false := by simpa using hc
    have b2 := below_then b1 (below_new _ (.cells #[.int .i64 k, .int .i64 a, .int .i64 b, .int .i64 d, .slice va vl vc] 44))
    have b3 := below_then b2 (below_new _ (.cells #[.int .i64 d] 3))
    have s1 := seg_one ((w.alloc (.cells #[.int .i64 c.r, .int .i64 c.o, .int .i64 c.s, .int .i64 c.d, .int .i64 c.t, .int .i64 c.l, .int .i64 c.g, .int .i64 c.k, .int .i64 c.u, .int .i64 c.e, .int .i64 c.i, .int .i64 c.p] 23)).alloc (.cells #[.int .i64 k, .int .i64 a, .int .i64 b, .int .i64 d, .slice va vl vc] 44)) d 3 (w.heap.size + 1 + 1) (by simp)
    have hx := ((bx_new c w).next (below_new _ (.cells #[.int .i64 k, .int .i64 a, .int .i64 b, .int .i64 d, .slice va vl vc] 44))).next (below_new _ (.cells #[.int .i64 d] 3))
    have hy : Ix ⟨k, a, b, d, l⟩ (.slice va vl vc) (w.heap.size + 1) (((w.alloc (.cells #[.int .i64 c.r, .int .i64 c.o, .int .i64 c.s, .int .i64 c.d, .int .i64 c.t, .int .i64 c.l, .int .i64 c.g, .int .i64 c.k, .int .i64 c.u, .int .i64 c.e, .int .i64 c.i, .int .i64 c.p] 23)).alloc (.cells #[.int .i64 k, .int .i64 a, .int .i64 b, .int .i64 d, .slice va vl vc] 44)).alloc (.cells #[.int .i64 d] 3)) := by
      have := (ix_new ⟨k, a, b, d, l⟩ (.slice va vl vc) (w.alloc (.cells #[.int .i64 c.r, .int .i64 c.o, .int .i64 c.s, .int .i64 c.d, .int .i64 c.t, .int .i64 c.l, .int .i64 c.g, .int .i64 c.k, .int .i64 c.u, .int .i64 c.e, .int .i64 c.i, .int .i64 c.p] 23))).next (below_new _ (.cells #[.int .i64 d] 3))
      simpa using this
    replace s1 := hide s1
    cases e1 : wiB len [d]
    · have r : Hid (addrD c ⟨k, a, b, d, l⟩ rs = 0) := hide (by unfold addrD; rw [if_neg hc, hll, e1]; rfl)
      replace hx := hide hx
      replace hy := hide hy
      replace b3 := hide b3
      replace h3 := hide h3
      go_enter Try.func46, Try.ntmps46
      go_wp2_with fail
      refine (pwithin_any len _ 1 1 [d] _ (unhide s1) (by decide)).mono ?_
      rw [e1]
      rintro e _ ⟨rfl, rfl⟩
      go_wp2
      go_ret
      exact ⟨by rw [unhide r]; rfl, unhide b3⟩
    · have e2 := e1
      rw [wi_one] at e2
      simp only [Bool.and_eq_true, decide_eq_true_eq] at e2
      obtain ⟨j, rfl⟩ := Int.eq_ofNat_of_zero_le e2.1
      have hj : j < len := by omega
      have hj2 : (j : Int) < (len : Int) := by omega
      have jm : ¬ (j : Int) = -1 := by omega
      obtain ⟨pb, po, rfl, hpb, hcell⟩ := (h3.later b3).at hj
      obtain ⟨y, hyy⟩ : ∃ y, rs.getD j 0 = y := ⟨_, rfl⟩
      rw [hyy] at hcell
      have r : Hid (addrD c ⟨k, a, b, (j : Int), l⟩ rs = wrapD (IntKind.i64.wrap (b + y)) (wordsD c)) := hide (by unfold addrD; rw [if_neg hc, hll, e1, if_pos rfl]; show wrapD (wrap64 (b + rs.getD (j : Int).toNat 0)) _ = _; rw [Int.toNat_natCast, hyy, wrap_kin])
      have kW := words_any c (((w.alloc (.cells #[.int .i64 c.r, .int .i64 c.o, .int .i64 c.s, .int .i64 c.d, .int .i64 c.t, .int .i64 c.l, .int .i64 c.g, .int .i64 c.k, .int .i64 c.u, .int .i64 c.e, .int .i64 c.i, .int .i64 c.p] 23)).alloc (.cells #[.int .i64 k, .int .i64 a, .int .i64 b, .int .i64 (j : Int), .slice va vl vc] 44)).alloc (.cells #[.int .i64 (j : Int)] 3)).drew
      unfold cv at kW
      obtain ⟨z0, z1, z2, z3, z4, z5, z6, z7, z8, z9, z10, z11⟩ := hx.cells
      obtain ⟨_, _, z12, z13, _⟩ := hy.cells
      have lpb : pb < (((w.alloc (.cells #[.int .i64 c.r, .int .i64 c.o, .int .i64 c.s, .int .i64 c.d, .int .i64 c.t, .int .i64 c.l, .int .i64 c.g, .int .i64 c.k, .int .i64 c.u, .int .i64 c.e, .int .i64 c.i, .int .i64 c.p] 23)).alloc (.cells #[.int .i64 k, .int .i64 a, .int .i64 b, .int .i64 (j : Int), .slice va vl vc] 44)).alloc (.cells #[.int .i64 (j : Int)] 3)).drew.heap.size := Nat.lt_of_lt_of_le hpb b3.size
      have hcd : (((w.alloc (.cells #[.int .i64 c.r, .int .i64 c.o, .int .i64 c.s, .int .i64 c.d, .int .i64 c.t, .int .i64 c.l, .int .i64 c.g, .int .i64 c.k, .int .i64 c.u, .int .i64 c.e, .int .i64 c.i, .int .i64 c.p] 23)).alloc (.cells #[.int .i64 k, .int .i64 a, .int .i64 b, .int .i64 (j : Int), .slice va vl vc] 44)).alloc (.cells #[.int .i64 (j : Int)] 3)).drew.cell? ⟨pb, po + j, none⟩ = some (.int .i64 y) := hcell
      replace hcd := hide hcd
      replace hx := hide hx
      replace hy := hide hy
      replace b3 := hide b3
      replace h3 := hide h3
      clear e2 hc
      go_enter Try.func46, Try.ntmps46
      go_wp2_with fail
      refine (pwithin_any len _ 1 1 [(j : Int)] _ (unhide s1) (by decide)).mono ?_
      rw [e1]
      rintro e _ ⟨rfl, rfl⟩
      go_wp2_with fail
      go_region_held3 (fun wz => wz.cell? ⟨w.heap.size, 0, none⟩ = some (.int .i64 c.r) ∧ wz.cell? ⟨w.heap.size, 1, none⟩ = some (.int .i64 c.o) ∧ wz.cell? ⟨w.heap.size, 2, none⟩ = some (.int .i64 c.s) ∧ wz.cell? ⟨w.heap.size, 3, none⟩ = some (.int .i64 c.d) ∧ wz.cell? ⟨w.heap.size, 4, none⟩ = some (.int .i64 c.t) ∧ wz.cell? ⟨w.heap.size, 5, none⟩ = some (.int .i64 c.l) ∧ wz.cell? ⟨w.heap.size, 6, none⟩ = some (.int .i64 c.g) ∧ wz.cell? ⟨w.heap.size, 7, none⟩ = some (.int .i64 c.k) ∧ wz.cell? ⟨w.heap.size, 8, none⟩ = some (.int .i64 c.u) ∧ wz.cell? ⟨w.heap.size, 9, none⟩ = some (.int .i64 c.e) ∧ wz.cell? ⟨w.heap.size, 10, none⟩ = some (.int .i64 c.i) ∧ wz.cell? ⟨w.heap.size, 11, none⟩ = some (.int .i64 c.p) ∧ wz.cell? ⟨w.heap.size + 1, 2, none⟩ = some (.int .i64 b) ∧ wz.cell? ⟨w.heap.size + 1, 3, none⟩ = some (.int .i64 (j : Int)) ∧ wz.cell? ⟨pb, po + j, none⟩ = some (.int .i64 y)) (first | exact ⟨z0, z1, z2, z3, z4, z5, z6, z7, z8, z9, z10, z11, z12, z13, hcell⟩ | exact ⟨y0, y1, y2, y3, y4, y5, y6, y7, y8, y9, y10, y11, y12, y13, y14⟩)
        (first
          | (go_at_call 16; with_reducible refine Calls.mono kW ?_; rintro e w1 ⟨rfl, hb⟩; obtain ⟨y0, y1, y2, y3, y4, y5, y6, y7, y8, y9, y10, y11⟩ := ((unhide hx).drew.next hb).cells; obtain ⟨_, _, y12, y13, _⟩ := ((unhide hy).drew.next hb).cells; have y14 := (hb.cell lpb).trans (unhide hcd); have b5 := below_then (unhide b3).drew hb)
          | (go_at_call 52; with_reducible refine Calls.mono (calcWrap_any _ (wordsD c) hi2 _) ?_; rintro e _ ⟨rfl, rfl⟩))
      go_wp2
      go_ret
      exact ⟨by rw [unhide r]; rfl, b5⟩
end Go.Proofs.Ytdhfpfkcbcgnaaa

/- Slices that a call makes and appends to. -/
namespace Go.Proofs.Ytdhfpfkcbcgnaaa
open Go.RowKit

theorem heap_lt {w : World} {g : Nat} {o : Obj} (h : w.heap[g]? = some o) : g < w.heap.size := by
  by_cases hl : g < w.heap.size
  · exact hl
  · rw [Array.getElem?_eq_none (by omega)] at h; cases h
theorem own_next {w w' : World} {B : Nat} {e : TypeId} {size n : Nat} {v : Value} {xs : List Value} (h : w.ownsRow B e size v n xs) (hb : Below w.heap.size w w') : w'.ownsRow B e size v n xs := by
  refine ⟨h.1, ?_⟩
  rcases h.2 with h0 | ⟨g, cap, cur, hv, hB, hg, r⟩
  · exact .inl h0
  · exact .inr ⟨g, cap, cur, hv, hB, (hb.block g (heap_lt hg)).trans hg, r⟩
theorem ls_len {B : Nat} {w : World} {v : Value} {l : List Int} (h : Ls B w v l) : ∃ a cap, v = .slice a l.length cap ∧ l.length ≤ cap ∧ cap ≤ maxLen ∧ (a = none → cap = 0) ∧ SegB .i64 B w a l.length l := by
  obtain ⟨a, len, cap, rfl, h1, h2, h4, h3⟩ := h
  have := h3.1
  subst this
  exact ⟨a, cap, rfl, h1, h2, h4, h3⟩
theorem Ls.next {w w' : World} {v : Value} {l : List Int} (h : Ls w.heap.size w v l) (hb : Below w.heap.size w w') : Ls w'.heap.size w' v l := (h.later hb).up hb.size
/-- t is a slice of e's, whose zero value is z, of q cells and y bytes. -/
structure El (t e : TypeId) (z : Value) (q y : Nat) : Prop where
  ut : Try.prog.underlying t = some (.slice e)
  inf : (Try.prog.info? e).map (fun i => (i.zero, i.size, i.bytes)) = some (some z, q, y)
  zs : z.cells.size = q
  q0 : 0 < q
theorem elInt : El 24 3 (.int .i64 0) 1 8 := ⟨Try.underlying24, by kernel_rfl, rfl, by decide⟩
theorem elIns : El 25 44 (.agg #[.int .i64 0, .int .i64 0, .int .i64 0, .int .i64 0, .slice none 0 0]) 5 56 := ⟨Try.underlying25, by kernel_rfl, rfl, by decide⟩
theorem elAcc : El 28 41 (.agg #[.int .i64 0, .int .i64 0]) 2 16 := ⟨Try.underlying28, by kernel_rfl, rfl, by decide⟩
/-- x is a slice of m elements (of q cells each) whose cells are cs. -/
def News (w : World) (x : Value) (m q : Nat) (cs : List Value) : Prop :=
  cs.length = m * q ∧ (∀ u ∈ cs, u.oneCell' = true) ∧ ((x = .slice none 0 0 ∧ m = 0) ∨ ∃ ad c, x = .slice (some ad) m c ∧ ∀ j u, cs[j]? = some u → w.cell? (ad.add j) = some u)
theorem run_app {t e : TypeId} {z : Value} {q y : Nat} (E : El t e z q y) (w : World) (ty : TypeId) (base : Nat) (v : Value) (n : Nat) (xs : List Value) (hown : w.ownsRow base e q v n xs) (x : Value) (m : Nat) (cs : List Value) (hx : News w x m q cs)
    (hm : (n + m) * y ≤ 140737488355328) (hm2 : n + m ≤ maxLen) (hbase : base ≤ w.heap.size) :
    ∃ v' w', (Builtin.append_ #[t, t] ty #[v, x]).run Try.prog w = .ok v' w' ∧ w'.ownsRow base e q v' (n + m) (xs ++ cs) ∧ w.grownBy w' v.ownBlock := by
  obtain ⟨i0, hi, hz0, hz1, hz2⟩ := info_parts E.inf
  obtain ⟨hl, h1, hx⟩ := hx
  rcases hx with ⟨rfl, rfl⟩ | ⟨ad, c, rfl, hc⟩
  · have e0 : cs = [] := List.length_eq_zero_iff.1 (by simpa using hl)
    subst e0
    exact ⟨v, w, run_append_owned_none (P := Try.prog) (w := w) base t ty e i0 q E.ut hi v n _ hown, by simpa using hown, ⟨rfl, rfl, rfl, Nat.le_refl _, fun _ _ _ => rfl⟩⟩
  · obtain ⟨v', w', hr, h2, h3, _⟩ := run_append_own (P := Try.prog) w base t ty e i0 z q y E.ut hi hz0 hz1 hz2 E.zs E.q0 v n _ hown ad m c cs hl hc h1 hm2 hm hbase
    exact ⟨v', w', hr, h2, h3⟩
theorem wp_app {t e : TypeId} {z : Value} {q y : Nat} (E : El t e z q y) (w : World) {o : Oper} {a : Act} {K : Act → World → Prop} {Q : Exit → Act → World → Prop} (s x : Operand)
    (ho : o.op = .call { callee := .builtin .append, args := #[s, x], argTypes := #[t, t] })
    (base : Nat) (v : Value) (n : Nat) (xs : List Value) (hv : a.eval s = v) (hown : w.ownsRow base e q v n xs) (u : Value) (m : Nat) (cs : List Value) (hu : a.eval x = u) (hx : News w u m q cs)
    (hm : (n + m) * y ≤ 140737488355328) (hm2 : n + m ≤ maxLen) (hbase : base ≤ w.heap.size)
    (h : ∀ v' w', w'.ownsRow base e q v' (n + m) (xs ++ cs) → w.grownBy w' v.ownBlock → K (a.put o.dst v') w') : o.wp Try.prog a w K Q := by
  obtain ⟨v', w', hr, h2, h3⟩ := run_app E w o.type base v n xs hown u m cs hx hm hm2 hbase
  unfold Oper.wp execOp
  simp only [ho, resolve, invoke, builtin, Sem.run_bind, Sem.run_pure, Result.andThen_ok, List.map_toArray, List.map_cons, List.map_nil, hv, hu, hr]
  exact h v' w' h2 h3
theorem step_app {t e : TypeId} {z : Value} {q y : Nat} (E : El t e z q y) (w : World) {ops : Array Oper} {o : Oper} {a : Act} {K : Act → World → Prop} {Q : Exit → Act → World → Prop} {E' : Prop} (hgd : Region.wanted o (yielded ops a.tmps) = true) (s x : Operand)
    (ho : o.op = .call { callee := .builtin .append, args := #[s, x], argTypes := #[t, t] })
    (base : Nat) (v : Value) (n : Nat) (xs : List Value) (hv : a.eval s = v) (hown : w.ownsRow base e q v n xs) (u : Value) (m : Nat) (cs : List Value) (hu : a.eval x = u) (hx : News w u m q cs)
    (hm : (n + m) * y ≤ 140737488355328) (hm2 : n + m ≤ maxLen) (hbase : base ≤ w.heap.size)
    (h : ∀ v' w', w'.ownsRow base e q v' (n + m) (xs ++ cs) → w.grownBy w' v.ownBlock → K (a.put o.dst v') w') :
    if Region.wanted o (yielded ops a.tmps) = true then Oper.wp Try.prog o a w K Q else E' := by
  rw [if_pos hgd]
  exact wp_app E w s x ho base v n xs hv hown u m cs hu hx hm hm2 hbase h
theorem wpList_app {t e : TypeId} {z : Value} {q y : Nat} (E : El t e z q y) (w : World) {ops : Array Oper} {rest : List Oper} {o : Oper} {a : Act} {Q : Exit → Act → World → Prop} (hgd : o.guard = none) (s x : Operand)
    (ho : o.op = .call { callee := .builtin .append, args := #[s, x], argTypes := #[t, t] })
    (base : Nat) (v : Value) (n : Nat) (xs : List Value) (hv : a.eval s = v) (hown : w.ownsRow base e q v n xs) (u : Value) (m : Nat) (cs : List Value) (hu : a.eval x = u) (hx : News w u m q cs)
    (hm : (n + m) * y ≤ 140737488355328) (hm2 : n + m ≤ maxLen) (hbase : base ≤ w.heap.size)
    (h : ∀ v' w', w'.ownsRow base e q v' (n + m) (xs ++ cs) → w.grownBy w' v.ownBlock → wpList Try.prog ops Q rest (a.put o.dst v') w') : wpList Try.prog ops Q (o :: rest) a w :=
  wpList_plain hgd fun _ hK => wp_app E w s x ho base v n xs hv hown u m cs hu hx hm hm2 hbase fun v' w' h2 h3 => hK _ _ (h v' w' h2 h3)
/-- 'make([]T, 0, n)'. -/
theorem wpList_mk {t e : TypeId} {z : Value} {q y : Nat} (E : El t e z q y) (w : World) {ops : Array Oper} {rest : List Oper} {o : Oper} {a : Act} {Q : Exit → Act → World → Prop} (hg : o.guard = none) (l c : Operand) (hop : o.op = Op.makeSlice t l c)
    (n : Nat) (hl : a.eval l = .int .i64 0) (hc : a.eval c = .int .i64 (n : Int)) (b2 : y * n ≤ 281474976710656) (b3 : n ≤ maxLen)
    (hK : ∀ w', w'.ownsRow w.heap.size e q (.slice (some ⟨w.heap.size, 0, none⟩) 0 n) 0 [] → Below w.heap.size w w' → wpList Try.prog ops Q rest (a.put o.dst (.slice (some ⟨w.heap.size, 0, none⟩) 0 n)) w') :
    wpList Try.prog ops Q (o :: rest) a w := by
  obtain ⟨i0, hi, hz0, hz1, hz2⟩ := info_parts E.inf
  refine wpList_make_own w hg l c t hop w.heap.size e i0 z q E.ut hi hz0 hz1 .i64 .i64 _ n hl hc rfl (by rw [hz2]; exact b2) b3 (Nat.le_refl _) ?_
  intro w' h1 h2
  exact hK w' h1 ((Below.refl _ w).grown h2 (Nat.le_refl _) (fun k hk => by cases hk))
theorem addr_add (b off i : Nat) : (⟨b, off, none⟩ : Addr).add i = ⟨b, off + i, none⟩ := by
  by_cases h : i = 0 <;> simp [Addr.add, h]
/-- A slice just written out. -/
theorem news_new (w : World) (cs : List Value) (e : TypeId) (m q c N : Nat) (hN : N = w.heap.size) (hl : cs.length = m * q) (h1 : ∀ u ∈ cs, u.oneCell' = true) : News (w.alloc (.cells cs.toArray e)) (.slice (some ⟨N, 0, none⟩) m c) m q cs := by
  subst hN
  refine ⟨hl, h1, .inr ⟨_, c, rfl, fun j u hj => ?_⟩⟩
  have h : (w.alloc (.cells cs.toArray e)).heap[w.heap.size]? = some (.cells cs.toArray e) := heap_alloc_new w _
  rw [addr_add]
  unfold World.cell?
  rw [h]
  simpa using hj
/-- The cells that hold the numbers of a list. -/
def vals (l : List Int) : List Value := l.map (Value.int .i64)
theorem vals_one (l : List Int) : ∀ u ∈ vals l, u.oneCell' = true := by
  intro u hu
  unfold vals at hu
  obtain ⟨n, _, rfl⟩ := List.mem_map.1 hu
  rfl
theorem ls_news {B : Nat} {w : World} {v : Value} {l : List Int} (h : Ls B w v l) : News w v l.length 1 (vals l) := by
  obtain ⟨a, cap, rfl, h1, h2, h4, h3⟩ := ls_len h
  refine ⟨by simp [vals], vals_one l, ?_⟩
  cases a with
  | none =>
    have e3 := h4 rfl
    have e2 : l.length = 0 := by omega
    exact .inl ⟨by rw [e2, e3], e2⟩
  | some ad =>
    refine .inr ⟨ad, cap, rfl, fun j u hj => ?_⟩
    unfold vals at hj
    rw [List.getElem?_map] at hj
    have hjl : j < l.length := by
      rcases Nat.lt_or_ge j l.length with hh | hh
      · exact hh
      · rw [List.getElem?_eq_none (by omega)] at hj; simp at hj
    rw [List.getElem?_eq_getElem hjl] at hj
    obtain rfl : Value.int .i64 l[j] = u := by simpa using hj
    obtain ⟨b, off, e5, _, hc⟩ := h3.at hjl
    obtain rfl : ad = ⟨b, off, none⟩ := by simpa using e5
    rw [addr_add, hc]
    simp [hjl]
theorem own_ls {w : World} {base : Nat} {v : Value} {n : Nat} {l : List Int} (h : w.ownsRow base 3 1 v n (vals l)) : Ls w.heap.size w v l := by
  have hl : l.length = n := by simpa [vals] using h.1
  rcases h.2 with ⟨rfl, rfl⟩ | ⟨g, cap, cur, rfl, _, hg, hnc, hcm, _, _⟩
  · exact ⟨none, 0, 0, rfl, Nat.le_refl _, Nat.zero_le _, fun _ => rfl, hl, .inl rfl⟩
  · refine ⟨_, n, cap, rfl, hnc, hcm, (fun h => by cases h), hl, .inr ⟨g, 0, rfl, heap_lt hg, fun i hi => ?_⟩⟩
    have := h.cells (g := g) rfl i (.int .i64 (l.getD i 0)) (by
      unfold vals
      rw [List.getElem?_map, List.getElem?_eq_getElem (by omega)]; simp [List.getD, hl, hi])
    rwa [addr_add] at this
theorem wpList_appG {t e : TypeId} {z : Value} {q y : Nat} (E : El t e z q y) (w : World) {ops : Array Oper} {rest : List Oper} {o : Oper} {a : Act} {Q : Exit → Act → World → Prop} (hw : Region.wanted o (yielded ops a.tmps) = true) (s x : Operand)
    (ho : o.op = .call { callee := .builtin .append, args := #[s, x], argTypes := #[t, t] })
    (base : Nat) (v : Value) (n : Nat) (xs : List Value) (hv : a.eval s = v) (hown : w.ownsRow base e q v n xs) (u : Value) (m : Nat) (cs : List Value) (hu : a.eval x = u) (hx : News w u m q cs)
    (hm : (n + m) * y ≤ 140737488355328) (hm2 : n + m ≤ maxLen) (hbase : base ≤ w.heap.size)
    (h : ∀ v' w', w'.ownsRow base e q v' (n + m) (xs ++ cs) → w.grownBy w' v.ownBlock → wpList Try.prog ops Q rest (a.put o.dst v') w') : wpList Try.prog ops Q (o :: rest) a w :=
  wpList_step fun K hK => by
    rw [if_pos hw]
    exact wp_app E w s x ho base v n xs hv hown u m cs hu hx hm hm2 hbase fun v' w' h2 h3 => hK _ _ (h v' w' h2 h3)
theorem News.next {w w' : World} {x : Value} {m q : Nat} {cs : List Value} (h : News w x m q cs) (hb : Below w.heap.size w w') : News w' x m q cs :=
  ⟨h.1, h.2.1, h.2.2.imp id fun ⟨ad, c, e, hc⟩ => ⟨ad, c, e, fun j u hj => (hb.cell (World.block_lt_of_cell? _ _ (hc j u hj))).trans (hc j u hj)⟩⟩
theorem own_keep {w W : World} {B : Nat} {v : Value} {n : Nat} {xs : List Value} (h : w.ownsRow B 3 1 v n xs) (hk : ∀ (k : Nat) (cur : Array Value) (fr : Nat × Nat), w.heap[k]? = some (Obj.cells cur 3 fr) → W.heap[k]? = w.heap[k]?) : W.ownsRow B 3 1 v n xs := by
  refine ⟨h.1, ?_⟩
  rcases h.2 with h0 | ⟨g, cap, cur, hv, hB, hg, r⟩
  · exact .inl h0
  · exact .inr ⟨g, cap, cur, hv, hB, (hk g cur _ hg).trans hg, r⟩
theorem own_base {w : World} {B : Nat} {v : Value} {n : Nat} {xs : List Value} (h : w.ownsRow B 3 1 v n xs) : w.ownsRow 0 3 1 v n xs := by
  refine ⟨h.1, ?_⟩
  rcases h.2 with h0 | ⟨g, cap, cur, hv, hB, r⟩
  · exact .inl h0
  · exact .inr ⟨g, cap, cur, hv, Nat.zero_le _, r⟩
/-- The numbers l lie in a row of their own: v. -/
def Lo (w : World) (v : Value) (l : List Int) : Prop := ∃ a c, v = .slice a l.length c ∧ w.ownsRow 0 3 1 v l.length (vals l)
theorem lo_nil (w : World) : Lo w (.slice none 0 0) [] := ⟨none, 0, rfl, rfl, .inl ⟨rfl, rfl⟩⟩
theorem Lo.ls {w : World} {v : Value} {l : List Int} (h : Lo w v l) : Ls w.heap.size w v l := own_ls h.choose_spec.choose_spec.2
theorem Lo.next {w w' : World} {v : Value} {l : List Int} (h : Lo w v l) (hb : Below w.heap.size w w') : Lo w' v l := by
  obtain ⟨a, c, e, h⟩ := h
  exact ⟨a, c, e, own_next h hb⟩
theorem Lo.keep {w W : World} {v : Value} {l : List Int} (h : Lo w v l) (hk : ∀ (k : Nat) (cur : Array Value) (fr : Nat × Nat), w.heap[k]? = some (Obj.cells cur 3 fr) → W.heap[k]? = w.heap[k]?) : Lo W v l := by
  obtain ⟨a, c, e, h⟩ := h
  exact ⟨a, c, e, own_keep h hk⟩
theorem lo_own {w : World} {B : Nat} {v : Value} {n : Nat} {l : List Int} (h : w.ownsRow B 3 1 v n (vals l)) (hn : n = l.length) : Lo w v l := by
  subst hn
  rcases h.2 with ⟨e, e2⟩ | ⟨g, cap, cur, e, r⟩
  · exact ⟨none, 0, by rw [e, e2], own_base h⟩
  · exact ⟨_, cap, e, own_base h⟩
theorem drewN_below (w : World) (q : Nat) : Below w.heap.size w (w.drewN q) := (Below.refl _ _).trans ⟨rfl, rfl, rfl, Nat.le_refl _, fun _ _ => rfl⟩
end Go.Proofs.Ytdhfpfkcbcgnaaa

/- A machine of package plain as it lies in memory. -/
namespace Go.Proofs.Ytdhfpfkcbcgnaaa
open Go.RowKit

/-- A machine's state: its heap, its registers, its reads and its writes. -/
structure St where
  h : List Int
  r : List Int
  rd : List (Int × Int)
  wr : List (Int × Int)
/-- The cells of accesses. -/
def pairs : List (Int × Int) → List Value
  | [] => []
  | p :: r => .int .i64 p.1 :: .int .i64 p.2 :: pairs r
theorem pairs_app : ∀ (l m : List (Int × Int)), pairs (l ++ m) = pairs l ++ pairs m
  | [], m => rfl
  | p :: r, m => by
    show Value.int .i64 p.1 :: Value.int .i64 p.2 :: pairs (r ++ m) = _
    rw [pairs_app r m]; rfl
theorem pairs_len : ∀ (l : List (Int × Int)), (pairs l).length = l.length * 2
  | [] => rfl
  | p :: r => by
    show (pairs r).length + 1 + 1 = (r.length + 1) * 2
    rw [pairs_len r]; omega
/-- The machine's own cells in block b. -/
def Mb (c : Cf) (hv : Value) (e : Int) (rv dv wv : Value) (b : Nat) (w : World) : Prop :=
  w.heap[b]? = some (.cells #[.int .i64 c.r, .int .i64 c.o, .int .i64 c.s, .int .i64 c.d, .int .i64 c.t, .int .i64 c.l, .int .i64 c.g, .int .i64 c.k, .int .i64 c.u, .int .i64 c.e, .int .i64 c.i, .int .i64 c.p, hv, .int .i64 e, rv, dv, wv] 50 (0, 0))
namespace Mb
variable {c : Cf} {hv : Value} {e : Int} {rv dv wv : Value} {b : Nat} {w w' : World}
theorem lt (h : Mb c hv e rv dv wv b w) : b < w.heap.size := heap_lt h
theorem keep (h : Mb c hv e rv dv wv b w) (k : w'.heap[b]? = w.heap[b]?) : Mb c hv e rv dv wv b w' := k.trans h
theorem conf (h : Mb c hv e rv dv wv b w) : w.cell? ⟨b, 0, none⟩ = some (.int .i64 c.r) ∧ w.cell? ⟨b, 1, none⟩ = some (.int .i64 c.o) ∧ w.cell? ⟨b, 2, none⟩ = some (.int .i64 c.s) ∧ w.cell? ⟨b, 3, none⟩ = some (.int .i64 c.d) ∧ w.cell? ⟨b, 4, none⟩ = some (.int .i64 c.t) ∧ w.cell? ⟨b, 5, none⟩ = some (.int .i64 c.l) ∧ w.cell? ⟨b, 6, none⟩ = some (.int .i64 c.g) ∧ w.cell? ⟨b, 7, none⟩ = some (.int .i64 c.k) ∧ w.cell? ⟨b, 8, none⟩ = some (.int .i64 c.u) ∧ w.cell? ⟨b, 9, none⟩ = some (.int .i64 c.e) ∧ w.cell? ⟨b, 10, none⟩ = some (.int .i64 c.i) ∧ w.cell? ⟨b, 11, none⟩ = some (.int .i64 c.p) := by
  unfold Mb at h
  simp [World.cell?, h]
theorem c12 (h : Mb c hv e rv dv wv b w) : w.cell? ⟨b, 12, none⟩ = some hv := by unfold Mb at h; simp [World.cell?, h]
theorem c13 (h : Mb c hv e rv dv wv b w) : w.cell? ⟨b, 13, none⟩ = some (.int .i64 e) := by unfold Mb at h; simp [World.cell?, h]
theorem c14 (h : Mb c hv e rv dv wv b w) : w.cell? ⟨b, 14, none⟩ = some rv := by unfold Mb at h; simp [World.cell?, h]
theorem c15 (h : Mb c hv e rv dv wv b w) : w.cell? ⟨b, 15, none⟩ = some dv := by unfold Mb at h; simp [World.cell?, h]
theorem c16 (h : Mb c hv e rv dv wv b w) : w.cell? ⟨b, 16, none⟩ = some wv := by unfold Mb at h; simp [World.cell?, h]
theorem free (h : Mb c hv e rv dv wv b w) (k : Nat) : w.frozen? ⟨b, k, none⟩ = false := by unfold Mb at h; simp [World.frozen?, h]
theorem set13 (h : Mb c hv e rv dv wv b w) (v : Int) : Mb c hv v rv dv wv b (w.setCell ⟨b, 13, none⟩ (.int .i64 v)) := by
  unfold Mb at h ⊢
  show (w.heap.modify b _)[b]? = _
  rw [Array.getElem?_modify, if_pos rfl, h]; rfl
theorem set15 (h : Mb c hv e rv dv wv b w) (v : Value) : Mb c hv e rv v wv b (w.setCell ⟨b, 15, none⟩ v) := by
  unfold Mb at h ⊢
  show (w.heap.modify b _)[b]? = _
  rw [Array.getElem?_modify, if_pos rfl, h]; rfl
theorem set16 (h : Mb c hv e rv dv wv b w) (v : Value) : Mb c hv e rv dv v b (w.setCell ⟨b, 16, none⟩ v) := by
  unfold Mb at h ⊢
  show (w.heap.modify b _)[b]? = _
  rw [Array.getElem?_modify, if_pos rfl, h]; rfl
end Mb
theorem set_other (w : World) (b j k : Nat) (v : Value) (h : k ≠ b) : (w.setCell ⟨b, j, none⟩ v).heap[k]? = w.heap[k]? := Deep.blk_setCell_other _ _ _ _ h

/-- Block g holds the numbers l in its first cells. -/
def Rb (g : Nat) (l : List Int) (w : World) : Prop := ∃ cur, w.heap[g]? = some (.cells cur 3 (0, 0)) ∧ cur.toList.take l.length = vals l
namespace Rb
variable {g : Nat} {l : List Int} {w w' : World}
theorem lt (h : Rb g l w) : g < w.heap.size := heap_lt h.choose_spec.1
theorem keep (h : Rb g l w) (k : w'.heap[g]? = w.heap[g]?) : Rb g l w' := ⟨_, k.trans h.choose_spec.1, h.choose_spec.2⟩
theorem free (h : Rb g l w) (k : Nat) : w.frozen? ⟨g, k, none⟩ = false := by
  obtain ⟨cur, h, _⟩ := h
  simp [World.frozen?, h]
theorem cell (h : Rb g l w) {i : Nat} (hi : i < l.length) : w.cell? ⟨g, i, none⟩ = some (.int .i64 (l.getD i 0)) := by
  obtain ⟨cur, h, e⟩ := h
  have e2 : (cur.toList.take l.length)[i]? = some (.int .i64 (l.getD i 0)) := by
    rw [e]
    unfold vals
    rw [List.getElem?_map, List.getElem?_eq_getElem hi]
    simp [List.getD, hi]
  rw [List.getElem?_take_of_lt hi] at e2
  simp only [World.cell?, h]
  simpa using e2
theorem set (h : Rb g l w) {i : Nat} (_hi : i < l.length) (x : Int) : Rb g (l.set i x) (w.setCell ⟨g, i, none⟩ (.int .i64 x)) := by
  obtain ⟨cur, h, e⟩ := h
  refine ⟨cur.setIfInBounds i (.int .i64 x), ?_, ?_⟩
  · show (w.heap.modify g _)[g]? = _
    rw [Array.getElem?_modify, if_pos rfl, h]
    rfl
  · rw [List.length_set, Array.toList_setIfInBounds, List.take_set, e]
    unfold vals
    rw [List.map_set]
theorem ls (h : Rb g l w) {cap : Nat} (h1 : l.length ≤ cap) (h2 : cap ≤ maxLen) : Ls w.heap.size w (.slice (some ⟨g, 0, none⟩) l.length cap) l :=
  ⟨_, _, _, rfl, h1, h2, (fun e => by cases e), rfl, .inr ⟨g, 0, rfl, h.lt, fun i hi => by rw [Nat.zero_add]; exact h.cell hi⟩⟩
theorem ne50 (h : Rb g l w) {c : Cf} {hv : Value} {e : Int} {rv dv wv : Value} {b : Nat} (k : Mb c hv e rv dv wv b w) : b ≠ g := by
  rintro rfl
  obtain ⟨cur, h, _⟩ := h
  unfold Mb at k
  rw [h] at k
  cases k
theorem neRow (h : Rb g l w) {B n : Nat} {v : Value} {xs : List Value} (k : w.ownsRow B 41 2 v n xs) : some g ≠ v.ownBlock := by
  intro e
  obtain ⟨cur, h, _⟩ := h
  rcases k.2 with ⟨rfl, _⟩ | ⟨g', cap, cur', rfl, _, h', _⟩
  · cases e
  · have : g = g' := by simpa [Value.ownBlock] using e
    subst this
    rw [h] at h'
    cases h'
end Rb
theorem mbNeRow {c : Cf} {hv : Value} {e : Int} {rv dv wv : Value} {b : Nat} {w : World} (h : Mb c hv e rv dv wv b w) {B n : Nat} {v : Value} {xs : List Value} (k : w.ownsRow B 41 2 v n xs) : some b ≠ v.ownBlock := by
  intro e
  unfold Mb at h
  rcases k.2 with ⟨rfl, _⟩ | ⟨g', cap, cur', rfl, _, h', _⟩
  · cases e
  · have : b = g' := by simpa [Value.ownBlock] using e
    subst this
    rw [h] at h'
    cases h'
theorem rowKeep {w w' : World} {B e q n : Nat} {v : Value} {xs : List Value} (h : w.ownsRow B e q v n xs) (k : ∀ g, v.ownBlock = some g → w'.heap[g]? = w.heap[g]?) : w'.ownsRow B e q v n xs := by
  refine ⟨h.1, ?_⟩
  rcases h.2 with h0 | ⟨g, cap, cur, rfl, hB, hg, r⟩
  · exact .inl h0
  · exact .inr ⟨g, cap, cur, rfl, hB, (k g rfl).trans hg, r⟩

/-- The machine in block b: its heap lies in block gh, its registers in gr, its reads are dv, its writes wv; all of it at or above B. -/
structure Ma (B : Nat) (c : Cf) (s : St) (b gh gr ch : Nat) (e : Int) (dv wv : Value) (w : World) : Prop where
  blk : Mb c (.slice (some ⟨gh, 0, none⟩) s.h.length ch) e (.slice (some ⟨gr, 0, none⟩) s.r.length s.r.length) dv wv b w
  hp : Rb gh s.h w
  rg : Rb gr s.r w
  rd : w.ownsRow B 41 2 dv s.rd.length (pairs s.rd)
  wr : w.ownsRow B 41 2 wv s.wr.length (pairs s.wr)
  ne : gh ≠ gr
  dw : ∀ k, dv.ownBlock = some k → wv.ownBlock ≠ some k
  bB : B ≤ b
  hB : B ≤ gh
  rB : B ≤ gr
  hc : s.h.length ≤ ch
  cm : ch ≤ maxLen
  rm : s.r.length ≤ 8
namespace Ma
variable {B : Nat} {c : Cf} {s : St} {b gh gr ch : Nat} {e : Int} {dv wv : Value} {w w' : World}
theorem low (h : Ma B c s b gh gr ch e dv wv w) : B ≤ w.heap.size := Nat.le_of_lt (Nat.lt_of_le_of_lt h.bB h.blk.lt)
/-- Every block of the machine is as it was. -/
theorem keep (h : Ma B c s b gh gr ch e dv wv w) (k : ∀ g, g < w.heap.size → w'.heap[g]? = w.heap[g]?) : Ma B c s b gh gr ch e dv wv w' :=
  { h with
    blk := h.blk.keep (k _ h.blk.lt)
    hp := h.hp.keep (k _ h.hp.lt)
    rg := h.rg.keep (k _ h.rg.lt)
    rd := rowKeep h.rd fun g hg => k g (h.rd.lt g hg).2
    wr := rowKeep h.wr fun g hg => k g (h.wr.lt g hg).2 }
theorem next (h : Ma B c s b gh gr ch e dv wv w) (k : Below w.heap.size w w') : Ma B c s b gh gr ch e dv wv w' := h.keep fun g hg => k.block g hg
theorem drew (h : Ma B c s b gh gr ch e dv wv w) : Ma B c s b gh gr ch e dv wv w.drew := h.keep fun _ _ => rfl
/-- A register is written. -/
theorem setReg (h : Ma B c s b gh gr ch e dv wv w) {i : Nat} (hi : i < s.r.length) (x : Int) : Ma B c { s with r := s.r.set i x } b gh gr ch e dv wv (w.setCell ⟨gr, i, none⟩ (.int .i64 x)) :=
  { h with
    blk := by
      show Mb c _ e (.slice (some ⟨gr, 0, none⟩) (s.r.set i x).length (s.r.set i x).length) dv wv b _
      rw [List.length_set]
      exact h.blk.keep (set_other _ _ _ _ _ (h.rg.ne50 h.blk))
    hp := h.hp.keep (set_other _ _ _ _ _ h.ne)
    rg := h.rg.set hi x
    rd := rowKeep h.rd fun g hg => set_other _ _ _ _ _ (fun e => h.rg.neRow h.rd (by rw [← e]; exact hg.symm))
    wr := rowKeep h.wr fun g hg => set_other _ _ _ _ _ (fun e => h.rg.neRow h.wr (by rw [← e]; exact hg.symm))
    rm := by show (s.r.set i x).length ≤ 8; rw [List.length_set]; exact h.rm }
/-- A word of the heap is written. -/
theorem setHeap (h : Ma B c s b gh gr ch e dv wv w) {i : Nat} (hi : i < s.h.length) (x : Int) : Ma B c { s with h := s.h.set i x } b gh gr ch e dv wv (w.setCell ⟨gh, i, none⟩ (.int .i64 x)) :=
  { h with
    blk := by
      show Mb c (.slice (some ⟨gh, 0, none⟩) (s.h.set i x).length ch) e _ dv wv b _
      rw [List.length_set]
      exact h.blk.keep (set_other _ _ _ _ _ (h.hp.ne50 h.blk))
    hp := h.hp.set hi x
    rg := h.rg.keep (set_other _ _ _ _ _ (Ne.symm h.ne))
    rd := rowKeep h.rd fun g hg => set_other _ _ _ _ _ (fun e => h.hp.neRow h.rd (by rw [← e]; exact hg.symm))
    wr := rowKeep h.wr fun g hg => set_other _ _ _ _ _ (fun e => h.hp.neRow h.wr (by rw [← e]; exact hg.symm))
    hc := by show (s.h.set i x).length ≤ ch; rw [List.length_set]; exact h.hc }
/-- Its end is written. -/
theorem setEnd (h : Ma B c s b gh gr ch e dv wv w) (v : Int) : Ma B c s b gh gr ch v dv wv (w.setCell ⟨b, 13, none⟩ (.int .i64 v)) :=
  { h with
    blk := h.blk.set13 v
    hp := h.hp.keep (set_other _ _ _ _ _ (Ne.symm (h.hp.ne50 h.blk)))
    rg := h.rg.keep (set_other _ _ _ _ _ (Ne.symm (h.rg.ne50 h.blk)))
    rd := rowKeep h.rd fun g hg => set_other _ _ _ _ _ (fun e => mbNeRow h.blk h.rd (by rw [← e]; exact hg.symm))
    wr := rowKeep h.wr fun g hg => set_other _ _ _ _ _ (fun e => mbNeRow h.blk h.wr (by rw [← e]; exact hg.symm)) }
/-- One access is appended to the reads. -/
theorem addRead (h : Ma B c s b gh gr ch e dv wv w) {g cap : Nat} {p : Int × Int} (h1 : w'.ownsRow B 41 2 (.slice (some ⟨g, 0, none⟩) (s.rd.length + 1) cap) (s.rd.length + 1) (pairs s.rd ++ [.int .i64 p.1, .int .i64 p.2]))
    (hg : w.grownBy w' dv.ownBlock) (hat : dv.ownBlock = some g ∨ g = w.heap.size) : Ma B c { s with rd := s.rd ++ [p] } b gh gr ch e (.slice (some ⟨g, 0, none⟩) (s.rd.length + 1) cap) wv (w'.setCell ⟨b, 15, none⟩ (.slice (some ⟨g, 0, none⟩) (s.rd.length + 1) cap)) := by
  have n1 := h.hp.ne50 h.blk
  have n2 := h.rg.ne50 h.blk
  have hwne : ∀ k, wv.ownBlock = some k → k ≠ g := by
    rintro k hk rfl
    rcases hat with e1 | e1
    · exact h.dw _ e1 hk
    · have := (h.wr.lt k hk).2; omega
  have blk' := h.blk.keep (hg.block _ h.blk.lt (mbNeRow h.blk h.rd))
  have gb : g ≠ b := by
    rintro rfl
    obtain ⟨_, h2⟩ := h1
    unfold Mb at blk'
    rcases h2 with ⟨e1, _⟩ | ⟨g', cap', cur', e1, _, h', _⟩
    · cases e1
    · have : g = g' := by injection e1 with e2; simpa using e2
      subst this
      rw [blk'] at h'
      cases h'
  exact { h with
    blk := blk'.set15 _
    hp := (h.hp.keep (hg.block _ h.hp.lt (h.hp.neRow h.rd))).keep (set_other _ _ _ _ _ (Ne.symm n1))
    rg := (h.rg.keep (hg.block _ h.rg.lt (h.rg.neRow h.rd))).keep (set_other _ _ _ _ _ (Ne.symm n2))
    rd := by
      show World.ownsRow _ B 41 2 _ (s.rd ++ [p]).length (pairs (s.rd ++ [p]))
      rw [List.length_append, pairs_app]
      exact rowKeep h1 fun k hk => set_other _ _ _ _ _ (fun e => gb (by simpa [Value.ownBlock, e] using hk))
    wr := rowKeep (rowKeep h.wr fun k hk => hg.block k (h.wr.lt k hk).2 (fun e => h.dw k e.symm hk)) fun k hk => set_other _ _ _ _ _ (fun e => mbNeRow h.blk h.wr (by rw [← e]; exact hk.symm))
    dw := fun k hk hk2 => hwne k hk2 (by simpa [Value.ownBlock] using hk.symm) }
/-- .. to the writes. -/
theorem addWrite (h : Ma B c s b gh gr ch e dv wv w) {g cap : Nat} {p : Int × Int} (h1 : w'.ownsRow B 41 2 (.slice (some ⟨g, 0, none⟩) (s.wr.length + 1) cap) (s.wr.length + 1) (pairs s.wr ++ [.int .i64 p.1, .int .i64 p.2]))
    (hg : w.grownBy w' wv.ownBlock) (hat : wv.ownBlock = some g ∨ g = w.heap.size) : Ma B c { s with wr := s.wr ++ [p] } b gh gr ch e dv (.slice (some ⟨g, 0, none⟩) (s.wr.length + 1) cap) (w'.setCell ⟨b, 16, none⟩ (.slice (some ⟨g, 0, none⟩) (s.wr.length + 1) cap)) := by
  have n1 := h.hp.ne50 h.blk
  have n2 := h.rg.ne50 h.blk
  have hwne : ∀ k, dv.ownBlock = some k → k ≠ g := by
    rintro k hk rfl
    rcases hat with e1 | e1
    · exact h.dw _ hk e1
    · have := (h.rd.lt k hk).2; omega
  have blk' := h.blk.keep (hg.block _ h.blk.lt (mbNeRow h.blk h.wr))
  have gb : g ≠ b := by
    rintro rfl
    obtain ⟨_, h2⟩ := h1
    unfold Mb at blk'
    rcases h2 with ⟨e1, _⟩ | ⟨g', cap', cur', e1, _, h', _⟩
    · cases e1
    · have : g = g' := by injection e1 with e2; simpa using e2
      subst this
      rw [blk'] at h'
      cases h'
  exact { h with
    blk := blk'.set16 _
    hp := (h.hp.keep (hg.block _ h.hp.lt (h.hp.neRow h.wr))).keep (set_other _ _ _ _ _ (Ne.symm n1))
    rg := (h.rg.keep (hg.block _ h.rg.lt (h.rg.neRow h.wr))).keep (set_other _ _ _ _ _ (Ne.symm n2))
    wr := by
      show World.ownsRow _ B 41 2 _ (s.wr ++ [p]).length (pairs (s.wr ++ [p]))
      rw [List.length_append, pairs_app]
      exact rowKeep h1 fun k hk => set_other _ _ _ _ _ (fun e => gb (by simpa [Value.ownBlock, e] using hk))
    rd := rowKeep (rowKeep h.rd fun k hk => hg.block k (h.rd.lt k hk).2 (fun e => h.dw k hk e.symm)) fun k hk => set_other _ _ _ _ _ (fun e => mbNeRow h.blk h.rd (by rw [← e]; exact hk.symm))
    dw := fun k hk hk2 => hwne k hk (by simpa [Value.ownBlock] using hk2.symm) }
end Ma
end Go.Proofs.Ytdhfpfkcbcgnaaa

/- read and write of a machine. -/
namespace Go.Proofs.Ytdhfpfkcbcgnaaa
open Go.RowKit

def readD (s : St) (i : Nat) : St := { s with rd := s.rd ++ [((i : Int), s.h.getD i 0)] }
def writeD (s : St) (i : Nat) (v : Int) : St := { s with h := s.h.set i v, wr := s.wr ++ [((i : Int), v)] }
/-- No instruction's block is turned, and no Out's. -/
def Stay (w w' : World) : Prop := ∀ (k : Nat) (cs : Array Value) (t : TypeId) (fr : Nat × Nat), t = 44 ∨ t = 30 → w.heap[k]? = some (.cells cs t fr) → w'.heap[k]? = w.heap[k]?
theorem Stay.refl (w : World) : Stay w w := fun _ _ _ _ _ _ => rfl
theorem Stay.trans {w w' w'' : World} (h : Stay w w') (k : Stay w' w'') : Stay w w'' := fun i cs t fr ht hi => (k i cs t fr ht ((h i cs t fr ht hi).trans hi)).trans (h i cs t fr ht hi)
theorem stay_below {w w' : World} (hb : Below w.heap.size w w') : Stay w w' := fun k _ _ _ _ hk => hb.block k (heap_lt hk)
theorem Stay.next {w w' w'' : World} (h : Stay w w') (hb : Below w'.heap.size w' w'') : Stay w w'' := h.trans (stay_below hb)
theorem Stay.set {w w' : World} (h : Stay w w') {g i : Nat} {v : Value} (hg : ∀ cs t fr, t = 44 ∨ t = 30 → w'.heap[g]? ≠ some (.cells cs t fr)) : Stay w (w'.setCell ⟨g, i, none⟩ v) := fun k cs t fr ht hk => by
  have e := h k cs t fr ht hk
  exact (set_other _ _ _ _ _ (fun e2 => hg cs t fr ht (by rw [← e2]; exact e.trans hk))).trans e
theorem Stay.grown {w w' w'' : World} (h : Stay w w') {r : Option Nat} (hg : w'.grownBy w'' r) (hr : ∀ g, r = some g → ∀ cs t fr, t = 44 ∨ t = 30 → w'.heap[g]? ≠ some (.cells cs t fr)) : Stay w w'' := fun k cs t fr ht hk => by
  have e := h k cs t fr ht hk
  exact (hg.block k (heap_lt (e.trans hk)) (fun e2 => hr k e2.symm cs t fr ht (e.trans hk))).trans e
theorem mb44 {c : Cf} {hv : Value} {e : Int} {rv dv wv : Value} {b : Nat} {w : World} (h : Mb c hv e rv dv wv b w) : ∀ cs t fr, t = 44 ∨ t = 30 → w.heap[b]? ≠ some (.cells cs t fr) := fun cs t fr ht k => by
  unfold Mb at h
  rw [h] at k
  rcases ht with rfl | rfl <;> cases k
theorem rb44 {g : Nat} {l : List Int} {w : World} (h : Rb g l w) : ∀ cs t fr, t = 44 ∨ t = 30 → w.heap[g]? ≠ some (.cells cs t fr) := fun cs t fr ht k => by
  obtain ⟨_, h, _⟩ := h
  rw [h] at k
  rcases ht with rfl | rfl <;> cases k
theorem row44 {w : World} {B n : Nat} {v : Value} {xs : List Value} (h : w.ownsRow B 41 2 v n xs) : ∀ g, v.ownBlock = some g → ∀ cs t fr, t = 44 ∨ t = 30 → w.heap[g]? ≠ some (.cells cs t fr) := fun g hg cs t fr ht k => by
  rcases h.2 with ⟨rfl, _⟩ | ⟨g', cap, cur, rfl, _, h', _⟩
  · cases hg
  · have : g' = g := by simpa [Value.ownBlock] using hg
    subst this
    rw [h'] at k
    rcases ht with rfl | rfl <;> cases k
theorem acc_info : ∃ i, Try.prog.info? 41 = some i ∧ i.zero = some (.agg #[.int .i64 0, .int .i64 0]) ∧ i.size = 2 ∧ i.bytes = 16 := by
  obtain ⟨i, h, h1, h2, h3⟩ := info_parts elAcc.inf
  exact ⟨i, h, h1, h2, h3⟩
theorem acc_news (w : World) (a v : Int) (N : Nat) (hN : N = w.heap.size) : ∀ j u, ([.int .i64 a, .int .i64 v] : List Value)[j]? = some u → (w.alloc (.cells #[.int .i64 a, .int .i64 v] 41)).cell? ((⟨N, 0, none⟩ : Addr).add j) = some u := by
  subst hN
  exact World.news_of_block (cs := #[.int .i64 a, .int .i64 v]) (heap_alloc_new w _)
theorem acc_one (a v : Int) : ∀ u ∈ ([.int .i64 a, .int .i64 v] : List Value), u.oneCell' = true := by
  intro u hu
  simp only [List.mem_cons, List.not_mem_nil, or_false] at hu
  rcases hu with rfl | rfl <;> rfl

set_option maxRecDepth 100000 in
set_option maxHeartbeats 1000000 in
theorem write_any {B : Nat} {c : Cf} {s : St} {b gh gr ch : Nat} {e : Int} {dv wv : Value} {w : World} (h : Ma B c s b gh gr ch e dv wv w) (i : Nat) (hi : i < s.h.length) (v : Int) (hl : s.wr.length ≤ 100) :
    Calls Try.prog 47 #[.pointer (some ⟨b, 0, none⟩), .int .i64 i, .int .i64 v] w fun r w' => ∃ wv', r = .returned (.tuple #[]) ∧ Ma B c (writeD s i v) b gh gr ch e dv wv' w' ∧ Below B w w' ∧ Stay w w' := by
  obtain ⟨i0, hi0, hz0, hz1, hz2⟩ := acc_info
  have hmax : maxLen = 9223372036854775807 := rfl
  have h16 := h.blk.c16
  obtain ⟨n, hn⟩ : ∃ n, s.h.length = n := ⟨_, rfl⟩
  obtain ⟨m, hm⟩ : ∃ m, s.wr.length = m := ⟨_, rfl⟩
  have b1 := below_new w (.cells #[.int .i64 i, .int .i64 v] 41)
  have h1 := h.next b1
  have low := h.low
  have H1 := hide h1
  have il : (i : Int) < (n : Int) := by omega
  have nws := hide (acc_news w i v w.heap.size rfl)
  have hown0 := h1.wr
  have ne1 := h.hp.ne50 h.blk
  have ne2 := Ne.symm ne1
  rw [hm] at hown0
  replace hown0 := hide hown0
  clear h h1
  replace hn := hide hn
  replace hm := hide hm
  replace b1 := hide b1
  go_enter Try.func47, Try.ntmps47
  go_wp2_with (at_builtin; refine wpList_append_lies _ (by rfl) _ _ _ (by rfl) B 41 i0 _ 2 16 Try.underlying28 hi0 hz0 hz1 hz2 rfl (by omega) wv m _ (by rfl) (unhide hown0) _ 1 1 [.int .i64 i, .int .i64 v] (by rfl) (by rfl) (unhide nws) (acc_one _ _) (by omega) (by have := unhide hm; omega) (by have := unhide hm; omega) (by simp; omega) _ rfl ?_; intro g cap w1 hown hgrow hat hlt; have hb1 := (unhide H1).blk.keep (hgrow.block _ (unhide H1).blk.lt (mbNeRow (unhide H1).blk (unhide H1).wr)); have hr1 := (unhide H1).hp.keep (hgrow.block _ (unhide H1).hp.lt ((unhide H1).hp.neRow (unhide H1).wr)); have f1 := hb1.free 16; have x1 := hb1.c16; have x2 := hb1.c12; rw [unhide hn] at x2; have f3 := hr1.free i; have x3 := hr1.cell hi; replace hb1 := hide hb1; replace hr1 := hide hr1; replace hown := hide hown; replace hgrow := hide hgrow; replace hat := hide hat; clear hlt)
  go_end0
  refine ⟨.slice (some ⟨g, 0, none⟩) (m + 1) cap, rfl, ?_, ?_, ?_⟩
  · have hw := (unhide H1).addWrite (p := ((i : Int), v)) (g := g) (cap := cap) (by rw [unhide hm]; exact unhide hown) (unhide hgrow) (unhide hat)
    rw [unhide hm] at hw
    exact hw.setHeap hi v
  · have q := ((Below.refl B _).alloc low (.cells #[.int .i64 i, .int .i64 v] 41)).grown (unhide hgrow) (Nat.le_trans low (unhide b1).size) (fun k hk => ((unhide H1).wr.lt k hk).1)
    exact (q.setCell (p := ⟨b, 16, none⟩) (unhide H1).bB _).setCell (p := ⟨gh, i, none⟩) (unhide H1).hB _
  · exact (((stay_below (unhide b1)).grown (unhide hgrow) (row44 (unhide H1).wr)).set (mb44 (unhide hb1))).set (rb44 ((unhide hr1).keep (set_other _ _ _ _ _ ne2)))

set_option maxRecDepth 100000 in
set_option maxHeartbeats 1000000 in
theorem read_any {B : Nat} {c : Cf} {s : St} {b gh gr ch : Nat} {e : Int} {dv wv : Value} {w : World} (h : Ma B c s b gh gr ch e dv wv w) (i : Nat) (hi : i < s.h.length) (hl : s.rd.length ≤ 100) :
    Calls Try.prog 45 #[.pointer (some ⟨b, 0, none⟩), .int .i64 i] w fun r w' => ∃ dv', r = .returned (.int .i64 (s.h.getD i 0)) ∧ Ma B c (readD s i) b gh gr ch e dv' wv w' ∧ Below B w w' ∧ Stay w w' := by
  obtain ⟨i0, hi0, hz0, hz1, hz2⟩ := acc_info
  have hmax : maxLen = 9223372036854775807 := rfl
  obtain ⟨n, hn⟩ : ∃ n, s.h.length = n := ⟨_, rfl⟩
  obtain ⟨m, hm⟩ : ∃ m, s.rd.length = m := ⟨_, rfl⟩
  obtain ⟨v, hv⟩ : ∃ v, s.h.getD i 0 = v := ⟨_, rfl⟩
  have y15 := h.blk.c15
  have y12 := h.blk.c12
  have yc := h.hp.cell hi
  rw [hv] at yc
  rw [hn] at y12
  have b1 := below_new w (.cells #[.int .i64 i, .int .i64 v] 41)
  have h1 := (h.next b1).drew
  have z15 : (w.alloc (.cells #[.int .i64 i, .int .i64 v] 41)).cell? ⟨b, 15, none⟩ = some dv := h1.blk.c15
  have low := h.low
  have H1 := hide h1
  have il : (i : Int) < (n : Int) := by omega
  have nws : Hid (∀ j u, ([.int .i64 i, .int .i64 v] : List Value)[j]? = some u → (w.alloc (.cells #[.int .i64 i, .int .i64 v] 41)).drew.cell? ((⟨w.heap.size, 0, none⟩ : Addr).add j) = some u) := hide (acc_news w i v w.heap.size rfl)
  have hown0 := h1.rd
  have ne1 := h.hp.ne50 h.blk
  rw [hm] at hown0
  replace hown0 := hide hown0
  clear h h1
  replace hn := hide hn
  replace hm := hide hm
  replace hv := hide hv
  replace b1 := hide b1
  go_enter Try.func45, Try.ntmps45
  go_wp2_with fail
  go_region_law (refine step_append_lies _ (by rfl) _ _ _ (by rfl) B 41 i0 _ 2 16 Try.underlying28 hi0 hz0 hz1 hz2 rfl (by omega) dv m _ (by rfl) (unhide hown0) _ 1 1 [.int .i64 i, .int .i64 v] (by rfl) (by rfl) (unhide nws) (acc_one _ _) (by omega) (by have := unhide hm; omega) (by have := unhide hm; omega) (by simp; omega) _ rfl ?_; intro g cap w1 hown hgrow hat hlt; have hb1 := (unhide H1).blk.keep (hgrow.block _ (unhide H1).blk.lt (mbNeRow (unhide H1).blk (unhide H1).rd)); have hr1 := (unhide H1).hp.keep (hgrow.block _ (unhide H1).hp.lt ((unhide H1).hp.neRow (unhide H1).rd)); have f1 := hb1.free 15; have x1 := hb1.c15; have x2 := hb1.c12; rw [unhide hn] at x2; have x3 := hr1.cell hi; rw [unhide hv] at x3; replace hb1 := hide hb1; replace hr1 := hide hr1; replace hown := hide hown; replace hgrow := hide hgrow; replace hat := hide hat; clear hlt)
  all_goals
    go_wp2
    go_ret
    refine ⟨.slice (some ⟨g, 0, none⟩) (m + 1) cap, ret_int (unhide hv).symm, ?_, ?_, ?_⟩
    · have hw := (unhide H1).addRead (p := ((i : Int), v)) (g := g) (cap := cap) (by rw [unhide hm]; exact unhide hown) (unhide hgrow) (unhide hat)
      rw [unhide hm] at hw
      unfold readD
      rw [unhide hv]
      exact hw
    · have q := ((Below.refl B _).alloc low (.cells #[.int .i64 i, .int .i64 v] 41)).drew.grown (unhide hgrow) (Nat.le_trans low (unhide b1).size) (fun k hk => ((unhide H1).rd.lt k hk).1)
      exact q.setCell (p := ⟨b, 15, none⟩) (unhide H1).bB _
    · exact ((stay_below (unhide b1).drew).grown (unhide hgrow) (row44 (unhide H1).rd)).set (mb44 (unhide hb1))
end Go.Proofs.Ytdhfpfkcbcgnaaa

/- The leaves of package calc and of the reference: what each function answers for a slice of integers that it reads. -/
namespace Go.Proofs.Ytdhfpfkcbcgnaaa.Calc
open Go.RowKit

/-- A slice of integers that is read: 'len' cells from 'a' on hold the numbers 'l'. -/
def Seg (w : World) (a : Option Addr) (len : Nat) (l : List Int) : Prop :=
  l.length = len ∧ (len = 0 ∨ ∃ b off, a = some ⟨b, off, none⟩ ∧ ∀ i, i < len → w.cell? ⟨b, off + i, none⟩ = some (.int .i64 (l.getD i 0)))

theorem ret_int {k : IntKind} {a b : Int} (h : a = b) : Ending.returned (.int k a) = .returned (.int k b) := by rw [h]

theorem fold_snoc {α : Type} (f : α → Int → α) (z : α) (l : List Int) (k : Nat) (h : k < l.length) :
    (l.take (k + 1)).foldl f z = f ((l.take k).foldl f z) l[k] := by
  rw [List.take_succ_eq_append_getElem h, List.foldl_append]; rfl
theorem take_all (l : List Int) (k : Nat) (h : ¬ k < l.length) : l.take k = l := List.take_of_length_le (by omega)

def sumL (l : List Int) : Int := l.foldl (fun t n => wrap64 (t + n)) 0
def mulL (l : List Int) : Int := l.foldl (fun t n => wrap64 (t * n)) 1

theorem sum_any (a : Option Addr) (len cap : Nat) (l : List Int) (w : World) (hs : Seg w a len l) (hm : len ≤ maxLen) :
    Calls Try.prog 54 #[.slice a len cap] w fun e w' => e = .returned (.int .i64 (sumL l)) ∧ w' = w := by
  unfold maxLen at hm
  obtain ⟨rfl, hs⟩ := hs
  rcases hs with h0 | ⟨b, off, rfl, hc⟩
  · obtain rfl : l = [] := List.eq_nil_of_length_eq_zero h0
    go_enter Try.func54, Try.ntmps54
    go_wp2
    go_loop [3, 8] (fun t i => i = .int .i64 0 ∧ t = .int .i64 0) (fun _ i => 1)
    case atStart => exact ⟨rfl, rfl⟩
    case round =>
      obtain ⟨rfl, rfl⟩ := hrel
      go_wp2
      go_ret
      exact ⟨rfl, rfl⟩
  · go_enter Try.func54, Try.ntmps54
    go_wp2
    go_loop [3, 8] (fun t i => ∃ k : Nat, k ≤ l.length ∧ i = .int .i64 k ∧ t = .int .i64 (sumL (l.take k))) (fun _ i => l.length - (intOf i).toNat)
    case atStart => exact ⟨0, Nat.zero_le _, rfl, rfl⟩
    case round =>
      obtain ⟨k, hk, rfl, rfl⟩ := hrel
      have hcell : k < l.length → w.cell? ⟨b, off + k, none⟩ = some (.int .i64 (l.getD k 0)) := fun h => hc k h
      go_wp2
      · go_round
        case rel => exact ⟨k + 1, by omega, by go_num, by rw [sumL, sumL, fold_snoc _ _ _ _ ‹_›]⟩
        case measure => simp [intOf]; omega
      · go_ret
        exact ⟨ret_int (by rw [take_all _ _ ‹_›]), rfl⟩

theorem mul_any (a : Option Addr) (len cap : Nat) (l : List Int) (w : World) (hs : Seg w a len l) (hm : len ≤ maxLen) :
    Calls Try.prog 56 #[.slice a len cap] w fun e w' => e = .returned (.int .i64 (mulL l)) ∧ w' = w := by
  unfold maxLen at hm
  obtain ⟨rfl, hs⟩ := hs
  rcases hs with h0 | ⟨b, off, rfl, hc⟩
  · obtain rfl : l = [] := List.eq_nil_of_length_eq_zero h0
    go_enter Try.func56, Try.ntmps56
    go_wp2
    go_loop [3, 8] (fun t i => i = .int .i64 0 ∧ t = .int .i64 1) (fun _ i => 1)
    case atStart => exact ⟨rfl, rfl⟩
    case round =>
      obtain ⟨rfl, rfl⟩ := hrel
      go_wp2
      go_ret
      exact ⟨rfl, rfl⟩
  · go_enter Try.func56, Try.ntmps56
    go_wp2
    go_loop [3, 8] (fun t i => ∃ k : Nat, k ≤ l.length ∧ i = .int .i64 k ∧ t = .int .i64 (mulL (l.take k))) (fun _ i => l.length - (intOf i).toNat)
    case atStart => exact ⟨0, Nat.zero_le _, rfl, rfl⟩
    case round =>
      obtain ⟨k, hk, rfl, rfl⟩ := hrel
      have hcell : k < l.length → w.cell? ⟨b, off + k, none⟩ = some (.int .i64 (l.getD k 0)) := fun h => hc k h
      go_wp2
      · go_round
        case rel => exact ⟨k + 1, by omega, by go_num, by rw [mulL, mulL, fold_snoc _ _ _ _ ‹_›]⟩
        case measure => simp [intOf]; omega
      · go_ret
        exact ⟨ret_int (by rw [take_all _ _ ‹_›]), rfl⟩

theorem and_any (a : Option Addr) (len cap : Nat) (l : List Int) (w : World) (hs : Seg w a len l) (hm : len ≤ maxLen) :
    Calls Try.prog 60 #[.slice a len cap] w fun e w' => e = .returned (.int .i64 (l.foldl (fun t n => bits .and .i64 t n) (-1))) ∧ w' = w := by
  unfold maxLen at hm
  obtain ⟨rfl, hs⟩ := hs
  rcases hs with h0 | ⟨b, off, rfl, hc⟩
  · obtain rfl : l = [] := List.eq_nil_of_length_eq_zero h0
    go_enter Try.func60, Try.ntmps60
    go_wp2
    go_loop [3, 8] (fun t i => i = .int .i64 0 ∧ t = .int .i64 (-1)) (fun _ i => 1)
    case atStart => exact ⟨rfl, rfl⟩
    case round =>
      obtain ⟨rfl, rfl⟩ := hrel
      go_wp2
      go_ret
      exact ⟨rfl, rfl⟩
  · go_enter Try.func60, Try.ntmps60
    go_wp2
    go_loop [3, 8] (fun t i => ∃ k : Nat, k ≤ l.length ∧ i = .int .i64 k ∧ t = .int .i64 ((l.take k).foldl (fun t n => bits .and .i64 t n) (-1))) (fun _ i => l.length - (intOf i).toNat)
    case atStart => exact ⟨0, Nat.zero_le _, rfl, rfl⟩
    case round =>
      obtain ⟨k, hk, rfl, rfl⟩ := hrel
      have hcell : k < l.length → w.cell? ⟨b, off + k, none⟩ = some (.int .i64 (l.getD k 0)) := fun h => hc k h
      go_wp2
      · go_round
        case rel => exact ⟨k + 1, by omega, by go_num, by rw [fold_snoc _ _ _ _ ‹_›]⟩
        case measure => simp [intOf]; omega
      · go_ret
        exact ⟨ret_int (by rw [take_all _ _ ‹_›]), rfl⟩

theorem or_any (a : Option Addr) (len cap : Nat) (l : List Int) (w : World) (hs : Seg w a len l) (hm : len ≤ maxLen) :
    Calls Try.prog 61 #[.slice a len cap] w fun e w' => e = .returned (.int .i64 (l.foldl (fun t n => bits .or .i64 t n) 0)) ∧ w' = w := by
  unfold maxLen at hm
  obtain ⟨rfl, hs⟩ := hs
  rcases hs with h0 | ⟨b, off, rfl, hc⟩
  · obtain rfl : l = [] := List.eq_nil_of_length_eq_zero h0
    go_enter Try.func61, Try.ntmps61
    go_wp2
    go_loop [3, 8] (fun t i => i = .int .i64 0 ∧ t = .int .i64 0) (fun _ i => 1)
    case atStart => exact ⟨rfl, rfl⟩
    case round =>
      obtain ⟨rfl, rfl⟩ := hrel
      go_wp2
      go_ret
      exact ⟨rfl, rfl⟩
  · go_enter Try.func61, Try.ntmps61
    go_wp2
    go_loop [3, 8] (fun t i => ∃ k : Nat, k ≤ l.length ∧ i = .int .i64 k ∧ t = .int .i64 ((l.take k).foldl (fun t n => bits .or .i64 t n) 0)) (fun _ i => l.length - (intOf i).toNat)
    case atStart => exact ⟨0, Nat.zero_le _, rfl, rfl⟩
    case round =>
      obtain ⟨k, hk, rfl, rfl⟩ := hrel
      have hcell : k < l.length → w.cell? ⟨b, off + k, none⟩ = some (.int .i64 (l.getD k 0)) := fun h => hc k h
      go_wp2
      · go_round
        case rel => exact ⟨k + 1, by omega, by go_num, by rw [fold_snoc _ _ _ _ ‹_›]⟩
        case measure => simp [intOf]; omega
      · go_ret
        exact ⟨ret_int (by rw [take_all _ _ ‹_›]), rfl⟩


theorem head_at {b off : Nat} {l : List Int} {w : World} (hc : ∀ i, i < l.length → w.cell? ⟨b, off + i, none⟩ = some (.int .i64 (l.getD i 0))) (h : 0 < l.length) :
    w.cell? ⟨b, off, none⟩ = some (.int .i64 (l.getD 0 0)) := by simpa using hc 0 h


def max2 (t n : Int) : Int := if t < n then n else t
def maxTo (l : List Int) (k : Nat) : Int := (l.take k).foldl max2 (l.getD 0 0)
def maxL (l : List Int) : Int := l.foldl max2 (l.getD 0 0)
theorem maxTo_one (l : List Int) (h : 0 < l.length) : maxTo l 1 = l[0] := by
  cases l with
  | nil => simp at h
  | cons a t => simp [maxTo, max2]
theorem maxTo_succ (l : List Int) (k : Nat) (h : k < l.length) : maxTo l (k + 1) = max2 (maxTo l k) l[k] := by
  unfold maxTo; rw [fold_snoc _ _ _ _ h]
theorem maxTo_all (l : List Int) (k : Nat) (h : ¬ k < l.length) : maxTo l k = maxL l := by
  unfold maxTo maxL; rw [take_all _ _ h]

theorem max_any (a : Option Addr) (len cap : Nat) (l : List Int) (w : World) (hs : Seg w a len l) (hm : len ≤ maxLen) (hne : 0 < len) :
    Calls Try.prog 63 #[.slice a len cap] w fun e w' => e = .returned (.int .i64 (maxL l)) ∧ w' = w := by
  unfold maxLen at hm
  obtain ⟨rfl, hs⟩ := hs
  rcases hs with h0 | ⟨b, off, rfl, hc⟩
  · omega
  · have hz := head_at hc hne
    have h1 : ¬ (l.length : Int) < 1 := by omega
    go_enter Try.func63, Try.ntmps63
    go_wp2
    go_loop [3, 4] (fun t i => ∃ k : Nat, 0 < k ∧ k ≤ l.length ∧ i = .int .i64 k ∧ t = .int .i64 (maxTo l k)) (fun _ i => l.length - (intOf i).toNat)
    case atStart => exact ⟨1, by omega, by omega, rfl, by rw [maxTo_one l hne]⟩
    case round =>
      obtain ⟨k, hk0, hk, rfl, rfl⟩ := hrel
      have hcell : k < l.length → w.cell? ⟨b, off + k, none⟩ = some (.int .i64 (l.getD k 0)) := fun h => hc k h
      go_wp2
      · go_round
        case rel => exact ⟨k + 1, by omega, by omega, by go_num, by rw [maxTo_succ _ _ ‹_›]; rfl⟩
        case measure => simp [intOf]; omega
      · go_ret
        exact ⟨ret_int (maxTo_all _ _ ‹_›), rfl⟩

def min2 (t n : Int) : Int := if n < t then n else t
def minTo (l : List Int) (k : Nat) : Int := (l.take k).foldl min2 (l.getD 0 0)
def minL (l : List Int) : Int := l.foldl min2 (l.getD 0 0)
theorem minTo_one (l : List Int) (h : 0 < l.length) : minTo l 1 = l[0] := by
  cases l with
  | nil => simp at h
  | cons a t => simp [minTo, min2]
theorem minTo_succ (l : List Int) (k : Nat) (h : k < l.length) : minTo l (k + 1) = min2 (minTo l k) l[k] := by
  unfold minTo; rw [fold_snoc _ _ _ _ h]
theorem minTo_all (l : List Int) (k : Nat) (h : ¬ k < l.length) : minTo l k = minL l := by
  unfold minTo minL; rw [take_all _ _ h]

theorem min_any (a : Option Addr) (len cap : Nat) (l : List Int) (w : World) (hs : Seg w a len l) (hm : len ≤ maxLen) (hne : 0 < len) :
    Calls Try.prog 64 #[.slice a len cap] w fun e w' => e = .returned (.int .i64 (minL l)) ∧ w' = w := by
  unfold maxLen at hm
  obtain ⟨rfl, hs⟩ := hs
  rcases hs with h0 | ⟨b, off, rfl, hc⟩
  · omega
  · have hz := head_at hc hne
    have h1 : ¬ (l.length : Int) < 1 := by omega
    go_enter Try.func64, Try.ntmps64
    go_wp2
    go_loop [3, 4] (fun t i => ∃ k : Nat, 0 < k ∧ k ≤ l.length ∧ i = .int .i64 k ∧ t = .int .i64 (minTo l k)) (fun _ i => l.length - (intOf i).toNat)
    case atStart => exact ⟨1, by omega, by omega, rfl, by rw [minTo_one l hne]⟩
    case round =>
      obtain ⟨k, hk0, hk, rfl, rfl⟩ := hrel
      have hcell : k < l.length → w.cell? ⟨b, off + k, none⟩ = some (.int .i64 (l.getD k 0)) := fun h => hc k h
      go_wp2
      · go_round
        case rel => exact ⟨k + 1, by omega, by omega, by go_num, by rw [minTo_succ _ _ ‹_›]; rfl⟩
        case measure => simp [intOf]; omega
      · go_ret
        exact ⟨ret_int (minTo_all _ _ ‹_›), rfl⟩

end Go.Proofs.Ytdhfpfkcbcgnaaa.Calc
