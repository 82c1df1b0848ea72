/- Check and Addr of package prog; a program in memory. -/
import Derived.Test.YtdhfpfkcbcgnaaaStand
import Derived.Test.YtdhfpfkcbcgnaaaSizes
namespace Go.Proofs.Ytdhfpfkcbcgnaaa
open Go.RowKit

def z0 : In := ⟨0, 0, 0, 0, []⟩
/-- The cells of an instruction from off on in block b. -/
def IsIn (B : Nat) (w : World) (b off : Nat) (x : In) : Prop :=
  w.cell? ⟨b, off, none⟩ = some (.int .i64 x.k) ∧ w.cell? ⟨b, off + 1, none⟩ = some (.int .i64 x.a) ∧ w.cell? ⟨b, off + 2, none⟩ = some (.int .i64 x.b) ∧ w.cell? ⟨b, off + 3, none⟩ = some (.int .i64 x.c) ∧ ∃ u, w.cell? ⟨b, off + 4, none⟩ = some u ∧ Ls B w u x.l
theorem IsIn.later {B : Nat} {w w' : World} {b off : Nat} {x : In} (h : IsIn B w b off x) (hb : Below B w w') (hB : b < B) : IsIn B w' b off x := by
  obtain ⟨h0, h1, h2, h3, u, h4, h5⟩ := h
  exact ⟨(hb.cell hB).trans h0, (hb.cell hB).trans h1, (hb.cell hB).trans h2, (hb.cell hB).trans h3, u, (hb.cell hB).trans h4, h5.later hb⟩
theorem IsIn.up {B C : Nat} {w : World} {b off : Nat} {x : In} (h : IsIn B w b off x) (hB : B ≤ C) : IsIn C w b off x := by
  obtain ⟨h0, h1, h2, h3, u, h4, h5⟩ := h
  exact ⟨h0, h1, h2, h3, u, h4, h5.up hB⟩
/-- The slice v holds the program ps, all of it below B. -/
def Ps (B : Nat) (w : World) (v : Value) (ps : List In) : Prop :=
  ∃ a cap, v = .slice a ps.length cap ∧ ps.length ≤ cap ∧ cap ≤ maxLen ∧ (ps.length = 0 ∨ ∃ b off, a = some ⟨b, off, none⟩ ∧ b < B ∧ ∀ i, i < ps.length → IsIn B w b (off + i * 5) (ps.getD i z0))
theorem Ps.later {B : Nat} {w w' : World} {v : Value} {ps : List In} (h : Ps B w v ps) (hb : Below B w w') : Ps B w' v ps := by
  obtain ⟨a, cap, h1, h2, h3, h4⟩ := h
  refine ⟨a, cap, h1, h2, h3, ?_⟩
  rcases h4 with h0 | ⟨b, off, e, hlt, hc⟩
  · exact .inl h0
  · exact .inr ⟨b, off, e, hlt, fun i hi => (hc i hi).later hb hlt⟩
theorem Ps.up {B C : Nat} {w : World} {v : Value} {ps : List In} (h : Ps B w v ps) (hB : B ≤ C) : Ps C w v ps := by
  obtain ⟨a, cap, h1, h2, h3, h4⟩ := h
  refine ⟨a, cap, h1, h2, h3, ?_⟩
  rcases h4 with h0 | ⟨b, off, e, hlt, hc⟩
  · exact .inl h0
  · exact .inr ⟨b, off, e, by omega, fun i hi => (hc i hi).up hB⟩
theorem Ps.next {w w' : World} {v : Value} {ps : List In} (h : Ps w.heap.size w v ps) (hb : Below w.heap.size w w') : Ps w'.heap.size w' v ps := (h.later hb).up hb.size

def chB (c : Cf) (ps : List In) : Bool := okB c && (decide (ps.length ≤ 60) && (List.range ps.length).all fun (i : Nat) => stB c.g (ps.getD i z0) i ps.length)
def checkD (c : Cf) (ps : List In) : Int := if chB c ps then 0 else 2
theorem ch_no {c : Cf} {ps : List In} {k : Nat} (hk : k < ps.length) (h : stB c.g (ps.getD k z0) k ps.length = false) : checkD c ps = 2 := by
  have : chB c ps = false := by
    unfold chB
    rw [show ((List.range ps.length).all fun (i : Nat) => stB c.g (ps.getD i z0) i ps.length) = false from List.all_eq_false.2 ⟨k, List.mem_range.2 hk, by rw [h]; decide⟩]
    simp
  unfold checkD
  rw [this]; rfl
theorem ch_yes {c : Cf} {ps : List In} (ho : okB c = true) (hl : ps.length ≤ 60) (h : ∀ i : Nat, i < ps.length → stB c.g (ps.getD i z0) i ps.length = true) : checkD c ps = 0 := by
  have : chB c ps = true := by
    unfold chB
    rw [ho, decide_eq_true hl, show ((List.range ps.length).all fun (i : Nat) => stB c.g (ps.getD i z0) i ps.length) = true from List.all_eq_true.2 (fun i hi => h i (List.mem_range.1 hi))]
    rfl
  unfold checkD
  rw [this]; rfl

set_option maxRecDepth 100000 in
set_option maxHeartbeats 1000000 in
theorem progCheck_any (c : Cf) (ps : List In) (v : Value) (w : World) (hp : Ps w.heap.size w v ps) :
    Calls Try.prog 18 #[cv c, v] w fun e w' => e = .returned (.int .i64 (checkD c ps)) ∧ Below w.heap.size w w' := by
  obtain ⟨n, hn⟩ : ∃ n, n = ps.length := ⟨_, rfl⟩
  have hp0 := hp
  obtain ⟨a, cap, rfl, h1, h2, h3⟩ := hp
  have hmax : maxLen = 9223372036854775807 := rfl
  rw [← hn] at h1 ⊢
  replace hn := hide hn
  have hnl : (n : Int) ≤ 9223372036854775807 := by omega
  have hx := bx_new c w
  have b1 := below_new w (.cells #[.int .i64 c.r, .int .i64 c.o, .int .i64 c.s, .int .i64 c.d, .int .i64 c.t, .int .i64 c.l, .int .i64 c.g, .int .i64 c.k, .int .i64 c.u, .int .i64 c.e, .int .i64 c.i, .int .i64 c.p] 23)
  have kC := check_any c (w.alloc (.cells #[.int .i64 c.r, .int .i64 c.o, .int .i64 c.s, .int .i64 c.d, .int .i64 c.t, .int .i64 c.l, .int .i64 c.g, .int .i64 c.k, .int .i64 c.u, .int .i64 c.e, .int .i64 c.i, .int .i64 c.p] 23))
  unfold cv at kC
  unfold cv
  replace hp0 := hide hp0
  replace hx := hide hx
  replace b1 := hide b1
  replace h3 := hide h3
  cases ho : okB c
  · have r : Hid (checkD c ps = 2) := hide (by simp [checkD, chB, ho])
    rw [ho] at kC
    go_enter Try.func18, Try.ntmps18
    go_wp2_with fail
    refine kC.mono ?_
    rintro e w1 ⟨rfl, hb⟩
    have b2 := hide (below_then (unhide b1) hb)
    clear hb kC
    have e1 : (errOf false == 0) = false := rfl
    have e1' : errOf false = 1 := rfl
    go_wp2
    go_ret
    exact ⟨by rw [unhide r]; rfl, unhide b2⟩
  · rw [ho] at kC
    by_cases h60 : n ≤ 60
    · have d60 : decide (60 < (n : Int)) = false := decide_eq_false (by omega)
      go_enter Try.func18, Try.ntmps18
      go_wp2_with fail
      refine kC.mono ?_
      rintro e w1 ⟨rfl, hb⟩
      have b2 := hide (below_then (unhide b1) hb)
      have hx1 := hide ((unhide hx).next hb)
      clear hb kC b1 hx
      have e1' : errOf true = 0 := rfl
      have lB : w.heap.size < w1.heap.size := (unhide hx1).lt
      go_wp2_with fail
      go_loopw [17] (fun i wr => ∃ k : Nat, k ≤ n ∧ i = .int .i64 k ∧ Below w.heap.size w wr ∧ Bx c w.heap.size wr ∧ ∀ j : Nat, j < k → stB c.g (ps.getD j z0) j n = true) (fun i _ => n - (intOf i).toNat)
      case atStart => exact ⟨0, Nat.zero_le _, rfl, unhide b2, unhide hx1, fun j hj => absurd hj (Nat.not_lt_zero j)⟩
      case round =>
        obtain ⟨k, hk, rfl, hb, hx, hall⟩ := hrel
        clear b2 hx1
        replace hall := hide hall
        by_cases hlt : k < n
        · have kd : decide ((k : Int) < (n : Int)) = true := decide_eq_true (by omega)
          have kl : (k : Int) < (n : Int) := by omega
          obtain ⟨_, _, hv, _, _, h3'⟩ := (unhide hp0).later hb
          cases hv
          rcases h3' with h0 | ⟨b, off, rfl, hbB, hc⟩
          · have := unhide hn; omega
          have hI := hc k (by have := unhide hn; omega)
          obtain ⟨x, hxx⟩ : ∃ x, ps.getD k z0 = x := ⟨_, rfl⟩
          rw [hxx] at hI
          obtain ⟨c0, c1, c2, c3, u, c4, hu⟩ := hI
          obtain ⟨ua, ul, uc, rfl⟩ : ∃ ua ul uc, u = .slice ua ul uc := by obtain ⟨ua, ul, uc, e, _⟩ := hu; exact ⟨ua, ul, uc, e⟩
          have b3 := below_then hb (below_new wr (.cells #[.int .i64 x.k, .int .i64 x.a, .int .i64 x.b, .int .i64 x.c, .slice ua ul uc] 44))
          have hx3 := hx.next (below_new wr (.cells #[.int .i64 x.k, .int .i64 x.a, .int .i64 x.b, .int .i64 x.c, .slice ua ul uc] 44))
          have kS := mayStand_any c x (.slice ua ul uc) k n (wr.alloc (.cells #[.int .i64 x.k, .int .i64 x.a, .int .i64 x.b, .int .i64 x.c, .slice ua ul uc] 44)) ((hu.later (below_new wr _ |>.mono (Nat.le_of_lt_succ (Nat.lt_succ_of_le hb.size)))).up (by simp; have := hb.size; omega))
          unfold cv iv at kS
          obtain ⟨x0, x1, x2, x3, x4, x5, x6, x7, x8, x9, x10, x11⟩ := hx3.cells
          have gx := hide hx3
          have gb := hide b3
          replace hu := hide hu
          replace hx := hide hx
          replace hb := hide hb
          replace hc := hide hc
          clear b3 hx3
          cases hst : stB c.g x k n
          · rw [hst] at kS
            have r : Hid (checkD c ps = 2) := hide (ch_no (k := k) (by have := unhide hn; omega) (by rw [hxx, ← unhide hn]; exact hst))
            replace hst := hide hst
            go_wp2_with fail
            refine kS.mono ?_
            rintro e w5 ⟨rfl, hb5⟩
            have b5 := hide (below_then (unhide gb) hb5)
            clear hb5 kS x0 x1 x2 x3 x4 x5 x6 x7 x8 x9 x10 x11 c0 c1 c2 c3 c4
            go_wp2
            go_ret
            exact ⟨by rw [unhide r]; rfl, unhide b5⟩
          · rw [hst] at kS
            replace hst := hide hst
            go_wp2_with fail
            refine kS.mono ?_
            rintro e w5 ⟨rfl, hb5⟩
            have b5 := hide (below_then (unhide gb) hb5)
            have x5' := hide ((unhide gx).next hb5)
            clear hb5 kS x0 x1 x2 x3 x4 x5 x6 x7 x8 x9 x10 x11 c0 c1 c2 c3 c4
            go_wp2
            go_roundw
            case rel => exact ⟨k + 1, by omega, by go_num, unhide b5, unhide x5', fun j hj => by
              by_cases e : j = k
              · subst e; rw [hxx]; exact unhide hst
              · exact unhide hall j (by omega)⟩
            case measure => first | omega | (simp; omega) | (simp [intOf]; omega)
        · have r : Hid (checkD c ps = 0) := hide (ch_yes ho (by have := unhide hn; omega) (fun i hi => by rw [← unhide hn]; exact unhide hall i (by have := unhide hn; omega)))
          have kd : decide ((k : Int) < (n : Int)) = false := decide_eq_false (by omega)
          replace hb := hide hb
          replace hx := hide hx
          go_wp2
          go_ret
          exact ⟨by rw [unhide r]; rfl, unhide hb⟩
    · have d60 : decide (60 < (n : Int)) = true := decide_eq_true (by omega)
      have r : Hid (checkD c ps = 2) := hide (by simp [checkD, chB, ← unhide hn, h60])
      go_enter Try.func18, Try.ntmps18
      go_wp2_with fail
      refine kC.mono ?_
      rintro e w1 ⟨rfl, hb⟩
      have b2 := hide (below_then (unhide b1) hb)
      clear hb kC
      have e1' : errOf true = 0 := rfl
      go_wp2
      go_ret
      exact ⟨by rw [unhide r]; rfl, unhide b2⟩

/-- The address that an instruction tells. -/
def addrD (c : Cf) (x : In) (rs : List Int) : Int :=
  if x.c = -1 then wrapD x.b (wordsD c) else if wiB rs.length [x.c] then wrapD (wrap64 (x.b + rs.getD x.c.toNat 0)) (wordsD c) else 0
theorem Ix.drew {x : In} {v : Value} {b : Nat} {w : World} (h : Ix x v b w) : Ix x v b w.drew := h
theorem wrap_kin (a : Int) : IntKind.i64.wrap a = wrap64 a := by rw [IntKind.wrap_i64]; unfold wrap64; omega
theorem words_in (c : Cf) : 0 ≤ wordsD c ∧ wordsD c ≤ 4096 := by
  unfold wordsD
  split
  · rename_i h; have := nw_in (okB_hp h); omega
  · omega
set_option maxRecDepth 100000 in
set_option maxHeartbeats 1000000 in
theorem addr_any (c : Cf) (x : In) (va : Option Addr) (vl vc : Nat) (r : Value) (rs : List Int) (w : World) (hr : Ls w.heap.size w r rs) :
    Calls Try.prog 46 #[cv c, iv x (.slice va vl vc), r] w fun e w' => e = .returned (.int .i64 (addrD c x rs)) ∧ Below w.heap.size w w' := by
  obtain ⟨p, len, cap, rfl, h1, h2, _, h3⟩ := hr
  have hmax : maxLen = 9223372036854775807 := rfl
  have hll : rs.length = len := h3.1
  have hi := words_in c
  have hi2 : wordsD c ≤ 100000 := by omega
  obtain ⟨k, a, b, d, l⟩ := x
  have b1 := below_new w (.cells #[.int .i64 c.r, .int .i64 c.o, .int .i64 c.s, .int .i64 c.d, .int .i64 c.t, .int .i64 c.l, .int .i64 c.g, .int .i64 c.k, .int .i64 c.u, .int .i64 c.e, .int .i64 c.i, .int .i64 c.p] 23)
  unfold cv iv
  by_cases hc : d = -1
  · subst hc
    have r : Hid (addrD c ⟨k, a, b, -1, l⟩ rs = wrapD b (wordsD c)) := hide (by unfold addrD; rw [if_pos rfl])
    have b2 := below_then b1 (below_new _ (.cells #[.int .i64 k, .int .i64 a, .int .i64 b, .int .i64 (-1), .slice va vl vc] 44))
    have hx := (bx_new c w).next (below_new _ (.cells #[.int .i64 k, .int .i64 a, .int .i64 b, .int .i64 (-1), .slice va vl vc] 44))
    have hy : Ix ⟨k, a, b, -1, l⟩ (.slice va vl vc) (w.heap.size + 1) ((w.alloc (.cells #[.int .i64 c.r, .int .i64 c.o, .int .i64 c.s, .int .i64 c.d, .int .i64 c.t, .int .i64 c.l, .int .i64 c.g, .int .i64 c.k, .int .i64 c.u, .int .i64 c.e, .int .i64 c.i, .int .i64 c.p] 23)).alloc (.cells #[.int .i64 k, .int .i64 a, .int .i64 b, .int .i64 (-1), .slice va vl vc] 44)) := by
      have := ix_new ⟨k, a, b, -1, l⟩ (.slice va vl vc) (w.alloc (.cells #[.int .i64 c.r, .int .i64 c.o, .int .i64 c.s, .int .i64 c.d, .int .i64 c.t, .int .i64 c.l, .int .i64 c.g, .int .i64 c.k, .int .i64 c.u, .int .i64 c.e, .int .i64 c.i, .int .i64 c.p] 23))
      simpa using this
    have kW := words_any c ((w.alloc (.cells #[.int .i64 c.r, .int .i64 c.o, .int .i64 c.s, .int .i64 c.d, .int .i64 c.t, .int .i64 c.l, .int .i64 c.g, .int .i64 c.k, .int .i64 c.u, .int .i64 c.e, .int .i64 c.i, .int .i64 c.p] 23)).alloc (.cells #[.int .i64 k, .int .i64 a, .int .i64 b, .int .i64 (-1), .slice va vl vc] 44)).drew
    unfold cv at kW
    obtain ⟨z0, z1, z2, z3, z4, z5, z6, z7, z8, z9, z10, z11⟩ := hx.cells
    obtain ⟨_, _, z12, _, _⟩ := hy.cells
    replace hx := hide hx
    replace hy := hide hy
    replace b2 := hide b2
    replace h3 := hide h3
    go_enter Try.func46, Try.ntmps46
    go_wp2_with fail
    go_region_held3 (fun wz => wz.cell? ⟨w.heap.size, 0, none⟩ = some (.int .i64 c.r) ∧ wz.cell? ⟨w.heap.size, 1, none⟩ = some (.int .i64 c.o) ∧ wz.cell? ⟨w.heap.size, 2, none⟩ = some (.int .i64 c.s) ∧ wz.cell? ⟨w.heap.size, 3, none⟩ = some (.int .i64 c.d) ∧ wz.cell? ⟨w.heap.size, 4, none⟩ = some (.int .i64 c.t) ∧ wz.cell? ⟨w.heap.size, 5, none⟩ = some (.int .i64 c.l) ∧ wz.cell? ⟨w.heap.size, 6, none⟩ = some (.int .i64 c.g) ∧ wz.cell? ⟨w.heap.size, 7, none⟩ = some (.int .i64 c.k) ∧ wz.cell? ⟨w.heap.size, 8, none⟩ = some (.int .i64 c.u) ∧ wz.cell? ⟨w.heap.size, 9, none⟩ = some (.int .i64 c.e) ∧ wz.cell? ⟨w.heap.size, 10, none⟩ = some (.int .i64 c.i) ∧ wz.cell? ⟨w.heap.size, 11, none⟩ = some (.int .i64 c.p) ∧ wz.cell? ⟨w.heap.size + 1, 2, none⟩ = some (.int .i64 b)) (first | exact ⟨z0, z1, z2, z3, z4, z5, z6, z7, z8, z9, z10, z11, z12⟩ | exact ⟨y0, y1, y2, y3, y4, y5, y6, y7, y8, y9, y10, y11, y12⟩)
      (first
        | (go_at_call 16; with_reducible refine Calls.mono kW ?_; rintro e w1 ⟨rfl, hb⟩; obtain ⟨y0, y1, y2, y3, y4, y5, y6, y7, y8, y9, y10, y11⟩ := ((unhide hx).drew.next hb).cells; obtain ⟨_, _, y12, _, _⟩ := ((unhide hy).drew.next hb).cells; have b3 := below_then (unhide b2).drew hb)
        | (go_at_call 52; with_reducible refine Calls.mono (calcWrap_any b (wordsD c) hi2 _) ?_; rintro e _ ⟨rfl, rfl⟩))
    go_wp2
    go_ret
    exact ⟨by rw [unhide r]; rfl, b3⟩
  · have nd : (d == -1) = false := by simpa using hc
    have b2 := below_then b1 (below_new _ (.cells #[.int .i64 k, .int .i64 a, .int .i64 b, .int .i64 d, .slice va vl vc] 44))
    have b3 := below_then b2 (below_new _ (.cells #[.int .i64 d] 3))
    have s1 := seg_one ((w.alloc (.cells #[.int .i64 c.r, .int .i64 c.o, .int .i64 c.s, .int .i64 c.d, .int .i64 c.t, .int .i64 c.l, .int .i64 c.g, .int .i64 c.k, .int .i64 c.u, .int .i64 c.e, .int .i64 c.i, .int .i64 c.p] 23)).alloc (.cells #[.int .i64 k, .int .i64 a, .int .i64 b, .int .i64 d, .slice va vl vc] 44)) d 3 (w.heap.size + 1 + 1) (by simp)
    have hx := ((bx_new c w).next (below_new _ (.cells #[.int .i64 k, .int .i64 a, .int .i64 b, .int .i64 d, .slice va vl vc] 44))).next (below_new _ (.cells #[.int .i64 d] 3))
    have hy : Ix ⟨k, a, b, d, l⟩ (.slice va vl vc) (w.heap.size + 1) (((w.alloc (.cells #[.int .i64 c.r, .int .i64 c.o, .int .i64 c.s, .int .i64 c.d, .int .i64 c.t, .int .i64 c.l, .int .i64 c.g, .int .i64 c.k, .int .i64 c.u, .int .i64 c.e, .int .i64 c.i, .int .i64 c.p] 23)).alloc (.cells #[.int .i64 k, .int .i64 a, .int .i64 b, .int .i64 d, .slice va vl vc] 44)).alloc (.cells #[.int .i64 d] 3)) := by
      have := (ix_new ⟨k, a, b, d, l⟩ (.slice va vl vc) (w.alloc (.cells #[.int .i64 c.r, .int .i64 c.o, .int .i64 c.s, .int .i64 c.d, .int .i64 c.t, .int .i64 c.l, .int .i64 c.g, .int .i64 c.k, .int .i64 c.u, .int .i64 c.e, .int .i64 c.i, .int .i64 c.p] 23))).next (below_new _ (.cells #[.int .i64 d] 3))
      simpa using this
    replace s1 := hide s1
    cases e1 : wiB len [d]
    · have r : Hid (addrD c ⟨k, a, b, d, l⟩ rs = 0) := hide (by unfold addrD; rw [if_neg hc, hll, e1]; rfl)
      replace hx := hide hx
      replace hy := hide hy
      replace b3 := hide b3
      replace h3 := hide h3
      go_enter Try.func46, Try.ntmps46
      go_wp2_with fail
      refine (pwithin_any len _ 1 1 [d] _ (unhide s1) (by decide)).mono ?_
      rw [e1]
      rintro e _ ⟨rfl, rfl⟩
      go_wp2
      go_ret
      exact ⟨by rw [unhide r]; rfl, unhide b3⟩
    · have e2 := e1
      rw [wi_one] at e2
      simp only [Bool.and_eq_true, decide_eq_true_eq] at e2
      obtain ⟨j, rfl⟩ := Int.eq_ofNat_of_zero_le e2.1
      have hj : j < len := by omega
      have hj2 : (j : Int) < (len : Int) := by omega
      have jm : ¬ (j : Int) = -1 := by omega
      obtain ⟨pb, po, rfl, hpb, hcell⟩ := (h3.later b3).at hj
      obtain ⟨y, hyy⟩ : ∃ y, rs.getD j 0 = y := ⟨_, rfl⟩
      rw [hyy] at hcell
      have r : Hid (addrD c ⟨k, a, b, (j : Int), l⟩ rs = wrapD (IntKind.i64.wrap (b + y)) (wordsD c)) := hide (by unfold addrD; rw [if_neg hc, hll, e1, if_pos rfl]; show wrapD (wrap64 (b + rs.getD (j : Int).toNat 0)) _ = _; rw [Int.toNat_natCast, hyy, wrap_kin])
      have kW := words_any c (((w.alloc (.cells #[.int .i64 c.r, .int .i64 c.o, .int .i64 c.s, .int .i64 c.d, .int .i64 c.t, .int .i64 c.l, .int .i64 c.g, .int .i64 c.k, .int .i64 c.u, .int .i64 c.e, .int .i64 c.i, .int .i64 c.p] 23)).alloc (.cells #[.int .i64 k, .int .i64 a, .int .i64 b, .int .i64 (j : Int), .slice va vl vc] 44)).alloc (.cells #[.int .i64 (j : Int)] 3)).drew
      unfold cv at kW
      obtain ⟨z0, z1, z2, z3, z4, z5, z6, z7, z8, z9, z10, z11⟩ := hx.cells
      obtain ⟨_, _, z12, z13, _⟩ := hy.cells
      have lpb : pb < (((w.alloc (.cells #[.int .i64 c.r, .int .i64 c.o, .int .i64 c.s, .int .i64 c.d, .int .i64 c.t, .int .i64 c.l, .int .i64 c.g, .int .i64 c.k, .int .i64 c.u, .int .i64 c.e, .int .i64 c.i, .int .i64 c.p] 23)).alloc (.cells #[.int .i64 k, .int .i64 a, .int .i64 b, .int .i64 (j : Int), .slice va vl vc] 44)).alloc (.cells #[.int .i64 (j : Int)] 3)).drew.heap.size := Nat.lt_of_lt_of_le hpb b3.size
      have hcd : (((w.alloc (.cells #[.int .i64 c.r, .int .i64 c.o, .int .i64 c.s, .int .i64 c.d, .int .i64 c.t, .int .i64 c.l, .int .i64 c.g, .int .i64 c.k, .int .i64 c.u, .int .i64 c.e, .int .i64 c.i, .int .i64 c.p] 23)).alloc (.cells #[.int .i64 k, .int .i64 a, .int .i64 b, .int .i64 (j : Int), .slice va vl vc] 44)).alloc (.cells #[.int .i64 (j : Int)] 3)).drew.cell? ⟨pb, po + j, none⟩ = some (.int .i64 y) := hcell
      replace hcd := hide hcd
      replace hx := hide hx
      replace hy := hide hy
      replace b3 := hide b3
      replace h3 := hide h3
      clear e2 hc
      go_enter Try.func46, Try.ntmps46
      go_wp2_with fail
      refine (pwithin_any len _ 1 1 [(j : Int)] _ (unhide s1) (by decide)).mono ?_
      rw [e1]
      rintro e _ ⟨rfl, rfl⟩
      go_wp2_with fail
      go_region_held3 (fun wz => wz.cell? ⟨w.heap.size, 0, none⟩ = some (.int .i64 c.r) ∧ wz.cell? ⟨w.heap.size, 1, none⟩ = some (.int .i64 c.o) ∧ wz.cell? ⟨w.heap.size, 2, none⟩ = some (.int .i64 c.s) ∧ wz.cell? ⟨w.heap.size, 3, none⟩ = some (.int .i64 c.d) ∧ wz.cell? ⟨w.heap.size, 4, none⟩ = some (.int .i64 c.t) ∧ wz.cell? ⟨w.heap.size, 5, none⟩ = some (.int .i64 c.l) ∧ wz.cell? ⟨w.heap.size, 6, none⟩ = some (.int .i64 c.g) ∧ wz.cell? ⟨w.heap.size, 7, none⟩ = some (.int .i64 c.k) ∧ wz.cell? ⟨w.heap.size, 8, none⟩ = some (.int .i64 c.u) ∧ wz.cell? ⟨w.heap.size, 9, none⟩ = some (.int .i64 c.e) ∧ wz.cell? ⟨w.heap.size, 10, none⟩ = some (.int .i64 c.i) ∧ wz.cell? ⟨w.heap.size, 11, none⟩ = some (.int .i64 c.p) ∧ wz.cell? ⟨w.heap.size + 1, 2, none⟩ = some (.int .i64 b) ∧ wz.cell? ⟨w.heap.size + 1, 3, none⟩ = some (.int .i64 (j : Int)) ∧ wz.cell? ⟨pb, po + j, none⟩ = some (.int .i64 y)) (first | exact ⟨z0, z1, z2, z3, z4, z5, z6, z7, z8, z9, z10, z11, z12, z13, hcell⟩ | exact ⟨y0, y1, y2, y3, y4, y5, y6, y7, y8, y9, y10, y11, y12, y13, y14⟩)
        (first
          | (go_at_call 16; with_reducible refine Calls.mono kW ?_; rintro e w1 ⟨rfl, hb⟩; obtain ⟨y0, y1, y2, y3, y4, y5, y6, y7, y8, y9, y10, y11⟩ := ((unhide hx).drew.next hb).cells; obtain ⟨_, _, y12, y13, _⟩ := ((unhide hy).drew.next hb).cells; have y14 := (hb.cell lpb).trans (unhide hcd); have b5 := below_then (unhide b3).drew hb)
          | (go_at_call 52; with_reducible refine Calls.mono (calcWrap_any _ (wordsD c) hi2 _) ?_; rintro e _ ⟨rfl, rfl⟩))
      go_wp2
      go_ret
      exact ⟨by rw [unhide r]; rfl, b5⟩
end Go.Proofs.Ytdhfpfkcbcgnaaa
