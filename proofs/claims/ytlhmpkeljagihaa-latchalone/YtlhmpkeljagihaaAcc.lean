/- What the accesses of a latch answer and leave: enter, leave, look, claim, ownPart, drain. -/
import Derived.Test.YtlhmpkeljagihaaLat
namespace Go.Proofs.Ytlhmpkeljagihaa
open Go.RowKit

theorem Gd.has {n : Nat} {L : LS} (g : Gd n L) {k : Int} (h0 : 0 ≤ k) (h1 : k ≤ 7) : hasB n (L.o + k) = true := hasB_yes (by have := g.o0; omega) (by have := g.o1; omega)
theorem Gd.has0 {n : Nat} {L : LS} (g : Gd n L) : hasB n L.o = true := hasB_yes g.o0 (by have := g.o1; omega)
theorem Gd.ow0 {n : Nat} {L : LS} (g : Gd n L) : 1 ≤ ow L ∧ ow L ≤ 7 := by
  have := g.t0; have := g.t1; have := g.ts; unfold ow; rcases hs : L.sl
  · simp
  · have := this hs; simp; omega
/-- The words where the thread's own mark is set (up: one more) or taken away. -/
def markF (f : Nat → Int) (L : LS) (up : Bool) : Nat → Int :=
  if L.sl then setW f (L.o + ow L) (putByte (f (L.o + ow L).toNat) (L.t % 8).toNat (if up then 1 else 0))
  else setW f (L.o + 7) (wrap64 (f (L.o + 7).toNat + (if up then 1 else -1)))
theorem sb_eq {n : Nat} {L : LS} (g : Gd n L) (f : Nat → Int) (hs : L.sl = true) (up : Bool) :
    sbOk n (L.o + ow L) (L.t % 8) (if up then 1 else 0) = true ∧ sbW n f (L.o + ow L) (L.t % 8) (if up then 1 else 0) = markF f L up := by
  have h1 : sbOk n (L.o + ow L) (L.t % 8) (if up then 1 else 0) = true := by
    have a1 := g.has (k := ow L) (by have := g.ow0; omega) g.ow0.2
    have a2 : byteB (L.t % 8) = true := byteB_iff.2 ⟨by omega, by omega⟩
    unfold sbOk
    rw [a1, a2]
    cases up <;> rfl
  refine ⟨h1, ?_⟩
  unfold sbW markF
  rw [h1, if_pos rfl, hs, if_pos rfl]
theorem add_eq {L : LS} (f : Nat → Int) (hs : L.sl = false) (up : Bool) :
    addW f (L.o + 7) (if up then 1 else -1) = markF f L up := by
  unfold addW markF
  rw [hs]; rfl

set_option maxRecDepth 100000 in
theorem enter_any (b cb r n : Nat) (f : Nat → Int) (c : Int) (L : LS) (w : World) (h : Lat w b L) (hc : Cel 70 w cb r n f c) (g : Gd n L) (n1 : b ≠ cb) (n2 : b ≠ r) :
    Calls Try.prog 70 #[.pointer (some ⟨b, 0, none⟩), .pointer (some ⟨cb, 0, none⟩)] w fun e w' => e = .returned (.int .i64 0) ∧ Lat w' b L ∧ Cel 70 w' cb r n (markF f L true) (wrap64 (c + 1)) ∧ Touch cb r w w' := by
  have c1 := h.c1
  have c3 := h.c3
  rcases hs : L.sl
  · rw [hs] at c3
    have e1 : IntKind.i64.wrap (L.o + 7) = L.o + 7 := kin (by have := g.o0; omega) (by have := g.o1; have := g.n1; omega)
    have e2 : wrap64 (L.o + 7) = L.o + 7 := wrap_in (by have := g.o0; omega) (by have := g.o1; have := g.n1; omega)
    have e3 := g.has (k := 7) (by omega) (by omega)
    have e4 := hide (add_eq f hs true)
    go_enter Try.func70, Try.ntmps70
    go_wp2_with fail
    refine (add_any cb r n f c (L.o + 7) 1 w hc).mono ?_
    rw [e3]
    rintro e w1 ⟨rfl, hc1, ht1⟩
    go_wp2
    go_ret
    refine ⟨rfl, h.stays ht1 n1 n2, ?_, ht1⟩
    rw [← unhide e4]; exact hc1
  · rw [hs] at c3
    have e1 : IntKind.i64.wrap (L.o + ow L) = L.o + ow L := kin (by have := g.o0; have := g.ow0; omega) (by have := g.o1; have := g.n1; have := g.ow0; omega)
    have e2 : wrap64 (L.o + ow L) = L.o + ow L := wrap_in (by have := g.o0; have := g.ow0; omega) (by have := g.o1; have := g.n1; have := g.ow0; omega)
    obtain ⟨e3, e4⟩ := sb_eq g f hs true
    simp only [if_pos] at e3 e4
    have e4' := hide e4
    clear e4
    go_enter Try.func70, Try.ntmps70
    go_wp2_with fail
    go_region_held3 (fun wz => wz.cell? ⟨b, 1, none⟩ = some (.int .i64 L.o)) (first | exact h.drew.c1 | exact (h.drew.stays ht1 n1 n2).c1)
      (first
        | (go_at_call 78; refine (ownWord_any b L _ h.drew g.t0 g.t1).mono ?_; rintro e _ ⟨rfl, rfl⟩)
        | (go_at_call 79; refine (ownByte_any b L _ h.drew g.t0 g.t1).mono ?_; rintro e _ ⟨rfl, rfl⟩)
        | (go_at_call 77; refine (storeByte_any cb r n f c (L.o + ow L) (L.t % 8) 1 _ hc.drew).mono ?_; rw [e3]; rintro e w1 ⟨rfl, hc1, ht1⟩))
    go_wp2
    go_ret
    refine ⟨rfl, h.drew.stays ht1 n1 n2, ?_, (Touch.refl _ _ _).drew.trans ht1⟩
    rw [← unhide e4']; exact hc1
set_option maxRecDepth 100000 in
theorem leave_any (b cb r n : Nat) (f : Nat → Int) (c : Int) (L : LS) (w : World) (h : Lat w b L) (hc : Cel 70 w cb r n f c) (g : Gd n L) (n1 : b ≠ cb) (n2 : b ≠ r) :
    Calls Try.prog 72 #[.pointer (some ⟨b, 0, none⟩), .pointer (some ⟨cb, 0, none⟩)] w fun e w' => e = .returned (.int .i64 0) ∧ Lat w' b L ∧ Cel 70 w' cb r n (markF f L false) (wrap64 (c + 1)) ∧ Touch cb r w w' := by
  have c1 := h.c1
  have c3 := h.c3
  rcases hs : L.sl
  · rw [hs] at c3
    have e1 : IntKind.i64.wrap (L.o + 7) = L.o + 7 := kin (by have := g.o0; omega) (by have := g.o1; have := g.n1; omega)
    have e2 : wrap64 (L.o + 7) = L.o + 7 := wrap_in (by have := g.o0; omega) (by have := g.o1; have := g.n1; omega)
    have e3 := g.has (k := 7) (by omega) (by omega)
    have e4 := hide (add_eq f hs false)
    go_enter Try.func72, Try.ntmps72
    go_wp2_with fail
    refine (add_any cb r n f c (L.o + 7) (-1) w hc).mono ?_
    rw [e3]
    rintro e w1 ⟨rfl, hc1, ht1⟩
    go_wp2
    go_ret
    refine ⟨rfl, h.stays ht1 n1 n2, ?_, ht1⟩
    rw [← unhide e4]; exact hc1
  · rw [hs] at c3
    have e1 : IntKind.i64.wrap (L.o + ow L) = L.o + ow L := kin (by have := g.o0; have := g.ow0; omega) (by have := g.o1; have := g.n1; have := g.ow0; omega)
    have e2 : wrap64 (L.o + ow L) = L.o + ow L := wrap_in (by have := g.o0; have := g.ow0; omega) (by have := g.o1; have := g.n1; have := g.ow0; omega)
    obtain ⟨e3, e4⟩ := sb_eq g f hs false
    simp only [Bool.false_eq_true, if_false] at e3 e4
    have e4' := hide e4
    clear e4
    go_enter Try.func72, Try.ntmps72
    go_wp2_with fail
    go_region_held3 (fun wz => wz.cell? ⟨b, 1, none⟩ = some (.int .i64 L.o)) (first | exact h.drew.c1 | exact (h.drew.stays ht1 n1 n2).c1)
      (first
        | (go_at_call 78; refine (ownWord_any b L _ h.drew g.t0 g.t1).mono ?_; rintro e _ ⟨rfl, rfl⟩)
        | (go_at_call 79; refine (ownByte_any b L _ h.drew g.t0 g.t1).mono ?_; rintro e _ ⟨rfl, rfl⟩)
        | (go_at_call 77; refine (storeByte_any cb r n f c (L.o + ow L) (L.t % 8) 0 _ hc.drew).mono ?_; rw [e3]; rintro e w1 ⟨rfl, hc1, ht1⟩))
    go_wp2
    go_ret
    refine ⟨rfl, h.drew.stays ht1 n1 n2, ?_, (Touch.refl _ _ _).drew.trans ht1⟩
    rw [← unhide e4']; exact hc1

/-- Where a Read stands behind its look at the owner v. -/
def lookP (L : LS) (v : Int) : Int := if v = 0 ∨ v = L.t + 1 then 9 else 2
set_option maxRecDepth 100000 in
theorem look_any (b cb r n : Nat) (f : Nat → Int) (c : Int) (L : LS) (w : World) (h : Lat w b L) (hc : Cel 70 w cb r n f c) (g : Gd n L) (n1 : b ≠ cb) (n2 : b ≠ r) :
    Calls Try.prog 71 #[.pointer (some ⟨b, 0, none⟩), .pointer (some ⟨cb, 0, none⟩)] w fun e w' => e = .returned (.tuple #[.int .i64 (lookP L (f L.o.toNat)), .int .i64 0]) ∧ Lat w' b L ∧ Cel 70 w' cb r n f (wrap64 (c + 1)) ∧ Touch cb r w w' := by
  have c1 := h.c1
  have e3 := g.has0
  have e4 : wordD n f L.o = f L.o.toNat := by simp [wordD, e3]
  unfold lookP
  generalize f L.o.toNat = v at e4 ⊢
  by_cases v0 : v = 0
  · rw [if_pos (.inl v0)]
    subst v0
    go_enter Try.func71, Try.ntmps71
    go_wp2_with fail
    refine (load_any cb r n f c L.o w hc).mono ?_
    rw [e3, e4]
    rintro e w1 ⟨rfl, hc1, ht1⟩
    go_wp2
    go_ret2
    exact ⟨rfl, h.stays ht1 n1 n2, hc1, ht1⟩
  · have q0 : (v == 0) = false := by simp [v0]
    by_cases v1 : v = L.t + 1
    · rw [if_pos (.inr v1)]
      subst v1
      go_enter Try.func71, Try.ntmps71
      go_wp2_with fail
      refine (load_any cb r n f c L.o w hc).mono ?_
      rw [e3, e4]
      rintro e w1 ⟨rfl, hc1, ht1⟩
      have h1 := h.stays ht1 n1 n2
      go_wp2_with fail
      refine (name_any b L _ h1 g.t0 g.t1).mono ?_
      rintro e _ ⟨rfl, rfl⟩
      go_wp2
      go_ret2
      exact ⟨rfl, h1, hc1, ht1⟩
    · rw [if_neg (by omega)]
      have q1 : (v == L.t + 1) = false := by simp [v1]
      clear v0 v1
      go_enter Try.func71, Try.ntmps71
      go_wp2_with fail
      refine (load_any cb r n f c L.o w hc).mono ?_
      rw [e3, e4]
      rintro e w1 ⟨rfl, hc1, ht1⟩
      have h1 := h.stays ht1 n1 n2
      go_wp2_with fail
      refine (name_any b L _ h1 g.t0 g.t1).mono ?_
      rintro e _ ⟨rfl, rfl⟩
      go_wp2
      go_ret2
      exact ⟨rfl, h1, hc1, ht1⟩
/-- The words behind a claim; where a Write stands behind it. -/
def claimF (f : Nat → Int) (L : LS) : Nat → Int := if f L.o.toNat = 0 then setW f L.o (L.t + 1) else f
def claimP (f : Nat → Int) (L : LS) : Int := if f L.o.toNat = 0 then 4 else 8
set_option maxRecDepth 100000 in
theorem claim_any (b cb r n : Nat) (f : Nat → Int) (c : Int) (L : LS) (w : World) (h : Lat w b L) (hc : Cel 70 w cb r n f c) (g : Gd n L) (n1 : b ≠ cb) (n2 : b ≠ r) :
    Calls Try.prog 73 #[.pointer (some ⟨b, 0, none⟩), .pointer (some ⟨cb, 0, none⟩)] w fun e w' => e = .returned (.tuple #[.int .i64 (claimP f L), .int .i64 0]) ∧ Lat w' b L ∧ Cel 70 w' cb r n (claimF f L) (wrap64 (c + 1)) ∧ Touch cb r w w' := by
  have c1 := h.c1
  have e3 := g.has0
  unfold claimP claimF
  by_cases v0 : f L.o.toNat = 0
  · rw [if_pos v0, if_pos v0]
    have e5 : swapB n f L.o 0 = true := by simp [swapB, e3, v0]
    have e6 : swapW n f L.o 0 (L.t + 1) = setW f L.o (L.t + 1) := by simp [swapW, e5]
    clear v0
    go_enter Try.func73, Try.ntmps73
    go_wp2_with fail
    go_region_held3 (fun wz => wz.cell? ⟨b, 1, none⟩ = some (.int .i64 L.o)) (first | exact h.drew.c1 | exact (h.drew.stays ht1 n1 n2).c1)
      (first
        | (go_at_call 82; refine (name_any b L _ h.drew g.t0 g.t1).mono ?_; rintro e _ ⟨rfl, rfl⟩)
        | (go_at_call 83; refine (swap_any cb r n f c L.o 0 (L.t + 1) _ hc.drew).mono ?_; rw [e3, e5, e6]; rintro e w1 ⟨rfl, hc1, ht1⟩))
    go_wp2
    go_ret2
    exact ⟨rfl, h.drew.stays ht1 n1 n2, hc1, (Touch.refl _ _ _).drew.trans ht1⟩
  · rw [if_neg v0, if_neg v0]
    have e5 : swapB n f L.o 0 = false := by simp [swapB, v0]
    have e6 : swapW n f L.o 0 (L.t + 1) = f := by simp [swapW, e5]
    clear v0
    go_enter Try.func73, Try.ntmps73
    go_wp2_with fail
    go_region_held3 (fun wz => wz.cell? ⟨b, 1, none⟩ = some (.int .i64 L.o)) (first | exact h.drew.c1 | exact (h.drew.stays ht1 n1 n2).c1)
      (first
        | (go_at_call 82; refine (name_any b L _ h.drew g.t0 g.t1).mono ?_; rintro e _ ⟨rfl, rfl⟩)
        | (go_at_call 83; refine (swap_any cb r n f c L.o 0 (L.t + 1) _ hc.drew).mono ?_; rw [e3, e5, e6]; rintro e w1 ⟨rfl, hc1, ht1⟩))
    go_wp2
    go_ret2
    exact ⟨rfl, h.drew.stays ht1 n1 n2, hc1, (Touch.refl _ _ _).drew.trans ht1⟩
/-- What of the word v is the thread's own. -/
def part (L : LS) (v : Int) : Int :=
  if L.rd = false ∨ L.wd ≠ ow L then 0 else if L.sl then bits .and .i64 v (wrap64 (255 * 2 ^ (8 * (L.t % 8).toNat))) else 1
set_option maxRecDepth 100000 in
theorem ownPart_any (b : Nat) (L : LS) (v : Int) (w : World) (h : Lat w b L) (h0 : 0 ≤ L.t) (h1 : L.t < 64) :
    Calls Try.prog 84 #[.pointer (some ⟨b, 0, none⟩), .int .i64 v] w fun e w' => e = .returned (.int .i64 (part L v)) ∧ ∃ m, w' = w.drewN m := by
  have c3 := h.c3
  have c4 := h.c4
  have c5 := h.c5
  have hq := fun (m : Nat) => h.drewN m
  unfold part
  rcases hr : L.rd
  · rw [if_pos (.inl rfl)]
    rw [hr] at c4
    go_enter Try.func84, Try.ntmps84
    go_wp2_with fail
    go_quiet (fail)
    go_wp2
    go_ret
    exact ⟨rfl, _, rfl⟩
  · rw [hr] at c4
    by_cases hw : L.wd = ow L
    · rw [if_neg (by simp [hw])]
      have q : (L.wd == ow L) = true := by simp [hw]
      have q2 : (L.wd != ow L) = false := by simp [hw]
      rcases hs : L.sl
      · rw [hs] at c3
        go_enter Try.func84, Try.ntmps84
        go_wp2_with fail
        go_quiet ((go_at_call 78; exact Calls.quiet_of_same (ownWord_any b L _ (hq _) h0 h1)))
        go_wp2
        go_ret
        exact ⟨rfl, _, rfl⟩
      · rw [hs] at c3
        obtain ⟨j, hj⟩ : ∃ j : Nat, L.t % 8 = j ∧ j < 8 := ⟨(L.t % 8).toNat, by omega, by omega⟩
        rw [hj.1]
        go_enter Try.func84, Try.ntmps84
        go_wp2_with fail
        go_quiet ((go_at_call 78; exact Calls.quiet_of_same (ownWord_any b L _ (hq _) h0 h1)))
        go_wp2_with fail
        refine (ownByte_any b L _ (hq _) h0 h1).mono ?_
        rw [hj.1]
        rintro e _ ⟨rfl, rfl⟩
        go_wp2
        go_ret
        exact ⟨rfl, _, rfl⟩
    · rw [if_pos (.inr hw)]
      have q : (L.wd != ow L) = true := by simp [hw]
      clear hw
      go_enter Try.func84, Try.ntmps84
      go_wp2_with fail
      go_quiet ((go_at_call 78; exact Calls.quiet_of_same (ownWord_any b L _ (hq _) h0 h1)))
      go_wp2
      go_ret
      exact ⟨rfl, _, rfl⟩

/-- A drain that has seen the word v. -/
def drainL (L : LS) (v : Int) : LS :=
  if v ≠ part L v then { L with p := 4 } else if L.wd < 7 then { L with p := 4, wd := L.wd + 1 } else if L.rd then { L with p := 6 } else { L with p := 9 }
set_option maxRecDepth 100000 in
theorem drain_any (b cb r n : Nat) (f : Nat → Int) (c : Int) (L : LS) (w : World) (h : Lat w b L) (hc : Cel 70 w cb r n f c) (g : Gd n L) (n1 : b ≠ cb) (n2 : b ≠ r) :
    Calls Try.prog 74 #[.pointer (some ⟨b, 0, none⟩), .pointer (some ⟨cb, 0, none⟩)] w fun e w' => e = .returned (.tuple #[.int .i64 (drainL L (f (L.o + L.wd).toNat)).p, .int .i64 0]) ∧ Lat w' b { drainL L (f (L.o + L.wd).toNat) with p := L.p } ∧ Cel 70 w' cb r n f (wrap64 (c + 1)) ∧ Tri b cb r w w' := by
  have c1 := h.c1
  have c5 := h.c5
  have e3 := g.has g.w0 g.w1
  have e4 : wordD n f (L.o + L.wd) = f (L.o + L.wd).toNat := by simp [wordD, e3]
  have e1 : wrap64 (L.o + L.wd) = L.o + L.wd := wrap_in (by have := g.o0; have := g.w0; omega) (by have := g.o1; have := g.n1; have := g.w1; omega)
  have e2 : IntKind.i64.wrap (L.o + L.wd) = L.o + L.wd := kin (by have := g.o0; have := g.w0; omega) (by have := g.o1; have := g.n1; have := g.w1; omega)
  have g0 := g.t0
  have g1 := g.t1
  have w0 := g.w0
  unfold drainL
  generalize f (L.o + L.wd).toNat = v at e4 ⊢
  by_cases v0 : v = part L v
  · rw [if_neg (by simpa using v0)]
    have q : (v != part L v) = false := by simpa using v0
    by_cases v1 : L.wd < 7
    · rw [if_pos v1]
      have e5 : wrap64 (L.wd + 1) = L.wd + 1 := wrap_in (by omega) (by omega)
      clear v0
      go_enter Try.func74, Try.ntmps74
      go_wp2_with fail
      go_region_held3 (fun wz => wz.cell? ⟨b, 1, none⟩ = some (.int .i64 L.o) ∧ wz.cell? ⟨b, 5, none⟩ = some (.int .i64 L.wd)) (first | exact ⟨h.drew.c1, h.drew.c5⟩ | exact ⟨(h.drew.stays ht1 n1 n2).c1, (h.drew.stays ht1 n1 n2).c5⟩)
        (first
          | (go_at_call 81; refine (load_any cb r n f c (L.o + L.wd) _ hc.drew).mono ?_; rw [e3, e4]; rintro e w1 ⟨rfl, hc1, ht1⟩))
      have h1 := h.drew.stays ht1 n1 n2
      go_wp2_with fail
      refine (ownPart_any b L v _ h1 g0 g1).mono ?_
      rintro e _ ⟨rfl, m, rfl⟩
      have d5 := (h1.drewN m).c5
      have d6 := (h1.drewN m).free 5
      go_wp2
      go_ret2
      refine ⟨rfl, (h1.drewN m).set5 _, ?_, ?_⟩
      · exact (hc1.drewN m).of_blocks (Below.heap_setCell _ _ _ _ (fun e => n1 e.symm)) (Below.heap_setCell _ _ _ _ (fun e => n2 e.symm))
      · exact (((Touch.refl _ _ _).drew.trans (ht1.drewN m)).own b).trans ((touch_set b 5 _ _).one cb r)
    · rw [if_neg v1]
      have v1' : decide (L.wd < 7) = false := decide_eq_false v1
      clear v0
      have c4 := h.c4
      rcases hr : L.rd
      all_goals
        rw [hr] at c4
        go_enter Try.func74, Try.ntmps74
        go_wp2_with fail
        go_region_held3 (fun wz => wz.cell? ⟨b, 1, none⟩ = some (.int .i64 L.o) ∧ wz.cell? ⟨b, 5, none⟩ = some (.int .i64 L.wd)) (first | exact ⟨h.drew.c1, h.drew.c5⟩ | exact ⟨(h.drew.stays ht1 n1 n2).c1, (h.drew.stays ht1 n1 n2).c5⟩)
          (first
            | (go_at_call 81; refine (load_any cb r n f c (L.o + L.wd) _ hc.drew).mono ?_; rw [e3, e4]; rintro e w1 ⟨rfl, hc1, ht1⟩))
        have h1 := h.drew.stays ht1 n1 n2
        go_wp2_with fail
        refine (ownPart_any b L v _ h1 g0 g1).mono ?_
        rintro e _ ⟨rfl, m, rfl⟩
        have d5 := (h1.drewN m).c5
        have d4 := (h1.drewN m).c4
        rw [hr] at d4
        go_wp2
        go_ret2
        refine ⟨rfl, ?_, hc1.drewN m, ((Touch.refl _ _ _).drew.trans (ht1.drewN m)).own b⟩
        cases L; subst hr; exact h1.drewN m
  · rw [if_pos v0]
    have q : (v != part L v) = true := by simpa using v0
    clear v0
    go_enter Try.func74, Try.ntmps74
    go_wp2_with fail
    go_region_held3 (fun wz => wz.cell? ⟨b, 1, none⟩ = some (.int .i64 L.o) ∧ wz.cell? ⟨b, 5, none⟩ = some (.int .i64 L.wd)) (first | exact ⟨h.drew.c1, h.drew.c5⟩ | exact ⟨(h.drew.stays ht1 n1 n2).c1, (h.drew.stays ht1 n1 n2).c5⟩)
      (first
        | (go_at_call 81; refine (load_any cb r n f c (L.o + L.wd) _ hc.drew).mono ?_; rw [e3, e4]; rintro e w1 ⟨rfl, hc1, ht1⟩))
    have h1 := h.drew.stays ht1 n1 n2
    go_wp2_with fail
    refine (ownPart_any b L v _ h1 g0 g1).mono ?_
    rintro e _ ⟨rfl, m, rfl⟩
    go_wp2
    go_ret2
    exact ⟨rfl, h1.drewN m, hc1.drewN m, ((Touch.refl _ _ _).drew.trans (ht1.drewN m)).own b⟩
end Go.Proofs.Ytlhmpkeljagihaa
