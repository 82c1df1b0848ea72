/- What Step of a latch answers and leaves. -/
import Derived.Test.YtlhmpkeljagihaaAcc
namespace Go.Proofs.Ytlhmpkeljagihaa
open Go.RowKit

/-- The latch behind its access. -/
def accL (f : Nat → Int) (L : LS) : LS :=
  if L.p = 0 then { L with p := 1 } else if L.p = 1 then { L with p := lookP L (f L.o.toNat) } else if L.p = 2 then { L with p := 8 }
  else if L.p = 3 then { L with p := claimP f L } else if L.p = 4 then drainL L (f (L.o + L.wd).toNat) else if L.p = 5 then { L with p := 8 } else if L.p = 6 then { L with p := 9 } else { L with p := 9 }
/-- The words behind it. -/
def accF (f : Nat → Int) (L : LS) : Nat → Int :=
  if L.p = 0 then markF f L true else if L.p = 1 then f else if L.p = 2 then markF f L false
  else if L.p = 3 then claimF f L else if L.p = 4 then f else if L.p = 5 then setW f L.o 0 else if L.p = 6 then markF f L false else setW f L.o 0
def AccPost (b cb r n : Nat) (f : Nat → Int) (c : Int) (L : LS) (w : World) (e : Ending) (w' : World) : Prop :=
  e = .returned (.tuple #[.int .i64 (accL f L).p, .int .i64 0]) ∧ Lat w' b { accL f L with p := L.p } ∧ Cel 70 w' cb r n (accF f L) (wrap64 (c + 1)) ∧ Tri b cb r w w'
theorem access_k (b cb r n : Nat) (f : Nat → Int) (c : Int) (L : LS) (w : World) (h : Lat w b L) (hc : Cel 70 w cb r n f c) (g : Gd n L) (n1 : b ≠ cb) (n2 : b ≠ r) (p0 : 0 ≤ L.p) (p1 : L.p ≤ 7) :
    Calls Try.prog 55 #[.pointer (some ⟨b, 0, none⟩), .pointer (some ⟨cb, 0, none⟩)] w (AccPost b cb r n f c L w) := by
  have d0 := h.c0
  have d1 := h.c1
  have e3 := g.has0
  have hk : L.p = 0 ∨ L.p = 1 ∨ L.p = 2 ∨ L.p = 3 ∨ L.p = 4 ∨ L.p = 5 ∨ L.p = 6 ∨ L.p = 7 := by omega
  rcases hk with k | k | k | k | k | k | k | k
  · rw [k] at d0
    go_enter Try.func55, Try.ntmps55
    go_wp2_with fail
    refine (enter_any b cb r n f c L w h hc g n1 n2).mono ?_
    rintro e w1 ⟨rfl, h1, hc1, ht1⟩
    go_wp2
    go_ret2
    exact ⟨by simp [accL, k]; try rfl, by simp only [accL, k]; cases L; simp at k; subst k; exact h1, by simp only [accF, k]; exact hc1, ht1.own b⟩
  · rw [k] at d0
    go_enter Try.func55, Try.ntmps55
    go_wp2_with fail
    refine (look_any b cb r n f c L w h hc g n1 n2).mono ?_
    rintro e w1 ⟨rfl, h1, hc1, ht1⟩
    go_wp2
    go_ret2
    exact ⟨by simp [accL, k]; try rfl, by simp only [accL, k]; cases L; simp at k; subst k; exact h1, by simp only [accF, k]; exact hc1, ht1.own b⟩
  · rw [k] at d0
    go_enter Try.func55, Try.ntmps55
    go_wp2_with fail
    refine (leave_any b cb r n f c L w h hc g n1 n2).mono ?_
    rintro e w1 ⟨rfl, h1, hc1, ht1⟩
    go_wp2
    go_ret2
    exact ⟨by simp [accL, k]; try rfl, by simp only [accL, k]; cases L; simp at k; subst k; exact h1, by simp only [accF, k]; exact hc1, ht1.own b⟩
  · rw [k] at d0
    go_enter Try.func55, Try.ntmps55
    go_wp2_with fail
    refine (claim_any b cb r n f c L w h hc g n1 n2).mono ?_
    rintro e w1 ⟨rfl, h1, hc1, ht1⟩
    go_wp2
    go_ret2
    exact ⟨by simp [accL, k]; try rfl, by simp only [accL, k]; cases L; simp at k; subst k; exact h1, by simp only [accF, k]; exact hc1, ht1.own b⟩
  · rw [k] at d0
    go_enter Try.func55, Try.ntmps55
    go_wp2_with fail
    refine (drain_any b cb r n f c L w h hc g n1 n2).mono ?_
    rintro e w1 ⟨rfl, h1, hc1, ht1⟩
    go_wp2
    go_ret2
    exact ⟨by simp [accL, k]; try rfl, by simp only [accL, k]; rw [k] at h1; exact h1, by simp only [accF, k]; exact hc1, ht1⟩
  · rw [k] at d0
    go_enter Try.func55, Try.ntmps55
    go_wp2_with fail
    refine (store_any cb r n f c L.o 0 w hc).mono ?_
    rw [e3]
    rintro e w1 ⟨rfl, hc1, ht1⟩
    have h1 := h.stays ht1 n1 n2
    go_wp2
    go_ret2
    exact ⟨by simp [accL, k]; try rfl, by simp only [accL, k]; cases L; simp at k; subst k; exact h1, by simp only [accF, k]; exact hc1, ht1.own b⟩
  · rw [k] at d0
    go_enter Try.func55, Try.ntmps55
    go_wp2_with fail
    refine (leave_any b cb r n f c L w h hc g n1 n2).mono ?_
    rintro e w1 ⟨rfl, h1, hc1, ht1⟩
    go_wp2
    go_ret2
    exact ⟨by simp [accL, k]; try rfl, by simp only [accL, k]; cases L; simp at k; subst k; exact h1, by simp only [accF, k]; exact hc1, ht1.own b⟩
  · rw [k] at d0
    go_enter Try.func55, Try.ntmps55
    go_wp2_with fail
    refine (store_any cb r n f c L.o 0 w hc).mono ?_
    rw [e3]
    rintro e w1 ⟨rfl, hc1, ht1⟩
    have h1 := h.stays ht1 n1 n2
    go_wp2
    go_ret2
    exact ⟨by simp [accL, k]; try rfl, by simp only [accL, k]; cases L; simp at k; subst k; exact h1, by simp only [accF, k]; exact hc1, ht1.own b⟩

/-- One step more has been counted. -/
def more (L : LS) : LS := { L with st := wrap64 (L.st + 1) }
/-- The latch behind a step; the words; the count of accesses. -/
def stepL (f : Nat → Int) (L : LS) : LS := if 8 ≤ L.p then L else if L.o < 0 then { more L with p := 10 } else accL f (more L)
def stepF (f : Nat → Int) (L : LS) : Nat → Int := if 8 ≤ L.p then f else if L.o < 0 then f else accF f (more L)
def stepC (c : Int) (L : LS) : Int := if 8 ≤ L.p then c else if L.o < 0 then c else wrap64 (c + 1)

theorem goOn_out (b cb : Nat) (L : LS) (w : World) (h : Lat w b L) (ho : L.o < 0) :
    Calls Try.prog 39 #[.pointer (some ⟨b, 0, none⟩), .pointer (some ⟨cb, 0, none⟩)] w fun e w' => e = .returned (.int .i64 10) ∧ w' = w := by
  have d1 := h.c1
  go_enter Try.func39, Try.ntmps39
  go_wp2
  go_ret
  exact ⟨rfl, rfl⟩
theorem goOn_in (b cb r n : Nat) (f : Nat → Int) (c : Int) (L : LS) (w : World) (h : Lat w b L) (hc : Cel 70 w cb r n f c) (g : Gd n L) (n1 : b ≠ cb) (n2 : b ≠ r) (p0 : 0 ≤ L.p) (p1 : L.p ≤ 7) :
    Calls Try.prog 39 #[.pointer (some ⟨b, 0, none⟩), .pointer (some ⟨cb, 0, none⟩)] w fun e w' => e = .returned (.int .i64 (accL f L).p) ∧ Lat w' b { accL f L with p := L.p } ∧ Cel 70 w' cb r n (accF f L) (wrap64 (c + 1)) ∧ Tri b cb r w w' := by
  have d1 := h.c1
  have o0 : decide (L.o < 0) = false := decide_eq_false (by have := g.o0; omega)
  go_enter Try.func39, Try.ntmps39
  go_wp2_with fail
  refine (access_k b cb r n f c L w h hc g n1 n2 p0 p1).mono ?_
  rintro e w1 ⟨rfl, h1, hc1, ht1⟩
  go_wp2
  go_ret
  exact ⟨rfl, h1, hc1, ht1⟩
theorem Gd.more {n : Nat} {L : LS} (g : Gd n L) : Gd n (more L) := ⟨g.t0, g.t1, g.ts, g.o0, g.o1, g.n1, g.w0, g.w1⟩

theorem step_any (b cb r n : Nat) (f : Nat → Int) (c : Int) (L : LS) (w : World) (h : Lat w b L) (hc : Cel 70 w cb r n f c) (g : L.o < 0 ∨ Gd n L) (n1 : b ≠ cb) (n2 : b ≠ r) (p0 : 0 ≤ L.p) :
    Calls Try.prog 17 #[.pointer (some ⟨b, 0, none⟩), .pointer (some ⟨cb, 0, none⟩)] w fun e w' => e = .returned (.bool (decide (8 ≤ (stepL f L).p))) ∧ Lat w' b (stepL f L) ∧ Cel 70 w' cb r n (stepF f L) (stepC c L) ∧ Tri b cb r w w' := by
  by_cases hd : 8 ≤ L.p
  · unfold stepL stepF stepC
    rw [if_pos hd, if_pos hd, if_pos hd]
    have hd' : decide (8 ≤ L.p) = true := decide_eq_true hd
    go_enter Try.func17, Try.ntmps17
    go_wp2_with fail
    refine (done_any b L w h).mono ?_
    rw [hd']
    rintro e _ ⟨rfl, rfl⟩
    go_wp2_with fail
    refine (done_any b L _ h).mono ?_
    rw [hd']
    rintro e _ ⟨rfl, rfl⟩
    go_wp2
    go_ret
    exact ⟨by rw [hd']; rfl, h, hc, Tri.refl _ _ _ _⟩
  · have hd' : decide (8 ≤ L.p) = false := decide_eq_false hd
    have d6 := h.c6
    have f6 := h.free 6
    have hm : Lat (w.setCell ⟨b, 6, none⟩ (.int .i64 (wrap64 (L.st + 1)))) b (more L) := h.set6 _
    have hcm : Cel 70 (w.setCell ⟨b, 6, none⟩ (.int .i64 (wrap64 (L.st + 1)))) cb r n f c := hc.of_blocks (Below.heap_setCell _ _ _ _ (fun e => n1 e.symm)) (Below.heap_setCell _ _ _ _ (fun e => n2 e.symm))
    have hts := (touch_set b 6 w (.int .i64 (wrap64 (L.st + 1)))).one cb r
    by_cases ho : L.o < 0
    · unfold stepL stepF stepC
      rw [if_neg hd, if_neg hd, if_neg hd, if_pos ho, if_pos ho, if_pos ho]
      have f0 := hm.free 0
      have x0 := hm.c0
      go_enter Try.func17, Try.ntmps17
      go_wp2_with fail
      refine (done_any b L w h).mono ?_
      rw [hd']
      rintro e _ ⟨rfl, rfl⟩
      go_wp2_with fail
      refine (goOn_out b cb (more L) _ hm ho).mono ?_
      rintro e _ ⟨rfl, rfl⟩
      have hm0 := hm.set0 10
      go_wp2_with fail
      refine (done_any b _ _ hm0).mono ?_
      rintro e _ ⟨rfl, rfl⟩
      go_wp2
      go_ret
      exact ⟨rfl, hm0, hcm.of_blocks (Below.heap_setCell _ _ _ _ (fun e => n1 e.symm)) (Below.heap_setCell _ _ _ _ (fun e => n2 e.symm)), hts.trans ((touch_set b 0 _ _).one cb r)⟩
    · have g' : Gd n L := g.resolve_left ho
      unfold stepL stepF stepC
      rw [if_neg hd, if_neg hd, if_neg hd, if_neg ho, if_neg ho, if_neg ho]
      go_enter Try.func17, Try.ntmps17
      go_wp2_with fail
      refine (done_any b L w h).mono ?_
      rw [hd']
      rintro e _ ⟨rfl, rfl⟩
      go_wp2_with fail
      refine (goOn_in b cb r n f c (more L) _ hm hcm g'.more n1 n2 p0 (by show L.p ≤ 7; omega)).mono ?_
      rintro e w1 ⟨rfl, h1, hc1, ht1⟩
      have f0 := h1.free 0
      have x0 := h1.c0
      have hm0 := h1.set0 (accL f (more L)).p
      go_wp2_with fail
      refine (done_any b _ _ hm0).mono ?_
      rintro e _ ⟨rfl, rfl⟩
      go_wp2
      go_ret
      exact ⟨rfl, hm0, hc1.of_blocks (Below.heap_setCell _ _ _ _ (fun e => n1 e.symm)) (Below.heap_setCell _ _ _ _ (fun e => n2 e.symm)), (hts.trans ht1).trans ((touch_set b 0 _ _).one cb r)⟩
end Go.Proofs.Ytlhmpkeljagihaa
