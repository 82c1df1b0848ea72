/- What Load, Store, Swap, Add and New of package cell (and of the reference) answer, and how they leave the object. -/
import Derived.Test.YtlhmpkeljagihaaObj
namespace Go.Proofs.Ytlhmpkeljagihaa
open Go.RowKit

/-- 0 where it went well, 1 else. -/
def errOf (b : Bool) : Int := if b then 0 else 1
/-- The words with the word a made v. -/
def setW (f : Nat → Int) (a v : Int) : Nat → Int := fun j => if (j : Int) = a then v else f j
theorem setW_nat (f : Nat → Int) (k : Nat) (v : Int) : (fun j => if j = k then v else f j) = setW f (k : Int) v := by
  funext j; unfold setW; by_cases h : j = k
  · rw [if_pos h, if_pos (by omega)]
  · rw [if_neg h, if_neg (by omega)]
theorem setW_out {n : Nat} {f : Nat → Int} {a v : Int} (h : hasB n a = false) (j : Nat) (hj : j < n) : f j = setW f a v j := by
  have := hasB_no.1 h
  unfold setW; rw [if_neg (by omega)]
/-- Is the word a there, and is it old? -/
def swapB (n : Nat) (f : Nat → Int) (a old : Int) : Bool := hasB n a && decide (f a.toNat = old)
def swapW (n : Nat) (f : Nat → Int) (a old v : Int) : Nat → Int := if swapB n f a old then setW f a v else f
/-- What the word a is with v more, 0 if there is none. -/
def addD (n : Nat) (f : Nat → Int) (a v : Int) : Int := if hasB n a then wrap64 (f a.toNat + v) else 0
def addW (f : Nat → Int) (a v : Int) : Nat → Int := setW f a (wrap64 (f a.toNat + v))

theorem load_any (b r n : Nat) (f : Nat → Int) (c a : Int) (w : World) (h : Cel 70 w b r n f c) :
    Calls Try.prog 81 #[.pointer (some ⟨b, 0, none⟩), .int .i64 a] w fun e w' => e = .returned (.tuple #[.int .i64 (wordD n f a), .int .i64 (errOf (hasB n a))]) ∧ Cel 70 w' b r n f (wrap64 (c + 1)) ∧ Touch b r w w' := by
  have hm := h.most
  unfold wordD errOf
  rcases hb : hasB n a
  · go_enter Try.func81, Try.ntmps81
    go_wp2_with fail
    refine (access_any b r n f c a w h).mono ?_
    rintro e w1 ⟨rfl, hn, ht⟩
    go_wp2
    go_ret2
    exact ⟨rfl, hn, ht⟩
  · obtain ⟨g0, g1⟩ := hasB_iff.1 hb
    obtain ⟨k, rfl⟩ := Int.eq_ofNat_of_zero_le g0
    have hk : k < n := by omega
    go_enter Try.func81, Try.ntmps81
    go_wp2_with fail
    refine (access_any b r n f c k w h).mono ?_
    rintro e w1 ⟨rfl, hn, ht⟩
    have h0 := hn.cell0
    have hw := hn.word hk
    go_wp2
    go_ret2
    exact ⟨rfl, hn, ht⟩

theorem store_any (b r n : Nat) (f : Nat → Int) (c a v : Int) (w : World) (h : Cel 70 w b r n f c) :
    Calls Try.prog 75 #[.pointer (some ⟨b, 0, none⟩), .int .i64 a, .int .i64 v] w fun e w' => e = .returned (.int .i64 (errOf (hasB n a))) ∧ Cel 70 w' b r n (setW f a v) (wrap64 (c + 1)) ∧ Touch b r w w' := by
  have hm := h.most
  unfold errOf
  rcases hb : hasB n a
  · go_enter Try.func75, Try.ntmps75
    go_wp2_with fail
    refine (access_any b r n f c a w h).mono ?_
    rintro e w1 ⟨rfl, hn, ht⟩
    go_wp2
    go_ret
    exact ⟨rfl, hn.congr (setW_out hb), ht⟩
  · obtain ⟨g0, g1⟩ := hasB_iff.1 hb
    obtain ⟨k, rfl⟩ := Int.eq_ofNat_of_zero_le g0
    have hk : k < n := by omega
    go_enter Try.func75, Try.ntmps75
    go_wp2_with fail
    refine (access_any b r n f c k w h).mono ?_
    rintro e w1 ⟨rfl, hn, ht⟩
    have h0 := hn.cell0
    have hw := hn.word hk
    have hf := hn.freew k
    go_wp2
    go_ret
    exact ⟨rfl, by have := hn.put k v; rwa [setW_nat] at this, ht.set ⟨r, k, none⟩ (.inr rfl) _⟩

theorem swap_any (b r n : Nat) (f : Nat → Int) (c a old v : Int) (w : World) (h : Cel 70 w b r n f c) :
    Calls Try.prog 83 #[.pointer (some ⟨b, 0, none⟩), .int .i64 a, .int .i64 old, .int .i64 v] w fun e w' => e = .returned (.tuple #[.bool (swapB n f a old), .int .i64 (errOf (hasB n a))]) ∧ Cel 70 w' b r n (swapW n f a old v) (wrap64 (c + 1)) ∧ Touch b r w w' := by
  have hm := h.most
  rcases hb : hasB n a
  · have e1 : swapB n f a old = false := by simp [swapB, hb]
    have e2 : swapW n f a old v = f := by simp [swapW, e1]
    rw [e1, e2]
    unfold errOf
    go_enter Try.func83, Try.ntmps83
    go_wp2_with fail
    refine (access_any b r n f c a w h).mono ?_
    rintro e w1 ⟨rfl, hn, ht⟩
    go_wp2
    go_ret2
    exact ⟨rfl, hn, ht⟩
  · obtain ⟨g0, g1⟩ := hasB_iff.1 hb
    obtain ⟨k, rfl⟩ := Int.eq_ofNat_of_zero_le g0
    have hk : k < n := by omega
    by_cases ho : f k = old
    · have e1 : swapB n f k old = true := by simp [swapB, hb, ho]
      have e2 : swapW n f k old v = setW f k v := by simp [swapW, e1]
      have e3 : (f k != old) = false := by simp [ho]
      rw [e1, e2]
      clear ho e1 e2
      unfold errOf
      go_enter Try.func83, Try.ntmps83
      go_wp2_with fail
      refine (access_any b r n f c k w h).mono ?_
      rintro e w1 ⟨rfl, hn, ht⟩
      have h0 := hn.cell0
      have hw := hn.word hk
      have hf := hn.freew k
      go_wp2
      go_ret2
      exact ⟨rfl, by have := hn.put k v; rwa [setW_nat] at this, ht.set ⟨r, k, none⟩ (.inr rfl) _⟩
    · have e1 : swapB n f k old = false := by simp [swapB, ho]
      have e2 : swapW n f k old v = f := by simp [swapW, e1]
      have e3 : (f k != old) = true := by simp [ho]
      rw [e1, e2]
      clear ho e1 e2
      unfold errOf
      go_enter Try.func83, Try.ntmps83
      go_wp2_with fail
      refine (access_any b r n f c k w h).mono ?_
      rintro e w1 ⟨rfl, hn, ht⟩
      have h0 := hn.cell0
      have hw := hn.word hk
      go_wp2
      go_ret2
      exact ⟨rfl, hn, ht⟩

theorem add_any (b r n : Nat) (f : Nat → Int) (c a v : Int) (w : World) (h : Cel 70 w b r n f c) :
    Calls Try.prog 80 #[.pointer (some ⟨b, 0, none⟩), .int .i64 a, .int .i64 v] w fun e w' => e = .returned (.tuple #[.int .i64 (addD n f a v), .int .i64 (errOf (hasB n a))]) ∧ Cel 70 w' b r n (addW f a v) (wrap64 (c + 1)) ∧ Touch b r w w' := by
  have hm := h.most
  unfold errOf addD addW
  rcases hb : hasB n a
  · go_enter Try.func80, Try.ntmps80
    go_wp2_with fail
    refine (access_any b r n f c a w h).mono ?_
    rintro e w1 ⟨rfl, hn, ht⟩
    go_wp2
    go_ret2
    exact ⟨rfl, hn.congr (setW_out hb), ht⟩
  · obtain ⟨g0, g1⟩ := hasB_iff.1 hb
    obtain ⟨k, rfl⟩ := Int.eq_ofNat_of_zero_le g0
    have hk : k < n := by omega
    go_enter Try.func80, Try.ntmps80
    go_wp2_with fail
    refine (access_any b r n f c k w h).mono ?_
    rintro e w1 ⟨rfl, hn, ht⟩
    have h0 := hn.cell0
    have hw := hn.word hk
    have hf := hn.freew k
    have hp := hn.put k (wrap64 (f k + v))
    have h0' := hp.cell0
    have hw' := hp.word hk
    simp only [if_pos] at hw'
    have hp' := hide hp
    clear hp
    go_wp2
    go_ret2
    exact ⟨rfl, by have := unhide hp'; rwa [setW_nat] at this, ht.set ⟨r, k, none⟩ (.inr rfl) _⟩

theorem Try.info3 : (Try.prog.info? 3).map (fun i => (i.zero, i.size, i.bytes)) = some (some (.int .i64 0), 1, 8) := by kernel_rfl

theorem new_any (n : Nat) (w : World) (hn : n ≤ 65536) :
    Calls Try.prog 11 #[.int .i64 (n : Int)] w fun e w' => ∃ b r, e = .returned (.tuple #[.pointer (some ⟨b, 0, none⟩), .int .i64 0]) ∧ w.heap.size ≤ b ∧ w.heap.size ≤ r ∧ Cel 70 w' b r n (fun _ => 0) 0 ∧ Below w.heap.size w w' := by
  have hmk := run_make_row' (P := Try.prog) 48 3 (.int .i64 0) 8 Try.underlying48 Try.info3 rfl .i64 .i64 n (by omega) (by omega)
  go_enter Try.func11, Try.ntmps11
  go_wp2
  go_ret2
  refine ⟨w.heap.size + 1, w.heap.size, rfl, by omega, by omega, ⟨by omega, hn, ?_, (World.rowIs_made w (.int .i64 0) n 3).alloc _⟩, ((Below.refl _ _).alloc (Nat.le_refl _) _).alloc (by simp) _⟩
  have := heap_alloc_new (w.alloc (.cells (madeCells #[.int .i64 0] n) 3)) (.cells #[.slice (some ⟨w.heap.size, 0, none⟩) n n, .int .i64 0] 70 (0, 0))
  simpa using this

theorem new_bad (n : Int) (w : World) (hn : n < 0 ∨ 65536 < n) :
    Calls Try.prog 11 #[.int .i64 n] w fun e w' => e = .returned (.tuple #[.pointer none, .int .i64 1]) ∧ w' = w := by
  rcases hn with hn | hn
  · go_enter Try.func11, Try.ntmps11
    go_wp2
    go_ret2
    exact ⟨rfl, rfl⟩
  · have h0 : decide (n < 0) = false := decide_eq_false (by omega)
    go_enter Try.func11, Try.ntmps11
    go_wp2
    go_ret2
    exact ⟨rfl, rfl⟩
end Go.Proofs.Ytlhmpkeljagihaa
