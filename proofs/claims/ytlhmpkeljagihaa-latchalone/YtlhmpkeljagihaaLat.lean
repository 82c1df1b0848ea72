/- A latch of package latch as it lies in memory, and what its leaves answer. -/
import Derived.Test.YtlhmpkeljagihaaByte
import Derived.Test.YtlhmpkeljagihaaNodes
namespace Go.Proofs.Ytlhmpkeljagihaa
open Go.RowKit

/-- A latch: where it stands, the owner's cell, the thread, has it a slot, does it read, the word that it drains, its steps. -/
structure LS where
  p : Int
  o : Int
  t : Int
  sl : Bool
  rd : Bool
  wd : Int
  st : Int
/-- .. as it lies in block b. -/
def Lat (w : World) (b : Nat) (L : LS) : Prop := w.heap[b]? = some (.cells #[.int .i64 L.p, .int .i64 L.o, .int .i64 L.t, .bool L.sl, .bool L.rd, .int .i64 L.wd, .int .i64 L.st] 73 (0, 0))

/-- Nothing has turned but the blocks b, c and r. -/
structure Tri (b c r : Nat) (w w' : World) : Prop where
  os : w'.os = w.os
  tape : w'.tape = w.tape
  output : w'.output = w.output
  size : w'.heap.size = w.heap.size
  block : ∀ k, k ≠ b → k ≠ c → k ≠ r → w'.heap[k]? = w.heap[k]?
theorem Tri.trans {b c r : Nat} {w w' w'' : World} (h : Tri b c r w w') (k : Tri b c r w' w'') : Tri b c r w w'' :=
  ⟨k.os.trans h.os, k.tape.trans h.tape, k.output.trans h.output, k.size.trans h.size, fun i h1 h2 h3 => (k.block i h1 h2 h3).trans (h.block i h1 h2 h3)⟩
theorem Touch.own {b r : Nat} (c : Nat) {w w' : World} (h : Touch b r w w') : Tri c b r w w' := ⟨h.os, h.tape, h.output, h.size, fun k _ h2 h3 => h.block k h2 h3⟩
theorem Touch.one {b : Nat} (c r : Nat) {w w' : World} (h : Touch b b w w') : Tri b c r w w' := ⟨h.os, h.tape, h.output, h.size, fun k h1 _ _ => h.block k h1 h1⟩
theorem Tri.refl (b c r : Nat) (w : World) : Tri b c r w w := (Touch.refl c r w).own b
theorem Tri.drew {b c r : Nat} {w w' : World} (h : Tri b c r w w') : Tri b c r w w'.drew := ⟨h.os, h.tape, h.output, h.size, h.block⟩
theorem Tri.below {b c r B : Nat} {w w' : World} (h : Tri b c r w w') (hb : B ≤ b) (hc : B ≤ c) (hr : B ≤ r) : Below B w w' :=
  ⟨h.os, h.tape, h.output, Nat.le_of_eq h.size.symm, fun k hk => h.block k (by omega) (by omega) (by omega)⟩

namespace Lat
variable {w w' : World} {b : Nat} {L : LS}
theorem lt (h : Lat w b L) : b < w.heap.size := lt_of_block h
theorem drew (h : Lat w b L) : Lat w.drew b L := h
theorem drewN (h : Lat w b L) (k : Nat) : Lat (w.drewN k) b L := h
theorem later (h : Lat w b L) {B : Nat} (hb : Below B w w') (h1 : b < B) : Lat w' b L := (hb.block b h1).trans h
theorem next (h : Lat w b L) (hb : Below w.heap.size w w') : Lat w' b L := h.later hb h.lt
theorem stays (h : Lat w b L) {b' r' : Nat} (ht : Touch b' r' w w') (h1 : b ≠ b') (h2 : b ≠ r') : Lat w' b L := (ht.block b h1 h2).trans h
theorem stays3 (h : Lat w b L) {b' c' r' : Nat} (ht : Tri b' c' r' w w') (h1 : b ≠ b') (h2 : b ≠ c') (h3 : b ≠ r') : Lat w' b L := (ht.block b h1 h2 h3).trans h
theorem c0 (h : Lat w b L) : w.cell? ⟨b, 0, none⟩ = some (.int .i64 L.p) := by unfold Lat at h; simp [World.cell?, h]
theorem c1 (h : Lat w b L) : w.cell? ⟨b, 1, none⟩ = some (.int .i64 L.o) := by unfold Lat at h; simp [World.cell?, h]
theorem c2 (h : Lat w b L) : w.cell? ⟨b, 2, none⟩ = some (.int .i64 L.t) := by unfold Lat at h; simp [World.cell?, h]
theorem c3 (h : Lat w b L) : w.cell? ⟨b, 3, none⟩ = some (.bool L.sl) := by unfold Lat at h; simp [World.cell?, h]
theorem c4 (h : Lat w b L) : w.cell? ⟨b, 4, none⟩ = some (.bool L.rd) := by unfold Lat at h; simp [World.cell?, h]
theorem c5 (h : Lat w b L) : w.cell? ⟨b, 5, none⟩ = some (.int .i64 L.wd) := by unfold Lat at h; simp [World.cell?, h]
theorem c6 (h : Lat w b L) : w.cell? ⟨b, 6, none⟩ = some (.int .i64 L.st) := by unfold Lat at h; simp [World.cell?, h]
theorem free (h : Lat w b L) (k : Nat) : w.frozen? ⟨b, k, none⟩ = false := by unfold Lat at h; simp [World.frozen?, h]
theorem set0 (h : Lat w b L) (v : Int) : Lat (w.setCell ⟨b, 0, none⟩ (.int .i64 v)) b { L with p := v } := by
  unfold Lat at h ⊢
  show (w.heap.modify b _)[b]? = _
  rw [Array.getElem?_modify, if_pos rfl, h]; rfl
theorem set1 (h : Lat w b L) (v : Int) : Lat (w.setCell ⟨b, 1, none⟩ (.int .i64 v)) b { L with o := v } := by
  unfold Lat at h ⊢
  show (w.heap.modify b _)[b]? = _
  rw [Array.getElem?_modify, if_pos rfl, h]; rfl
theorem set4 (h : Lat w b L) (v : Bool) : Lat (w.setCell ⟨b, 4, none⟩ (.bool v)) b { L with rd := v } := by
  unfold Lat at h ⊢
  show (w.heap.modify b _)[b]? = _
  rw [Array.getElem?_modify, if_pos rfl, h]; rfl
theorem set5 (h : Lat w b L) (v : Int) : Lat (w.setCell ⟨b, 5, none⟩ (.int .i64 v)) b { L with wd := v } := by
  unfold Lat at h ⊢
  show (w.heap.modify b _)[b]? = _
  rw [Array.getElem?_modify, if_pos rfl, h]; rfl
theorem set6 (h : Lat w b L) (v : Int) : Lat (w.setCell ⟨b, 6, none⟩ (.int .i64 v)) b { L with st := v } := by
  unfold Lat at h ⊢
  show (w.heap.modify b _)[b]? = _
  rw [Array.getElem?_modify, if_pos rfl, h]; rfl
end Lat
theorem touch_set (b k : Nat) (w : World) (v : Value) : Touch b b w (w.setCell ⟨b, k, none⟩ v) := (Touch.refl b b w).set ⟨b, k, none⟩ (.inl rfl) v

theorem done_any (b : Nat) (L : LS) (w : World) (h : Lat w b L) :
    Calls Try.prog 19 #[.pointer (some ⟨b, 0, none⟩)] w fun e w' => e = .returned (.bool (decide (8 ≤ L.p))) ∧ w' = w := by
  have h0 := h.c0
  clear h
  go_enter Try.func19, Try.ntmps19
  go_wp2
  go_ret
  exact ⟨rfl, rfl⟩
theorem got_any (b : Nat) (L : LS) (w : World) (h : Lat w b L) :
    Calls Try.prog 20 #[.pointer (some ⟨b, 0, none⟩)] w fun e w' => e = .returned (.bool (L.p == 9)) ∧ w' = w := by
  have h0 := h.c0
  clear h
  go_enter Try.func20, Try.ntmps20
  go_wp2
  go_ret
  exact ⟨rfl, rfl⟩
/-- 13 where it stands corrupt. -/
def errL (L : LS) : Int := if L.p = 10 then 13 else 0
theorem errno_any (b : Nat) (L : LS) (w : World) (h : Lat w b L) :
    Calls Try.prog 21 #[.pointer (some ⟨b, 0, none⟩)] w fun e w' => e = .returned (.int .i64 (errL L)) ∧ w' = w := by
  have h0 := h.c0
  clear h
  unfold errL
  by_cases hp : L.p = 10
  · rw [if_pos hp]
    go_enter Try.func21, Try.ntmps21
    go_wp2
    go_ret
    exact ⟨rfl, rfl⟩
  · rw [if_neg hp]
    have q : (L.p == 10) = false := by simp [hp]
    go_enter Try.func21, Try.ntmps21
    go_wp2
    go_ret
    exact ⟨rfl, rfl⟩
theorem steps_any (b : Nat) (L : LS) (w : World) (h : Lat w b L) :
    Calls Try.prog 22 #[.pointer (some ⟨b, 0, none⟩)] w fun e w' => e = .returned (.int .i64 L.st) ∧ w' = w := by
  have h0 := h.c6
  clear h
  go_enter Try.func22, Try.ntmps22
  go_wp2
  go_ret
  exact ⟨rfl, rfl⟩
/-- Cancel. -/
def cancelL (L : LS) : LS := if L.p = 3 then { L with p := 8 } else if L.p = 4 then { L with p := 5 } else L
theorem cancel_any (b : Nat) (L : LS) (w : World) (h : Lat w b L) :
    Calls Try.prog 15 #[.pointer (some ⟨b, 0, none⟩)] w fun e w' => e = .returned (.tuple #[]) ∧ Lat w' b (cancelL L) ∧ Touch b b w w' := by
  have h0 := h.c0
  have hf := h.free 0
  have h8 := hide (h.set0 8)
  have h5 := hide (h.set0 5)
  have hh := hide h
  clear h
  by_cases h3 : L.p = 3
  · rw [show cancelL L = { L with p := 8 } by simp [cancelL, h3]]
    rw [h3] at h0
    clear hh h5
    go_enter Try.func15, Try.ntmps15
    go_wp2
    go_end0
    exact ⟨rfl, unhide h8, touch_set _ _ _ _⟩
  · by_cases h4 : L.p = 4
    · rw [show cancelL L = { L with p := 5 } by simp [cancelL, h4]]
      rw [h4] at h0
      clear hh h8 h3
      go_enter Try.func15, Try.ntmps15
      go_wp2
      go_end0
      exact ⟨rfl, unhide h5, touch_set _ _ _ _⟩
    · rw [show cancelL L = L by simp [cancelL, h3, h4]]
      have q3 : (L.p == 3) = false := by simp [h3]
      have q4 : (L.p == 4) = false := by simp [h4]
      clear h5 h8 h3 h4
      go_enter Try.func15, Try.ntmps15
      go_wp2
      go_end0
      exact ⟨rfl, unhide hh, Touch.refl _ _ _⟩

/-- A latch that there is, among n words. -/
structure Gd (n : Nat) (L : LS) : Prop where
  t0 : 0 ≤ L.t
  t1 : L.t < 64
  ts : L.sl = true → L.t < 48
  o0 : 0 ≤ L.o
  o1 : L.o + 8 ≤ (n : Int)
  n1 : n ≤ 65536
  w0 : 0 ≤ L.wd
  w1 : L.wd ≤ 7
theorem name_any (b : Nat) (L : LS) (w : World) (h : Lat w b L) (h0 : 0 ≤ L.t) (h1 : L.t < 64) :
    Calls Try.prog 82 #[.pointer (some ⟨b, 0, none⟩)] w fun e w' => e = .returned (.int .i64 (L.t + 1)) ∧ w' = w := by
  have c0 := h.c2
  clear h
  have e1 : wrap64 (L.t + 1) = L.t + 1 := wrap_in (by omega) (by omega)
  go_enter Try.func82, Try.ntmps82
  go_wp2
  go_ret
  exact ⟨rfl, rfl⟩
/-- The word of the latch that tells whether its thread reads. -/
def ow (L : LS) : Int := if L.sl then 1 + L.t / 8 else 7
theorem ownWord_any (b : Nat) (L : LS) (w : World) (h : Lat w b L) (h0 : 0 ≤ L.t) (h1 : L.t < 64) :
    Calls Try.prog 78 #[.pointer (some ⟨b, 0, none⟩)] w fun e w' => e = .returned (.int .i64 (ow L)) ∧ w' = w := by
  have c3 := h.c3
  have c2 := h.c2
  clear h
  unfold ow
  rcases hs : L.sl
  · rw [hs] at c3
    go_enter Try.func78, Try.ntmps78
    go_wp2
    go_ret
    exact ⟨rfl, rfl⟩
  · rw [hs] at c3
    go_enter Try.func78, Try.ntmps78
    go_wp2
    go_ret
    exact ⟨ret_int (by simp; try (unfold wrap64; omega)), rfl⟩
theorem ownByte_any (b : Nat) (L : LS) (w : World) (h : Lat w b L) (h0 : 0 ≤ L.t) (h1 : L.t < 64) :
    Calls Try.prog 79 #[.pointer (some ⟨b, 0, none⟩)] w fun e w' => e = .returned (.int .i64 (L.t % 8)) ∧ w' = w := by
  have c2 := h.c2
  clear h
  go_enter Try.func79, Try.ntmps79
  go_wp2
  go_ret
  exact ⟨ret_int (by simp; try omega), rfl⟩
end Go.Proofs.Ytlhmpkeljagihaa
