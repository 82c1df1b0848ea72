/- An object of package cell (and the reference's) as it lies in memory: the struct's block and its words' block; what leaves it as it was; and the leaves: has, access, is, isPlace. -/
import Derived.Test.YtlhmpkeljagihaaRows
import Derived.WalkKit
import Derived.WalkSpells
import Derived.WalkLawsBesides
import Derived.Deep.QuietTactic
import Derived.BigQuiet
import Derived.BigRegion
import Derived.Deep.OwnRows
import Derived.Outline
namespace Go.Proofs.Ytlhmpkeljagihaa
open Go.RowKit

theorem hide {p : Prop} (h : p) : Hid p := h
theorem unhide {p : Prop} (h : Hid p) : p := h

/-- An object: the struct of type t in block b, its n words in block r: the word i is f i, the count is c. -/
structure Cel (t : TypeId) (w : World) (b r n : Nat) (f : Nat → Int) (c : Int) : Prop where
  apart : b ≠ r
  most : n ≤ 65536
  top : w.heap[b]? = some (.cells #[.slice (some ⟨r, 0, none⟩) n n, .int .i64 c] t (0, 0))
  row : w.rowIs r 3 n (fun i => .int .i64 (f i))

/-- From w to w' nothing has turned but the blocks b and r. -/
structure Touch (b r : Nat) (w w' : World) : Prop where
  os : w'.os = w.os
  tape : w'.tape = w.tape
  output : w'.output = w.output
  size : w'.heap.size = w.heap.size
  block : ∀ k, k ≠ b → k ≠ r → w'.heap[k]? = w.heap[k]?

theorem Touch.refl (b r : Nat) (w : World) : Touch b r w w := ⟨rfl, rfl, rfl, rfl, fun _ _ _ => rfl⟩
theorem Touch.trans {b r : Nat} {w w' w'' : World} (h : Touch b r w w') (k : Touch b r w' w'') : Touch b r w w'' :=
  ⟨k.os.trans h.os, k.tape.trans h.tape, k.output.trans h.output, k.size.trans h.size, fun i h1 h2 => (k.block i h1 h2).trans (h.block i h1 h2)⟩
theorem Touch.drew {b r : Nat} {w w' : World} (h : Touch b r w w') : Touch b r w w'.drew := ⟨h.os, h.tape, h.output, h.size, h.block⟩
theorem Touch.drewN {b r : Nat} {w w' : World} (h : Touch b r w w') (n : Nat) : Touch b r w (w'.drewN n) := ⟨h.os, h.tape, h.output, h.size, h.block⟩
theorem Touch.set {b r : Nat} {w w' : World} (h : Touch b r w w') (a : Addr) (ha : a.block = b ∨ a.block = r) (v : Value) : Touch b r w (w'.setCell a v) :=
  h.trans ⟨rfl, rfl, rfl, by simp [World.setCell], fun k h1 h2 => Below.heap_setCell _ _ _ _ (by rcases ha with e | e <;> rw [e] <;> assumption)⟩
theorem Touch.below {b r B : Nat} {w w' : World} (h : Touch b r w w') (hb : B ≤ b) (hr : B ≤ r) : Below B w w' :=
  ⟨h.os, h.tape, h.output, Nat.le_of_eq h.size.symm, fun k hk => h.block k (by omega) (by omega)⟩

namespace Cel
variable {t : TypeId} {w w' : World} {b r n : Nat} {f g : Nat → Int} {c d : Int}
theorem cell0 (h : Cel t w b r n f c) : w.cell? ⟨b, 0, none⟩ = some (.slice (some ⟨r, 0, none⟩) n n) := by simp [World.cell?, h.top]
theorem cell1 (h : Cel t w b r n f c) : w.cell? ⟨b, 1, none⟩ = some (.int .i64 c) := by simp [World.cell?, h.top]
theorem free1 (h : Cel t w b r n f c) : w.frozen? ⟨b, 1, none⟩ = false := by simp [World.frozen?, h.top]
theorem word (h : Cel t w b r n f c) {k : Nat} (hk : k < n) : w.cell? ⟨r, k, none⟩ = some (.int .i64 (f k)) := h.row.cell hk
theorem freew (h : Cel t w b r n f c) (k : Nat) : w.frozen? ⟨r, k, none⟩ = false := h.row.frozen k
theorem lt (h : Cel t w b r n f c) : b < w.heap.size := lt_of_block h.top
theorem rlt (h : Cel t w b r n f c) : r < w.heap.size := h.row.lt
theorem of_blocks (h : Cel t w b r n f c) (h1 : w'.heap[b]? = w.heap[b]?) (h2 : w'.heap[r]? = w.heap[r]?) : Cel t w' b r n f c :=
  ⟨h.apart, h.most, h1.trans h.top, h.row.of_block h2⟩
theorem later (h : Cel t w b r n f c) {B : Nat} (hb : Below B w w') (h1 : b < B) (h2 : r < B) : Cel t w' b r n f c :=
  h.of_blocks (hb.block b h1) (hb.block r h2)
theorem stays (h : Cel t w b r n f c) {b' r' : Nat} (ht : Touch b' r' w w') (h1 : b ≠ b') (h2 : b ≠ r') (h3 : r ≠ b') (h4 : r ≠ r') : Cel t w' b r n f c :=
  h.of_blocks (ht.block b h1 h2) (ht.block r h3 h4)
theorem drew (h : Cel t w b r n f c) : Cel t w.drew b r n f c := ⟨h.apart, h.most, h.top, h.row⟩
theorem drewN (h : Cel t w b r n f c) (k : Nat) : Cel t (w.drewN k) b r n f c := ⟨h.apart, h.most, h.top, h.row⟩
theorem congr (h : Cel t w b r n f c) (e : ∀ i, i < n → f i = g i) : Cel t w b r n g c := ⟨h.apart, h.most, h.top, h.row.congr fun i hi => by rw [e i hi]⟩
theorem counted (h : Cel t w b r n f c) (d : Int) : Cel t (w.setCell ⟨b, 1, none⟩ (.int .i64 d)) b r n f d := by
  refine ⟨h.apart, h.most, ?_, h.row.setOther (fun e => h.apart e.symm) _⟩
  show (w.heap.modify b _)[b]? = _
  rw [Array.getElem?_modify, if_pos rfl, h.top]
  rfl
theorem put (h : Cel t w b r n f c) (k : Nat) (v : Int) : Cel t (w.setCell ⟨r, k, none⟩ (.int .i64 v)) b r n (fun j => if j = k then v else f j) c := by
  refine ⟨h.apart, h.most, ?_, (h.row.set k _).congr fun i hi => by split <;> rfl⟩
  rw [Below.heap_setCell _ _ _ _ (by simpa using h.apart)]
  exact h.top
end Cel

/-- Is there the word a? -/
def hasB (n : Nat) (a : Int) : Bool := decide (0 ≤ a) && decide (a < (n : Int))
theorem hasB_yes {n : Nat} {a : Int} (h0 : 0 ≤ a) (h1 : a < (n : Int)) : hasB n a = true := by simp [hasB, h0, h1]
theorem hasB_iff {n : Nat} {a : Int} : hasB n a = true ↔ 0 ≤ a ∧ a < (n : Int) := by simp [hasB]
theorem hasB_no {n : Nat} {a : Int} : hasB n a = false ↔ ¬ (0 ≤ a ∧ a < (n : Int)) := by rw [← hasB_iff]; simp

theorem has_any (b r n : Nat) (f : Nat → Int) (c a : Int) (w : World) (h : Cel 70 w b r n f c) :
    Calls Try.prog 47 #[.pointer (some ⟨b, 0, none⟩), .int .i64 a] w fun e w' => e = .returned (.bool (hasB n a)) ∧ w' = w := by
  have h0 := h.cell0
  have hm := h.most
  clear h
  unfold hasB
  go_enter Try.func47, Try.ntmps47
  go_wp2
  · have g : 0 ≤ a := by assumption
    go_ret
    exact ⟨by simp [g], rfl⟩
  · have g : a < 0 := by assumption
    go_ret
    exact ⟨by rw [decide_eq_false (show ¬ 0 ≤ a by omega)]; rfl, rfl⟩

theorem access_any (b r n : Nat) (f : Nat → Int) (c a : Int) (w : World) (h : Cel 70 w b r n f c) :
    Calls Try.prog 85 #[.pointer (some ⟨b, 0, none⟩), .int .i64 a] w fun e w' => e = .returned (.bool (hasB n a)) ∧ Cel 70 w' b r n f (wrap64 (c + 1)) ∧ Touch b r w w' := by
  have h1 := h.cell1
  have h2 := h.free1
  have hn := h.counted (wrap64 (c + 1))
  have ht := (Touch.refl b r w).set ⟨b, 1, none⟩ (.inl rfl) (.int .i64 (wrap64 (c + 1)))
  clear h
  go_enter Try.func85, Try.ntmps85
  go_wp2_with fail
  refine (has_any b r n f _ a _ hn).mono ?_
  rintro e w1 ⟨rfl, rfl⟩
  go_wp2
  go_ret
  exact ⟨rfl, hn, ht⟩

theorem is_any (b r n : Nat) (f : Nat → Int) (c a : Int) (w : World) (h : Cel 50 w b r n f c) :
    Calls Try.prog 63 #[.pointer (some ⟨b, 0, none⟩), .int .i64 a] w fun e w' => e = .returned (.bool (hasB n a)) ∧ Cel 50 w' b r n f (wrap64 (c + 1)) ∧ Touch b r w w' := by
  have h1 := h.cell1
  have h2 := h.free1
  have hn := h.counted (wrap64 (c + 1))
  have h0 := hn.cell0
  have ht := (Touch.refl b r w).set ⟨b, 1, none⟩ (.inl rfl) (.int .i64 (wrap64 (c + 1)))
  have hm := h.most
  clear h
  unfold hasB
  go_enter Try.func63, Try.ntmps63
  go_wp2
  · have g : 0 ≤ a := by assumption
    go_ret
    exact ⟨by simp [g], hn, ht⟩
  · have g : a < 0 := by assumption
    go_ret
    exact ⟨by rw [decide_eq_false (show ¬ 0 ≤ a by omega)]; rfl, hn, ht⟩

/-- Is k the place of a byte? -/
def byteB (k : Int) : Bool := decide (0 ≤ k) && decide (k < 8)
theorem isPlace_any (k : Int) (w : World) : Calls Try.prog 86 #[.int .i64 k] w fun e w' => e = .returned (.bool (byteB k)) ∧ w' = w := by
  unfold byteB
  go_enter Try.func86, Try.ntmps86
  go_wp2
  · have g : 0 ≤ k := by assumption
    go_ret
    exact ⟨by simp [g], rfl⟩
  · have g : k < 0 := by assumption
    go_ret
    exact ⟨by rw [decide_eq_false (show ¬ 0 ≤ k by omega)]; rfl, rfl⟩

theorem count_any (b r n : Nat) (f : Nat → Int) (c : Int) (w : World) (h : Cel 70 w b r n f c) :
    Calls Try.prog 23 #[.pointer (some ⟨b, 0, none⟩)] w fun e w' => e = .returned (.int .i64 c) ∧ w' = w := by
  have h0 := h.cell1
  clear h
  go_enter Try.func23, Try.ntmps23
  go_wp2
  go_ret
  exact ⟨rfl, rfl⟩

/-- The word a, 0 if there is none. -/
def wordD (n : Nat) (f : Nat → Int) (a : Int) : Int := if hasB n a then f a.toNat else 0

theorem peek_any (b r n : Nat) (f : Nat → Int) (c a : Int) (w : World) (h : Cel 70 w b r n f c) :
    Calls Try.prog 24 #[.pointer (some ⟨b, 0, none⟩), .int .i64 a] w fun e w' => e = .returned (.int .i64 (wordD n f a)) ∧ w' = w := by
  have h0 := h.cell0
  have hm := h.most
  unfold wordD
  rcases hb : hasB n a
  · go_enter Try.func24, Try.ntmps24
    go_wp2_with fail
    refine (has_any b r n f c a w h).mono ?_
    rintro e w1 ⟨rfl, rfl⟩
    go_wp2
    go_ret
    exact ⟨rfl, rfl⟩
  · obtain ⟨g0, g1⟩ := hasB_iff.1 hb
    obtain ⟨k, rfl⟩ := Int.eq_ofNat_of_zero_le g0
    have hk : k < n := by omega
    have hw := h.word hk
    go_enter Try.func24, Try.ntmps24
    go_wp2_with fail
    refine (has_any b r n f c k w h).mono ?_
    rintro e w1 ⟨rfl, rfl⟩
    go_wp2
    go_ret
    exact ⟨rfl, rfl⟩
end Go.Proofs.Ytlhmpkeljagihaa
