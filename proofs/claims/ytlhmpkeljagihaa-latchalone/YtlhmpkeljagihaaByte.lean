/- What LoadByte and StoreByte of package cell answer, and how they leave the object. -/
import Derived.Test.YtlhmpkeljagihaaOps
import Derived.Test.YtlhmpkeljagihaaMath
namespace Go.Proofs.Ytlhmpkeljagihaa
open Go.RowKit

/-- The byte k of the word a, 0 where there is none. -/
def lbOk (n : Nat) (a k : Int) : Bool := hasB n a && byteB k
def lbD (n : Nat) (f : Nat → Int) (a k : Int) : Int := if lbOk n a k then byteOf (f a.toNat) k.toNat else 0
/-- May the byte k of the word a be made v? -/
def sbOk (n : Nat) (a k v : Int) : Bool := hasB n a && (byteB k && (decide (0 ≤ v) && decide (v < 256)))
def sbW (n : Nat) (f : Nat → Int) (a k v : Int) : Nat → Int := if sbOk n a k v then setW f a (putByte (f a.toNat) k.toNat v) else f
theorem byteB_iff {k : Int} : byteB k = true ↔ 0 ≤ k ∧ k < 8 := by simp [byteB]
theorem byteB_no {k : Int} : byteB k = false ↔ ¬ (0 ≤ k ∧ k < 8) := by rw [← byteB_iff]; simp

set_option maxRecDepth 100000 in
set_option maxHeartbeats 1000000 in
theorem storeByte_any (b r n : Nat) (f : Nat → Int) (c a k v : Int) (w : World) (h : Cel 70 w b r n f c) :
    Calls Try.prog 77 #[.pointer (some ⟨b, 0, none⟩), .int .i64 a, .int .i64 k, .int .i64 v] w fun e w' => e = .returned (.int .i64 (errOf (sbOk n a k v))) ∧ Cel 70 w' b r n (sbW n f a k v) (wrap64 (c + 1)) ∧ Touch b r w w' := by
  have hm := h.most
  rcases ho : sbOk n a k v
  · have e2 : sbW n f a k v = f := by simp [sbW, ho]
    rw [e2]
    clear e2
    unfold errOf
    rcases hb : hasB n a
    · clear ho
      go_enter Try.func77, Try.ntmps77
      go_wp2_with fail
      refine (access_any b r n f c a w h).mono ?_
      rw [hb]
      rintro e w1 ⟨rfl, hn, ht⟩
      go_wp2
      go_ret
      exact ⟨rfl, hn, ht⟩
    · rcases hk : byteB k
      · clear ho
        go_enter Try.func77, Try.ntmps77
        go_wp2_with fail
        refine (access_any b r n f c a w h).mono ?_
        rw [hb]
        rintro e w1 ⟨rfl, hn, ht⟩
        go_wp2_with fail
        refine (isPlace_any k w1).mono ?_
        rw [hk]
        rintro e w2 ⟨rfl, rfl⟩
        go_wp2
        go_ret
        exact ⟨rfl, hn, ht⟩
      · have hv : ¬ (0 ≤ v ∧ v < 256) := fun hv => by simp [sbOk, hb, hk, hv] at ho
        clear ho
        by_cases q : v < 0
        · clear hv
          go_enter Try.func77, Try.ntmps77
          go_wp2_with fail
          refine (access_any b r n f c a w h).mono ?_
          rw [hb]
          rintro e w1 ⟨rfl, hn, ht⟩
          go_wp2_with fail
          refine (isPlace_any k w1).mono ?_
          rw [hk]
          rintro e w2 ⟨rfl, rfl⟩
          go_wp2
          go_ret
          exact ⟨rfl, hn, ht⟩
        · have q1 : decide (v < 0) = false := decide_eq_false q
          have q2 : 255 < v := by omega
          clear hv
          go_enter Try.func77, Try.ntmps77
          go_wp2_with fail
          refine (access_any b r n f c a w h).mono ?_
          rw [hb]
          rintro e w1 ⟨rfl, hn, ht⟩
          go_wp2_with fail
          refine (isPlace_any k w1).mono ?_
          rw [hk]
          rintro e w2 ⟨rfl, rfl⟩
          go_wp2
          go_ret
          exact ⟨rfl, hn, ht⟩
  · have ho' : hasB n a = true ∧ byteB k = true ∧ 0 ≤ v ∧ v < 256 := by simpa [sbOk] using ho
    obtain ⟨hb, hk, v0, v1⟩ := ho'
    obtain ⟨g0, g1⟩ := hasB_iff.1 hb
    obtain ⟨i, rfl⟩ := Int.eq_ofNat_of_zero_le g0
    have hi : i < n := by omega
    obtain ⟨g2, g3⟩ := byteB_iff.1 hk
    obtain ⟨j, rfl⟩ := Int.eq_ofNat_of_zero_le g2
    have hj : j < 8 := by omega
    obtain ⟨u, rfl⟩ := Int.eq_ofNat_of_zero_le v0
    have hu : u < 256 := by omega
    have e2 : sbW n f i j u = setW f i (putByte (f i) j u) := by simp [sbW, ho]
    rw [e2]
    clear e2 ho
    unfold errOf
    have d1 : decide ((255 : Int) < (u : Int)) = false := decide_eq_false (by omega)
    have d2 : decide ((u : Int) < 0) = false := decide_eq_false (by omega)
    have E := hide (put_i64 (f i) j u hj hu)
    go_enter Try.func77, Try.ntmps77
    go_wp2_with fail
    refine (access_any b r n f c i w h).mono ?_
    rw [hb]
    rintro e w1 ⟨rfl, hn, ht⟩
    have h0 := hn.cell0
    have hw := hn.word hi
    have hf := hn.freew i
    have hn' := hide hn
    have ht' := hide ht
    clear hn ht
    go_wp2_with fail
    refine (isPlace_any j w1).mono ?_
    rw [hk]
    rintro e w2 ⟨rfl, rfl⟩
    go_wp2
    go_region
    go_wp2
    go_ret
    refine ⟨rfl, ?_, ((unhide ht').set ⟨r, i, none⟩ (.inr rfl) _).drew⟩
    have hp := (unhide hn').put i (putByte (f i) j u)
    rw [setW_nat, ← unhide E] at hp
    rw [← unhide E]
    exact hp.drew
end Go.Proofs.Ytlhmpkeljagihaa
