/- The reference: what Byte, LoadByte and StoreByte answer, and how they leave the object. -/
import Derived.Test.YtmaofephcfnlhaaRefOps
import Derived.Test.YtmaofephcfnlhaaByte
namespace Go.Proofs.Ytmaofephcfnlhaa
open Go.RowKit

set_option maxRecDepth 100000 in
theorem rbyte_any (x : Int) (j : Nat) (w : World) (hj : j < 8) :
    Calls Try.prog 31 #[.int .i64 x, .int .i64 (j : Int)] w fun e w' => e = .returned (.int .i64 (byteOf x j)) ∧ w' = w := by
  have E := hide (byte_u64 x j hj)
  go_enter Try.func31, Try.ntmps31
  go_wp2
  go_ret
  rw [← unhide E]
  exact ⟨rfl, rfl⟩

set_option maxRecDepth 100000 in
theorem rloadByte_any (b r n : Nat) (f : Nat → Int) (c a k : Int) (w : World) (h : Cel 44 w b r n f c) :
    Calls Try.prog 21 #[.pointer (some ⟨b, 0, none⟩), .int .i64 a, .int .i64 k] w fun e w' => e = .returned (.tuple #[.int .i64 (lbD n f a k), .int .i64 (errOf (lbOk n a k))]) ∧ Cel 44 w' b r n f (wrap64 (c + 1)) ∧ Touch b r w w' := by
  have hm := h.most
  rcases hb : hasB n a
  · have e1 : lbOk n a k = false := by simp [lbOk, hb]
    have e2 : lbD n f a k = 0 := by simp [lbD, e1]
    rw [e1, e2]
    unfold errOf
    go_enter Try.func21, Try.ntmps21
    go_wp2_with fail
    refine (is_any b r n f c a w h).mono ?_
    rw [hb]
    rintro e w1 ⟨rfl, hn, ht⟩
    go_wp2
    go_ret2
    exact ⟨rfl, hn, ht⟩
  · rcases hk : byteB k
    · have e1 : lbOk n a k = false := by simp [lbOk, hk]
      have e2 : lbD n f a k = 0 := by simp [lbD, e1]
      have hk' := byteB_no.1 hk
      rw [e1, e2]
      unfold errOf
      by_cases q : k < 0
      · clear hk'
        go_enter Try.func21, Try.ntmps21
        go_wp2_with fail
        refine (is_any b r n f c a w h).mono ?_
        rw [hb]
        rintro e w1 ⟨rfl, hn, ht⟩
        go_wp2
        go_ret2
        exact ⟨rfl, hn, ht⟩
      · have q1 : decide (k < 0) = false := decide_eq_false q
        have q2 : 7 < k := by omega
        clear hk'
        go_enter Try.func21, Try.ntmps21
        go_wp2_with fail
        refine (is_any b r n f c a w h).mono ?_
        rw [hb]
        rintro e w1 ⟨rfl, hn, ht⟩
        go_wp2
        go_ret2
        exact ⟨rfl, hn, ht⟩
    · obtain ⟨g0, g1⟩ := hasB_iff.1 hb
      obtain ⟨i, rfl⟩ := Int.eq_ofNat_of_zero_le g0
      have hi : i < n := by omega
      obtain ⟨g2, g3⟩ := byteB_iff.1 hk
      obtain ⟨j, rfl⟩ := Int.eq_ofNat_of_zero_le g2
      have hj : j < 8 := by omega
      have e1 : lbOk n i j = true := by simp [lbOk, hb, hk]
      have e2 : lbD n f i j = byteOf (f i) j := by simp [lbD, e1]
      rw [e1, e2]
      clear e1 e2
      unfold errOf
      have d1 : decide ((7 : Int) < (j : Int)) = false := decide_eq_false (by omega)
      have d2 : decide ((j : Int) < 0) = false := decide_eq_false (by omega)
      go_enter Try.func21, Try.ntmps21
      go_wp2_with fail
      refine (is_any b r n f c i w h).mono ?_
      rw [hb]
      rintro e w1 ⟨rfl, hn, ht⟩
      have h0 := hn.cell0
      have hw := hn.word hi
      go_wp2_with fail
      refine (rbyte_any (f i) j w1 hj).mono ?_
      rintro e w2 ⟨rfl, rfl⟩
      go_wp2
      go_ret2
      exact ⟨rfl, hn, ht⟩

set_option maxRecDepth 100000 in
set_option maxHeartbeats 1000000 in
theorem rstoreByte_any (b r n : Nat) (f : Nat → Int) (c a k v : Int) (w : World) (h : Cel 44 w b r n f c) :
    Calls Try.prog 23 #[.pointer (some ⟨b, 0, none⟩), .int .i64 a, .int .i64 k, .int .i64 v] w fun e w' => e = .returned (.int .i64 (errOf (sbOk n a k v))) ∧ Cel 44 w' b r n (sbW n f a k v) (wrap64 (c + 1)) ∧ Touch b r w w' := by
  have hm := h.most
  rcases ho : sbOk n a k v
  · have e2 : sbW n f a k v = f := by simp [sbW, ho]
    rw [e2]
    clear e2
    unfold errOf
    rcases hb : hasB n a
    · clear ho
      go_enter Try.func23, Try.ntmps23
      go_wp2_with fail
      refine (is_any b r n f c a w h).mono ?_
      rw [hb]
      rintro e w1 ⟨rfl, hn, ht⟩
      go_wp2
      go_ret
      exact ⟨rfl, hn, ht⟩
    · rcases hk : byteB k
      · have hk' := byteB_no.1 hk
        clear ho
        by_cases q : k < 0
        · clear hk'
          go_enter Try.func23, Try.ntmps23
          go_wp2_with fail
          refine (is_any b r n f c a w h).mono ?_
          rw [hb]
          rintro e w1 ⟨rfl, hn, ht⟩
          go_wp2
          go_ret
          exact ⟨rfl, hn, ht⟩
        · have q1 : decide (k < 0) = false := decide_eq_false q
          have q2 : 7 < k := by omega
          clear hk'
          go_enter Try.func23, Try.ntmps23
          go_wp2_with fail
          refine (is_any b r n f c a w h).mono ?_
          rw [hb]
          rintro e w1 ⟨rfl, hn, ht⟩
          go_wp2
          go_ret
          exact ⟨rfl, hn, ht⟩
      · have hv : ¬ (0 ≤ v ∧ v < 256) := fun hv => by simp [sbOk, hb, hk, hv] at ho
        clear ho
        obtain ⟨g2, g3⟩ := byteB_iff.1 hk
        have d1 : decide (k < 0) = false := decide_eq_false (by omega)
        have d2 : decide (7 < k) = false := decide_eq_false (by omega)
        by_cases q : v < 0
        · clear hv
          go_enter Try.func23, Try.ntmps23
          go_wp2_with fail
          refine (is_any b r n f c a w h).mono ?_
          rw [hb]
          rintro e w1 ⟨rfl, hn, ht⟩
          go_wp2
          go_ret
          exact ⟨rfl, hn, ht⟩
        · have q1 : decide (v < 0) = false := decide_eq_false q
          have q2 : 255 < v := by omega
          clear hv
          go_enter Try.func23, Try.ntmps23
          go_wp2_with fail
          refine (is_any b r n f c a w h).mono ?_
          rw [hb]
          rintro e w1 ⟨rfl, hn, ht⟩
          go_wp2
          go_ret
          exact ⟨rfl, hn, ht⟩
  · have ho' : hasB n a = true ∧ byteB k = true ∧ 0 ≤ v ∧ v < 256 := by simpa [sbOk] using ho
    obtain ⟨hb, hk, v0, v1⟩ := ho'
    obtain ⟨g0, g1⟩ := hasB_iff.1 hb
    obtain ⟨i, rfl⟩ := Int.eq_ofNat_of_zero_le g0
    have hi : i < n := by omega
    obtain ⟨g2, g3⟩ := byteB_iff.1 hk
    obtain ⟨j, rfl⟩ := Int.eq_ofNat_of_zero_le g2
    have hj : j < 8 := by omega
    obtain ⟨u, rfl⟩ := Int.eq_ofNat_of_zero_le v0
    have hu : u < 256 := by omega
    have e2 : sbW n f i j u = setW f i (putByte (f i) j u) := by simp [sbW, ho]
    rw [e2]
    clear e2 ho
    unfold errOf
    have d1 : decide ((255 : Int) < (u : Int)) = false := decide_eq_false (by omega)
    have d2 : decide ((u : Int) < 0) = false := decide_eq_false (by omega)
    have d3 : decide ((7 : Int) < (j : Int)) = false := decide_eq_false (by omega)
    have d4 : decide ((j : Int) < 0) = false := decide_eq_false (by omega)
    have E := hide (put_u64 (f i) j u hj hu)
    go_enter Try.func23, Try.ntmps23
    go_wp2_with fail
    refine (is_any b r n f c i w h).mono ?_
    rw [hb]
    rintro e w1 ⟨rfl, hn, ht⟩
    have h0 := hn.cell0
    have hw := hn.word hi
    have hf := hn.freew i
    have hn' := hide hn
    have ht' := hide ht
    clear hn ht
    go_wp2
    go_region
    go_wp2
    go_ret
    refine ⟨rfl, ?_, ((unhide ht').set ⟨r, i, none⟩ (.inr rfl) _).drew⟩
    have hp := (unhide hn').put i (putByte (f i) j u)
    rw [setW_nat, ← unhide E] at hp
    rw [← unhide E]
    exact hp.drew
end Go.Proofs.Ytmaofephcfnlhaa
