/- BirthTells' walk. -/
import Derived.Test.YtoamcbnklgkgnaaDsk
import Derived.Deep.RegionHeld3
namespace Go.Proofs.Ytoamcbnklgkgnaa
open Go.RowKit

theorem bne_self9 (x : Int) : (x != x) = false := by simp
theorem bne_self8 (x : Bool) : (x != x) = false := by simp
/-- What both desks have given. -/
theorem next_range {m g : Int} (h0 : 0 ≤ g) (h1 : g ≤ m) : 0 ≤ (nextD m g).2.2 ∧ (nextD m g).2.2 ≤ m := by
  unfold nextD
  split
  · exact ⟨h0, h1⟩
  · exact ⟨by show 0 ≤ g + 1; omega, by show g + 1 ≤ m; omega⟩
set_option maxRecDepth 100000 in
set_option maxHeartbeats 4000000 in
theorem tells_in (m : Int) (n : Nat) (a : Option Addr) (len cap : Nat) (l : List Int) (W : World) (s0 : SegK .i64 W a len l) (h0 : n ≤ 300) (h1 : len ≤ 1000) :
    Calls Try.prog 3 #[.int .i64 m, .int .i64 (n : Int), .slice a len cap] W fun e w' => e = .returned (.bool true) ∧ Below W.heap.size W w' := by
  have k1 : (n : Int) ≤ 300 := by omega
  have k2 : (len : Int) ≤ 1000 := by omega
  obtain ⟨p, ok, hV⟩ : ∃ p ok, leastV l = .tuple #[.int .i64 p, .bool ok] := ⟨_, _, rfl⟩
  have hp := bne_self9 p
  have hok := bne_self8 ok
  replace hV := hide hV
  replace s0 := hide s0
  have C1 := hide (first_any W)
  go_enter Try.func3, Try.ntmps3
  go_wp2_with fail
  refine (unhide C1).mono ?_
  rintro e w1 ⟨rfl, b1⟩
  have s1 := hide ((unhide s0).later b1)
  replace b1 := hide b1
  clear C1
  go_wp2_with fail
  refine (least_any a len cap l w1 (unhide s1) (by omega)).mono ?_
  rw [unhide hV]
  rintro e w2 ⟨rfl, rfl⟩
  go_wp2_with fail
  refine (rleast_any a len cap l w2 (unhide s1) (by omega)).mono ?_
  rw [unhide hV]
  rintro e w3 ⟨rfl, rfl⟩
  by_cases hm : m < 1 ∨ (1 ≤ m ∧ 10000 < m)
  · go_wp2_with fail
    refine (new_bad m w3 hm).mono ?_
    rintro e w4 ⟨rfl, rfl⟩
    go_wp2_with fail
    refine (rnew_bad m w4 hm).mono ?_
    rintro e w5 ⟨rfl, rfl⟩
    have C2 := hide (first_any w5)
    replace hm := hide hm
    go_wp2_with fail
    go_loopw [15] (fun s wr => s = .int .i64 0 ∧ wr = w5) (fun _ _ => 0)
    case atStart => exact ⟨rfl, rfl⟩
    case round =>
      obtain ⟨rfl, rfl⟩ := hrel
      go_wp2_with fail
      refine (unhide C2).mono ?_
      rintro e w6 ⟨rfl, b6⟩
      replace b6 := hide (below_then (unhide b1) b6)
      go_wp2
      go_ret
      exact ⟨rfl, unhide b6⟩
  · have m1 : 1 ≤ m := by omega
    have m2 : m ≤ 10000 := by omega
    go_wp2_with fail
    refine (new_ok m w3 m1 m2).mono ?_
    rintro e w4 ⟨x, rfl, hx, D4, b4⟩
    have hxB : Hid (W.heap.size ≤ x) := by rw [hx]; exact (unhide b1).size
    replace b4 := hide (below_then (unhide b1) b4)
    replace D4 := hide D4
    replace hx := hide hx
    go_wp2_with fail
    refine (rnew_ok m w4 m1 m2).mono ?_
    rintro e w5 ⟨y, rfl, hy, E5, b5⟩
    have hyB : Hid (W.heap.size ≤ y) := by rw [hy]; exact (unhide b4).size
    have hxy : Hid (x ≠ y) := by have := (unhide D4).lt; exact fun e => by omega
    have D5 := hide ((unhide D4).next b5)
    replace b5 := hide (below_then (unhide b4) b5)
    replace E5 := hide E5
    replace hy := hide hy
    clear D4 b4 hm
    go_wp2_with fail
    go_loopw [15] (fun s wr => ∃ (i : Nat) (g : Int), i ≤ n ∧ s = .int .i64 i ∧ 0 ≤ g ∧ g ≤ m ∧ Hid (Dk 44 wr x m g) ∧ Hid (Dk 38 wr y m g) ∧ Hid (Below W.heap.size W wr)) (fun s _ => n - (intOf s).toNat)
    case atStart => exact ⟨0, 0, Nat.zero_le _, rfl, Int.le_refl _, by omega, unhide D5, unhide E5, unhide b5⟩
    case round =>
      obtain ⟨i, g, hi, rfl, g0, g1, D6, E6, b6⟩ := hrel
      by_cases hlt : i < n
      · obtain ⟨r0, r1⟩ := next_range g0 g1
        obtain ⟨⟨q, er, g'⟩, hq⟩ : ∃ r, r = nextD m g := ⟨_, rfl⟩
        rw [← hq] at r0 r1
        dsimp only at r0 r1
        replace hq := hide hq
        go_wp2_with fail
        refine (next_any wr x m g (unhide D6) g0 g1 m2).mono ?_
        rw [← unhide hq]
        rintro e w7 ⟨rfl, D7, t7⟩
        dsimp only at D7
        have E7 := hide ((unhide E6).other t7 (fun e => unhide hxy e.symm))
        have b7 := hide ((unhide b6).trans (t7.below (unhide hxB)))
        replace D7 := hide D7
        go_wp2_with fail
        refine (rnext_any w7 y m g (unhide E7) g0 g1 m2).mono ?_
        rw [← unhide hq]
        rintro e w8 ⟨rfl, E8, t8⟩
        dsimp only at E8
        have D8 := hide ((unhide D7).other t8 (unhide hxy))
        have b8 := hide ((unhide b7).trans (t8.below (unhide hyB)))
        have hq1 := bne_self9 q
        have hq2 := bne_self9 er
        have hq3 := bne_self9 g'
        have d1 := E8.c1
        have cq : ∀ k, Dk 44 (w8.drewN k) x m g' := fun k => unhide D8
        replace E8 := hide E8
        go_wp2_with fail
        go_quiet ((go_at_call 14; exact Calls.quiet_of_same (given_any _ x m g' (cq _))))
        have D9 : Hid (Dk 44 (w8.drewN nq) x m g') := cq nq
        have E9 : Hid (Dk 38 (w8.drewN nq) y m g') := unhide E8
        have B9 : Hid (Below W.heap.size W (w8.drewN nq)) := hide ((unhide b8).trans ⟨rfl, rfl, rfl, Nat.le_refl _, fun _ _ => rfl⟩)
        go_wp2
        go_roundw
        case rel => exact ⟨i + 1, g', by omega, by go_num, r0, r1, unhide D9, unhide E9, unhide B9⟩
        case measure => simp [intOf]; omega
      · go_wp2_with fail
        refine (first_any wr).mono ?_
        rintro e w7 ⟨rfl, b7⟩
        replace b7 := hide (below_then (unhide b6) b7)
        go_wp2
        go_ret
        exact ⟨rfl, unhide b7⟩
theorem birthTells_walk (a0 a1 : Int) (a2 : Option Addr) (len2 cap2 : Nat) (l2 : List Int) (W : World) (_w0 : (Lit.int .i64 a0).wf = true) (_w1 : (Lit.int .i64 a1).wf = true) (s2 : SegK .i64 W a2 len2 l2) (_lc2 : len2 ≤ cap2) (_cm2 : cap2 ≤ maxLen) (_wz2 : ∀ z ∈ l2, (Lit.int .i64 z).wf = true) :
    Calls Try.prog 3 #[.int .i64 a0, .int .i64 a1, .slice a2 len2 cap2] W fun e w' => e = .returned (.bool true) ∧ Below W.heap.size W w' := by
  by_cases g0 : a1 < 0 ∨ (0 ≤ a1 ∧ 300 < a1) ∨ (0 ≤ a1 ∧ a1 ≤ 300 ∧ 1000 < (len2 : Int))
  · have C1 := hide (first_any W)
    replace s2 := hide s2
    rcases g0 with g0 | ⟨g0, g1⟩ | ⟨g0, g1, g2⟩
    all_goals
      go_enter Try.func3, Try.ntmps3
      go_wp2_with fail
      refine (unhide C1).mono ?_
      rintro e w1 ⟨rfl, b1⟩
      clear C1
      have C2 := hide (first_any w1)
      go_wp2_with fail
      refine (unhide C2).mono ?_
      rintro e w2 ⟨rfl, b2⟩
      replace b2 := hide (below_then b1 b2)
      clear C2
      go_wp2
      go_ret
      exact ⟨rfl, unhide b2⟩
  · obtain ⟨n, rfl⟩ : ∃ n : Nat, a1 = n := ⟨a1.toNat, by omega⟩
    exact tells_in a0 n a2 len2 cap2 l2 W s2 (by omega) (by omega)
end Go.Proofs.Ytoamcbnklgkgnaa
