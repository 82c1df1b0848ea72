/- The reference's leaves: reg, Known, Wrap; SameAccess. -/
import Derived.Test.YtdhfpfkcbcgnaaaIns
import Derived.Test.YtdhfpfkcbcgnaaaSame
namespace Go.Proofs.Ytdhfpfkcbcgnaaa
open Go.RowKit

set_option maxRecDepth 100000 in
theorem rwrap_any (n m : Int) (hm : m ≤ 100000) (w : World) : Calls Try.prog 37 #[.int .i64 n, .int .i64 m] w fun e w' => e = .returned (.int .i64 (wrapD n m)) ∧ w' = w := by
  by_cases h : m < 1
  · have e1 : wrapD n m = 0 := by unfold wrapD; rw [if_pos h]
    rw [e1]
    go_enter Try.func37, Try.ntmps37
    go_wp2
    go_ret
    exact ⟨rfl, rfl⟩
  · have e1 : wrapD n m = n % m := by unfold wrapD; rw [if_neg h]
    rw [e1]
    have h0 : (m == 0) = false := by simp; omega
    have h0p : ¬ m = 0 := by omega
    have hmod : Int.tmod n m = if 0 ≤ n then n % m else -((-n) % m) := by
      split
      · exact Int.tmod_eq_emod_of_nonneg (by omega)
      · have := Int.neg_tmod (-n) m
        rw [Int.neg_neg] at this
        rw [this, Int.tmod_eq_emod_of_nonneg (by omega)]
    have b1 := Int.emod_nonneg n (show m ≠ 0 by omega)
    have b2 := Int.emod_lt_of_pos n (show 0 < m by omega)
    have b3 := Int.emod_nonneg (-n) (show m ≠ 0 by omega)
    have b4 := Int.emod_lt_of_pos (-n) (show 0 < m by omega)
    have hrel : Int.tmod n m < 0 → Int.tmod n m + m = n % m := by
      intro hlt
      have hE := Int.emod_add_mul_ediv n m
      have hT := Int.tmod_add_mul_tdiv n m
      have d : m ∣ (n % m - Int.tmod n m) := ⟨Int.tdiv n m - n / m, by rw [Int.mul_sub]; omega⟩
      obtain ⟨q, hq⟩ := d
      have l1 : -m < Int.tmod n m := by rw [hmod]; split <;> omega
      have q1 : q = 1 := by
        have p1 : 0 < m * q := by omega
        have p2 : m * q < m * 2 := by omega
        have p3 : 0 < q := Int.pos_of_mul_pos_right p1 (by omega)
        have p4 : q < 2 := Int.lt_of_mul_lt_mul_left p2 (by omega)
        omega
      rw [q1] at hq
      omega
    have hpos : ¬ Int.tmod n m < 0 → Int.tmod n m = n % m := by
      intro hlt
      rw [hmod] at hlt ⊢
      split at hlt
      · rename_i h1; rw [if_pos h1]
      · rename_i h1
        rw [if_neg h1]
        have z : (-n) % m = 0 := by omega
        have : n % m = 0 := by
          have d1 : m ∣ -n := Int.dvd_of_emod_eq_zero z
          exact Int.emod_eq_zero_of_dvd (Int.dvd_neg.1 d1)
        omega
    clear hmod
    obtain ⟨q, hq⟩ : ∃ q, Int.tmod n m = q := ⟨_, rfl⟩
    rw [hq] at hrel hpos
    by_cases hlt : q < 0
    · have e2 := hrel hlt
      have e3 : IntKind.i64.wrap (q + m) = n % m := by rw [e2]; exact kin b1 (by omega)
      have e4 : wrap64 (q + m) = n % m := by rw [e2]; exact wrap_in b1 (by omega)
      clear hrel hpos b1 b2 b3 b4 e2
      go_enter Try.func37, Try.ntmps37
      go_wp2
      go_ret
      exact ⟨ret_int (by first | rfl | exact e4 | exact e3), rfl⟩
    · have e2 := hpos hlt
      clear hrel hpos b1 b2 b3 b4
      go_enter Try.func37, Try.ntmps37
      go_wp2
      go_ret
      exact ⟨ret_int (by first | rfl | exact e2), rfl⟩
set_option maxRecDepth 100000 in
theorem rknown_any (k : Int) (w : World) : Calls Try.prog 35 #[.int .i64 k] w fun e w' => e = .returned (.bool (knownB k)) ∧ w' = w := by
  unfold knownB
  by_cases h1 : 0 ≤ k <;> by_cases h2 : k ≤ 8
  all_goals
    go_enter Try.func35, Try.ntmps35
    go_wp2
    go_ret
    exact ⟨by simp [h1, h2], rfl⟩

set_option maxRecDepth 100000 in
theorem reg_any (c : Cf) (n : Int) (w : World) : Calls Try.prog 34 #[cv c, .int .i64 n] w fun e w' => e = .returned (.bool (wiB c.g [n])) ∧ Below w.heap.size w w' := by
  rw [wi_one]
  have b1 := below_new w (.cells #[.int .i64 c.r, .int .i64 c.o, .int .i64 c.s, .int .i64 c.d, .int .i64 c.t, .int .i64 c.l, .int .i64 c.g, .int .i64 c.k, .int .i64 c.u, .int .i64 c.e, .int .i64 c.i, .int .i64 c.p] 23)
  have b1 := hide b1
  unfold cv
  by_cases h0 : 0 ≤ n
  · have d0 : decide (0 ≤ n) = true := decide_eq_true h0
    by_cases h1 : n < c.g
    · have d1 : decide (n < c.g) = true := decide_eq_true h1
      rw [d0, d1]
      go_enter Try.func34, Try.ntmps34
      go_wp2
      go_ret
      exact ⟨rfl, unhide b1⟩
    · have d1 : decide (n < c.g) = false := decide_eq_false h1
      rw [d0, d1]
      go_enter Try.func34, Try.ntmps34
      go_wp2
      go_ret
      exact ⟨rfl, unhide b1⟩
  · have d0 : decide (0 ≤ n) = false := decide_eq_false h0
    rw [d0]
    go_enter Try.func34, Try.ntmps34
    go_wp2
    go_ret
    exact ⟨by simp, unhide b1⟩
set_option maxRecDepth 100000 in
theorem sameAcc_any (u v : Value) (l m : List (Int × Int)) (w : World) (hu : As w.heap.size w u l) (hv : As w.heap.size w v m) :
    Calls Try.prog 26 #[u, v] w fun e w' => e = .returned (.bool (l == m)) ∧ Below w.heap.size w w' := by
  obtain ⟨n, hn⟩ : ∃ n, l.length = n := ⟨_, rfl⟩
  obtain ⟨n', hn'⟩ : ∃ n, m.length = n := ⟨_, rfl⟩
  have hu0 := hide hu
  have hv0 := hide hv
  obtain ⟨a, ca, rfl, h1, h3⟩ := hu
  obtain ⟨b, cb, rfl, g1, g3⟩ := hv
  have hmax : maxLen = 9223372036854775807 := rfl
  rw [hn] at h1 ⊢
  rw [hn'] at g1 ⊢
  have hnl : (n : Int) ≤ 9223372036854775807 := by omega
  replace hn := hide hn
  replace hn' := hide hn'
  clear h3 g3
  by_cases hl : n = n'
  · subst hl
    go_enter Try.func26, Try.ntmps26
    go_wp2_with fail
    go_loopw [5] (fun i wr => ∃ k : Nat, k ≤ n ∧ i = .int .i64 k ∧ Below w.heap.size w wr ∧ ∀ j, j < k → l.getD j (0, 0) = m.getD j (0, 0)) (fun i _ => n - (RowKit.intOf i).toNat)
    case atStart => exact ⟨0, Nat.zero_le _, rfl, Below.refl _ _, fun j hj => absurd hj (Nat.not_lt_zero _)⟩
    case round =>
      obtain ⟨k, hk, rfl, hb, hall⟩ := hrel
      by_cases hlt : k < n
      · have kd : decide ((k : Int) < (n : Int)) = true := decide_eq_true (by omega)
        have kl : (k : Int) < (n : Int) := by omega
        obtain ⟨_, _, q1, _, q2⟩ := (unhide hu0).later hb
        cases q1
        obtain ⟨_, _, q3, _, q4⟩ := (unhide hv0).later hb
        cases q3
        rcases q2 with q2 | ⟨b1, o1, rfl, _, q2⟩
        · have := unhide hn; omega
        rcases q4 with q4 | ⟨b2, o2, rfl, _, q4⟩
        · have := unhide hn'; omega
        obtain ⟨c1, c11⟩ := q2 k (by have := unhide hn; omega)
        obtain ⟨c2, c21⟩ := q4 k (by have := unhide hn'; omega)
        clear q2 q4
        obtain ⟨x, hx⟩ : ∃ x, l.getD k (0, 0) = x := ⟨_, rfl⟩
        obtain ⟨y, hy⟩ : ∃ y, m.getD k (0, 0) = y := ⟨_, rfl⟩
        obtain ⟨x, x'⟩ := x
        obtain ⟨y, y'⟩ := y
        rw [hx] at c1 c11
        rw [hy] at c2 c21
        replace hb := hide hb
        by_cases e : (x, x') = (y, y')
        · obtain ⟨rfl, rfl⟩ : x = y ∧ x' = y' := by simpa using e
          have hall2 : Hid (∀ j, j < k + 1 → l.getD j (0, 0) = m.getD j (0, 0)) := hide fun j hj => by
            by_cases h : j < k
            · exact hall j h
            · obtain rfl : j = k := by omega
              rw [hx, hy]
          replace hall := hide hall
          clear hx hy
          go_wp2_with fail
          go_region
          all_goals
            go_wp2
            go_roundw
            case rel => exact ⟨k + 1, by omega, by go_num, (unhide hb).drew, unhide hall2⟩
            case measure => first | omega | (simp; omega) | (simp [RowKit.intOf]; omega)
        · have r : Hid ((l == m) = false) := hide (ne_at (0, 0) (k := k) (by rw [hx, hy]; exact e))
          replace hall := hide hall
          clear hx hy
          by_cases e1 : x = y
          · subst e1
            have e2 : ¬ x' = y' := fun h => e (by rw [h])
            clear e
            go_wp2_with fail
            go_region
            all_goals
              go_wp2
              go_ret
              exact ⟨by rw [unhide r]; rfl, (unhide hb).drew⟩
          · clear e
            go_wp2_with fail
            go_region
            all_goals
              go_wp2
              go_ret
              exact ⟨by rw [unhide r]; rfl, (unhide hb).drew⟩
      · have kd : decide ((k : Int) < (n : Int)) = false := decide_eq_false (by omega)
        have r : Hid ((l == m) = true) := hide (eq_take (0, 0) (k := k) (by rw [unhide hn, unhide hn']) (by have := unhide hn; omega) hall)
        replace hall := hide hall
        replace hb := hide hb
        go_wp2
        go_ret
        exact ⟨by rw [unhide r]; rfl, unhide hb⟩
  · have e1 : ((n : Int) == (n' : Int)) = false := by simp; omega
    have r : Hid ((l == m) = false) := hide (by rw [beq_eq_false_iff_ne]; rintro rfl; exact hl (by rw [← unhide hn, ← unhide hn']))
    go_enter Try.func26, Try.ntmps26
    go_wp2
    go_ret
    exact ⟨by rw [unhide r]; rfl, Below.refl _ _⟩
end Go.Proofs.Ytdhfpfkcbcgnaaa
