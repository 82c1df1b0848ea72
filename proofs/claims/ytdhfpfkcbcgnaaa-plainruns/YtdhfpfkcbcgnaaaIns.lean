/- An instruction, as a value and in memory; the leaves of packages calc and prog. -/
import Derived.Test.YtdhfpfkcbcgnaaaRow
import Derived.Deep.Cut
namespace Go.Proofs.Ytdhfpfkcbcgnaaa
open Go.RowKit

/-- n modulo m, 0 to m - 1; 0 if m is below 1. -/
def wrapD (n m : Int) : Int := if m < 1 then 0 else n % m
theorem wrapD_in {n m : Int} (h : 1 ≤ m) : 0 ≤ wrapD n m ∧ wrapD n m < m := by
  unfold wrapD
  rw [if_neg (by omega)]
  exact ⟨Int.emod_nonneg _ (by omega), Int.emod_lt_of_pos _ (by omega)⟩
theorem calcWrap_any (n m : Int) (hm : m ≤ 100000) (w : World) : Calls Try.prog 52 #[.int .i64 n, .int .i64 m] w fun e w' => e = .returned (.int .i64 (wrapD n m)) ∧ w' = w := by
  by_cases h : m < 1
  · have e1 : wrapD n m = 0 := by unfold wrapD; rw [if_pos h]
    rw [e1]
    go_enter Try.func52, Try.ntmps52
    go_wp2
    go_ret
    exact ⟨rfl, rfl⟩
  · have e1 : wrapD n m = n % m := by unfold wrapD; rw [if_neg h]
    rw [e1]
    have h0 : (m == 0) = false := by simp; omega
    have h0p : ¬ m = 0 := by omega
    have hmod : Int.tmod n m = if 0 ≤ n then n % m else -((-n) % m) := by
      split
      · exact Int.tmod_eq_emod_of_nonneg (by omega)
      · have := Int.neg_tmod (-n) m
        rw [Int.neg_neg] at this
        rw [this, Int.tmod_eq_emod_of_nonneg (by omega)]
    have b1 := Int.emod_nonneg n (show m ≠ 0 by omega)
    have b2 := Int.emod_lt_of_pos n (show 0 < m by omega)
    have b3 := Int.emod_nonneg (-n) (show m ≠ 0 by omega)
    have b4 := Int.emod_lt_of_pos (-n) (show 0 < m by omega)
    have hrel : Int.tmod n m < 0 → Int.tmod n m + m = n % m := by
      intro hlt
      have hE := Int.emod_add_mul_ediv n m
      have hT := Int.tmod_add_mul_tdiv n m
      have d : m ∣ (n % m - Int.tmod n m) := ⟨Int.tdiv n m - n / m, by rw [Int.mul_sub]; omega⟩
      obtain ⟨q, hq⟩ := d
      have l1 : -m < Int.tmod n m := by rw [hmod]; split <;> omega
      have q1 : q = 1 := by
        have p1 : 0 < m * q := by omega
        have p2 : m * q < m * 2 := by omega
        have p3 : 0 < q := Int.pos_of_mul_pos_right p1 (by omega)
        have p4 : q < 2 := Int.lt_of_mul_lt_mul_left p2 (by omega)
        omega
      rw [q1] at hq
      omega
    have hpos : ¬ Int.tmod n m < 0 → Int.tmod n m = n % m := by
      intro hlt
      rw [hmod] at hlt ⊢
      split at hlt
      · rename_i h1; rw [if_pos h1]
      · rename_i h1
        rw [if_neg h1]
        have z : (-n) % m = 0 := by omega
        have : n % m = 0 := by
          have d1 : m ∣ -n := Int.dvd_of_emod_eq_zero z
          exact Int.emod_eq_zero_of_dvd (Int.dvd_neg.1 d1)
        omega
    clear hmod
    obtain ⟨q, hq⟩ : ∃ q, Int.tmod n m = q := ⟨_, rfl⟩
    rw [hq] at hrel hpos
    by_cases hlt : q < 0
    · have e2 := hrel hlt
      have e3 : IntKind.i64.wrap (q + m) = n % m := by rw [e2]; exact kin b1 (by omega)
      have e4 : wrap64 (q + m) = n % m := by rw [e2]; exact wrap_in b1 (by omega)
      clear hrel hpos b1 b2 b3 b4 e2
      go_enter Try.func52, Try.ntmps52
      go_wp2
      go_ret
      exact ⟨ret_int (by first | rfl | exact e4 | exact e3), rfl⟩
    · have e2 := hpos hlt
      clear hrel hpos b1 b2 b3 b4
      go_enter Try.func52, Try.ntmps52
      go_wp2
      go_ret
      exact ⟨ret_int (by first | rfl | exact e2), rfl⟩

def knownB (k : Int) : Bool := decide (0 ≤ k) && decide (k ≤ 8)
theorem known_any (k : Int) (w : World) : Calls Try.prog 51 #[.int .i64 k] w fun e w' => e = .returned (.bool (knownB k)) ∧ w' = w := by
  unfold knownB
  by_cases h1 : 0 ≤ k <;> by_cases h2 : k ≤ 8
  all_goals
    go_enter Try.func51, Try.ntmps51
    go_wp2
    go_ret
    exact ⟨by simp [h1, h2], rfl⟩

/-- Is each of l an index of a list of n? -/
def wiB (n : Int) (l : List Int) : Bool := l.all fun x => decide (0 ≤ x) && decide (x < n)
theorem wi_one (n x : Int) : wiB n [x] = (decide (0 ≤ x) && decide (x < n)) := by simp [wiB]
theorem wi_snoc {n : Int} {l : List Int} {k : Nat} (h : k < l.length) (hr : wiB n (l.take k) = true) (h1 : 0 ≤ l.getD k 0) (h2 : l.getD k 0 < n) : wiB n (l.take (k + 1)) = true := by
  rw [List.take_add_one, List.getElem?_eq_getElem h]
  have e : l.getD k 0 = l[k] := by simp [h]
  rw [e] at h1 h2
  simp only [wiB, List.all_append, Bool.and_eq_true, Option.toList, List.all_cons, List.all_nil, Bool.and_true, decide_eq_true_eq]
  exact ⟨hr, h1, h2⟩
theorem wi_no {n : Int} {l : List Int} {k : Nat} (h : k < l.length) (hx : l.getD k 0 < 0 ∨ n ≤ l.getD k 0) : wiB n l = false := by
  have e : l.getD k 0 = l[k] := by simp [h]
  rw [e] at hx
  unfold wiB
  rw [List.all_eq_false]
  exact ⟨l[k], List.getElem_mem h, by simp; omega⟩
theorem pwithin_any (n : Int) (a : Option Addr) (len cap : Nat) (l : List Int) (w : World) (hs : SegK .i64 w a len l) (hlen : len ≤ maxLen) :
    Calls Try.prog 43 #[.int .i64 n, .slice a len cap] w fun e w' => e = .returned (.bool (wiB n l)) ∧ w' = w := by
  have hmax : maxLen = 9223372036854775807 := rfl
  have hl : (len : Int) ≤ 9223372036854775807 := by omega
  obtain ⟨h1, h2⟩ := hs
  replace h2 := hide h2
  go_enter Try.func43, Try.ntmps43
  go_wp2_with fail
  go_loopw [9] (fun i wr => ∃ k : Nat, k ≤ len ∧ i = .int .i64 k ∧ wr = w ∧ wiB n (l.take k) = true) (fun i _ => len - (intOf i).toNat)
  case atStart => exact ⟨0, Nat.zero_le _, rfl, rfl, by simp [wiB]⟩
  case round =>
    obtain ⟨k, hk, rfl, rfl, hr⟩ := hrel
    by_cases hlt : k < len
    · rcases unhide h2 with h0 | ⟨b, off, rfl, hc⟩
      · omega
      · have hcell := hc k hlt
        obtain ⟨y, hy⟩ : ∃ y, l.getD k 0 = y := ⟨_, rfl⟩
        rw [hy] at hcell
        replace hc := hide hc
        have kd : decide ((k : Int) < (len : Int)) = true := decide_eq_true (by omega)
        have kl : (k : Int) < (len : Int) := by omega
        by_cases y0 : y < 0
        · have e1 := hide (wi_no (n := n) (l := l) (k := k) (by omega) (.inl (by rw [hy]; exact y0)))
          clear hr hy
          go_wp2
          go_ret
          exact ⟨by rw [unhide e1]; rfl, rfl⟩
        · by_cases y1 : n ≤ y
          · have e1 := hide (wi_no (n := n) (l := l) (k := k) (by omega) (.inr (by rw [hy]; exact y1)))
            clear hr hy
            go_wp2
            go_ret
            exact ⟨by rw [unhide e1]; rfl, rfl⟩
          · have e1 := hide (wi_snoc (n := n) (l := l) (k := k) (by omega) hr (by rw [hy]; omega) (by rw [hy]; omega))
            clear hr hy
            go_wp2
            go_roundw
            case rel => exact ⟨k + 1, by omega, by go_num, (by trivial), unhide e1⟩
            case measure => first | omega | (simp; omega) | (simp [intOf]; omega)
    · have e1 : wiB n l = true := by rw [← List.take_of_length_le (show l.length ≤ k by omega)]; exact hr
      replace e1 := hide e1
      have kd : decide ((k : Int) < (len : Int)) = false := decide_eq_false (by omega)
      clear hr
      go_wp2
      go_ret
      exact ⟨by rw [unhide e1]; rfl, rfl⟩
/-- A slice of one number, newly made. -/
theorem seg_one (w : World) (a : Int) (t : TypeId) (N : Nat) (hN : N = w.heap.size) : SegK .i64 (w.alloc (.cells #[.int .i64 a] t)) (some ⟨N, 0, none⟩) 1 [a] := by
  subst hN
  refine ⟨rfl, .inr ⟨w.heap.size, 0, rfl, fun i hi => ?_⟩⟩
  have : i = 0 := by omega
  subst this
  have h : (w.alloc (.cells #[.int .i64 a] t)).heap[w.heap.size]? = some (.cells #[.int .i64 a] t) := heap_alloc_new w _
  unfold World.cell?
  rw [h]
  rfl
end Go.Proofs.Ytdhfpfkcbcgnaaa
