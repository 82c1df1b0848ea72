/- What only reads a table: Len, Waits, Holds, Lane. -/
import Derived.Test.YtmdbmkekdpbliaaTabr
namespace Go.Proofs.Ytmdbmkekdpbliaa
open Go.RowKit
variable {B n : Nat} {most : Int} {T : Nat → Lv} {b rb : Nat} {lb : Nat → Nat} {hv qv : Nat → Value}

/-- No lane holds more than k, nor do more than k wait there. -/
def Few (n k : Nat) (T : Nat → Lv) : Prop := ∀ i, i < n → (T i).1.length ≤ k ∧ (T i).2.length ≤ k
/-- How many locks there are, in the first m lanes. -/
def lenD (T : Nat → Lv) : Nat → Nat
  | 0 => 0
  | m + 1 => lenD T m + locksD (T m)
theorem len_le {T : Nat → Lv} {n k : Nat} (h : Few n k T) : ∀ m, m ≤ n → lenD T m ≤ m * (2 * k)
  | 0, _ => Nat.zero_le _
  | m + 1, hm => by
    have h1 := len_le h m (by omega)
    obtain ⟨h2, h3⟩ := h m (by omega)
    have h4 := new_le (T m).1 (T m).2
    have e : (m + 1) * (2 * k) = m * (2 * k) + 2 * k := Nat.succ_mul _ _
    rw [e]
    show lenD T m + locksD (T m) ≤ _
    unfold locksD
    omega
set_option maxRecDepth 100000 in
set_option maxHeartbeats 2000000 in
theorem len_t (w : World) (h : Tb B n most T b rb lb hv qv w) (hf : Few n 1000 T) (hn : n ≤ 10000) : Calls Try.prog 36 #[.pointer (some ⟨b, 0, none⟩)] w fun e w' => e = .returned (.int .i64 (lenD T n : Nat)) ∧ Below w.heap.size w w' := by
  have c0 := h.c0
  have HT := hide h
  clear h
  go_enter Try.func36, Try.ntmps36
  go_wp2_with fail
  clear c0
  go_loopw [3, 11] (fun s3 s11 wr => ∃ t : Nat, t ≤ n ∧ s3 = .int .i64 (lenD T t : Nat) ∧ s11 = .int .i64 t ∧ Hid (Below w.heap.size w wr)) (fun _ s11 _ => n - (intOf s11).toNat)
  case atStart => exact ⟨0, Nat.zero_le _, rfl, rfl, Below.refl _ _⟩
  case round =>
    obtain ⟨t, ht, rfl, rfl, b3⟩ := hrel
    by_cases hlt : t < n
    · have T3 := (unhide HT).next (unhide b3)
      have d1 := T3.at_ hlt
      obtain ⟨f1, f2⟩ := hf t hlt
      have hle := len_le hf t ht
      have hll : locksD (T t) ≤ 2000 := by have := new_le (T t).1 (T t).2; unfold locksD; omega
      have L4 := hide ((T3.ls.la t hlt).next (below_new wr (.cells #[.pointer (some ⟨lb t, 0, none⟩)] 95)))
      have hlen : Hid (lenD T (t + 1) = lenD T t + locksD (T t)) := rfl
      generalize lenD T t = c at hle hlen ⊢
      have hc : c ≤ 20000000 := by
        have : t * (2 * 1000) ≤ 10000 * (2 * 1000) := Nat.mul_le_mul_right _ (by omega)
        omega
      replace f1 := hide f1
      replace f2 := hide f2
      clear T3 hle
      go_wp2_with fail
      refine (locks_t _ ⟨_, _, unhide L4⟩ (by have := unhide f1; omega) (by have := unhide f2; omega)).mono ?_
      rintro e w5 ⟨rfl, b5⟩
      replace b5 := hide (below_then (unhide b3) (below_then (below_new wr _) b5))
      generalize locksD (T t) = l at hll hlen ⊢
      clear d1
      go_wp2
      go_roundw
      case rel => exact ⟨t + 1, by omega, by rw [unhide hlen]; go_num, by go_num, unhide b5⟩
      case measure => simp [intOf]; omega
    · obtain rfl : t = n := by omega
      go_wp2
      go_ret
      exact ⟨rfl, unhide b3⟩
/-- Nobody of that name waits. -/
def noneW (who : Int) (n : Nat) (T : Nat → Lv) : Prop := ∀ i, i < n → lookD who (T i).2 = 0
/-- It waits at i, and nowhere below. -/
def someW (who : Int) (n : Nat) (T : Nat → Lv) (i : Nat) : Prop := i < n ∧ lookD who (T i).2 ≠ 0 ∧ ∀ j, j < i → lookD who (T j).2 = 0
theorem waits_or (who : Int) (T : Nat → Lv) : ∀ n, noneW who n T ∨ ∃ i, someW who n T i
  | 0 => .inl fun i h => by omega
  | n + 1 => by
    rcases waits_or who T n with h | ⟨i, h1, h2, h3⟩
    · by_cases e : lookD who (T n).2 = 0
      · refine .inl fun i hi => ?_
        rcases (show i < n ∨ i = n by omega) with h4 | rfl
        · exact h i h4
        · exact e
      · exact .inr ⟨n, Nat.lt_succ_self n, e, h⟩
    · exact .inr ⟨i, by omega, h2, h3⟩
/-- The answer of Waits, s the first node where who waits (n: none). -/
def waitV (who : Int) (n : Nat) (T : Nat → Lv) (s : Nat) : Value := .tuple #[.agg #[.int .i64 (if s < n then (s : Int) else 0), .int .i64 (if s < n then lookD who (T s).2 else 0)], .bool (decide (s < n))]
theorem lock_cells {w : World} {p : Nat} {x y : Int} (h : w.heap[p]? = some (.cells #[.int .i64 x, .int .i64 y] 53 (0, 0))) : w.cell? ⟨p, 0, none⟩ = some (.int .i64 x) ∧ w.cell? ⟨p, 1, none⟩ = some (.int .i64 y) ∧ w.frozen? ⟨p, 0, none⟩ = false ∧ w.frozen? ⟨p, 1, none⟩ = false := by
  simp [World.cell?, World.frozen?, h]
set_option maxRecDepth 100000 in
set_option maxHeartbeats 2000000 in
theorem waits_t (w : World) (h : Tb B n most T b rb lb hv qv w) (hf : Few n 1000 T) (hn : n ≤ 10000) (who : Int) (s : Nat) (hs : s ≤ n) (h0 : ∀ j, j < s → lookD who (T j).2 = 0) (h1 : s < n → lookD who (T s).2 ≠ 0) :
    Calls Try.prog 32 #[.pointer (some ⟨b, 0, none⟩), .int .i64 who] w fun e w' => e = .returned (waitV who n T s) ∧ Below w.heap.size w w' := by
  have HT := hide h
  replace h0 := hide h0
  replace h1 := hide h1
  have c0 := (h.next (below_new w (.cells #[.int .i64 0, .int .i64 0] 53))).c0
  obtain ⟨W1, hW1⟩ : ∃ W1, W1 = w.alloc (.cells #[.int .i64 0, .int .i64 0] 53) := ⟨_, rfl⟩
  obtain ⟨p, hp⟩ : ∃ p, p = w.heap.size := ⟨_, rfl⟩
  have P1 : Hid (W1.heap[p]? = some (.cells #[.int .i64 0, .int .i64 0] 53 (0, 0))) := by rw [hW1, hp]; exact heap_alloc_new w _
  have B1 : Hid (Below w.heap.size w W1) := by rw [hW1]; exact below_new w _
  have hpl : Hid (p < W1.heap.size) := heap_lt (unhide P1)
  have hwp : Hid (w.heap.size = p) := hp.symm
  clear h
  go_enter Try.func32, Try.ntmps32
  go_wp2_with fail
  rw [← hW1, ← hp]
  replace hW1 := hide hW1
  replace hp := hide hp
  clear c0
  go_loopw [14] (fun s14 wr => ∃ t : Nat, t ≤ s ∧ s14 = .int .i64 t ∧ Hid (Below W1.heap.size W1 wr)) (fun s14 _ => n - (intOf s14).toNat)
  case atStart => exact ⟨0, Nat.zero_le _, rfl, Below.refl _ _⟩
  case round =>
    obtain ⟨t, ht, rfl, b3⟩ := hrel
    by_cases hlt : t < n
    · have T3 := (unhide HT).next (below_then (unhide B1) (unhide b3))
      have d1 := T3.at_ hlt
      obtain ⟨f1, f2⟩ := hf t hlt
      have L4 := hide ((T3.ls.la t hlt).next (below_new wr (.cells #[.pointer (some ⟨lb t, 0, none⟩)] 95)))
      replace f2 := hide f2
      obtain ⟨m, hm⟩ : ∃ m, m = lookD who (T t).2 := ⟨_, rfl⟩
      replace hm := hide hm
      clear T3 f1
      go_wp2_with fail
      refine (waits_ln _ ⟨_, _, unhide L4⟩ (by have := unhide f2; omega) who (unhide hm).symm).mono ?_
      rintro e w5 ⟨rfl, b5⟩
      replace b5 := hide (below_then (unhide b3) (below_then (below_new wr _) b5))
      clear d1
      by_cases hts : t = s
      · have hm0 : (m != 0) = true := by rw [unhide hm, hts]; simpa using unhide h1 (by omega)
        have hm1 : m ≠ 0 := by simpa using hm0
        have P5 := ((unhide b5).block p (unhide hpl)).trans (unhide P1)
        obtain ⟨k0, k1, k2, k3⟩ := lock_cells P5
        have PT : Hid (Below w.heap.size w ((w5.setCell ⟨p, 0, none⟩ (.int .i64 t)).setCell ⟨p, 1, none⟩ (.int .i64 m))) := ((below_then (unhide B1) (unhide b5)).setCell (p := ⟨p, 0, none⟩) (Nat.le_of_eq (unhide hwp)) _).setCell (p := ⟨p, 1, none⟩) (Nat.le_of_eq (unhide hwp)) _
        go_wp2
        (try simp only [Exit.inBlock, Exit.then])
        refine bodyPost_ret (v := waitV who n T s) ?_ rfl ⟨rfl, by have := unhide PT; rw [hts] at this; exact this⟩
        rw [results_cell_tmp rfl]
        unfold waitV
        rw [if_pos (by omega), if_pos (by omega), decide_eq_true (by omega : s < n), ← hts, ← unhide hm]
        go_simp
      · have hm0 : (m != 0) = false := by rw [unhide hm, unhide h0 t (by omega)]; rfl
        have hm1 : m = 0 := by simpa using hm0
        go_wp2
        go_roundw
        case rel => exact ⟨t + 1, by omega, by go_num, unhide b5⟩
        case measure => simp [intOf]; omega
    · obtain rfl : t = n := by omega
      obtain rfl : t = s := by omega
      have P5 := ((unhide b3).block p (unhide hpl)).trans (unhide P1)
      obtain ⟨k0, k1, k2, k3⟩ := lock_cells P5
      have PT : Hid (Below w.heap.size w ((wr.setCell ⟨p, 0, none⟩ (.int .i64 0)).setCell ⟨p, 1, none⟩ (.int .i64 0))) := ((below_then (unhide B1) (unhide b3)).setCell (p := ⟨p, 0, none⟩) (Nat.le_of_eq (unhide hwp)) _).setCell (p := ⟨p, 1, none⟩) (Nat.le_of_eq (unhide hwp)) _
      go_wp2
      (try simp only [Exit.inBlock, Exit.then])
      refine bodyPost_ret (v := waitV who t T t) ?_ rfl ⟨rfl, unhide PT⟩
      rw [results_cell_tmp rfl]
      unfold waitV
      rw [if_neg (by omega), if_neg (by omega), decide_eq_false (by omega : ¬ t < t)]
      go_simp
/-- The first node where who waits; n, if there is none. -/
def atW (who : Int) (T : Nat → Lv) : Nat → Nat
  | 0 => 0
  | n + 1 => if atW who T n = n then (if lookD who (T n).2 = 0 then n + 1 else n) else atW who T n
theorem atW_le (who : Int) (T : Nat → Lv) : ∀ n, atW who T n ≤ n
  | 0 => Nat.le_refl _
  | n + 1 => by
    have := atW_le who T n
    unfold atW
    split
    · split <;> omega
    · omega
theorem atW_low (who : Int) (T : Nat → Lv) : ∀ n, ∀ j, j < atW who T n → lookD who (T j).2 = 0
  | 0, j, h => by simp [atW] at h
  | n + 1, j, h => by
    have h1 := atW_low who T n
    unfold atW at h
    split at h
    · rename_i e
      split at h
      · rename_i e2
        rcases (show j < n ∨ j = n by omega) with h2 | rfl
        · exact h1 j (by omega)
        · exact e2
      · exact h1 j (by omega)
    · exact h1 j h
theorem atW_at (who : Int) (T : Nat → Lv) : ∀ n, atW who T n < n → lookD who (T (atW who T n)).2 ≠ 0
  | 0, h => by omega
  | n + 1, h => by
    have h1 := atW_at who T n
    have h2 := atW_le who T n
    unfold atW at h ⊢
    split
    · rename_i e
      rw [if_pos e] at h
      split
      · rename_i e2; rw [if_pos e2] at h; omega
      · rename_i e2; exact e2
    · rename_i e
      exact h1 (by omega)
theorem waits_tb (w : World) (h : Tb B n most T b rb lb hv qv w) (hf : Few n 1000 T) (hn : n ≤ 10000) (who : Int) :
    Calls Try.prog 32 #[.pointer (some ⟨b, 0, none⟩), .int .i64 who] w fun e w' => e = .returned (waitV who n T (atW who T n)) ∧ Below w.heap.size w w' :=
  waits_t w h hf hn who _ (atW_le who T n) (atW_low who T n) (atW_at who T n)
theorem holds_t (w : World) (h : Tb B n most T b rb lb hv qv w) (hf : Few n 1000 T) (who node : Int) (h0 : 0 ≤ node) (h1 : node < n) :
    Calls Try.prog 38 #[.pointer (some ⟨b, 0, none⟩), .int .i64 who, .int .i64 node] w fun e w' => e = .returned (.int .i64 (lookD who (T node.toNat).1)) ∧ Below w.heap.size w w' := by
  obtain ⟨k, rfl⟩ : ∃ k : Nat, node = (k : Int) := ⟨node.toNat, by omega⟩
  have hk : k < n := by omega
  have c0 := h.c0
  have d0 := h.at_ hk
  have K := hide (known_t w h (k : Int))
  have L := hide (h.ls.la k hk)
  have f1 := hide (hf k hk).1
  have e : (decide (0 ≤ (k : Int)) && decide ((k : Int) < n)) = true := by simp; omega
  rw [e] at K
  have e2 : (k : Int).toNat = k := rfl
  rw [e2]
  clear h e
  go_enter Try.func38, Try.ntmps38
  go_wp2_with fail
  refine (unhide K).mono ?_
  rintro e w1 ⟨rfl, rfl⟩
  go_wp2_with fail
  refine (holds_ln _ ⟨_, _, unhide L⟩ (by have := unhide f1; omega) who rfl).mono ?_
  rintro e w2 ⟨rfl, b2⟩
  replace b2 := hide b2
  clear c0 d0
  go_wp2
  go_ret
  exact ⟨rfl, unhide b2⟩
theorem lane_t (w : World) (h : Tb B n most T b rb lb hv qv w) (node : Int) (h0 : 0 ≤ node) (h1 : node < n) :
    Calls Try.prog 34 #[.pointer (some ⟨b, 0, none⟩), .int .i64 node] w fun e w' => e = .returned (.pointer (some ⟨lb node.toNat, 0, none⟩)) ∧ w' = w := by
  obtain ⟨k, rfl⟩ : ∃ k : Nat, node = (k : Int) := ⟨node.toNat, by omega⟩
  have hk : k < n := by omega
  have c0 := h.c0
  have d0 := h.at_ hk
  have K := hide (known_t w h (k : Int))
  have e : (decide (0 ≤ (k : Int)) && decide ((k : Int) < n)) = true := by simp; omega
  rw [e] at K
  have e2 : (k : Int).toNat = k := rfl
  rw [e2]
  clear h e
  go_enter Try.func34, Try.ntmps34
  go_wp2_with fail
  refine (unhide K).mono ?_
  rintro e w1 ⟨rfl, rfl⟩
  go_wp2
  go_ret
  exact ⟨rfl, rfl⟩
end Go.Proofs.Ytmdbmkekdpbliaa
