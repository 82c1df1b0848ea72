/- Where one stands among those that hold: the library's binary search. -/
import Derived.Test.YtmdbmkekdpbliaaMem
namespace Go.Proofs.Ytmdbmkekdpbliaa
open Go.RowKit

/-- By who, rising. -/
def Srt (l : List En) : Prop := l.Pairwise (fun a b => a.1 < b.1)
/-- How many stand ahead of k. -/
def posD (k : Int) : List En → Nat
  | [] => 0
  | p :: r => if p.1 < k then posD k r + 1 else 0
/-- Is k among them? -/
def hasD (k : Int) (l : List En) : Bool := l.any (fun p => p.1 == k)
theorem posD_le (k : Int) : ∀ l : List En, posD k l ≤ l.length
  | [] => Nat.le_refl _
  | p :: r => by
    unfold posD
    have := posD_le k r
    split <;> simp <;> omega
theorem posD_eq (k : Int) : ∀ (l : List En) (t : Nat), t ≤ l.length → (∀ j, j < t → (l.getD j (0, 0)).1 < k) → (t < l.length → k ≤ (l.getD t (0, 0)).1) → posD k l = t
  | [], t, h, _, _ => by simp at h; simp [posD, h]
  | p :: r, 0, _, _, h => by
    have := h (by simp)
    unfold posD
    rw [if_neg (by simpa using this)]
  | p :: r, t + 1, h1, h2, h3 => by
    have h0 := h2 0 (by omega)
    unfold posD
    rw [if_pos (by simpa using h0), posD_eq k r t (by simpa using h1) (fun j hj => by simpa using h2 (j + 1) (by omega)) (fun hj => by simpa using h3 (by simpa using hj))]
theorem srt_lt {l : List En} (h : Srt l) {i j : Nat} (hij : i < j) (hj : j < l.length) : (l.getD i (0, 0)).1 < (l.getD j (0, 0)).1 := by
  have := List.pairwise_iff_getElem.1 h i j (by omega) hj hij
  simpa [List.getD, hj, show i < l.length by omega] using this
theorem has_yes' {k : Int} {l : List En} {t : Nat} (ht : t < l.length) (e : (l.getD t (0, 0)).1 = k) : hasD k l = true := by
  unfold hasD
  rw [List.any_eq_true]
  exact ⟨l[t], List.getElem_mem ht, by simpa [List.getD, ht] using e⟩
theorem has_no' {k : Int} {l : List En} (h : ∀ t, t < l.length → (l.getD t (0, 0)).1 ≠ k) : hasD k l = false := by
  unfold hasD
  rw [List.any_eq_false]
  intro x hx
  obtain ⟨j, hj, rfl⟩ := List.getElem_of_mem hx
  simpa [List.getD, hj] using h j hj

/-- cmp.Compare. -/
def cmpD (a b : Int) : Int := if a < b then -1 else if b < a then 1 else 0
theorem nan_any (a : Int) (w : World) : Calls Try.prog 88 #[.int .i64 a] w fun e w' => e = .returned (.bool false) ∧ w' = w := by
  go_enter Try.func88, Try.ntmps88
  go_wp2
  go_ret
  exact ⟨by simp, rfl⟩
theorem cmp_any (a b : Int) (w : World) : Calls Try.prog 73 #[.int .i64 a, .int .i64 b] w fun e w' => e = .returned (.int .i64 (cmpD a b)) ∧ w' = w := by
  go_enter Try.func73, Try.ntmps73
  go_wp2_with (go_at_call 88; refine (nan_any _ _).mono ?_; rintro e w' ⟨rfl, rfl⟩)
  all_goals (go_ret; refine ⟨?_, rfl⟩; unfold cmpD; (repeat' split) <;> first | rfl | (exfalso; omega))
theorem holder1_any (x : En) (k : Int) (w : World) : Calls Try.prog 80 #[.agg #[.int .i64 x.1, .int .i64 x.2], .int .i64 k] w fun e w' => e = .returned (.int .i64 (cmpD x.1 k)) ∧ Below w.heap.size w w' := by
  go_enter Try.func80, Try.ntmps80
  go_wp2_with fail
  refine (cmp_any _ _ _).mono ?_
  rintro e w' ⟨rfl, rfl⟩
  go_wp2
  go_ret
  exact ⟨rfl, below_new w _⟩

set_option maxRecDepth 100000 in
set_option maxHeartbeats 1000000 in
theorem search_any {B : Nat} {v : Value} {l : List En} (w : World) (h : Es B v l w) (hs : Srt l) (k : Int) (hn : l.length < 1000000) :
    Calls Try.prog 79 #[v, .int .i64 k, .func (.func 80) #[] #[]] w fun e w' => e = .returned (.tuple #[.int .i64 (posD k l : Nat), .bool (hasD k l)]) ∧ Below w.heap.size w w' := by
  have H := hide h
  have HS := hide hs
  clear hs
  have hv : ∃ a cap, v = .slice a l.length cap := by
    rcases h with ⟨rfl, rfl⟩ | ⟨g, cap, rfl, _, _⟩
    · exact ⟨none, 0, rfl⟩
    · exact ⟨_, cap, rfl⟩
  obtain ⟨a, cap, rfl⟩ := hv
  clear h
  go_enter Try.func79, Try.ntmps79
  go_wp2
  go_loopw [9, 10] (fun s9 s10 wr => ∃ i j : Nat, i ≤ j ∧ j ≤ l.length ∧ s9 = .int .i64 i ∧ s10 = .int .i64 j ∧ Below w.heap.size w wr ∧ Hid (∀ t, t < i → (l.getD t (0, 0)).1 < k) ∧ Hid (∀ t, j ≤ t → t < l.length → k ≤ (l.getD t (0, 0)).1)) (fun s9 s10 _ => (intOf s10).toNat - (intOf s9).toNat)
  case atStart => exact ⟨0, l.length, Nat.zero_le _, Nat.le_refl _, rfl, rfl, Below.refl _ _, fun t ht => absurd ht (by omega), fun t h1 h2 => absurd h1 (by omega)⟩
  case round =>
    obtain ⟨i, j, hij, hj, rfl, rfl, hb, I1, I2⟩ := hrel
    have hrow : i < l.length → ∃ g, a = some ⟨g, 0, none⟩ ∧ Rb g cap l wr := by
      intro hl
      rcases unhide H with ⟨_, rfl⟩ | ⟨g, cap', e, _, r⟩
      · simp at hl
      · injection e with e1 _ e2
        subst e1 e2
        exact ⟨g, rfl, r.next hb⟩
    by_cases hlt : i < j
    · obtain ⟨g, rfl, r⟩ := hrow (by omega)
      obtain ⟨m, hm⟩ : ∃ m : Nat, m = (i + j) / 2 := ⟨_, rfl⟩
      have hmi : i ≤ m := by omega
      have hmj : m < j := by omega
      have hmd : ((i : Int) + (j : Int)) / 2 = (m : Int) := by omega
      clear hm
      obtain ⟨x, hx⟩ : ∃ x, x = l.getD m (0, 0) := ⟨_, rfl⟩
      have c1 : wr.cell? ⟨g, m * 2, none⟩ = some (.int .i64 x.1) := by rw [hx]; exact r.fst (by omega)
      have c2 : wr.cell? ⟨g, m * 2 + 1, none⟩ = some (.int .i64 x.2) := by rw [hx]; exact r.snd (by omega)
      have hml : m < l.length := by omega
      have Hx := hide hx
      have R := hide r
      clear hx r hrow
      go_wp2_with fail
      refine (holder1_any x k _).mono ?_
      rintro e w' ⟨rfl, hb'⟩
      have hb2 := below_then hb hb'
      have HB := hide hb2
      clear hb hb' hb2 c1 c2
      by_cases hk : x.1 < k
      · have e1 : cmpD x.1 k = -1 := by unfold cmpD; rw [if_pos hk]
        have Hk := hide hk
        rw [e1]
        clear e1 hk
        go_wp2
        go_roundw
        case rel => exact ⟨m + 1, j, by omega, hj, by go_num, rfl, unhide HB, fun t ht => by
          rcases (show t < m ∨ t = m by omega) with h | rfl
          · exact Int.lt_trans (srt_lt (unhide HS) h hml) (by rw [← unhide Hx]; exact unhide Hk)
          · rw [← unhide Hx]; exact unhide Hk, I2⟩
        case measure => simp [intOf]; omega
      · have e1 : decide (cmpD x.1 k < 0) = false := by unfold cmpD; rw [if_neg hk]; split <;> rfl
        have Hk := hide hk
        generalize cmpD x.1 k = c at e1 ⊢
        clear hk
        go_wp2
        go_roundw
        case rel => exact ⟨i, m, by omega, by omega, rfl, rfl, unhide HB, I1, fun t h1 h2 => by
          have h3 := unhide Hk
          rw [unhide Hx] at h3
          rcases (show m < t ∨ t = m by omega) with h | rfl
          · have := srt_lt (unhide HS) h h2; omega
          · omega⟩
        case measure => simp [intOf]; omega
    · obtain rfl : i = j := by omega
      have hp : Hid (posD k l = i) := posD_eq k l i hj (unhide I1) (fun h => unhide I2 i (Nat.le_refl _) h)
      by_cases hl : i < l.length
      · obtain ⟨g, rfl, r⟩ := hrow hl
        obtain ⟨x, hx⟩ : ∃ x, x = l.getD i (0, 0) := ⟨_, rfl⟩
        have c1 : wr.cell? ⟨g, i * 2, none⟩ = some (.int .i64 x.1) := by rw [hx]; exact r.fst (by omega)
        have c2 : wr.cell? ⟨g, i * 2 + 1, none⟩ = some (.int .i64 x.2) := by rw [hx]; exact r.snd (by omega)
        have hf : Hid (hasD k l = (cmpD x.1 k == 0)) := by
          have h3 := unhide I2 i (Nat.le_refl _) hl
          rw [← hx] at h3
          unfold cmpD
          rw [if_neg (by omega)]
          by_cases e : x.1 = k
          · rw [if_neg (by omega)]
            exact has_yes' hl (by rw [← hx]; exact e)
          · rw [if_pos (by omega)]
            refine has_no' fun t ht => ?_
            rcases (show t < i ∨ t = i ∨ i < t by omega) with h | rfl | h
            · have := unhide I1 t h; omega
            · rw [← hx]; exact e
            · have := srt_lt (unhide HS) h ht
              rw [← hx] at this; omega
        have Hx := hide hx
        have R := hide r
        clear hx r hrow
        go_wp2_with fail
        refine (holder1_any x k _).mono ?_
        rintro e w' ⟨rfl, hb'⟩
        have HB := hide (below_then hb hb')
        clear hb hb' c1 c2
        generalize cmpD x.1 k = c at hf ⊢
        go_wp2
        go_ret2
        exact ⟨by rw [unhide hp, unhide hf]; rfl, unhide HB⟩
      · have hf : Hid (hasD k l = false) := has_no' fun t ht => by
          have := unhide I1 t (by omega); omega
        have HB := hide hb
        clear hb hrow
        have hl2 : l.length = i := by omega
        go_wp2
        go_ret2
        exact ⟨by rw [unhide hp, unhide hf]; rfl, unhide HB⟩
end Go.Proofs.Ytmdbmkekdpbliaa
