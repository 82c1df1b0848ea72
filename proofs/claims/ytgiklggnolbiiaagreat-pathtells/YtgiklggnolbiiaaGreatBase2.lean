/- Texts of this claim, put together in their order. -/
import Derived.Deep.RegionHeld3
import Derived.BigRegion
import Derived.Test.YtgiklggnolbiiaaGreatBase1
/- Where one stands among those that hold: the library's binary search. -/
namespace Go.Proofs.YtgiklggnolbiiaaGreat
open Go.RowKit

/-- By who, rising. -/
def Srt (l : List En) : Prop := l.Pairwise (fun a b => a.1 < b.1)
/-- How many stand ahead of k. -/
def posD (k : Int) : List En → Nat
  | [] => 0
  | p :: r => if p.1 < k then posD k r + 1 else 0
/-- Is k among them? -/
def hasD (k : Int) (l : List En) : Bool := l.any (fun p => p.1 == k)
theorem posD_le (k : Int) : ∀ l : List En, posD k l ≤ l.length
  | [] => Nat.le_refl _
  | p :: r => by
    unfold posD
    have := posD_le k r
    split <;> simp <;> omega
theorem posD_eq (k : Int) : ∀ (l : List En) (t : Nat), t ≤ l.length → (∀ j, j < t → (l.getD j (0, 0)).1 < k) → (t < l.length → k ≤ (l.getD t (0, 0)).1) → posD k l = t
  | [], t, h, _, _ => by simp at h; simp [posD, h]
  | p :: r, 0, _, _, h => by
    have := h (by simp)
    unfold posD
    rw [if_neg (by simpa using this)]
  | p :: r, t + 1, h1, h2, h3 => by
    have h0 := h2 0 (by omega)
    unfold posD
    rw [if_pos (by simpa using h0), posD_eq k r t (by simpa using h1) (fun j hj => by simpa using h2 (j + 1) (by omega)) (fun hj => by simpa using h3 (by simpa using hj))]
theorem srt_lt {l : List En} (h : Srt l) {i j : Nat} (hij : i < j) (hj : j < l.length) : (l.getD i (0, 0)).1 < (l.getD j (0, 0)).1 := by
  have := List.pairwise_iff_getElem.1 h i j (by omega) hj hij
  simpa [List.getD, hj, show i < l.length by omega] using this
theorem has_yes' {k : Int} {l : List En} {t : Nat} (ht : t < l.length) (e : (l.getD t (0, 0)).1 = k) : hasD k l = true := by
  unfold hasD
  rw [List.any_eq_true]
  exact ⟨l[t], List.getElem_mem ht, by simpa [List.getD, ht] using e⟩
theorem has_no' {k : Int} {l : List En} (h : ∀ t, t < l.length → (l.getD t (0, 0)).1 ≠ k) : hasD k l = false := by
  unfold hasD
  rw [List.any_eq_false]
  intro x hx
  obtain ⟨j, hj, rfl⟩ := List.getElem_of_mem hx
  simpa [List.getD, hj] using h j hj

/-- cmp.Compare. -/
def cmpD (a b : Int) : Int := if a < b then -1 else if b < a then 1 else 0
set_option maxRecDepth 100000 in
theorem nan_any (a : Int) (w : World) : Calls Tryz.prog 94 #[.int .i64 a] w fun e w' => e = .returned (.bool false) ∧ w' = w := by
  go_enter Tryz.func94, Tryz.ntmps94
  go_wp2
  go_ret
  exact ⟨by simp, rfl⟩
set_option maxRecDepth 100000 in
theorem cmp_any (a b : Int) (w : World) : Calls Tryz.prog 52 #[.int .i64 a, .int .i64 b] w fun e w' => e = .returned (.int .i64 (cmpD a b)) ∧ w' = w := by
  go_enter Tryz.func52, Tryz.ntmps52
  go_wp2_with (go_at_call 94; refine (nan_any _ _).mono ?_; rintro e w' ⟨rfl, rfl⟩)
  all_goals (go_ret; refine ⟨?_, rfl⟩; unfold cmpD; (repeat' split) <;> first | rfl | (exfalso; omega))
set_option maxRecDepth 100000 in
theorem holder1_any (x : En) (k : Int) (w : World) : Calls Tryz.prog 114 #[.agg #[.int .i64 x.1, .int .i64 x.2], .int .i64 k] w fun e w' => e = .returned (.int .i64 (cmpD x.1 k)) ∧ Below w.heap.size w w' := by
  go_enter Tryz.func114, Tryz.ntmps114
  go_wp2_with fail
  refine (cmp_any _ _ _).mono ?_
  rintro e w' ⟨rfl, rfl⟩
  go_wp2
  go_ret
  exact ⟨rfl, below_new w _⟩

set_option maxRecDepth 100000 in
set_option maxHeartbeats 1000000 in
theorem search_any {B : Nat} {v : Value} {l : List En} (w : World) (h : Es B v l w) (hs : Srt l) (k : Int) (hn : l.length < 1000000) :
    Calls Tryz.prog 113 #[v, .int .i64 k, .func (.func 114) #[] #[]] w fun e w' => e = .returned (.tuple #[.int .i64 (posD k l : Nat), .bool (hasD k l)]) ∧ Below w.heap.size w w' := by
  have H := hide h
  have HS := hide hs
  clear hs
  have hv : ∃ a cap, v = .slice a l.length cap := by
    rcases h with ⟨rfl, rfl⟩ | ⟨g, cap, rfl, _, _⟩
    · exact ⟨none, 0, rfl⟩
    · exact ⟨_, cap, rfl⟩
  obtain ⟨a, cap, rfl⟩ := hv
  clear h
  go_enter Tryz.func113, Tryz.ntmps113
  go_wp2
  go_loopw [9, 10] (fun s9 s10 wr => ∃ i j : Nat, i ≤ j ∧ j ≤ l.length ∧ s9 = .int .i64 i ∧ s10 = .int .i64 j ∧ Below w.heap.size w wr ∧ Hid (∀ t, t < i → (l.getD t (0, 0)).1 < k) ∧ Hid (∀ t, j ≤ t → t < l.length → k ≤ (l.getD t (0, 0)).1)) (fun s9 s10 _ => (intOf s10).toNat - (intOf s9).toNat)
  case atStart => exact ⟨0, l.length, Nat.zero_le _, Nat.le_refl _, rfl, rfl, Below.refl _ _, fun t ht => absurd ht (by omega), fun t h1 h2 => absurd h1 (by omega)⟩
  case round =>
    obtain ⟨i, j, hij, hj, rfl, rfl, hb, I1, I2⟩ := hrel
    have hrow : i < l.length → ∃ g, a = some ⟨g, 0, none⟩ ∧ Rb g cap l wr := by
      intro hl
      rcases unhide H with ⟨_, rfl⟩ | ⟨g, cap', e, _, r⟩
      · simp at hl
      · injection e with e1 _ e2
        subst e1 e2
        exact ⟨g, rfl, r.next hb⟩
    by_cases hlt : i < j
    · obtain ⟨g, rfl, r⟩ := hrow (by omega)
      obtain ⟨m, hm⟩ : ∃ m : Nat, m = (i + j) / 2 := ⟨_, rfl⟩
      have hmi : i ≤ m := by omega
      have hmj : m < j := by omega
      have hmd : ((i : Int) + (j : Int)) / 2 = (m : Int) := by omega
      clear hm
      obtain ⟨x, hx⟩ : ∃ x, x = l.getD m (0, 0) := ⟨_, rfl⟩
      have c1 : wr.cell? ⟨g, m * 2, none⟩ = some (.int .i64 x.1) := by rw [hx]; exact r.fst (by omega)
      have c2 : wr.cell? ⟨g, m * 2 + 1, none⟩ = some (.int .i64 x.2) := by rw [hx]; exact r.snd (by omega)
      have hml : m < l.length := by omega
      have Hx := hide hx
      have R := hide r
      clear hx r hrow
      go_wp2_with fail
      refine (holder1_any x k _).mono ?_
      rintro e w' ⟨rfl, hb'⟩
      have hb2 := below_then hb hb'
      have HB := hide hb2
      clear hb hb' hb2 c1 c2
      by_cases hk : x.1 < k
      · have e1 : cmpD x.1 k = -1 := by unfold cmpD; rw [if_pos hk]
        have Hk := hide hk
        rw [e1]
        clear e1 hk
        go_wp2
        go_roundw
        case rel => exact ⟨m + 1, j, by omega, hj, by go_num, rfl, unhide HB, fun t ht => by
          rcases (show t < m ∨ t = m by omega) with h | rfl
          · exact Int.lt_trans (srt_lt (unhide HS) h hml) (by rw [← unhide Hx]; exact unhide Hk)
          · rw [← unhide Hx]; exact unhide Hk, I2⟩
        case measure => simp [intOf]; omega
      · have e1 : decide (cmpD x.1 k < 0) = false := by unfold cmpD; rw [if_neg hk]; split <;> rfl
        have Hk := hide hk
        generalize cmpD x.1 k = c at e1 ⊢
        clear hk
        go_wp2
        go_roundw
        case rel => exact ⟨i, m, by omega, by omega, rfl, rfl, unhide HB, I1, fun t h1 h2 => by
          have h3 := unhide Hk
          rw [unhide Hx] at h3
          rcases (show m < t ∨ t = m by omega) with h | rfl
          · have := srt_lt (unhide HS) h h2; omega
          · omega⟩
        case measure => simp [intOf]; omega
    · obtain rfl : i = j := by omega
      have hp : Hid (posD k l = i) := posD_eq k l i hj (unhide I1) (fun h => unhide I2 i (Nat.le_refl _) h)
      by_cases hl : i < l.length
      · obtain ⟨g, rfl, r⟩ := hrow hl
        obtain ⟨x, hx⟩ : ∃ x, x = l.getD i (0, 0) := ⟨_, rfl⟩
        have c1 : wr.cell? ⟨g, i * 2, none⟩ = some (.int .i64 x.1) := by rw [hx]; exact r.fst (by omega)
        have c2 : wr.cell? ⟨g, i * 2 + 1, none⟩ = some (.int .i64 x.2) := by rw [hx]; exact r.snd (by omega)
        have hf : Hid (hasD k l = (cmpD x.1 k == 0)) := by
          have h3 := unhide I2 i (Nat.le_refl _) hl
          rw [← hx] at h3
          unfold cmpD
          rw [if_neg (by omega)]
          by_cases e : x.1 = k
          · rw [if_neg (by omega)]
            exact has_yes' hl (by rw [← hx]; exact e)
          · rw [if_pos (by omega)]
            refine has_no' fun t ht => ?_
            rcases (show t < i ∨ t = i ∨ i < t by omega) with h | rfl | h
            · have := unhide I1 t h; omega
            · rw [← hx]; exact e
            · have := srt_lt (unhide HS) h ht
              rw [← hx] at this; omega
        have Hx := hide hx
        have R := hide r
        clear hx r hrow
        go_wp2_with fail
        refine (holder1_any x k _).mono ?_
        rintro e w' ⟨rfl, hb'⟩
        have HB := hide (below_then hb hb')
        clear hb hb' c1 c2
        generalize cmpD x.1 k = c at hf ⊢
        go_wp2
        go_ret2
        exact ⟨by rw [unhide hp, unhide hf]; rfl, unhide HB⟩
      · have hf : Hid (hasD k l = false) := has_no' fun t ht => by
          have := unhide I1 t (by omega); omega
        have HB := hide hb
        clear hb hrow
        have hl2 : l.length = i := by omega
        go_wp2
        go_ret2
        exact ⟨by rw [unhide hp, unhide hf]; rfl, unhide HB⟩
end Go.Proofs.YtgiklggnolbiiaaGreat

/- The first for which a test holds: the library's IndexFunc with the two closures of package lane. -/
namespace Go.Proofs.YtgiklggnolbiiaaGreat
open Go.RowKit

/-- The first place at which p holds: -1, if there is none. -/
def idxD (p : En → Bool) (l : List En) : Int := if l.any p then (l.findIdx p : Int) else -1
theorem idx_at {p : En → Bool} {l : List En} {i : Nat} (hi : i < l.length) (h1 : ∀ t, t < i → p (l.getD t (0, 0)) = false) (h2 : p (l.getD i (0, 0)) = true) : idxD p l = (i : Int) := by
  have ha : l.any p = true := by
    rw [List.any_eq_true]
    exact ⟨l[i], List.getElem_mem hi, by simpa [List.getD, hi] using h2⟩
  have hf : l.findIdx p = i := by
    rw [List.findIdx_eq hi]
    refine ⟨by simpa [List.getD, hi] using h2, fun j hj => ?_⟩
    have := h1 j hj
    simpa [List.getD, show j < l.length by omega] using this
  unfold idxD
  rw [ha, hf]; rfl
theorem idx_none {p : En → Bool} {l : List En} (h1 : ∀ t, t < l.length → p (l.getD t (0, 0)) = false) : idxD p l = -1 := by
  have ha : l.any p = false := by
    rw [List.any_eq_false]
    intro x hx
    obtain ⟨j, hj, rfl⟩ := List.getElem_of_mem hx
    have := h1 j hj
    simpa [List.getD, hj] using this
  unfold idxD
  rw [ha]; rfl
theorem idx_ge (p : En → Bool) (l : List En) : decide (0 ≤ idxD p l) = l.any p := by
  unfold idxD
  cases l.any p <;> simp <;> omega

set_option maxRecDepth 100000 in
set_option maxHeartbeats 1000000 in
theorem index62_any (p : En → Bool) (pt : Addr) {B : Nat} {v : Value} {l : List En} (w : World) (h : Es B v l w) (hn : l.length < 1000000)
    (hc : ∀ x wr, Below w.heap.size w wr → Calls Tryz.prog 116 #[.agg #[.int .i64 x.1, .int .i64 x.2], .pointer (some pt)] wr fun e w' => e = .returned (.bool (p x)) ∧ Below wr.heap.size wr w') :
    Calls Tryz.prog 115 #[v, .func (.func 116) #[] #[.pointer (some pt)]] w fun e w' => e = .returned (.int .i64 (idxD p l)) ∧ Below w.heap.size w w' := by
  have H := hide h
  have HC := hide hc
  clear hc
  have hv : ∃ a cap, v = .slice a l.length cap := by
    rcases h with ⟨rfl, rfl⟩ | ⟨g, cap, rfl, _, _⟩
    · exact ⟨none, 0, rfl⟩
    · exact ⟨_, cap, rfl⟩
  obtain ⟨a, cap, rfl⟩ := hv
  clear h
  go_enter Tryz.func115, Tryz.ntmps115
  go_wp2
  go_loopw [8] (fun s8 wr => ∃ i : Nat, i ≤ l.length ∧ s8 = .int .i64 i ∧ Below w.heap.size w wr ∧ Hid (∀ t, t < i → p (l.getD t (0, 0)) = false)) (fun s8 _ => l.length - (intOf s8).toNat)
  case atStart => exact ⟨0, Nat.zero_le _, rfl, Below.refl _ _, fun t ht => absurd ht (by omega)⟩
  case round =>
    obtain ⟨i, hi, rfl, hb, I1⟩ := hrel
    by_cases hlt : i < l.length
    · obtain ⟨g, rfl, r⟩ : ∃ g, a = some ⟨g, 0, none⟩ ∧ Rb g cap l wr := by
        rcases unhide H with ⟨_, rfl⟩ | ⟨g, cap', e, _, r⟩
        · simp at hlt
        · injection e with e1 _ e2
          subst e1 e2
          exact ⟨g, rfl, r.next hb⟩
      obtain ⟨x, hx⟩ : ∃ x, x = l.getD i (0, 0) := ⟨_, rfl⟩
      have c1 : wr.cell? ⟨g, i * 2, none⟩ = some (.int .i64 x.1) := by rw [hx]; exact r.fst (by omega)
      have c2 : wr.cell? ⟨g, i * 2 + 1, none⟩ = some (.int .i64 x.2) := by rw [hx]; exact r.snd (by omega)
      have Hx := hide hx
      have R := hide r
      clear hx r
      go_wp2_with fail
      refine (unhide HC x _ hb).mono ?_
      rintro e w' ⟨rfl, hb'⟩
      have HB := hide (below_then hb hb')
      clear hb hb' c1 c2
      cases hk : p x
      · have Hk := hide hk
        clear hk
        go_wp2
        go_roundw
        case rel => exact ⟨i + 1, by omega, by go_num, unhide HB, fun t ht => by
          rcases (show t < i ∨ t = i by omega) with h | rfl
          · exact unhide I1 t h
          · rw [← unhide Hx]; exact unhide Hk⟩
        case measure => simp [intOf]; omega
      · have Hk := hide hk
        clear hk
        go_wp2
        go_ret
        exact ⟨by rw [idx_at hlt (unhide I1) (by rw [← unhide Hx]; exact unhide Hk)]; rfl, unhide HB⟩
    · have HB := hide hb
      clear hb
      go_wp2
      go_ret
      exact ⟨by rw [idx_none (fun t ht => unhide I1 t (by omega))]; rfl, unhide HB⟩

set_option maxRecDepth 100000 in
set_option maxHeartbeats 1000000 in
theorem index56_any (p : En → Bool) (pt : Addr) {B : Nat} {v : Value} {l : List En} (w : World) (h : Es B v l w) (hn : l.length < 1000000)
    (hc : ∀ x wr, Below w.heap.size w wr → Calls Tryz.prog 110 #[.agg #[.int .i64 x.1, .int .i64 x.2], .pointer (some pt)] wr fun e w' => e = .returned (.bool (p x)) ∧ Below wr.heap.size wr w') :
    Calls Tryz.prog 115 #[v, .func (.func 110) #[] #[.pointer (some pt)]] w fun e w' => e = .returned (.int .i64 (idxD p l)) ∧ Below w.heap.size w w' := by
  have H := hide h
  have HC := hide hc
  clear hc
  have hv : ∃ a cap, v = .slice a l.length cap := by
    rcases h with ⟨rfl, rfl⟩ | ⟨g, cap, rfl, _, _⟩
    · exact ⟨none, 0, rfl⟩
    · exact ⟨_, cap, rfl⟩
  obtain ⟨a, cap, rfl⟩ := hv
  clear h
  go_enter Tryz.func115, Tryz.ntmps115
  go_wp2
  go_loopw [8] (fun s8 wr => ∃ i : Nat, i ≤ l.length ∧ s8 = .int .i64 i ∧ Below w.heap.size w wr ∧ Hid (∀ t, t < i → p (l.getD t (0, 0)) = false)) (fun s8 _ => l.length - (intOf s8).toNat)
  case atStart => exact ⟨0, Nat.zero_le _, rfl, Below.refl _ _, fun t ht => absurd ht (by omega)⟩
  case round =>
    obtain ⟨i, hi, rfl, hb, I1⟩ := hrel
    by_cases hlt : i < l.length
    · obtain ⟨g, rfl, r⟩ : ∃ g, a = some ⟨g, 0, none⟩ ∧ Rb g cap l wr := by
        rcases unhide H with ⟨_, rfl⟩ | ⟨g, cap', e, _, r⟩
        · simp at hlt
        · injection e with e1 _ e2
          subst e1 e2
          exact ⟨g, rfl, r.next hb⟩
      obtain ⟨x, hx⟩ : ∃ x, x = l.getD i (0, 0) := ⟨_, rfl⟩
      have c1 : wr.cell? ⟨g, i * 2, none⟩ = some (.int .i64 x.1) := by rw [hx]; exact r.fst (by omega)
      have c2 : wr.cell? ⟨g, i * 2 + 1, none⟩ = some (.int .i64 x.2) := by rw [hx]; exact r.snd (by omega)
      have Hx := hide hx
      have R := hide r
      clear hx r
      go_wp2_with fail
      refine (unhide HC x _ hb).mono ?_
      rintro e w' ⟨rfl, hb'⟩
      have HB := hide (below_then hb hb')
      clear hb hb' c1 c2
      cases hk : p x
      · have Hk := hide hk
        clear hk
        go_wp2
        go_roundw
        case rel => exact ⟨i + 1, by omega, by go_num, unhide HB, fun t ht => by
          rcases (show t < i ∨ t = i by omega) with h | rfl
          · exact unhide I1 t h
          · rw [← unhide Hx]; exact unhide Hk⟩
        case measure => simp [intOf]; omega
      · have Hk := hide hk
        clear hk
        go_wp2
        go_ret
        exact ⟨by rw [idx_at hlt (unhide I1) (by rw [← unhide Hx]; exact unhide Hk)]; rfl, unhide HB⟩
    · have HB := hide hb
      clear hb
      go_wp2
      go_ret
      exact ⟨by rw [idx_none (fun t ht => unhide I1 t (by omega))]; rfl, unhide HB⟩

/-- Is it who? -/
def isWho (k : Int) (x : En) : Bool := x.1 == k
set_option maxRecDepth 100000 in
theorem place1_any (x : En) (k : Int) (b : Nat) (w : World) (hk : w.cell? ⟨b, 0, none⟩ = some (.int .i64 k)) (hbl : b < w.heap.size) : Calls Tryz.prog 116 #[.agg #[.int .i64 x.1, .int .i64 x.2], .pointer (some ⟨b, 0, none⟩)] w fun e w' => e = .returned (.bool (isWho k x)) ∧ Below w.heap.size w w' := by
  have hk2 : ∀ o, (w.alloc o).cell? ⟨b, 0, none⟩ = some (.int .i64 k) := fun o => ((below_new w o).cell (p := ⟨b, 0, none⟩) hbl).trans hk
  clear hk
  go_enter Tryz.func116, Tryz.ntmps116
  go_wp2
  go_ret
  exact ⟨rfl, below_new w _⟩
/-- x, that holds, is another one than y's and holds what y does not fit with. -/
def hindD (x y : En) : Bool := (x.1 != y.1) && !fitsB y.2 x.2
set_option maxRecDepth 100000 in
theorem hinders_any (x y : En) (w : World) : Calls Tryz.prog 111 #[.agg #[.int .i64 x.1, .int .i64 x.2], .agg #[.int .i64 y.1, .int .i64 y.2]] w fun e w' => e = .returned (.bool (hindD x y)) ∧ Below w.heap.size w w' := by
  unfold hindD
  cases hne : (x.1 != y.1)
  · go_enter Tryz.func111, Tryz.ntmps111
    go_wp2
    go_ret
    exact ⟨rfl, below_add (below_new w _) _⟩
  · go_enter Tryz.func111, Tryz.ntmps111
    go_wp2_with fail
    refine (fits_any y.2 x.2 _).mono ?_
    rintro e w' ⟨rfl, hb⟩
    have HB := hide hb
    clear hb
    go_wp2
    go_ret
    exact ⟨rfl, below_then (below_add (below_new w _) _) (unhide HB)⟩
set_option maxRecDepth 100000 in
theorem fits1_any (x y : En) (b : Nat) (w : World) (h1 : w.cell? ⟨b, 0, none⟩ = some (.int .i64 y.1)) (h2 : w.cell? ⟨b, 1, none⟩ = some (.int .i64 y.2)) (hbl : b < w.heap.size) : Calls Tryz.prog 110 #[.agg #[.int .i64 x.1, .int .i64 x.2], .pointer (some ⟨b, 0, none⟩)] w fun e w' => e = .returned (.bool (hindD x y)) ∧ Below w.heap.size w w' := by
  have k1 : ∀ o, (w.alloc o).cell? ⟨b, 0, none⟩ = some (.int .i64 y.1) := fun o => ((below_new w o).cell (p := ⟨b, 0, none⟩) hbl).trans h1
  have k2 : ∀ o, (w.alloc o).cell? ⟨b, 1, none⟩ = some (.int .i64 y.2) := fun o => ((below_new w o).cell (p := ⟨b, 1, none⟩) hbl).trans h2
  clear h1 h2
  go_enter Tryz.func110, Tryz.ntmps110
  go_wp2_with fail
  refine (hinders_any x y _).mono ?_
  rintro e w' ⟨rfl, hb⟩
  have HB := hide hb
  clear hb
  go_wp2
  go_ret
  exact ⟨rfl, below_then (below_new w _) (unhide HB)⟩
set_option maxRecDepth 100000 in
theorem contains56_any (y : En) (b : Nat) {B : Nat} {v : Value} {l : List En} (w : World) (h : Es B v l w) (hn : l.length < 1000000) (h1 : w.cell? ⟨b, 0, none⟩ = some (.int .i64 y.1)) (h2 : w.cell? ⟨b, 1, none⟩ = some (.int .i64 y.2)) (hbl : b < w.heap.size) :
    Calls Tryz.prog 109 #[v, .func (.func 110) #[] #[.pointer (some ⟨b, 0, none⟩)]] w fun e w' => e = .returned (.bool (l.any (fun x => hindD x y))) ∧ Below w.heap.size w w' := by
  have C := index56_any (fun x => hindD x y) ⟨b, 0, none⟩ w h hn (fun x wr hb => fits1_any x y b wr ((hb.cell (p := ⟨b, 0, none⟩) hbl).trans h1) ((hb.cell (p := ⟨b, 1, none⟩) hbl).trans h2) (Nat.lt_of_lt_of_le hbl hb.size))
  have HC := hide C
  clear C h1 h2 h
  go_enter Tryz.func109, Tryz.ntmps109
  go_wp2_with fail
  refine (unhide HC).mono ?_
  rintro e w' ⟨rfl, hb⟩
  have HB := hide hb
  clear hb
  have HG := hide (idx_ge (fun x => hindD x y) l)
  generalize idxD (fun x => hindD x y) l = i at HG ⊢
  go_wp2
  go_ret
  exact ⟨ret_bool (unhide HG), unhide HB⟩
end Go.Proofs.YtgiklggnolbiiaaGreat

/- A lane as it lies in memory; what only reads it. -/
namespace Go.Proofs.YtgiklggnolbiiaaGreat
open Go.RowKit

/-- The lane in block b: those that hold are H (the slice hv), those that wait Q (qv); all of it at or above B. -/
structure La (B : Nat) (H Q : List En) (b : Nat) (hv qv : Value) (w : World) : Prop where
  blk : w.heap[b]? = some (.cells #[hv, qv] 96 (0, 0))
  hr : Es B hv H w
  qr : Es B qv Q w
  dq : ∀ k, hv.ownBlock = some k → qv.ownBlock ≠ some k
  bB : B ≤ b
  srt : Srt H
/-- Only the lane's own blocks are turned; its rows lie where they lay, or in new memory. -/
structure Mv (b : Nat) (hv qv hv' qv' : Value) (w w' : World) : Prop where
  os : w'.os = w.os
  tape : w'.tape = w.tape
  output : w'.output = w.output
  size : w.heap.size ≤ w'.heap.size
  block : ∀ k, k < w.heap.size → k ≠ b → hv.ownBlock ≠ some k → qv.ownBlock ≠ some k → w'.heap[k]? = w.heap[k]?
  ha : At hv hv' w.heap.size
  qa : At qv qv' w.heap.size
theorem At.refl (v : Value) (N : Nat) : At v v N := fun _ hk => .inl hk
theorem At.trans {v v' v'' : Value} {N M : Nat} (h : At v v' N) (k : At v' v'' M) (hNM : N ≤ M) : At v v'' N := fun j hj => by
  rcases k j hj with h1 | h1
  · exact h j h1
  · exact .inr (by omega)
namespace Mv
variable {b : Nat} {hv qv hv' qv' hv'' qv'' : Value} {w w' w'' : World}
theorem of_below (h : Below w.heap.size w w') : Mv b hv qv hv qv w w' := ⟨h.os, h.tape, h.output, h.size, fun k hk _ _ _ => h.block k hk, At.refl _ _, At.refl _ _⟩
theorem trans (h : Mv b hv qv hv' qv' w w') (k : Mv b hv' qv' hv'' qv'' w' w'') : Mv b hv qv hv'' qv'' w w'' :=
  ⟨k.os.trans h.os, k.tape.trans h.tape, k.output.trans h.output, Nat.le_trans h.size k.size,
   fun i hi h1 h2 h3 => (k.block i (Nat.lt_of_lt_of_le hi h.size) h1 (fun e => by rcases h.ha i e with h4 | h4; exact h2 h4; omega) (fun e => by rcases h.qa i e with h4 | h4; exact h3 h4; omega)).trans (h.block i hi h1 h2 h3),
   h.ha.trans k.ha h.size, h.qa.trans k.qa h.size⟩
theorem then_ (h : Mv b hv qv hv' qv' w w') (k : Below w'.heap.size w' w'') : Mv b hv qv hv' qv' w w'' := h.trans (of_below k)
theorem below (h : Mv b hv qv hv' qv' w w') {B : Nat} {H Q : List En} (l : La B H Q b hv qv w) : Below B w w' := by
  refine ⟨h.os, h.tape, h.output, h.size, fun k hk => h.block k ?_ ?_ ?_ ?_⟩
  · have h1 := l.bB
    have h2 := heap_lt l.blk
    omega
  · have h1 := l.bB
    omega
  · intro e
    have h1 := (l.hr.lt k e).1
    omega
  · intro e
    have h1 := (l.qr.lt k e).1
    omega
end Mv
namespace La
variable {B : Nat} {H Q : List En} {b : Nat} {hv qv : Value} {w w' : World}
theorem lt (h : La B H Q b hv qv w) : b < w.heap.size := heap_lt h.blk
theorem low (h : La B H Q b hv qv w) : B ≤ w.heap.size := Nat.le_of_lt (Nat.lt_of_le_of_lt h.bB h.lt)
theorem next (h : La B H Q b hv qv w) (k : Below w.heap.size w w') : La B H Q b hv qv w' := ⟨(k.block b h.lt).trans h.blk, h.hr.next k, h.qr.next k, h.dq, h.bB, h.srt⟩
theorem drew (h : La B H Q b hv qv w) : La B H Q b hv qv w.drew := h.next ⟨rfl, rfl, rfl, Nat.le_refl _, fun _ _ => rfl⟩
theorem c0 (h : La B H Q b hv qv w) : w.cell? ⟨b, 0, none⟩ = some hv := by have := h.blk; simp [World.cell?, this]
theorem c1 (h : La B H Q b hv qv w) : w.cell? ⟨b, 1, none⟩ = some qv := by have := h.blk; simp [World.cell?, this]
theorem free (h : La B H Q b hv qv w) (k : Nat) : w.frozen? ⟨b, k, none⟩ = false := by have := h.blk; simp [World.frozen?, this]
end La

/-- What k has in l: 0, if nothing. -/
def lookD (k : Int) : List En → Int
  | [] => 0
  | p :: r => if p.1 == k then p.2 else lookD k r
theorem look_no {k : Int} : ∀ {l : List En}, hasD k l = false → lookD k l = 0
  | [], _ => rfl
  | p :: r, h => by
    unfold hasD at h
    rw [List.any_cons, Bool.or_eq_false_iff] at h
    unfold lookD
    rw [h.1]
    exact look_no (l := r) h.2
theorem look_at {k : Int} : ∀ {l : List En} {i : Nat}, i < l.length → (∀ t, t < i → isWho k (l.getD t (0, 0)) = false) → isWho k (l.getD i (0, 0)) = true → (l.getD i (0, 0)).2 = lookD k l
  | [], i, h, _, _ => by simp at h
  | p :: r, 0, _, _, h => by
    have h2 : (p.1 == k) = true := h
    unfold lookD
    rw [h2]; rfl
  | p :: r, i + 1, hi, h1, h2 => by
    have h0 : (p.1 == k) = false := h1 0 (by omega)
    unfold lookD
    rw [h0]
    exact look_at (l := r) (i := i) (by simpa using hi) (fun t ht => by simpa using h1 (t + 1) (by omega)) (by simpa using h2)
theorem look_idx {k : Int} {l : List En} : (hasD k l = false ∧ idxD (isWho k) l = -1) ∨ ∃ i : Nat, i < l.length ∧ hasD k l = true ∧ idxD (isWho k) l = (i : Int) ∧ (l.getD i (0, 0)).1 = k ∧ (l.getD i (0, 0)).2 = lookD k l := by
  have e : hasD k l = l.any (isWho k) := rfl
  cases ha : hasD k l
  · refine .inl ⟨rfl, ?_⟩
    rw [e] at ha
    unfold idxD
    rw [ha]; rfl
  · have ha2 := ha
    rw [e] at ha
    have hi : l.findIdx (isWho k) < l.length := by
      rw [List.findIdx_lt_length]
      simpa using ha
    refine .inr ⟨l.findIdx (isWho k), hi, rfl, by unfold idxD; rw [ha]; rfl, ?_, ?_⟩
    · have := List.findIdx_getElem (w := hi)
      simpa [isWho, List.getD, hi] using this
    · refine look_at hi (fun t ht => ?_) ?_
      · have := List.not_of_lt_findIdx ht
        simpa [List.getD, show t < l.length by omega] using this
      · have := List.findIdx_getElem (w := hi)
        simpa [List.getD, hi] using this
theorem look_pos {k : Int} {l : List En} (hs : Srt l) (h : hasD k l = true) : posD k l < l.length ∧ (l.getD (posD k l) (0, 0)).1 = k ∧ (l.getD (posD k l) (0, 0)).2 = lookD k l := by
  rcases look_idx (k := k) (l := l) with ⟨h1, _⟩ | ⟨i, hi, _, _, e1, e2⟩
  · rw [h] at h1; cases h1
  · have : posD k l = i := posD_eq k l i (by omega) (fun j hj => by rw [← e1]; exact srt_lt hs hj hi) (fun _ => by rw [e1]; exact Int.le_refl _)
    rw [this]
    exact ⟨hi, e1, e2⟩

theorem slice_form {B : Nat} {v : Value} {l : List En} {w : World} (h : Es B v l w) : ∃ a cap, v = .slice a l.length cap := by
  rcases h with ⟨rfl, rfl⟩ | ⟨g, cap, rfl, _, _⟩
  · exact ⟨none, 0, rfl⟩
  · exact ⟨_, cap, rfl⟩
variable {B : Nat} {H Q : List En} {b : Nat} {hv qv : Value}
set_option maxRecDepth 100000 in
theorem holder_any (w : World) (h : La B H Q b hv qv w) (hn : H.length < 1000000) (k : Int) :
    Calls Tryz.prog 86 #[.pointer (some ⟨b, 0, none⟩), .int .i64 k] w fun e w' => e = .returned (.tuple #[.int .i64 (posD k H : Nat), .bool (hasD k H)]) ∧ Below w.heap.size w w' := by
  have C := hide (search_any w h.hr h.srt k hn)
  have c0 := h.c0
  have HL := hide h
  clear h
  go_enter Tryz.func86, Tryz.ntmps86
  go_wp2_with fail
  refine (unhide C).mono ?_
  rintro e w' ⟨rfl, hb⟩
  have HB := hide hb
  clear hb
  go_wp2
  go_ret2
  exact ⟨rfl, unhide HB⟩
set_option maxRecDepth 100000 in
theorem holds_any (w : World) (h : La B H Q b hv qv w) (hn : H.length < 1000000) (k : Int) :
    Calls Tryz.prog 47 #[.pointer (some ⟨b, 0, none⟩), .int .i64 k] w fun e w' => e = .returned (.int .i64 (lookD k H)) ∧ Below w.heap.size w w' := by
  have HL := hide h
  cases hh : hasD k H
  · have e0 := hide (look_no hh)
    have hh2 := hide hh
    clear hh h
    go_enter Tryz.func47, Tryz.ntmps47
    go_wp2_with fail
    refine (holder_any w (unhide HL) hn k).mono ?_
    rw [unhide hh2]
    rintro e w' ⟨rfl, hb⟩
    have HB := hide hb
    clear hb
    go_wp2
    go_ret
    exact ⟨by rw [unhide e0]; rfl, unhide HB⟩
  · obtain ⟨p1, p2, p3⟩ := look_pos h.srt hh
    rcases h.hr with ⟨_, rfl⟩ | ⟨g, cap, rfl, _, r⟩
    · simp at p1
    have hh2 := hide hh
    have P3 := hide p3
    have P2 := hide p2
    have R := hide r
    clear hh h r p2 p3
    go_enter Tryz.func47, Tryz.ntmps47
    go_wp2_with fail
    refine (holder_any w (unhide HL) hn k).mono ?_
    rw [unhide hh2]
    rintro e w' ⟨rfl, hb⟩
    have c0 := ((unhide HL).next hb).c0
    have c2 := ((unhide R).next hb).snd p1
    rw [unhide P3] at c2
    have HB := hide hb
    clear hb
    generalize posD k H = i at *
    generalize H.length = n at *
    go_wp2
    go_ret
    exact ⟨rfl, unhide HB⟩
set_option maxRecDepth 100000 in
theorem place_any (w : World) (h : La B H Q b hv qv w) (hn : Q.length < 1000000) (k : Int) :
    Calls Tryz.prog 88 #[.pointer (some ⟨b, 0, none⟩), .int .i64 k] w fun e w' => e = .returned (.int .i64 (idxD (isWho k) Q)) ∧ Below w.heap.size w w' := by
  have HL := hide h
  have C : Hid (Calls Tryz.prog 115 #[qv, .func (.func 116) #[] #[.pointer (some ⟨w.heap.size, 0, none⟩)]] (w.alloc (.cells #[.int .i64 k] 3)) fun e w' => e = .returned (.int .i64 (idxD (isWho k) Q)) ∧ Below (w.alloc (.cells #[.int .i64 k] 3)).heap.size (w.alloc (.cells #[.int .i64 k] 3)) w') := by
    have hnew : (w.alloc (.cells #[.int .i64 k] 3)).cell? ⟨w.heap.size, 0, none⟩ = some (.int .i64 k) := by rw [World.cell?_alloc_new]; rfl
    have hlt : w.heap.size < (w.alloc (.cells #[.int .i64 k] 3)).heap.size := by simp
    exact index62_any (isWho k) ⟨w.heap.size, 0, none⟩ _ (h.next (below_new w _)).qr hn (fun x wr hb => place1_any x k w.heap.size wr ((hb.cell (p := ⟨w.heap.size, 0, none⟩) hlt).trans hnew) (Nat.lt_of_lt_of_le hlt hb.size))
  have c1 : ∀ o, (w.alloc o).cell? ⟨b, 1, none⟩ = some qv := fun o => (h.next (below_new w o)).c1
  clear h
  go_enter Tryz.func88, Tryz.ntmps88
  go_wp2_with fail
  refine (unhide C).mono ?_
  rintro e w' ⟨rfl, hb⟩
  have HB := hide (below_then (below_new w _) hb)
  clear hb
  go_wp2
  go_ret
  exact ⟨rfl, unhide HB⟩
set_option maxRecDepth 100000 in
theorem waits_any (w : World) (h : La B H Q b hv qv w) (hn : Q.length < 1000000) (k : Int) :
    Calls Tryz.prog 45 #[.pointer (some ⟨b, 0, none⟩), .int .i64 k] w fun e w' => e = .returned (.int .i64 (lookD k Q)) ∧ Below w.heap.size w w' := by
  have HL := hide h
  rcases look_idx (k := k) (l := Q) with ⟨e1, e2⟩ | ⟨i, p1, _, e2, _, e4⟩
  · have E0 := hide (look_no e1)
    have E2 := hide e2
    clear e1 e2 h
    go_enter Tryz.func45, Tryz.ntmps45
    go_wp2_with fail
    refine (place_any w (unhide HL) hn k).mono ?_
    rw [unhide E2]
    rintro e w' ⟨rfl, hb⟩
    have HB := hide hb
    clear hb
    go_wp2
    go_ret
    exact ⟨by rw [unhide E0]; rfl, unhide HB⟩
  · rcases h.qr with ⟨_, rfl⟩ | ⟨g, cap, rfl, _, r⟩
    · simp at p1
    have E2 := hide e2
    have E4 := hide e4
    have R := hide r
    clear e2 e4 h r
    go_enter Tryz.func45, Tryz.ntmps45
    go_wp2_with fail
    refine (place_any w (unhide HL) hn k).mono ?_
    rw [unhide E2]
    rintro e w' ⟨rfl, hb⟩
    have c1 := ((unhide HL).next hb).c1
    have c2 := ((unhide R).next hb).snd p1
    rw [unhide E4] at c2
    have HB := hide hb
    clear hb
    generalize Q.length = n at *
    go_wp2
    go_ret
    exact ⟨rfl, unhide HB⟩
/-- Does y go together with what each other one holds? -/
def fitsL (y : En) (l : List En) : Bool := !l.any (fun x => hindD x y)
set_option maxRecDepth 100000 in
theorem fits_lane (w : World) (h : La B H Q b hv qv w) (hn : H.length < 1000000) (y : En) :
    Calls Tryz.prog 79 #[.pointer (some ⟨b, 0, none⟩), .agg #[.int .i64 y.1, .int .i64 y.2]] w fun e w' => e = .returned (.bool (fitsL y H)) ∧ Below w.heap.size w w' := by
  have HL := hide h
  have C : Hid (Calls Tryz.prog 109 #[hv, .func (.func 110) #[] #[.pointer (some ⟨w.heap.size, 0, none⟩)]] (w.alloc (.cells #[.int .i64 y.1, .int .i64 y.2] 92)) fun e w' => e = .returned (.bool (H.any (fun x => hindD x y))) ∧ Below (w.alloc (.cells #[.int .i64 y.1, .int .i64 y.2] 92)).heap.size (w.alloc (.cells #[.int .i64 y.1, .int .i64 y.2] 92)) w') :=
    contains56_any y w.heap.size _ (h.next (below_new w _)).hr hn (by rw [World.cell?_alloc_new]; rfl) (by rw [World.cell?_alloc_new]; rfl) (by simp)
  have c0 : ∀ o, (w.alloc o).cell? ⟨b, 0, none⟩ = some hv := fun o => (h.next (below_new w o)).c0
  clear h
  go_enter Tryz.func79, Tryz.ntmps79
  go_wp2_with fail
  refine (unhide C).mono ?_
  rintro e w' ⟨rfl, hb⟩
  have HB := hide (below_then (below_new w _) hb)
  clear hb
  go_wp2
  go_ret
  exact ⟨rfl, unhide HB⟩
end Go.Proofs.YtgiklggnolbiiaaGreat

/- A lane whose rows are written over. -/
namespace Go.Proofs.YtgiklggnolbiiaaGreat
open Go.RowKit

theorem set_other (w : World) (b j k : Nat) (v : Value) (h : k ≠ b) : (w.setCell ⟨b, j, none⟩ v).heap[k]? = w.heap[k]? := Deep.blk_setCell_other _ _ _ _ h
namespace La
variable {B : Nat} {H Q : List En} {b : Nat} {hv qv : Value} {w w' : World}
theorem ne_h (h : La B H Q b hv qv w) : hv.ownBlock ≠ some b := fun e => by
  obtain ⟨cur, hc⟩ := h.hr.ty b e
  rw [h.blk] at hc; cases hc
theorem ne_q (h : La B H Q b hv qv w) : qv.ownBlock ≠ some b := fun e => by
  obtain ⟨cur, hc⟩ := h.qr.ty b e
  rw [h.blk] at hc; cases hc
theorem grown0 (h : La B H Q b hv qv w) (hg : w.grownBy w' hv.ownBlock) : w'.heap[b]? = some (.cells #[hv, qv] 96 (0, 0)) := (hg.block b h.lt (fun e => h.ne_h e.symm)).trans h.blk
theorem grown1 (h : La B H Q b hv qv w) (hg : w.grownBy w' qv.ownBlock) : w'.heap[b]? = some (.cells #[hv, qv] 96 (0, 0)) := (hg.block b h.lt (fun e => h.ne_q e.symm)).trans h.blk
theorem put0 (h : La B H Q b hv qv w) {v : Value} {H' : List En} (hg : w.grownBy w' hv.ownBlock) (he : Es B v H' w') (ha : At hv v w.heap.size) (hs : Srt H') : La B H' Q b v qv (w'.setCell ⟨b, 0, none⟩ v) ∧ Mv b hv qv v qv w (w'.setCell ⟨b, 0, none⟩ v) := by
  have hb := h.grown0 hg
  have nv : v.ownBlock ≠ some b := fun e => by
    obtain ⟨cur, hc⟩ := he.ty b e
    rw [hb] at hc; cases hc
  refine ⟨⟨?_, ?_, ?_, ?_, h.bB, hs⟩, ⟨hg.os, hg.tape, hg.output, ?_, ?_, ha, At.refl _ _⟩⟩
  · show (w'.heap.modify b _)[b]? = _
    rw [Array.getElem?_modify, if_pos rfl, hb]; rfl
  · exact he.keep fun k hk => set_other _ _ _ _ _ (fun e => nv (by rw [← e]; exact hk))
  · exact (h.qr.keep fun k hk => hg.block k (h.qr.lt k hk).2 (fun e => h.dq k e.symm hk)).keep fun k hk => set_other _ _ _ _ _ (fun e => h.ne_q (by rw [← e]; exact hk))
  · intro k hk hk2
    rcases ha k hk with h1 | h1
    · exact h.dq k h1 hk2
    · have := (h.qr.lt k hk2).2; omega
  · show w.heap.size ≤ (w'.heap.modify b _).size
    rw [Array.size_modify]; exact hg.size
  · intro k hk h1 h2 h3
    exact (set_other _ _ _ _ _ h1).trans (hg.block k hk (fun e => h2 e.symm))
theorem put1 (h : La B H Q b hv qv w) {v : Value} {Q' : List En} (hg : w.grownBy w' qv.ownBlock) (he : Es B v Q' w') (ha : At qv v w.heap.size) : La B H Q' b hv v (w'.setCell ⟨b, 1, none⟩ v) ∧ Mv b hv qv hv v w (w'.setCell ⟨b, 1, none⟩ v) := by
  have hb := h.grown1 hg
  have nv : v.ownBlock ≠ some b := fun e => by
    obtain ⟨cur, hc⟩ := he.ty b e
    rw [hb] at hc; cases hc
  refine ⟨⟨?_, ?_, ?_, ?_, h.bB, h.srt⟩, ⟨hg.os, hg.tape, hg.output, ?_, ?_, At.refl _ _, ha⟩⟩
  · show (w'.heap.modify b _)[b]? = _
    rw [Array.getElem?_modify, if_pos rfl, hb]; rfl
  · exact (h.hr.keep fun k hk => hg.block k (h.hr.lt k hk).2 (fun e => h.dq k hk e.symm)).keep fun k hk => set_other _ _ _ _ _ (fun e => h.ne_h (by rw [← e]; exact hk))
  · exact he.keep fun k hk => set_other _ _ _ _ _ (fun e => nv (by rw [← e]; exact hk))
  · intro k hk hk2
    rcases ha k hk2 with h1 | h1
    · exact h.dq k hk h1
    · have := (h.hr.lt k hk).2; omega
  · show w.heap.size ≤ (w'.heap.modify b _).size
    rw [Array.size_modify]; exact hg.size
  · intro k hk h1 h2 h3
    exact (set_other _ _ _ _ _ h1).trans (hg.block k hk (fun e => h3 e.symm))
end La
theorem pairs_set : ∀ (l : List En) (i : Nat) (y : En), pairs (l.set i y) = ((pairs l).set (i * 2) (.int .i64 y.1)).set (i * 2 + 1) (.int .i64 y.2)
  | [], i, y => by simp [pairs]
  | p :: r, 0, y => rfl
  | p :: r, i + 1, y => by
    rw [show (i + 1) * 2 = i * 2 + 1 + 1 by omega]
    show Value.int .i64 p.1 :: Value.int .i64 p.2 :: pairs (r.set i y) = Value.int .i64 p.1 :: Value.int .i64 p.2 :: (((pairs r).set (i * 2) (.int .i64 y.1)).set (i * 2 + 1) (.int .i64 y.2))
    rw [pairs_set r i y]
theorem setc (w : World) {g i : Nat} {v : Value} {cur : Array Value} {t : TypeId} {fr : Nat × Nat} (h : w.heap[g]? = some (.cells cur t fr)) : (w.setCell ⟨g, i, none⟩ v).heap[g]? = some (.cells (cur.setIfInBounds i v) t fr) := by
  show (w.heap.modify g _)[g]? = _
  rw [Array.getElem?_modify, if_pos rfl, h]; rfl
theorem Rb.set {g cap : Nat} {l : List En} {w : World} (h : Rb g cap l w) (i : Nat) (y : En) : Rb g cap (l.set i y) ((w.setCell ⟨g, i * 2, none⟩ (.int .i64 y.1)).setCell ⟨g, i * 2 + 1, none⟩ (.int .i64 y.2)) := by
  obtain ⟨⟨cur, h, hs, e⟩, h1, h2⟩ := h
  refine ⟨⟨(cur.setIfInBounds (i * 2) (.int .i64 y.1)).setIfInBounds (i * 2 + 1) (.int .i64 y.2), ?_, ?_, ?_⟩, ?_, h2⟩
  · exact setc _ (setc _ h)
  · rw [Array.size_setIfInBounds, Array.size_setIfInBounds]; exact hs
  · rw [List.length_set, Array.toList_setIfInBounds, Array.toList_setIfInBounds, List.take_set, List.take_set, e, pairs_set]
  · rw [List.length_set]; exact h1
theorem At_row {g n cap n' cap' : Nat} {N : Nat} : At (.slice (some ⟨g, 0, none⟩) n cap) (.slice (some ⟨g, 0, none⟩) n' cap') N := fun _ hk => .inl hk
/-- y holds what it wants, in the stead of what it held. -/
def putD (y : En) (l : List En) : List En := if hasD y.1 l then l.set (posD y.1 l) y else l.take (posD y.1 l) ++ y :: l.drop (posD y.1 l)
theorem pos_below (k : Int) : ∀ {l : List En} {j : Nat}, j < posD k l → (l.getD j (0, 0)).1 < k
  | [], j, h => by simp [posD] at h
  | p :: r, j, h => by
    unfold posD at h
    split at h
    · rename_i hp
      cases j with
      | zero => simpa using hp
      | succ j => simpa using pos_below k (l := r) (j := j) (by omega)
    · omega
theorem pos_above (k : Int) : ∀ {l : List En}, posD k l < l.length → k ≤ (l.getD (posD k l) (0, 0)).1
  | [], h => by simp [posD] at h
  | p :: r, h => by
    unfold posD at h ⊢
    split at h
    · rename_i hp
      simp only [hp, if_true]
      have := pos_above k (l := r) (by simpa using h)
      simpa using this
    · rename_i hp
      simp only [hp, if_false]
      simpa using hp
theorem srt_put {y : En} {l : List En} (h : Srt l) : Srt (putD y l) := by
  unfold putD Srt
  split
  · rename_i hh
    obtain ⟨p1, p2, _⟩ := look_pos h hh
    rw [List.pairwise_iff_getElem]
    intro i j hi hj hij
    rw [List.length_set] at hi hj
    have hlt := srt_lt h hij hj
    simp only [List.getD, List.getElem?_eq_getElem hi, List.getElem?_eq_getElem hj, Option.getD_some] at hlt
    simp only [List.getD, List.getElem?_eq_getElem p1, Option.getD_some] at p2
    rw [List.getElem_set, List.getElem_set]
    split <;> split
    · omega
    · rename_i a _; subst a; omega
    · rename_i _ a; subst a; omega
    · exact hlt
  · rename_i hh
    have hle := posD_le y.1 l
    have hno : ∀ t, (ht : t < l.length) → l[t].1 ≠ y.1 := by
      intro t ht e
      exact hh (has_yes' ht (by simpa [List.getD, ht] using e))
    rw [List.pairwise_append]
    refine ⟨h.sublist (List.take_sublist _ _), ?_, ?_⟩
    · rw [List.pairwise_cons]
      refine ⟨fun x hx => ?_, h.sublist (List.drop_sublist _ _)⟩
      obtain ⟨j, hj, rfl⟩ := List.getElem_of_mem hx
      rw [List.length_drop] at hj
      rw [List.getElem_drop]
      have hp : posD y.1 l < l.length := by omega
      have ha := pos_above y.1 hp
      have hn := hno (posD y.1 l + j) (by omega)
      by_cases e : j = 0
      · subst e
        simp only [List.getD, List.getElem?_eq_getElem hp, Option.getD_some] at ha
        simp only [Nat.add_zero] at hn ⊢
        omega
      · have hlt := srt_lt h (show posD y.1 l < posD y.1 l + j by omega) (by omega)
        simp only [List.getD, List.getElem?_eq_getElem (show posD y.1 l + j < l.length by omega), Option.getD_some] at hlt ha
        omega
    · intro a ha x hx
      have h1 : a.1 < y.1 := by
        obtain ⟨j, hj, rfl⟩ := List.getElem_of_mem ha
        rw [List.length_take] at hj
        rw [List.getElem_take]
        have := pos_below y.1 (l := l) (j := j) (by omega)
        simpa [List.getD, show j < l.length by omega] using this
      rcases List.mem_cons.1 hx with rfl | hx
      · exact h1
      · obtain ⟨j, hj, rfl⟩ := List.getElem_of_mem hx
        rw [List.length_drop] at hj
        rw [List.getElem_drop]
        have hp : posD y.1 l < l.length := by omega
        have ha := pos_above y.1 hp
        by_cases e : j = 0
        · subst e
          simp only [List.getD, List.getElem?_eq_getElem hp, Option.getD_some] at ha
          simp only [Nat.add_zero]
          omega
        · have hlt := srt_lt h (show posD y.1 l < posD y.1 l + j by omega) (by omega)
          simp only [List.getD, List.getElem?_eq_getElem (show posD y.1 l + j < l.length by omega), Option.getD_some] at hlt ha
          omega
theorem put_len (y : En) (l : List En) : (putD y l).length ≤ l.length + 1 := by
  unfold putD
  split
  · rw [List.length_set]; omega
  · rw [ins_len l _ y (posD_le _ _)]; omega
end Go.Proofs.YtgiklggnolbiiaaGreat

/- conversions, mayPass, hold, wait. -/
namespace Go.Proofs.YtgiklggnolbiiaaGreat
open Go.RowKit
variable {B : Nat} {H Q : List En} {b : Nat} {hv qv : Value}

/-- How many of those that wait, from the first on, hold something. -/
def convD (H : List En) : List En → Nat
  | [] => 0
  | x :: r => if lookD x.1 H == 0 then 0 else convD H r + 1
theorem conv_at (H : List En) : ∀ (l : List En) (i : Nat), i < l.length → (∀ t, t < i → (lookD (l.getD t (0, 0)).1 H == 0) = false) → (lookD (l.getD i (0, 0)).1 H == 0) = true → convD H l = i
  | [], i, h, _, _ => by simp at h
  | x :: r, 0, _, _, h => by
    have h2 : (lookD x.1 H == 0) = true := h
    unfold convD; rw [h2]; rfl
  | x :: r, i + 1, hi, h1, h2 => by
    have h0 : (lookD x.1 H == 0) = false := h1 0 (by omega)
    unfold convD
    rw [h0, conv_at H r i (by simpa using hi) (fun t ht => by simpa using h1 (t + 1) (by omega)) (by simpa using h2)]; rfl
theorem conv_all (H : List En) : ∀ (l : List En), (∀ t, t < l.length → (lookD (l.getD t (0, 0)).1 H == 0) = false) → convD H l = l.length
  | [], _ => rfl
  | x :: r, h1 => by
    have h0 : (lookD x.1 H == 0) = false := h1 0 (by simp)
    unfold convD
    rw [h0, conv_all H r (fun t ht => by simpa using h1 (t + 1) (by simpa using ht))]; rfl
theorem conv_le (H : List En) : ∀ l : List En, convD H l ≤ l.length
  | [] => Nat.le_refl _
  | x :: r => by
    have := conv_le H r
    unfold convD
    split <;> simp <;> omega
set_option maxRecDepth 100000 in
set_option maxHeartbeats 1000000 in
theorem conv_any (w : World) (h : La B H Q b hv qv w) (hH : H.length < 1000000) (hQ : Q.length < 1000000) :
    Calls Tryz.prog 108 #[.pointer (some ⟨b, 0, none⟩)] w fun e w' => e = .returned (.int .i64 (convD H Q : Nat)) ∧ Below w.heap.size w w' := by
  have c1 := h.c1
  obtain ⟨a, cap, rfl⟩ := slice_form h.qr
  have HL := hide h
  clear h
  go_enter Tryz.func108, Tryz.ntmps108
  go_wp2
  clear c1
  go_loopw [10] (fun s wr => ∃ i : Nat, i ≤ Q.length ∧ s = .int .i64 i ∧ Below w.heap.size w wr ∧ Hid (∀ t, t < i → (lookD (Q.getD t (0, 0)).1 H == 0) = false)) (fun s _ => Q.length - (intOf s).toNat)
  case atStart => exact ⟨0, Nat.zero_le _, rfl, Below.refl _ _, fun t ht => absurd ht (by omega)⟩
  case round =>
    obtain ⟨i, hi, rfl, hb, I1⟩ := hrel
    by_cases hlt : i < Q.length
    · obtain ⟨g, rfl, r⟩ : ∃ g, a = some ⟨g, 0, none⟩ ∧ Rb g cap Q wr := by
        rcases (unhide HL).qr with ⟨_, rfl⟩ | ⟨g, cap', e, _, r⟩
        · simp at hlt
        · injection e with e1 _ e2
          subst e1 e2
          exact ⟨g, rfl, r.next hb⟩
      obtain ⟨x, hx⟩ : ∃ x, x = Q.getD i (0, 0) := ⟨_, rfl⟩
      have c1 : wr.cell? ⟨g, i * 2, none⟩ = some (.int .i64 x.1) := by rw [hx]; exact r.fst (by omega)
      have c2 : wr.cell? ⟨g, i * 2 + 1, none⟩ = some (.int .i64 x.2) := by rw [hx]; exact r.snd (by omega)
      have Hx := hide hx
      clear hx r
      go_wp2_with fail
      refine (holds_any _ (((unhide HL).next hb).next (below_new wr _)) hH x.1).mono ?_
      rintro e w' ⟨rfl, hb'⟩
      have HB := hide (below_then hb (below_then (below_new wr _) hb'))
      clear hb hb' c1 c2
      cases hk : (lookD x.1 H == 0)
      · have Hk : Hid ((lookD (Q.getD i (0, 0)).1 H == 0) = false) := by rw [← unhide Hx]; exact hk
        generalize lookD x.1 H = y at hk ⊢
        go_wp2
        go_roundw
        case rel => exact ⟨i + 1, by omega, by go_num, unhide HB, fun t ht => by
          rcases (show t < i ∨ t = i by omega) with h | rfl
          · exact unhide I1 t h
          · exact unhide Hk⟩
        case measure => simp [intOf]; omega
      · have Hk := hide hk
        generalize lookD x.1 H = y at hk
        go_wp2
        go_ret
        exact ⟨by rw [conv_at H Q i hlt (unhide I1) (by rw [← unhide Hx]; exact unhide Hk)]; rfl, unhide HB⟩
    · have e0 := hide (conv_all H Q (fun t ht => unhide I1 t (by omega)))
      have c1 := ((unhide HL).next hb).c1
      have HB := hide hb
      clear hb
      go_wp2
      go_ret
      exact ⟨by rw [unhide e0]; rfl, unhide HB⟩
/-- May one that holds 'held' pass those that wait? -/
def passD (held : Int) (H Q : List En) : Bool := if held == 0 then Q.length == 0 else convD H Q == 0
theorem eqz (n : Nat) : ((n : Int) == 0) = (n == 0) := by
  by_cases h : n = 0
  · subst h; rfl
  · have h2 : ¬ ((n : Int) = 0) := by omega
    rw [beq_eq_false_iff_ne.2 h, beq_eq_false_iff_ne.2 h2]
set_option maxRecDepth 100000 in
theorem pass_any (w : World) (h : La B H Q b hv qv w) (hH : H.length < 1000000) (hQ : Q.length < 1000000) (held : Int) :
    Calls Tryz.prog 78 #[.pointer (some ⟨b, 0, none⟩), .int .i64 held] w fun e w' => e = .returned (.bool (passD held H Q)) ∧ Below w.heap.size w w' := by
  unfold passD
  cases he : (held == 0)
  · have HL := hide h
    clear h
    go_enter Tryz.func78, Tryz.ntmps78
    go_wp2_with fail
    refine (conv_any w (unhide HL) hH hQ).mono ?_
    rintro e w' ⟨rfl, hb⟩
    have HB := hide hb
    clear hb
    have hz := hide (eqz (convD H Q))
    go_wp2
    go_ret
    exact ⟨ret_bool (unhide hz), unhide HB⟩
  · have c1 := h.c1
    obtain ⟨a, cap, rfl⟩ := slice_form h.qr
    have HL := hide h
    clear h
    have hz := hide (eqz Q.length)
    go_enter Tryz.func78, Tryz.ntmps78
    go_wp2
    go_ret
    exact ⟨ret_bool (unhide hz), Below.refl _ _⟩
theorem box_new (w : World) (y : En) : (w.alloc (.cells #[.int .i64 y.1, .int .i64 y.2] 92)).heap[w.heap.size]? = some (.cells #[.int .i64 y.1, .int .i64 y.2] 92 (0, 0)) := heap_alloc_new w _
theorem box_cells {w : World} {p : Nat} {y : En} (h : w.heap[p]? = some (.cells #[.int .i64 y.1, .int .i64 y.2] 92 (0, 0))) : w.cell? ⟨p, 0, none⟩ = some (.int .i64 y.1) ∧ w.cell? ⟨p, 1, none⟩ = some (.int .i64 y.2) := by
  simp [World.cell?, h]
theorem La.same {w w' : World} (h : La B H Q b hv qv w) (e : w'.heap = w.heap) : La B H Q b hv qv w' :=
  ⟨by rw [e]; exact h.blk, h.hr.keep fun _ _ => by rw [e], h.qr.keep fun _ _ => by rw [e], h.dq, h.bB, h.srt⟩
theorem la_new {w w2 W : World} (h : La B H Q b hv qv w2) (hb : Below w.heap.size w w2) (y : En) (e : W.heap = (w2.alloc (.cells #[.int .i64 y.1, .int .i64 y.2] 92)).heap) (e1 : W.os = w2.os) (e2 : W.tape = w2.tape) (e3 : W.output = w2.output) :
    La B H Q b hv qv W ∧ W.heap[w2.heap.size]? = some (.cells #[.int .i64 y.1, .int .i64 y.2] 92 (0, 0)) ∧ Mv b hv qv hv qv w W ∧ hv.ownBlock ≠ some w2.heap.size ∧ qv.ownBlock ≠ some w2.heap.size := by
  have hn := below_new w2 (.cells #[.int .i64 y.1, .int .i64 y.2] 92)
  refine ⟨(h.next hn).same e, by rw [e]; exact box_new w2 y, ⟨e1.trans hb.os, e2.trans hb.tape, e3.trans hb.output, ?_, fun k hk _ _ _ => ?_, At.refl _ _, At.refl _ _⟩, fun e => ?_, fun e => ?_⟩
  · rw [e]; exact Nat.le_trans hb.size hn.size
  · rw [e]; exact (hn.block k (Nat.lt_of_lt_of_le hk hb.size)).trans (hb.block k hk)
  · have := (h.hr.lt _ e).2; omega
  · have := (h.qr.lt _ e).2; omega
theorem slice_form' {B : Nat} {v : Value} {l : List En} {w : World} (h : Es B v l w) : ∃ a n cap, v = .slice a n cap ∧ n = l.length := by
  obtain ⟨a, cap, rfl⟩ := slice_form h
  exact ⟨a, _, cap, rfl, rfl⟩
theorem box_set {w : World} {p : Nat} {y : En} (h : w.heap[p]? = some (.cells #[.int .i64 y.1, .int .i64 y.2] 92 (0, 0))) {b j : Nat} (hb : p ≠ b) (v : Value) : (w.setCell ⟨b, j, none⟩ v).cell? ⟨p, 0, none⟩ = some (.int .i64 y.1) ∧ (w.setCell ⟨b, j, none⟩ v).cell? ⟨p, 1, none⟩ = some (.int .i64 y.2) :=
  box_cells ((set_other w b j p v hb).trans h)
theorem La.over {g cap : Nat} {w : World} (h : La B H Q b (.slice (some ⟨g, 0, none⟩) H.length cap) qv w) (hB : B ≤ g) (r : Rb g cap H w) (i : Nat) (y : En) (hs : Srt (H.set i y)) :
    La B (H.set i y) Q b (.slice (some ⟨g, 0, none⟩) H.length cap) qv ((w.setCell ⟨g, i * 2, none⟩ (.int .i64 y.1)).setCell ⟨g, i * 2 + 1, none⟩ (.int .i64 y.2)) ∧
    Mv b (.slice (some ⟨g, 0, none⟩) H.length cap) qv (.slice (some ⟨g, 0, none⟩) H.length cap) qv w ((w.setCell ⟨g, i * 2, none⟩ (.int .i64 y.1)).setCell ⟨g, i * 2 + 1, none⟩ (.int .i64 y.2)) := by
  have hgb : b ≠ g := fun e => h.ne_h (by rw [e]; rfl)
  have far : ∀ k, k ≠ g → ((w.setCell ⟨g, i * 2, none⟩ (.int .i64 y.1)).setCell ⟨g, i * 2 + 1, none⟩ (.int .i64 y.2)).heap[k]? = w.heap[k]? := fun k hk => (set_other _ _ _ _ _ hk).trans (set_other _ _ _ _ _ hk)
  refine ⟨⟨(far b hgb).trans h.blk, .inr ⟨g, cap, by rw [List.length_set], hB, r.set i y⟩, h.qr.keep fun k hk => far k (fun e => h.dq k (by rw [e]; rfl) hk), h.dq, h.bB, hs⟩, ⟨rfl, rfl, rfl, ?_, fun k _ _ hk _ => far k (fun e => hk (by rw [e]; rfl)), At.refl _ _, At.refl _ _⟩⟩
  show w.heap.size ≤ ((w.setCell ⟨g, i * 2, none⟩ (.int .i64 y.1)).heap.modify g _).size
  rw [Array.size_modify]
  show w.heap.size ≤ (w.heap.modify g _).size
  rw [Array.size_modify]; exact Nat.le_refl _
set_option maxRecDepth 100000 in
set_option maxHeartbeats 2000000 in
theorem hold_new (w : World) (h : La B H Q b hv qv w) (hH : H.length < 999999) (y : En) (hh : hasD y.1 H = false) :
    Calls Tryz.prog 80 #[.pointer (some ⟨b, 0, none⟩), .agg #[.int .i64 y.1, .int .i64 y.2]] w fun e w' => e = .returned (.tuple #[]) ∧ ∃ hv', La B (putD y H) Q b hv' qv w' ∧ Mv b hv qv hv' qv w w' := by
  have HL := hide h
  have hbn := hide h.lt
  have hs := hide (srt_put (y := y) h.srt)
  have e0 : Hid (putD y H = H.take (posD y.1 H) ++ y :: H.drop (posD y.1 H)) := by show _ = _; unfold putD; rw [hh]; rfl
  have hh2 := hide hh
  clear hh h
  go_enter Tryz.func80, Tryz.ntmps80
  go_wp2_with fail
  refine (holder_any _ ((unhide HL).next (below_new w _)) (by omega) y.1).mono ?_
  rw [unhide hh2]
  rintro e w2 ⟨rfl, hb⟩
  have l2 := ((unhide HL).next (below_new w _)).next hb
  have hb2 := hide (below_then (below_new w _) hb)
  have bx : w2.heap[w.heap.size]? = some (.cells #[.int .i64 y.1, .int .i64 y.2] 92 (0, 0)) := (hb.block _ (by simp)).trans (box_new w y)
  obtain ⟨d0, d1⟩ := box_cells bx
  have c0 := l2.c0
  have ca : ∀ o, (w2.alloc o).cell? ⟨w.heap.size, 0, none⟩ = some (.int .i64 y.1) ∧ (w2.alloc o).cell? ⟨w.heap.size, 1, none⟩ = some (.int .i64 y.2) := fun o => box_cells (((below_new w2 o).block _ (heap_lt bx)).trans bx)
  have cb : ∀ o, (w2.alloc o).cell? ⟨b, 0, none⟩ = some hv := fun o => (l2.next (below_new w2 o)).c0
  have hp := posD_le y.1 H
  generalize posD y.1 H = i at *
  have hne : Hid (w.heap.size ≠ b) := fun e => Nat.lt_irrefl _ (by have := unhide hbn; rw [e] at this; exact this)
  have HW := hide (la_new (W := (w2.alloc (.cells #[.int .i64 y.1, .int .i64 y.2] 92)).drew) l2 (unhide hb2) y rfl rfl rfl rfl)
  have hbw := hide (heap_lt bx)
  have L2 := hide l2
  have Bx := hide bx
  clear l2 bx hb
  replace ca := hide ca
  go_wp2_with fail
  have ca0 := fun o => (unhide ca o).1
  have ca1 := fun o => (unhide ca o).2
  go_region_with (first | (go_at_call 112; refine Calls.mono (insert_any (B := B) _ (unhide HW).1.hr i hp y _ (unhide HW).2.1 (unhide HW).2.2.2.1 (unhide HW).1.low (by omega)) ?_; rintro e w4 ⟨v', rfl, es, gr, at4⟩; obtain ⟨a4, n4, cap4, rfl, hn4⟩ := slice_form' es; replace hn4 := hide hn4; have q0 := (unhide HW).1.grown0 gr; have m0 : w4.cell? ⟨b, 0, none⟩ = some hv := (by simp [World.cell?, q0]); have q1 : w4.heap[w.heap.size]? = some (.cells #[.int .i64 y.1, .int .i64 y.2] 92 (0, 0)) := ((gr.block _ (Nat.lt_of_lt_of_le (unhide hbw) (Nat.le_of_lt (heap_lt (unhide HW).2.1))) (fun e => Nat.lt_irrefl _ ((unhide HL).hr.lt _ e.symm).2)).trans (((below_new w2 _).block _ (unhide hbw)).trans (unhide Bx))); have m1 := (box_cells q1).1; have m2 := (box_cells q1).2; have m3 : w4.frozen? ⟨b, 0, none⟩ = false := (by simp [World.frozen?, q0]); have m4 := hide (box_set (j := 0) q1 (unhide hne)); have PT := hide ((unhide HW).1.put0 gr es at4 (by rw [← unhide e0]; exact unhide hs)); clear gr es at4 q0 q1))
  all_goals
    go_wp2
    go_end0
    exact ⟨rfl, _, by rw [unhide e0]; exact (unhide PT).1, (unhide HW).2.2.1.trans (unhide PT).2⟩
set_option maxRecDepth 100000 in
set_option maxHeartbeats 2000000 in
theorem hold_old (w : World) (h : La B H Q b hv qv w) (hH : H.length < 999999) (y : En) (hh : hasD y.1 H = true) :
    Calls Tryz.prog 80 #[.pointer (some ⟨b, 0, none⟩), .agg #[.int .i64 y.1, .int .i64 y.2]] w fun e w' => e = .returned (.tuple #[]) ∧ ∃ hv', La B (putD y H) Q b hv' qv w' ∧ Mv b hv qv hv' qv w w' := by
  obtain ⟨p1, _, _⟩ := look_pos h.srt hh
  rcases h.hr with ⟨_, rfl⟩ | ⟨g, cap, rfl, hBg, r⟩
  · simp at p1
  have HL := hide h
  have R := hide r
  have hs := hide (srt_put (y := y) h.srt)
  have e0 : Hid (putD y H = H.set (posD y.1 H) y) := by show _ = _; unfold putD; rw [hh]; rfl
  have hh2 := hide hh
  clear hh h r
  go_enter Tryz.func80, Tryz.ntmps80
  go_wp2_with fail
  refine (holder_any _ ((unhide HL).next (below_new w _)) (by omega) y.1).mono ?_
  rw [unhide hh2]
  rintro e w2 ⟨rfl, hb⟩
  have hb2 := hide (below_then (below_new w _) hb)
  have l2 := (unhide HL).next (unhide hb2)
  have r2 := (unhide R).next (unhide hb2)
  have bx : w2.heap[w.heap.size]? = some (.cells #[.int .i64 y.1, .int .i64 y.2] 92 (0, 0)) := (hb.block _ (by simp)).trans (box_new w y)
  obtain ⟨d0, d1⟩ := box_cells bx
  have c0 := l2.c0
  generalize posD y.1 H = i at *
  have f0 := r2.fst p1
  have f1 := r2.snd p1
  have z0 := r2.free (i * 2)
  have z1 := r2.free (i * 2 + 1)
  generalize (H.getD i (0, 0)).1 = x1 at f0
  generalize (H.getD i (0, 0)).2 = x2 at f1
  have L2 := hide l2
  have R2 := hide r2
  have Bx := hide bx
  clear l2 r2 bx hb
  go_wp2_with fail
  go_region
  go_wp2
  (try simp only [Exit.inBlock, Exit.then])
  refine bodyPost_ret (results_none rfl _ _ _) rfl ?_
  have hS : Srt (H.set i y) := by rw [← unhide e0]; exact unhide hs
  obtain ⟨k1, k2⟩ := La.over (unhide L2) hBg (unhide R2) i y hS
  exact ⟨rfl, _, by rw [unhide e0]; exact k1.drew, (Mv.of_below (unhide hb2)).trans (k2.then_ ((Below.refl _ _).drew))⟩
theorem hold_any (w : World) (h : La B H Q b hv qv w) (hH : H.length < 999999) (y : En) :
    Calls Tryz.prog 80 #[.pointer (some ⟨b, 0, none⟩), .agg #[.int .i64 y.1, .int .i64 y.2]] w fun e w' => e = .returned (.tuple #[]) ∧ ∃ hv', La B (putD y H) Q b hv' qv w' ∧ Mv b hv qv hv' qv w w' := by
  cases hh : hasD y.1 H
  · exact hold_new w h hH y hh
  · exact hold_old w h hH y hh
end Go.Proofs.YtgiklggnolbiiaaGreat

/- wait, grant. -/
namespace Go.Proofs.YtgiklggnolbiiaaGreat
open Go.RowKit
variable {B : Nat} {H Q : List En} {b : Nat} {hv qv : Value}

/-- y waits: a conversion behind the conversions, a new one behind all. -/
def waitD (held : Int) (y : En) (H Q : List En) : List En :=
  if held == 0 then Q ++ [y] else Q.take (convD H Q) ++ y :: Q.drop (convD H Q)
theorem wait_at (held : Int) (y : En) (H Q : List En) : waitD held y H Q = Q.take (if held == 0 then Q.length else convD H Q) ++ y :: Q.drop (if held == 0 then Q.length else convD H Q) := by
  unfold waitD
  split <;> simp
set_option maxRecDepth 100000 in
set_option maxHeartbeats 2000000 in
theorem wait_new (w : World) (h : La B H Q b hv qv w) (hQ : Q.length < 999999) (held : Int) (y : En) (he : (held == 0) = true) :
    Calls Tryz.prog 81 #[.pointer (some ⟨b, 0, none⟩), .int .i64 held, .agg #[.int .i64 y.1, .int .i64 y.2]] w fun e w' => e = .returned (.tuple #[]) ∧ ∃ qv', La B H (waitD held y H Q) b hv qv' w' ∧ Mv b hv qv hv qv' w w' := by
  have HL := hide h
  have hbn := hide h.lt
  have c1 : ∀ o, (w.alloc o).cell? ⟨b, 1, none⟩ = some qv := fun o => (h.next (below_new w o)).c1
  obtain ⟨a, n, cap, rfl, hn0⟩ := slice_form' h.qr
  have e0 : Hid (waitD held y H Q = Q.take n ++ y :: Q.drop n) := by have := wait_at held y H Q; rw [he] at this; rw [hn0]; exact this
  have he2 : (held != 0) = !true := by rw [← he]; rfl
  clear h he
  go_enter Tryz.func81, Tryz.ntmps81
  obtain ⟨w2, hw2⟩ : ∃ w2, w2 = w.alloc (.cells #[.int .i64 y.1, .int .i64 y.2] 92) := ⟨_, rfl⟩
  have hb2 : Hid (Below w.heap.size w w2) := by rw [hw2]; exact below_new w _
  have bx : w2.heap[w.heap.size]? = some (.cells #[.int .i64 y.1, .int .i64 y.2] 92 (0, 0)) := by rw [hw2]; exact box_new w y
  have l2 := (unhide HL).next (unhide hb2)
  obtain ⟨d0, d1⟩ := box_cells bx
  have c0 := l2.c1
  have ca : ∀ o, (w2.alloc o).cell? ⟨w.heap.size, 0, none⟩ = some (.int .i64 y.1) ∧ (w2.alloc o).cell? ⟨w.heap.size, 1, none⟩ = some (.int .i64 y.2) := fun o => box_cells (((below_new w2 o).block _ (heap_lt bx)).trans bx)
  have cb : ∀ o, (w2.alloc o).cell? ⟨b, 1, none⟩ = some (.slice a n cap) := fun o => (l2.next (below_new w2 o)).c1
  have hp : n ≤ Q.length := Nat.le_of_eq hn0
  have hne : Hid (w.heap.size ≠ b) := fun e => Nat.lt_irrefl _ (by have := unhide hbn; rw [e] at this; exact this)
  have HW := hide (la_new (W := (w2.alloc (.cells #[.int .i64 y.1, .int .i64 y.2] 92)).drew) l2 (unhide hb2) y rfl rfl rfl rfl)
  have hbw := hide (heap_lt bx)
  have L2 := hide l2
  have Bx := hide bx
  have hq2 := hide hQ
  clear l2 bx
  have hw3 := hide hw2
  clear hw2

  have ca0 := fun o => (ca o).1
  have ca1 := fun o => (ca o).2
  clear ca
  have Hp := hide hp
  have hp2 := hide hn0
  clear hp hn0
  go_wp2_with fail
  rw [← unhide hw3]
  go_region_with (first | (go_at_call 112; refine Calls.mono (insert_any (B := B) _ (unhide HW).1.qr n (unhide Hp) y _ (unhide HW).2.1 (unhide HW).2.2.2.2 (unhide HW).1.low (by have := unhide hq2; omega)) ?_; rintro e w4 ⟨v', rfl, es, gr, at4⟩; obtain ⟨a4, n4, cap4, rfl, hn4⟩ := slice_form' es; replace hn4 := hide hn4; have q0 := (unhide HW).1.grown1 gr; have m0 : w4.cell? ⟨b, 1, none⟩ = some (.slice a n cap) := (by simp [World.cell?, q0]); have q1 : w4.heap[w.heap.size]? = some (.cells #[.int .i64 y.1, .int .i64 y.2] 92 (0, 0)) := ((gr.block _ (Nat.lt_of_lt_of_le (unhide hbw) (Nat.le_of_lt (heap_lt (unhide HW).2.1))) (fun e => Nat.lt_irrefl _ ((unhide HL).qr.lt _ e.symm).2)).trans (((below_new w2 _).block _ (unhide hbw)).trans (unhide Bx))); have m1 := (box_cells q1).1; have m2 := (box_cells q1).2; have m3 : w4.frozen? ⟨b, 1, none⟩ = false := (by simp [World.frozen?, q0]); have PT := hide ((unhide HW).1.put1 gr es at4); clear gr es at4 q0 q1))
  all_goals
    go_wp2
    go_end0
    exact ⟨rfl, _, by rw [unhide e0]; exact (unhide PT).1, (unhide HW).2.2.1.trans (unhide PT).2⟩
set_option maxRecDepth 100000 in
set_option maxHeartbeats 2000000 in
theorem wait_conv (w : World) (h : La B H Q b hv qv w) (hH : H.length < 999999) (hQ : Q.length < 999999) (held : Int) (y : En) (he : (held == 0) = false) :
    Calls Tryz.prog 81 #[.pointer (some ⟨b, 0, none⟩), .int .i64 held, .agg #[.int .i64 y.1, .int .i64 y.2]] w fun e w' => e = .returned (.tuple #[]) ∧ ∃ qv', La B H (waitD held y H Q) b hv qv' w' ∧ Mv b hv qv hv qv' w w' := by
  have HL := hide h
  have hbn := hide h.lt
  have e0 : Hid (waitD held y H Q = Q.take (convD H Q) ++ y :: Q.drop (convD H Q)) := by have := wait_at held y H Q; rw [he] at this; exact this
  have c1 : ∀ o, (w.alloc o).cell? ⟨b, 1, none⟩ = some qv := fun o => (h.next (below_new w o)).c1
  obtain ⟨a, n, cap, rfl, hn0⟩ := slice_form' h.qr
  have he2 : (held != 0) = !false := by rw [← he]; rfl
  clear h he
  go_enter Tryz.func81, Tryz.ntmps81
  go_wp2_with fail
  refine (conv_any _ ((unhide HL).next (below_new w _)) (by omega) (by omega)).mono ?_
  rintro e w2 ⟨rfl, hb⟩
  have hb2 := hide (below_then (below_new w _) hb)
  have bx : w2.heap[w.heap.size]? = some (.cells #[.int .i64 y.1, .int .i64 y.2] 92 (0, 0)) := (hb.block _ (by simp)).trans (box_new w y)
  have l2 := (unhide HL).next (unhide hb2)
  obtain ⟨d0, d1⟩ := box_cells bx
  have c0 := l2.c1
  have ca : ∀ o, (w2.alloc o).cell? ⟨w.heap.size, 0, none⟩ = some (.int .i64 y.1) ∧ (w2.alloc o).cell? ⟨w.heap.size, 1, none⟩ = some (.int .i64 y.2) := fun o => box_cells (((below_new w2 o).block _ (heap_lt bx)).trans bx)
  have cb : ∀ o, (w2.alloc o).cell? ⟨b, 1, none⟩ = some (.slice a n cap) := fun o => (l2.next (below_new w2 o)).c1
  have hp : convD H Q ≤ Q.length := conv_le H Q
  have hne : Hid (w.heap.size ≠ b) := fun e => Nat.lt_irrefl _ (by have := unhide hbn; rw [e] at this; exact this)
  have HW := hide (la_new (W := (w2.alloc (.cells #[.int .i64 y.1, .int .i64 y.2] 92)).drew) l2 (unhide hb2) y rfl rfl rfl rfl)
  have hbw := hide (heap_lt bx)
  have L2 := hide l2
  have Bx := hide bx
  have hq2 := hide hQ
  clear l2 bx
  clear hb
  generalize convD H Q = i at *
  have ca0 := fun o => (ca o).1
  have ca1 := fun o => (ca o).2
  clear ca
  have Hp := hide hp
  have hp2 := hide hn0
  clear hp hn0
  go_wp2_with fail
  go_region_with (first | (go_at_call 112; refine Calls.mono (insert_any (B := B) _ (unhide HW).1.qr i (unhide Hp) y _ (unhide HW).2.1 (unhide HW).2.2.2.2 (unhide HW).1.low (by have := unhide hq2; omega)) ?_; rintro e w4 ⟨v', rfl, es, gr, at4⟩; obtain ⟨a4, n4, cap4, rfl, hn4⟩ := slice_form' es; replace hn4 := hide hn4; have q0 := (unhide HW).1.grown1 gr; have m0 : w4.cell? ⟨b, 1, none⟩ = some (.slice a n cap) := (by simp [World.cell?, q0]); have q1 : w4.heap[w.heap.size]? = some (.cells #[.int .i64 y.1, .int .i64 y.2] 92 (0, 0)) := ((gr.block _ (Nat.lt_of_lt_of_le (unhide hbw) (Nat.le_of_lt (heap_lt (unhide HW).2.1))) (fun e => Nat.lt_irrefl _ ((unhide HL).qr.lt _ e.symm).2)).trans (((below_new w2 _).block _ (unhide hbw)).trans (unhide Bx))); have m1 := (box_cells q1).1; have m2 := (box_cells q1).2; have m3 : w4.frozen? ⟨b, 1, none⟩ = false := (by simp [World.frozen?, q0]); have PT := hide ((unhide HW).1.put1 gr es at4); clear gr es at4 q0 q1))
  all_goals
    go_wp2
    go_end0
    exact ⟨rfl, _, by rw [unhide e0]; exact (unhide PT).1, (unhide HW).2.2.1.trans (unhide PT).2⟩
theorem wait_any (w : World) (h : La B H Q b hv qv w) (hH : H.length < 999999) (hQ : Q.length < 999999) (held : Int) (y : En) :
    Calls Tryz.prog 81 #[.pointer (some ⟨b, 0, none⟩), .int .i64 held, .agg #[.int .i64 y.1, .int .i64 y.2]] w fun e w' => e = .returned (.tuple #[]) ∧ ∃ qv', La B H (waitD held y H Q) b hv qv' w' ∧ Mv b hv qv hv qv' w w' := by
  cases he : (held == 0)
  · exact wait_conv w h hH hQ held y he
  · exact wait_new w h hQ held y he
end Go.Proofs.YtgiklggnolbiiaaGreat
