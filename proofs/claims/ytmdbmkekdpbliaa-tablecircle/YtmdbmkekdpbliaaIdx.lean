/- The first for which a test holds: the library's IndexFunc with the two closures of package lane. -/
import Derived.Test.YtmdbmkekdpbliaaMem
namespace Go.Proofs.Ytmdbmkekdpbliaa
open Go.RowKit

/-- The first place at which p holds: -1, if there is none. -/
def idxD (p : En → Bool) (l : List En) : Int := if l.any p then (l.findIdx p : Int) else -1
theorem idx_at {p : En → Bool} {l : List En} {i : Nat} (hi : i < l.length) (h1 : ∀ t, t < i → p (l.getD t (0, 0)) = false) (h2 : p (l.getD i (0, 0)) = true) : idxD p l = (i : Int) := by
  have ha : l.any p = true := by
    rw [List.any_eq_true]
    exact ⟨l[i], List.getElem_mem hi, by simpa [List.getD, hi] using h2⟩
  have hf : l.findIdx p = i := by
    rw [List.findIdx_eq hi]
    refine ⟨by simpa [List.getD, hi] using h2, fun j hj => ?_⟩
    have := h1 j hj
    simpa [List.getD, show j < l.length by omega] using this
  unfold idxD
  rw [ha, hf]; rfl
theorem idx_none {p : En → Bool} {l : List En} (h1 : ∀ t, t < l.length → p (l.getD t (0, 0)) = false) : idxD p l = -1 := by
  have ha : l.any p = false := by
    rw [List.any_eq_false]
    intro x hx
    obtain ⟨j, hj, rfl⟩ := List.getElem_of_mem hx
    have := h1 j hj
    simpa [List.getD, hj] using this
  unfold idxD
  rw [ha]; rfl
theorem idx_ge (p : En → Bool) (l : List En) : decide (0 ≤ idxD p l) = l.any p := by
  unfold idxD
  cases l.any p <;> simp <;> omega

set_option maxRecDepth 100000 in
set_option maxHeartbeats 1000000 in
theorem index62_any (p : En → Bool) (pt : Addr) {B : Nat} {v : Value} {l : List En} (w : World) (h : Es B v l w) (hn : l.length < 1000000)
    (hc : ∀ x wr, Below w.heap.size w wr → Calls Try.prog 82 #[.agg #[.int .i64 x.1, .int .i64 x.2], .pointer (some pt)] wr fun e w' => e = .returned (.bool (p x)) ∧ Below wr.heap.size wr w') :
    Calls Try.prog 81 #[v, .func (.func 82) #[] #[.pointer (some pt)]] w fun e w' => e = .returned (.int .i64 (idxD p l)) ∧ Below w.heap.size w w' := by
  have H := hide h
  have HC := hide hc
  clear hc
  have hv : ∃ a cap, v = .slice a l.length cap := by
    rcases h with ⟨rfl, rfl⟩ | ⟨g, cap, rfl, _, _⟩
    · exact ⟨none, 0, rfl⟩
    · exact ⟨_, cap, rfl⟩
  obtain ⟨a, cap, rfl⟩ := hv
  clear h
  go_enter Try.func81, Try.ntmps81
  go_wp2
  go_loopw [8] (fun s8 wr => ∃ i : Nat, i ≤ l.length ∧ s8 = .int .i64 i ∧ Below w.heap.size w wr ∧ Hid (∀ t, t < i → p (l.getD t (0, 0)) = false)) (fun s8 _ => l.length - (intOf s8).toNat)
  case atStart => exact ⟨0, Nat.zero_le _, rfl, Below.refl _ _, fun t ht => absurd ht (by omega)⟩
  case round =>
    obtain ⟨i, hi, rfl, hb, I1⟩ := hrel
    by_cases hlt : i < l.length
    · obtain ⟨g, rfl, r⟩ : ∃ g, a = some ⟨g, 0, none⟩ ∧ Rb g cap l wr := by
        rcases unhide H with ⟨_, rfl⟩ | ⟨g, cap', e, _, r⟩
        · simp at hlt
        · injection e with e1 _ e2
          subst e1 e2
          exact ⟨g, rfl, r.next hb⟩
      obtain ⟨x, hx⟩ : ∃ x, x = l.getD i (0, 0) := ⟨_, rfl⟩
      have c1 : wr.cell? ⟨g, i * 2, none⟩ = some (.int .i64 x.1) := by rw [hx]; exact r.fst (by omega)
      have c2 : wr.cell? ⟨g, i * 2 + 1, none⟩ = some (.int .i64 x.2) := by rw [hx]; exact r.snd (by omega)
      have Hx := hide hx
      have R := hide r
      clear hx r
      go_wp2_with fail
      refine (unhide HC x _ hb).mono ?_
      rintro e w' ⟨rfl, hb'⟩
      have HB := hide (below_then hb hb')
      clear hb hb' c1 c2
      cases hk : p x
      · have Hk := hide hk
        clear hk
        go_wp2
        go_roundw
        case rel => exact ⟨i + 1, by omega, by go_num, unhide HB, fun t ht => by
          rcases (show t < i ∨ t = i by omega) with h | rfl
          · exact unhide I1 t h
          · rw [← unhide Hx]; exact unhide Hk⟩
        case measure => simp [intOf]; omega
      · have Hk := hide hk
        clear hk
        go_wp2
        go_ret
        exact ⟨by rw [idx_at hlt (unhide I1) (by rw [← unhide Hx]; exact unhide Hk)]; rfl, unhide HB⟩
    · have HB := hide hb
      clear hb
      go_wp2
      go_ret
      exact ⟨by rw [idx_none (fun t ht => unhide I1 t (by omega))]; rfl, unhide HB⟩

set_option maxRecDepth 100000 in
set_option maxHeartbeats 1000000 in
theorem index56_any (p : En → Bool) (pt : Addr) {B : Nat} {v : Value} {l : List En} (w : World) (h : Es B v l w) (hn : l.length < 1000000)
    (hc : ∀ x wr, Below w.heap.size w wr → Calls Try.prog 77 #[.agg #[.int .i64 x.1, .int .i64 x.2], .pointer (some pt)] wr fun e w' => e = .returned (.bool (p x)) ∧ Below wr.heap.size wr w') :
    Calls Try.prog 81 #[v, .func (.func 77) #[] #[.pointer (some pt)]] w fun e w' => e = .returned (.int .i64 (idxD p l)) ∧ Below w.heap.size w w' := by
  have H := hide h
  have HC := hide hc
  clear hc
  have hv : ∃ a cap, v = .slice a l.length cap := by
    rcases h with ⟨rfl, rfl⟩ | ⟨g, cap, rfl, _, _⟩
    · exact ⟨none, 0, rfl⟩
    · exact ⟨_, cap, rfl⟩
  obtain ⟨a, cap, rfl⟩ := hv
  clear h
  go_enter Try.func81, Try.ntmps81
  go_wp2
  go_loopw [8] (fun s8 wr => ∃ i : Nat, i ≤ l.length ∧ s8 = .int .i64 i ∧ Below w.heap.size w wr ∧ Hid (∀ t, t < i → p (l.getD t (0, 0)) = false)) (fun s8 _ => l.length - (intOf s8).toNat)
  case atStart => exact ⟨0, Nat.zero_le _, rfl, Below.refl _ _, fun t ht => absurd ht (by omega)⟩
  case round =>
    obtain ⟨i, hi, rfl, hb, I1⟩ := hrel
    by_cases hlt : i < l.length
    · obtain ⟨g, rfl, r⟩ : ∃ g, a = some ⟨g, 0, none⟩ ∧ Rb g cap l wr := by
        rcases unhide H with ⟨_, rfl⟩ | ⟨g, cap', e, _, r⟩
        · simp at hlt
        · injection e with e1 _ e2
          subst e1 e2
          exact ⟨g, rfl, r.next hb⟩
      obtain ⟨x, hx⟩ : ∃ x, x = l.getD i (0, 0) := ⟨_, rfl⟩
      have c1 : wr.cell? ⟨g, i * 2, none⟩ = some (.int .i64 x.1) := by rw [hx]; exact r.fst (by omega)
      have c2 : wr.cell? ⟨g, i * 2 + 1, none⟩ = some (.int .i64 x.2) := by rw [hx]; exact r.snd (by omega)
      have Hx := hide hx
      have R := hide r
      clear hx r
      go_wp2_with fail
      refine (unhide HC x _ hb).mono ?_
      rintro e w' ⟨rfl, hb'⟩
      have HB := hide (below_then hb hb')
      clear hb hb' c1 c2
      cases hk : p x
      · have Hk := hide hk
        clear hk
        go_wp2
        go_roundw
        case rel => exact ⟨i + 1, by omega, by go_num, unhide HB, fun t ht => by
          rcases (show t < i ∨ t = i by omega) with h | rfl
          · exact unhide I1 t h
          · rw [← unhide Hx]; exact unhide Hk⟩
        case measure => simp [intOf]; omega
      · have Hk := hide hk
        clear hk
        go_wp2
        go_ret
        exact ⟨by rw [idx_at hlt (unhide I1) (by rw [← unhide Hx]; exact unhide Hk)]; rfl, unhide HB⟩
    · have HB := hide hb
      clear hb
      go_wp2
      go_ret
      exact ⟨by rw [idx_none (fun t ht => unhide I1 t (by omega))]; rfl, unhide HB⟩

/-- Is it who? -/
def isWho (k : Int) (x : En) : Bool := x.1 == k
theorem place1_any (x : En) (k : Int) (b : Nat) (w : World) (hk : w.cell? ⟨b, 0, none⟩ = some (.int .i64 k)) (hbl : b < w.heap.size) : Calls Try.prog 82 #[.agg #[.int .i64 x.1, .int .i64 x.2], .pointer (some ⟨b, 0, none⟩)] w fun e w' => e = .returned (.bool (isWho k x)) ∧ Below w.heap.size w w' := by
  have hk2 : ∀ o, (w.alloc o).cell? ⟨b, 0, none⟩ = some (.int .i64 k) := fun o => ((below_new w o).cell (p := ⟨b, 0, none⟩) hbl).trans hk
  clear hk
  go_enter Try.func82, Try.ntmps82
  go_wp2
  go_ret
  exact ⟨rfl, below_new w _⟩
/-- x, that holds, is another one than y's and holds what y does not fit with. -/
def hindD (x y : En) : Bool := (x.1 != y.1) && !fitsB y.2 x.2
theorem hinders_any (x y : En) (w : World) : Calls Try.prog 57 #[.agg #[.int .i64 x.1, .int .i64 x.2], .agg #[.int .i64 y.1, .int .i64 y.2]] w fun e w' => e = .returned (.bool (hindD x y)) ∧ Below w.heap.size w w' := by
  unfold hindD
  cases hne : (x.1 != y.1)
  · go_enter Try.func57, Try.ntmps57
    go_wp2
    go_ret
    exact ⟨rfl, below_add (below_new w _) _⟩
  · go_enter Try.func57, Try.ntmps57
    go_wp2_with fail
    refine (fits_any y.2 x.2 _).mono ?_
    rintro e w' ⟨rfl, hb⟩
    have HB := hide hb
    clear hb
    go_wp2
    go_ret
    exact ⟨rfl, below_then (below_add (below_new w _) _) (unhide HB)⟩
theorem fits1_any (x y : En) (b : Nat) (w : World) (h1 : w.cell? ⟨b, 0, none⟩ = some (.int .i64 y.1)) (h2 : w.cell? ⟨b, 1, none⟩ = some (.int .i64 y.2)) (hbl : b < w.heap.size) : Calls Try.prog 77 #[.agg #[.int .i64 x.1, .int .i64 x.2], .pointer (some ⟨b, 0, none⟩)] w fun e w' => e = .returned (.bool (hindD x y)) ∧ Below w.heap.size w w' := by
  have k1 : ∀ o, (w.alloc o).cell? ⟨b, 0, none⟩ = some (.int .i64 y.1) := fun o => ((below_new w o).cell (p := ⟨b, 0, none⟩) hbl).trans h1
  have k2 : ∀ o, (w.alloc o).cell? ⟨b, 1, none⟩ = some (.int .i64 y.2) := fun o => ((below_new w o).cell (p := ⟨b, 1, none⟩) hbl).trans h2
  clear h1 h2
  go_enter Try.func77, Try.ntmps77
  go_wp2_with fail
  refine (hinders_any x y _).mono ?_
  rintro e w' ⟨rfl, hb⟩
  have HB := hide hb
  clear hb
  go_wp2
  go_ret
  exact ⟨rfl, below_then (below_new w _) (unhide HB)⟩
theorem contains56_any (y : En) (b : Nat) {B : Nat} {v : Value} {l : List En} (w : World) (h : Es B v l w) (hn : l.length < 1000000) (h1 : w.cell? ⟨b, 0, none⟩ = some (.int .i64 y.1)) (h2 : w.cell? ⟨b, 1, none⟩ = some (.int .i64 y.2)) (hbl : b < w.heap.size) :
    Calls Try.prog 76 #[v, .func (.func 77) #[] #[.pointer (some ⟨b, 0, none⟩)]] w fun e w' => e = .returned (.bool (l.any (fun x => hindD x y))) ∧ Below w.heap.size w w' := by
  have C := index56_any (fun x => hindD x y) ⟨b, 0, none⟩ w h hn (fun x wr hb => fits1_any x y b wr ((hb.cell (p := ⟨b, 0, none⟩) hbl).trans h1) ((hb.cell (p := ⟨b, 1, none⟩) hbl).trans h2) (Nat.lt_of_lt_of_le hbl hb.size))
  have HC := hide C
  clear C h1 h2 h
  go_enter Try.func76, Try.ntmps76
  go_wp2_with fail
  refine (unhide HC).mono ?_
  rintro e w' ⟨rfl, hb⟩
  have HB := hide hb
  clear hb
  have HG := hide (idx_ge (fun x => hindD x y) l)
  generalize idxD (fun x => hindD x y) l = i at HG ⊢
  go_wp2
  go_ret
  exact ⟨ret_bool (unhide HG), unhide HB⟩
end Go.Proofs.Ytmdbmkekdpbliaa
