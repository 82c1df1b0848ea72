/- Package birth's desks and the reference's, as they lie in memory; New, Next, Given, Least. -/
import Derived.Test.YtoamcbnklgkgnaaBas
import Derived.Lib.Slices
namespace Go.Proofs.Ytoamcbnklgkgnaa
open Go.RowKit

/-- A desk of most m, of which g were given, in block b (t: its type). -/
def Dk (t : TypeId) (w : World) (b : Nat) (m g : Int) : Prop := w.heap[b]? = some (.cells #[.int .i64 m, .int .i64 g] t (0, 0))
/-- From w to w' nothing has turned but block b. -/
structure Tk (b : Nat) (w w' : World) : Prop where
  os : w'.os = w.os
  tape : w'.tape = w.tape
  output : w'.output = w.output
  size : w'.heap.size = w.heap.size
  block : ∀ k, k ≠ b → w'.heap[k]? = w.heap[k]?
theorem Tk.refl (b : Nat) (w : World) : Tk b w w := ⟨rfl, rfl, rfl, rfl, fun _ _ => rfl⟩
theorem Tk.drewN {b : Nat} {w w' : World} (h : Tk b w w') (n : Nat) : Tk b w (w'.drewN n) := ⟨h.os, h.tape, h.output, h.size, h.block⟩
theorem Tk.drew {b : Nat} {w w' : World} (h : Tk b w w') : Tk b w w'.drew := ⟨h.os, h.tape, h.output, h.size, h.block⟩
theorem Tk.set {b : Nat} {w w' : World} (h : Tk b w w') (i : Nat) (v : Value) : Tk b w (w'.setCell ⟨b, i, none⟩ v) :=
  ⟨h.os, h.tape, h.output, by rw [← h.size]; simp [World.setCell], fun k h1 => (Below.heap_setCell _ _ _ _ h1).trans (h.block k h1)⟩
theorem Tk.below {b B : Nat} {w w' : World} (h : Tk b w w') (hb : B ≤ b) : Below B w w' :=
  ⟨h.os, h.tape, h.output, Nat.le_of_eq h.size.symm, fun k hk => h.block k (by omega)⟩
namespace Dk
variable {t : TypeId} {w w' : World} {b : Nat} {m g : Int}
theorem lt (h : Dk t w b m g) : b < w.heap.size := by
  unfold Dk at h
  by_cases hl : b < w.heap.size
  · exact hl
  · rw [Array.getElem?_eq_none (by omega)] at h; cases h
theorem c0 (h : Dk t w b m g) : w.cell? ⟨b, 0, none⟩ = some (.int .i64 m) := by unfold Dk at h; simp [World.cell?, h]
theorem c1 (h : Dk t w b m g) : w.cell? ⟨b, 1, none⟩ = some (.int .i64 g) := by unfold Dk at h; simp [World.cell?, h]
theorem free (h : Dk t w b m g) : w.frozen? ⟨b, 1, none⟩ = false := by unfold Dk at h; simp [World.frozen?, h]
theorem next (h : Dk t w b m g) (k : Below w.heap.size w w') : Dk t w' b m g := (k.block b h.lt).trans h
theorem other {c : Nat} (h : Dk t w b m g) (k : Tk c w w') (hne : b ≠ c) : Dk t w' b m g := (k.block b hne).trans h
theorem drew (h : Dk t w b m g) : Dk t w.drew b m g := h
theorem put (h : Dk t w b m g) (v : Int) : Dk t (w.setCell ⟨b, 1, none⟩ (.int .i64 v)) b m v := by
  unfold Dk at h ⊢
  show (w.heap.modify b _)[b]? = _
  rw [Array.getElem?_modify, if_pos rfl, h]
  rfl
end Dk
theorem dk_new (w : World) (t : TypeId) (m : Int) : Dk t (w.alloc (.cells #[.int .i64 m, .int .i64 0] t)) w.heap.size m 0 := by
  unfold Dk
  exact heap_alloc_new w _

set_option maxRecDepth 100000 in
theorem new_ok (m : Int) (w : World) (h1 : 1 ≤ m) (h2 : m ≤ 10000) :
    Calls Try.prog 10 #[.int .i64 m] w fun e w' => ∃ b, e = .returned (.tuple #[.pointer (some ⟨b, 0, none⟩), .int .i64 0]) ∧ b = w.heap.size ∧ Dk 44 w' b m 0 ∧ Below w.heap.size w w' := by
  have D := dk_new w 44 m
  have B := below_new w (.cells #[.int .i64 m, .int .i64 0] 44)
  replace D := hide D
  replace B := hide B
  go_enter Try.func10, Try.ntmps10
  go_wp2
  go_ret2
  exact ⟨_, rfl, rfl, unhide D, unhide B⟩
set_option maxRecDepth 100000 in
theorem new_bad (m : Int) (w : World) (h : m < 1 ∨ (1 ≤ m ∧ 10000 < m)) :
    Calls Try.prog 10 #[.int .i64 m] w fun e w' => e = .returned (.tuple #[.pointer none, .int .i64 1]) ∧ w' = w := by
  rcases h with h | ⟨h, h2⟩
  all_goals
    go_enter Try.func10, Try.ntmps10
    go_wp2
    go_ret2
    exact ⟨rfl, rfl⟩
set_option maxRecDepth 100000 in
theorem rnew_ok (m : Int) (w : World) (h1 : 1 ≤ m) (h2 : m ≤ 10000) :
    Calls Try.prog 11 #[.int .i64 m] w fun e w' => ∃ b, e = .returned (.tuple #[.pointer (some ⟨b, 0, none⟩), .int .i64 0]) ∧ b = w.heap.size ∧ Dk 38 w' b m 0 ∧ Below w.heap.size w w' := by
  have D := dk_new w 38 m
  have B := below_new w (.cells #[.int .i64 m, .int .i64 0] 38)
  replace D := hide D
  replace B := hide B
  go_enter Try.func11, Try.ntmps11
  go_wp2
  go_ret2
  exact ⟨_, rfl, rfl, unhide D, unhide B⟩
set_option maxRecDepth 100000 in
theorem rnew_bad (m : Int) (w : World) (h : m < 1 ∨ (1 ≤ m ∧ 10000 < m)) :
    Calls Try.prog 11 #[.int .i64 m] w fun e w' => e = .returned (.tuple #[.pointer none, .int .i64 1]) ∧ w' = w := by
  rcases h with h | ⟨h, h2⟩
  all_goals
    go_enter Try.func11, Try.ntmps11
    go_wp2
    go_ret2
    exact ⟨rfl, rfl⟩
/-- What Next answers, and how many are given then. -/
def nextD (m g : Int) : Int × Int × Int := if g = m then (0, 12, g) else (g + 1, 0, g + 1)
def NextPost (t : TypeId) (w : World) (b : Nat) (m : Int) (r : Int × Int × Int) (e : Ending) (w' : World) : Prop :=
  e = .returned (.tuple #[.int .i64 r.1, .int .i64 r.2.1]) ∧ Dk t w' b m r.2.2 ∧ Tk b w w'
set_option maxRecDepth 100000 in
theorem next_any (w : World) (b : Nat) (m g : Int) (h : Dk 44 w b m g) (h0 : 0 ≤ g) (h1 : g ≤ m) (h2 : m ≤ 10000) :
    Calls Try.prog 12 #[.pointer (some ⟨b, 0, none⟩)] w (NextPost 44 w b m (nextD m g)) := by
  have HD := hide h
  have T0 := hide (Tk.refl b w)
  have c0 := h.c0
  have c1 := h.c1
  have c2 := h.drew.c1
  by_cases e : g = m
  · have E : nextD m g = (0, 12, g) := by unfold nextD; rw [if_pos e]
    rw [E]
    subst e
    replace E := hide E
    clear h
    go_enter Try.func12, Try.ntmps12
    go_wp2_with fail
    go_region
    all_goals go_wp2
    all_goals go_ret2
    exact ⟨rfl, unhide HD, (unhide T0).drew⟩
  · have E : nextD m g = (g + 1, 0, g + 1) := by unfold nextD; rw [if_neg e]
    rw [E]
    have e2 : (g == m) = false := beq_eq_false_iff_ne.2 e
    have fr := h.drew.free
    have D3 := (h.drew.put (g + 1))
    have c3 := D3.c1
    have T3 := hide ((unhide T0).drew.set 1 (.int .i64 (g + 1)))
    replace D3 := hide D3
    replace E := hide E
    clear h e
    go_enter Try.func12, Try.ntmps12
    go_wp2_with fail
    go_region
    all_goals go_wp2
    all_goals go_ret2
    exact ⟨rfl, unhide D3, unhide T3⟩
set_option maxRecDepth 100000 in
theorem rnext_any (w : World) (b : Nat) (m g : Int) (h : Dk 38 w b m g) (h0 : 0 ≤ g) (h1 : g ≤ m) (h2 : m ≤ 10000) :
    Calls Try.prog 13 #[.pointer (some ⟨b, 0, none⟩)] w (NextPost 38 w b m (nextD m g)) := by
  have HD := hide h
  have T0 := hide (Tk.refl b w)
  have c0 := h.c0
  have c1 := h.c1
  have c2 := h.drew.c1
  by_cases e : g = m
  · have E : nextD m g = (0, 12, g) := by unfold nextD; rw [if_pos e]
    rw [E]
    subst e
    replace E := hide E
    clear h
    go_enter Try.func13, Try.ntmps13
    go_wp2_with fail
    go_region
    all_goals go_wp2
    all_goals go_ret2
    exact ⟨rfl, unhide HD, (unhide T0).drew⟩
  · have E : nextD m g = (g + 1, 0, g + 1) := by unfold nextD; rw [if_neg e]
    rw [E]
    have e2 : ¬ m ≤ g := by omega
    have fr := h.drew.free
    have D3 := (h.drew.put (g + 1))
    have c3 := D3.c1
    have T3 := hide ((unhide T0).drew.set 1 (.int .i64 (g + 1)))
    replace D3 := hide D3
    replace E := hide E
    clear h e
    go_enter Try.func13, Try.ntmps13
    go_wp2_with fail
    go_region
    all_goals go_wp2
    all_goals go_ret2
    exact ⟨rfl, unhide D3, unhide T3⟩
theorem given_any (w : World) (b : Nat) (m g : Int) (h : Dk 44 w b m g) :
    Calls Try.prog 14 #[.pointer (some ⟨b, 0, none⟩)] w fun e w' => e = .returned (.int .i64 g) ∧ w' = w := by
  have c1 := h.c1
  clear h
  go_enter Try.func14, Try.ntmps14
  go_wp2
  go_ret
  exact ⟨rfl, rfl⟩
theorem min_step (l : List Int) (k : Nat) (h0 : 0 < k) (hk : k < l.length) : Lib.minOf (l.take (k + 1)) = if l.getD k 0 < Lib.minOf (l.take k) then l.getD k 0 else Lib.minOf (l.take k) := by
  rw [Lib.minOf_step l k h0 hk, Int.min_def]
  split <;> split <;> omega
set_option maxRecDepth 100000 in
theorem min_any (b off len cap : Nat) (l : List Int) (w : World) (h : ∀ i, i < l.length → w.cell? ⟨b, off + i, none⟩ = some (.int .i64 (l.getD i 0))) (hl : len = l.length) (h0 : 0 < len) (hm : len ≤ 1000000) :
    Calls Try.prog 15 #[.slice (some ⟨b, off, none⟩) len cap] w fun e w' => e = .returned (.int .i64 (Lib.minOf l)) ∧ w' = w := by
  subst hl
  have c0 : w.cell? ⟨b, off, none⟩ = some (.int .i64 (l.getD 0 0)) := by have := h 0 h0; simpa using this
  have Hc := hide h
  clear h
  go_enter Try.func15, Try.ntmps15
  go_wp2_with fail
  go_loopw [3, 4] (fun m i wr => ∃ k : Nat, 0 < k ∧ k ≤ l.length ∧ i = .int .i64 k ∧ m = .int .i64 (Lib.minOf (l.take k)) ∧ wr = w) (fun _ i _ => l.length - (intOf i).toNat)
  case atStart => exact ⟨1, Nat.one_pos, h0, rfl, by rw [Lib.minOf_one]; simp [List.getD, List.getElem?_eq_getElem h0], rfl⟩
  case round =>
    obtain ⟨k, hk0, hk, rfl, rfl, rfl⟩ := hrel
    by_cases hlt : k < l.length
    · have ck := unhide Hc k hlt
      have S := hide (min_step l k hk0 hlt)
      generalize l.getD k 0 = x at ck S
      clear c0
      go_wp2
      go_roundw
      case rel => exact ⟨k + 1, Nat.succ_pos k, by omega, by go_num, by rw [unhide S], by first | rfl | trivial⟩
      case measure => simp [intOf]; omega
    · obtain rfl : k = l.length := by omega
      clear c0
      go_wp2
      go_ret
      exact ⟨by rw [List.take_length]; rfl, rfl⟩
/-- What Least answers. -/
def leastV (l : List Int) : Value := .tuple #[.int .i64 (if l.length = 0 then 0 else Lib.minOf l), .bool (decide (0 < l.length))]
set_option maxRecDepth 100000 in
theorem least_any (a : Option Addr) (len cap : Nat) (l : List Int) (w : World) (h : SegK .i64 w a len l) (hm : len ≤ 1000000) :
    Calls Try.prog 8 #[.slice a len cap] w fun e w' => e = .returned (leastV l) ∧ w' = w := by
  obtain ⟨hl, h⟩ := h
  by_cases e : len = 0
  · have E : leastV l = .tuple #[.int .i64 0, .bool false] := by unfold leastV; rw [if_pos (by omega), decide_eq_false (by omega)]
    rw [E]
    replace E := hide E
    subst e
    replace hl := hide hl
    clear h
    go_enter Try.func8, Try.ntmps8
    go_wp2
    go_ret2
    exact ⟨rfl, rfl⟩
  · have E : leastV l = .tuple #[.int .i64 (Lib.minOf l), .bool true] := by unfold leastV; rw [if_neg (by omega), decide_eq_true (by omega)]
    rw [E]
    replace E := hide E
    rcases h with h | ⟨b, off, rfl, hc⟩
    · exact absurd h e
    · have C := min_any b off len cap l w (by rw [hl]; exact hc) hl.symm (by omega) hm
      replace hc := hide hc
      replace hl := hide hl
      have e2 : ((len : Int) == 0) = false := beq_eq_false_iff_ne.2 (by omega)
      go_enter Try.func8, Try.ntmps8
      go_wp2_with fail
      refine C.mono ?_
      rintro e w1 ⟨rfl, rfl⟩
      clear C
      go_wp2
      go_ret2
      exact ⟨rfl, rfl⟩
set_option maxRecDepth 100000 in
theorem rleast_any (a : Option Addr) (len cap : Nat) (l : List Int) (w : World) (h : SegK .i64 w a len l) (hm : len ≤ 1000000) :
    Calls Try.prog 9 #[.slice a len cap] w fun e w' => e = .returned (leastV l) ∧ w' = w := by
  obtain ⟨hl, h⟩ := h
  by_cases e : len = 0
  · have E : leastV l = .tuple #[.int .i64 0, .bool false] := by unfold leastV; rw [if_pos (by omega), decide_eq_false (by omega)]
    rw [E]
    replace E := hide E
    subst e
    replace hl := hide hl
    clear h
    go_enter Try.func9, Try.ntmps9
    go_wp2
    go_ret2
    exact ⟨rfl, rfl⟩
  · have E : leastV l = .tuple #[.int .i64 (Lib.minOf l), .bool true] := by unfold leastV; rw [if_neg (by omega), decide_eq_true (by omega)]
    rw [E]
    replace E := hide E
    rcases h with h | ⟨b, off, rfl, hc⟩
    · exact absurd h e
    · subst hl
      have c0 : w.cell? ⟨b, off, none⟩ = some (.int .i64 (l.getD 0 0)) := by have := hc 0 (by omega); simpa using this
      have h0 : 0 < l.length := by omega
      have Hc := hide hc
      have e2 : ((l.length : Int) == 0) = false := beq_eq_false_iff_ne.2 (by omega)
      clear hc
      go_enter Try.func9, Try.ntmps9
      go_wp2_with fail
      go_loopw [4, 5] (fun m i wr => ∃ k : Nat, 0 < k ∧ k ≤ l.length ∧ i = .int .i64 k ∧ m = .int .i64 (Lib.minOf (l.take k)) ∧ wr = w) (fun _ i _ => l.length - (intOf i).toNat)
      case atStart => exact ⟨1, Nat.one_pos, h0, rfl, by rw [Lib.minOf_one]; simp [List.getD, List.getElem?_eq_getElem h0], rfl⟩
      case round =>
        obtain ⟨k, hk0, hk, rfl, rfl, rfl⟩ := hrel
        by_cases hlt : k < l.length
        · have ck := unhide Hc k hlt
          have S := hide (min_step l k hk0 hlt)
          generalize l.getD k 0 = x at ck S
          clear c0
          go_wp2
          go_roundw
          case rel => exact ⟨k + 1, Nat.succ_pos k, by omega, by go_num, by rw [unhide S], by first | rfl | trivial⟩
          case measure => simp [intOf]; omega
        · obtain rfl : k = l.length := by omega
          clear c0
          go_wp2
          go_ret2
          exact ⟨by rw [List.take_length]; rfl, rfl⟩
/-- What the chapter's examples fix holds. -/
theorem first_any (w : World) : Calls Try.prog 7 #[] w fun e w' => e = .returned (.bool true) ∧ Below w.heap.size w w' := by
  have E1 : nextD 1 0 = (1, 0, 1) := by decide
  have E2 : nextD 1 1 = (0, 12, 1) := by decide
  have E3 : leastV [] = .tuple #[.int .i64 0, .bool false] := by unfold leastV; rfl
  replace E1 := hide E1
  replace E2 := hide E2
  replace E3 := hide E3
  go_enter Try.func7, Try.ntmps7
  go_wp2_with fail
  refine (new_ok 1 w (by decide) (by decide)).mono ?_
  rintro e w1 ⟨b, rfl, hb, D1, b1⟩
  replace hb := hide hb
  go_wp2_with fail
  refine (next_any w1 b 1 0 D1 (by decide) (by decide) (by decide)).mono ?_
  rw [unhide E1]
  rintro e w2 ⟨rfl, D2, t2⟩
  dsimp only at D2
  go_wp2_with fail
  refine (next_any w2 b 1 1 D2 (by decide) (by decide) (by decide)).mono ?_
  rw [unhide E2]
  rintro e w3 ⟨rfl, D3, t3⟩
  dsimp only at D3
  go_wp2_with fail
  refine (least_any none 0 0 [] w3 ⟨rfl, .inl rfl⟩ (by decide)).mono ?_
  rw [unhide E3]
  rintro e w4 ⟨rfl, rfl⟩
  have b9 : Hid (Below w.heap.size w _) := b1.trans ((t2.below (Nat.le_of_eq (unhide hb).symm)).trans (t3.below (Nat.le_of_eq (unhide hb).symm)))
  go_wp2_with fail
  refine (given_any _ b 1 1 D3).mono ?_
  rintro e w5 ⟨rfl, rfl⟩
  go_wp2
  go_ret
  exact ⟨rfl, unhide b9⟩
end Go.Proofs.Ytoamcbnklgkgnaa
