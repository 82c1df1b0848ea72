/- A lane as it lies in memory; what only reads it. -/
import Derived.Test.YtmdbmkekdpbliaaInsg
import Derived.Test.YtmdbmkekdpbliaaFind
import Derived.Test.YtmdbmkekdpbliaaIdx
namespace Go.Proofs.Ytmdbmkekdpbliaa
open Go.RowKit

/-- The lane in block b: those that hold are H (the slice hv), those that wait Q (qv); all of it at or above B. -/
structure La (B : Nat) (H Q : List En) (b : Nat) (hv qv : Value) (w : World) : Prop where
  blk : w.heap[b]? = some (.cells #[hv, qv] 76 (0, 0))
  hr : Es B hv H w
  qr : Es B qv Q w
  dq : ∀ k, hv.ownBlock = some k → qv.ownBlock ≠ some k
  bB : B ≤ b
  srt : Srt H
/-- Only the lane's own blocks are turned; its rows lie where they lay, or in new memory. -/
structure Mv (b : Nat) (hv qv hv' qv' : Value) (w w' : World) : Prop where
  os : w'.os = w.os
  tape : w'.tape = w.tape
  output : w'.output = w.output
  size : w.heap.size ≤ w'.heap.size
  block : ∀ k, k < w.heap.size → k ≠ b → hv.ownBlock ≠ some k → qv.ownBlock ≠ some k → w'.heap[k]? = w.heap[k]?
  ha : At hv hv' w.heap.size
  qa : At qv qv' w.heap.size
theorem At.refl (v : Value) (N : Nat) : At v v N := fun _ hk => .inl hk
theorem At.trans {v v' v'' : Value} {N M : Nat} (h : At v v' N) (k : At v' v'' M) (hNM : N ≤ M) : At v v'' N := fun j hj => by
  rcases k j hj with h1 | h1
  · exact h j h1
  · exact .inr (by omega)
namespace Mv
variable {b : Nat} {hv qv hv' qv' hv'' qv'' : Value} {w w' w'' : World}
theorem of_below (h : Below w.heap.size w w') : Mv b hv qv hv qv w w' := ⟨h.os, h.tape, h.output, h.size, fun k hk _ _ _ => h.block k hk, At.refl _ _, At.refl _ _⟩
theorem trans (h : Mv b hv qv hv' qv' w w') (k : Mv b hv' qv' hv'' qv'' w' w'') : Mv b hv qv hv'' qv'' w w'' :=
  ⟨k.os.trans h.os, k.tape.trans h.tape, k.output.trans h.output, Nat.le_trans h.size k.size,
   fun i hi h1 h2 h3 => (k.block i (Nat.lt_of_lt_of_le hi h.size) h1 (fun e => by rcases h.ha i e with h4 | h4; exact h2 h4; omega) (fun e => by rcases h.qa i e with h4 | h4; exact h3 h4; omega)).trans (h.block i hi h1 h2 h3),
   h.ha.trans k.ha h.size, h.qa.trans k.qa h.size⟩
theorem then_ (h : Mv b hv qv hv' qv' w w') (k : Below w'.heap.size w' w'') : Mv b hv qv hv' qv' w w'' := h.trans (of_below k)
theorem below (h : Mv b hv qv hv' qv' w w') {B : Nat} {H Q : List En} (l : La B H Q b hv qv w) : Below B w w' := by
  refine ⟨h.os, h.tape, h.output, h.size, fun k hk => h.block k ?_ ?_ ?_ ?_⟩
  · have h1 := l.bB
    have h2 := heap_lt l.blk
    omega
  · have h1 := l.bB
    omega
  · intro e
    have h1 := (l.hr.lt k e).1
    omega
  · intro e
    have h1 := (l.qr.lt k e).1
    omega
end Mv
namespace La
variable {B : Nat} {H Q : List En} {b : Nat} {hv qv : Value} {w w' : World}
theorem lt (h : La B H Q b hv qv w) : b < w.heap.size := heap_lt h.blk
theorem low (h : La B H Q b hv qv w) : B ≤ w.heap.size := Nat.le_of_lt (Nat.lt_of_le_of_lt h.bB h.lt)
theorem next (h : La B H Q b hv qv w) (k : Below w.heap.size w w') : La B H Q b hv qv w' := ⟨(k.block b h.lt).trans h.blk, h.hr.next k, h.qr.next k, h.dq, h.bB, h.srt⟩
theorem drew (h : La B H Q b hv qv w) : La B H Q b hv qv w.drew := h.next ⟨rfl, rfl, rfl, Nat.le_refl _, fun _ _ => rfl⟩
theorem c0 (h : La B H Q b hv qv w) : w.cell? ⟨b, 0, none⟩ = some hv := by have := h.blk; simp [World.cell?, this]
theorem c1 (h : La B H Q b hv qv w) : w.cell? ⟨b, 1, none⟩ = some qv := by have := h.blk; simp [World.cell?, this]
theorem free (h : La B H Q b hv qv w) (k : Nat) : w.frozen? ⟨b, k, none⟩ = false := by have := h.blk; simp [World.frozen?, this]
end La

/-- What k has in l: 0, if nothing. -/
def lookD (k : Int) : List En → Int
  | [] => 0
  | p :: r => if p.1 == k then p.2 else lookD k r
theorem look_no {k : Int} : ∀ {l : List En}, hasD k l = false → lookD k l = 0
  | [], _ => rfl
  | p :: r, h => by
    unfold hasD at h
    rw [List.any_cons, Bool.or_eq_false_iff] at h
    unfold lookD
    rw [h.1]
    exact look_no (l := r) h.2
theorem look_at {k : Int} : ∀ {l : List En} {i : Nat}, i < l.length → (∀ t, t < i → isWho k (l.getD t (0, 0)) = false) → isWho k (l.getD i (0, 0)) = true → (l.getD i (0, 0)).2 = lookD k l
  | [], i, h, _, _ => by simp at h
  | p :: r, 0, _, _, h => by
    have h2 : (p.1 == k) = true := h
    unfold lookD
    rw [h2]; rfl
  | p :: r, i + 1, hi, h1, h2 => by
    have h0 : (p.1 == k) = false := h1 0 (by omega)
    unfold lookD
    rw [h0]
    exact look_at (l := r) (i := i) (by simpa using hi) (fun t ht => by simpa using h1 (t + 1) (by omega)) (by simpa using h2)
theorem look_idx {k : Int} {l : List En} : (hasD k l = false ∧ idxD (isWho k) l = -1) ∨ ∃ i : Nat, i < l.length ∧ hasD k l = true ∧ idxD (isWho k) l = (i : Int) ∧ (l.getD i (0, 0)).1 = k ∧ (l.getD i (0, 0)).2 = lookD k l := by
  have e : hasD k l = l.any (isWho k) := rfl
  cases ha : hasD k l
  · refine .inl ⟨rfl, ?_⟩
    rw [e] at ha
    unfold idxD
    rw [ha]; rfl
  · have ha2 := ha
    rw [e] at ha
    have hi : l.findIdx (isWho k) < l.length := by
      rw [List.findIdx_lt_length]
      simpa using ha
    refine .inr ⟨l.findIdx (isWho k), hi, rfl, by unfold idxD; rw [ha]; rfl, ?_, ?_⟩
    · have := List.findIdx_getElem (w := hi)
      simpa [isWho, List.getD, hi] using this
    · refine look_at hi (fun t ht => ?_) ?_
      · have := List.not_of_lt_findIdx ht
        simpa [List.getD, show t < l.length by omega] using this
      · have := List.findIdx_getElem (w := hi)
        simpa [List.getD, hi] using this
theorem look_pos {k : Int} {l : List En} (hs : Srt l) (h : hasD k l = true) : posD k l < l.length ∧ (l.getD (posD k l) (0, 0)).1 = k ∧ (l.getD (posD k l) (0, 0)).2 = lookD k l := by
  rcases look_idx (k := k) (l := l) with ⟨h1, _⟩ | ⟨i, hi, _, _, e1, e2⟩
  · rw [h] at h1; cases h1
  · have : posD k l = i := posD_eq k l i (by omega) (fun j hj => by rw [← e1]; exact srt_lt hs hj hi) (fun _ => by rw [e1]; exact Int.le_refl _)
    rw [this]
    exact ⟨hi, e1, e2⟩

theorem slice_form {B : Nat} {v : Value} {l : List En} {w : World} (h : Es B v l w) : ∃ a cap, v = .slice a l.length cap := by
  rcases h with ⟨rfl, rfl⟩ | ⟨g, cap, rfl, _, _⟩
  · exact ⟨none, 0, rfl⟩
  · exact ⟨_, cap, rfl⟩
variable {B : Nat} {H Q : List En} {b : Nat} {hv qv : Value}
set_option maxRecDepth 100000 in
theorem holder_any (w : World) (h : La B H Q b hv qv w) (hn : H.length < 1000000) (k : Int) :
    Calls Try.prog 52 #[.pointer (some ⟨b, 0, none⟩), .int .i64 k] w fun e w' => e = .returned (.tuple #[.int .i64 (posD k H : Nat), .bool (hasD k H)]) ∧ Below w.heap.size w w' := by
  have C := hide (search_any w h.hr h.srt k hn)
  have c0 := h.c0
  have HL := hide h
  clear h
  go_enter Try.func52, Try.ntmps52
  go_wp2_with fail
  refine (unhide C).mono ?_
  rintro e w' ⟨rfl, hb⟩
  have HB := hide hb
  clear hb
  go_wp2
  go_ret2
  exact ⟨rfl, unhide HB⟩
set_option maxRecDepth 100000 in
theorem holds_any (w : World) (h : La B H Q b hv qv w) (hn : H.length < 1000000) (k : Int) :
    Calls Try.prog 17 #[.pointer (some ⟨b, 0, none⟩), .int .i64 k] w fun e w' => e = .returned (.int .i64 (lookD k H)) ∧ Below w.heap.size w w' := by
  have HL := hide h
  cases hh : hasD k H
  · have e0 := hide (look_no hh)
    have hh2 := hide hh
    clear hh h
    go_enter Try.func17, Try.ntmps17
    go_wp2_with fail
    refine (holder_any w (unhide HL) hn k).mono ?_
    rw [unhide hh2]
    rintro e w' ⟨rfl, hb⟩
    have HB := hide hb
    clear hb
    go_wp2
    go_ret
    exact ⟨by rw [unhide e0]; rfl, unhide HB⟩
  · obtain ⟨p1, p2, p3⟩ := look_pos h.srt hh
    rcases h.hr with ⟨_, rfl⟩ | ⟨g, cap, rfl, _, r⟩
    · simp at p1
    have hh2 := hide hh
    have P3 := hide p3
    have P2 := hide p2
    have R := hide r
    clear hh h r p2 p3
    go_enter Try.func17, Try.ntmps17
    go_wp2_with fail
    refine (holder_any w (unhide HL) hn k).mono ?_
    rw [unhide hh2]
    rintro e w' ⟨rfl, hb⟩
    have c0 := ((unhide HL).next hb).c0
    have c2 := ((unhide R).next hb).snd p1
    rw [unhide P3] at c2
    have HB := hide hb
    clear hb
    generalize posD k H = i at *
    generalize H.length = n at *
    go_wp2
    go_ret
    exact ⟨rfl, unhide HB⟩
set_option maxRecDepth 100000 in
theorem place_any (w : World) (h : La B H Q b hv qv w) (hn : Q.length < 1000000) (k : Int) :
    Calls Try.prog 54 #[.pointer (some ⟨b, 0, none⟩), .int .i64 k] w fun e w' => e = .returned (.int .i64 (idxD (isWho k) Q)) ∧ Below w.heap.size w w' := by
  have HL := hide h
  have C : Hid (Calls Try.prog 81 #[qv, .func (.func 82) #[] #[.pointer (some ⟨w.heap.size, 0, none⟩)]] (w.alloc (.cells #[.int .i64 k] 3)) fun e w' => e = .returned (.int .i64 (idxD (isWho k) Q)) ∧ Below (w.alloc (.cells #[.int .i64 k] 3)).heap.size (w.alloc (.cells #[.int .i64 k] 3)) w') := by
    have hnew : (w.alloc (.cells #[.int .i64 k] 3)).cell? ⟨w.heap.size, 0, none⟩ = some (.int .i64 k) := by rw [World.cell?_alloc_new]; rfl
    have hlt : w.heap.size < (w.alloc (.cells #[.int .i64 k] 3)).heap.size := by simp
    exact index62_any (isWho k) ⟨w.heap.size, 0, none⟩ _ (h.next (below_new w _)).qr hn (fun x wr hb => place1_any x k w.heap.size wr ((hb.cell (p := ⟨w.heap.size, 0, none⟩) hlt).trans hnew) (Nat.lt_of_lt_of_le hlt hb.size))
  have c1 : ∀ o, (w.alloc o).cell? ⟨b, 1, none⟩ = some qv := fun o => (h.next (below_new w o)).c1
  clear h
  go_enter Try.func54, Try.ntmps54
  go_wp2_with fail
  refine (unhide C).mono ?_
  rintro e w' ⟨rfl, hb⟩
  have HB := hide (below_then (below_new w _) hb)
  clear hb
  go_wp2
  go_ret
  exact ⟨rfl, unhide HB⟩
set_option maxRecDepth 100000 in
theorem waits_any (w : World) (h : La B H Q b hv qv w) (hn : Q.length < 1000000) (k : Int) :
    Calls Try.prog 19 #[.pointer (some ⟨b, 0, none⟩), .int .i64 k] w fun e w' => e = .returned (.int .i64 (lookD k Q)) ∧ Below w.heap.size w w' := by
  have HL := hide h
  rcases look_idx (k := k) (l := Q) with ⟨e1, e2⟩ | ⟨i, p1, _, e2, _, e4⟩
  · have E0 := hide (look_no e1)
    have E2 := hide e2
    clear e1 e2 h
    go_enter Try.func19, Try.ntmps19
    go_wp2_with fail
    refine (place_any w (unhide HL) hn k).mono ?_
    rw [unhide E2]
    rintro e w' ⟨rfl, hb⟩
    have HB := hide hb
    clear hb
    go_wp2
    go_ret
    exact ⟨by rw [unhide E0]; rfl, unhide HB⟩
  · rcases h.qr with ⟨_, rfl⟩ | ⟨g, cap, rfl, _, r⟩
    · simp at p1
    have E2 := hide e2
    have E4 := hide e4
    have R := hide r
    clear e2 e4 h r
    go_enter Try.func19, Try.ntmps19
    go_wp2_with fail
    refine (place_any w (unhide HL) hn k).mono ?_
    rw [unhide E2]
    rintro e w' ⟨rfl, hb⟩
    have c1 := ((unhide HL).next hb).c1
    have c2 := ((unhide R).next hb).snd p1
    rw [unhide E4] at c2
    have HB := hide hb
    clear hb
    generalize Q.length = n at *
    go_wp2
    go_ret
    exact ⟨rfl, unhide HB⟩
/-- Does y go together with what each other one holds? -/
def fitsL (y : En) (l : List En) : Bool := !l.any (fun x => hindD x y)
set_option maxRecDepth 100000 in
theorem fits_lane (w : World) (h : La B H Q b hv qv w) (hn : H.length < 1000000) (y : En) :
    Calls Try.prog 44 #[.pointer (some ⟨b, 0, none⟩), .agg #[.int .i64 y.1, .int .i64 y.2]] w fun e w' => e = .returned (.bool (fitsL y H)) ∧ Below w.heap.size w w' := by
  have HL := hide h
  have C : Hid (Calls Try.prog 76 #[hv, .func (.func 77) #[] #[.pointer (some ⟨w.heap.size, 0, none⟩)]] (w.alloc (.cells #[.int .i64 y.1, .int .i64 y.2] 41)) fun e w' => e = .returned (.bool (H.any (fun x => hindD x y))) ∧ Below (w.alloc (.cells #[.int .i64 y.1, .int .i64 y.2] 41)).heap.size (w.alloc (.cells #[.int .i64 y.1, .int .i64 y.2] 41)) w') :=
    contains56_any y w.heap.size _ (h.next (below_new w _)).hr hn (by rw [World.cell?_alloc_new]; rfl) (by rw [World.cell?_alloc_new]; rfl) (by simp)
  have c0 : ∀ o, (w.alloc o).cell? ⟨b, 0, none⟩ = some hv := fun o => (h.next (below_new w o)).c0
  clear h
  go_enter Try.func44, Try.ntmps44
  go_wp2_with fail
  refine (unhide C).mono ?_
  rintro e w' ⟨rfl, hb⟩
  have HB := hide (below_then (below_new w _) hb)
  clear hb
  go_wp2
  go_ret
  exact ⟨rfl, unhide HB⟩
set_option maxRecDepth 100000 in
theorem empty_any (w : World) (h : La B H Q b hv qv w) :
    Calls Try.prog 26 #[.pointer (some ⟨b, 0, none⟩)] w fun e w' => e = .returned (.bool (H.length == 0 && Q.length == 0)) ∧ w' = w := by
  have c0 := h.c0
  have c1 := h.c1
  obtain ⟨a1, n1, rfl⟩ := slice_form h.hr
  obtain ⟨a2, n2, rfl⟩ := slice_form h.qr
  have HL := hide h
  clear h
  generalize H.length = n at *
  generalize Q.length = m at *
  by_cases e1 : n = 0 <;> by_cases e2 : m = 0
  all_goals
    have e3 := hide e1
    have e4 := hide e2
    go_enter Try.func26, Try.ntmps26
    go_wp2
    go_ret
    refine ⟨ret_bool ?_, rfl⟩
    have f1 : (n == 0) = decide (n = 0) := rfl
    have f2 : (m == 0) = decide (m = 0) := rfl
    have f3 : ((m : Int) == 0) = decide (m = 0) := by by_cases h : m = 0 <;> simp [h]
    simp [unhide e3, unhide e4, f3]
end Go.Proofs.Ytmdbmkekdpbliaa
