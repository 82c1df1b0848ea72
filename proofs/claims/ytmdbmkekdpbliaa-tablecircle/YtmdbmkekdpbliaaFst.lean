/- A lane with its rows left open; the examples of the chapter: first. -/
import Derived.Test.YtmdbmkekdpbliaaRead
namespace Go.Proofs.Ytmdbmkekdpbliaa
open Go.RowKit
variable {B : Nat} {H Q : List En} {b : Nat}

/-- The lane in block b, at or above B: H hold, Q wait. -/
def Ln (B : Nat) (H Q : List En) (b : Nat) (w : World) : Prop := ∃ hv qv, La B H Q b hv qv w
theorem Ln.next {w w' : World} (h : Ln B H Q b w) (k : Below w.heap.size w w') : Ln B H Q b w' := by
  obtain ⟨hv, qv, l⟩ := h
  exact ⟨hv, qv, l.next k⟩
theorem Ln.low {w : World} (h : Ln B H Q b w) : B ≤ w.heap.size := by
  obtain ⟨hv, qv, l⟩ := h
  exact l.low
theorem Ln.srt {w : World} (h : Ln B H Q b w) : Srt H := by
  obtain ⟨hv, qv, l⟩ := h
  exact l.srt
/-- Behind a call that makes memory alone. -/
theorem bt {w0 w w' : World} (h : Below B w0 w) (k : Below w.heap.size w w') (hB : B ≤ w.heap.size) : Below B w0 w' := h.trans (k.mono hB)
theorem ask_ln (w : World) (h : Ln B H Q b w) (hn : H.length + Q.length < 999999) (who m : Int) {r : Int × List En × List En} (hr : askD who m H Q = r) :
    Calls Try.prog 12 #[.pointer (some ⟨b, 0, none⟩), .int .i64 who, .int .i64 m] w fun e w' => e = .returned (.int .i64 r.1) ∧ Ln B r.2.1 r.2.2 b w' ∧ Below B w w' := by
  obtain ⟨hv, qv, l⟩ := h
  subst hr
  refine (ask_any w l (by omega) (by omega) who m).mono ?_
  rintro e w' ⟨h1, hv', qv', L, M⟩
  exact ⟨h1, ⟨hv', qv', L⟩, M.below l⟩
theorem leave_ln (w : World) (h : Ln B H Q b w) (hn : H.length + Q.length < 999999) (who : Int) {r : List Int × List En × List En} (hr : leaveD who H Q = r) :
    Calls Try.prog 15 #[.pointer (some ⟨b, 0, none⟩), .int .i64 who] w fun e w' => ∃ gv, e = .returned gv ∧ Is w.heap.size gv r.1 w' ∧ Ln B r.2.1 r.2.2 b w' ∧ Below B w w' := by
  obtain ⟨hv, qv, l⟩ := h
  subst hr
  refine (leave_any w l hn who).mono ?_
  rintro e w' ⟨gv, hv', qv', h1, h2, L, M⟩
  exact ⟨gv, h1, h2, ⟨hv', qv', L⟩, M.below l⟩
theorem blocks_ln (w : World) (h : Ln B H Q b w) (hn : H.length + Q.length < 999999) (who : Int) {r : List Int} (hr : blocksD who H Q = r) :
    Calls Try.prog 21 #[.pointer (some ⟨b, 0, none⟩), .int .i64 who] w fun e w' => ∃ v, e = .returned v ∧ Is w.heap.size v r w' ∧ Below w.heap.size w w' := by
  obtain ⟨hv, qv, l⟩ := h
  subst hr
  exact blocks_any w l hn who
theorem holds_ln (w : World) (h : Ln B H Q b w) (hn : H.length < 1000000) (k : Int) {r : Int} (hr : lookD k H = r) :
    Calls Try.prog 17 #[.pointer (some ⟨b, 0, none⟩), .int .i64 k] w fun e w' => e = .returned (.int .i64 r) ∧ Below w.heap.size w w' := by
  obtain ⟨hv, qv, l⟩ := h
  subst hr
  exact holds_any w l hn k
theorem waits_ln (w : World) (h : Ln B H Q b w) (hn : Q.length < 1000000) (k : Int) {r : Int} (hr : lookD k Q = r) :
    Calls Try.prog 19 #[.pointer (some ⟨b, 0, none⟩), .int .i64 k] w fun e w' => e = .returned (.int .i64 r) ∧ Below w.heap.size w w' := by
  obtain ⟨hv, qv, l⟩ := h
  subst hr
  exact waits_any w l hn k
theorem holders_ln (w : World) (h : Ln B H Q b w) (hn : H.length < 1000000) :
    Calls Try.prog 24 #[.pointer (some ⟨b, 0, none⟩)] w fun e w' => ∃ v', e = .returned v' ∧ Es w.heap.size v' H w' ∧ Below w.heap.size w w' := by
  obtain ⟨hv, qv, l⟩ := h
  exact holders_any w l hn
theorem queue_ln (w : World) (h : Ln B H Q b w) (hn : Q.length < 1000000) :
    Calls Try.prog 25 #[.pointer (some ⟨b, 0, none⟩)] w fun e w' => ∃ v', e = .returned v' ∧ Es w.heap.size v' Q w' ∧ Below w.heap.size w w' := by
  obtain ⟨hv, qv, l⟩ := h
  exact queue_any w l hn
theorem empty_ln (w : World) (h : Ln B H Q b w) : Calls Try.prog 26 #[.pointer (some ⟨b, 0, none⟩)] w fun e w' => e = .returned (.bool (H.length == 0 && Q.length == 0)) ∧ w' = w := by
  obtain ⟨hv, qv, l⟩ := h
  exact empty_any w l
theorem new_ln (w : World) : Calls Try.prog 11 #[] w fun e w' => e = .returned (.pointer (some ⟨w.heap.size, 0, none⟩)) ∧ Ln w.heap.size [] [] w.heap.size w' ∧ Below w.heap.size w w' := by
  refine (new_any w).mono ?_
  rintro e w' ⟨h1, h2, h3⟩
  exact ⟨h1, ⟨_, _, h2⟩, h3⟩
theorem ints_is (w : World) {v : Value} {l : List Int} (h : Is B v l w) (hl : l.length < 100000000) (x : Int) (W : World) (hW : W = w.alloc (.cells #[.int .i64 x] 3)) (N : Nat) (hN : N = w.heap.size) :
    Calls Try.prog 14 #[v, .slice (some ⟨N, 0, none⟩) 1 1] W fun e w' => e = .returned (.bool (l == [x])) ∧ Below w.heap.size w w' := by
  subst hW hN
  refine (ints_any v _ l [x] _ (h.rd.next (below_new w _)) (rd_one w x) hl (by simp)).mono ?_
  rintro e w' ⟨h1, h2⟩
  exact ⟨h1, below_then (below_new w _) h2⟩
/-- A sorted list without its repetitions: rising, and who was there is there. -/
theorem upto_facts (d : Array Int) (hs : ∀ i j, i < j → j < d.size → d[i]! ≤ d[j]!) : ∀ m, m ≤ d.size → (∀ x ∈ Lib.compactUpTo d m, ∃ j, j < m ∧ d[j]! = x) ∧ (∀ j, j < m → d[j]! ∈ Lib.compactUpTo d m) ∧ (Lib.compactUpTo d m).Pairwise (· < ·)
  | 0, _ => by simp [Lib.compactUpTo]
  | m + 1, hm => by
    obtain ⟨h1, h2, h3⟩ := upto_facts d hs m (by omega)
    rw [Lib.compactUpTo_succ]
    by_cases hk : Lib.keeps d m = true
    · rw [if_pos hk]
      refine ⟨fun x hx => ?_, fun j hj => ?_, ?_⟩
      · rcases List.mem_append.1 hx with h | h
        · obtain ⟨j, hj, e⟩ := h1 x h
          exact ⟨j, by omega, e⟩
        · exact ⟨m, by omega, (List.mem_singleton.1 h).symm⟩
      · rcases (show j < m ∨ j = m by omega) with h | rfl
        · exact List.mem_append_left _ (h2 j h)
        · exact List.mem_append_right _ (List.mem_singleton.2 rfl)
      · rw [List.pairwise_append]
        refine ⟨h3, List.pairwise_singleton _ _, fun x hx y hy => ?_⟩
        rw [List.mem_singleton.1 hy]
        obtain ⟨j, hj, e⟩ := h1 x hx
        have hne : d[m]! ≠ d[m - 1]! := by
          intro e2
          rw [Lib.keeps_neg (by omega) e2] at hk
          cases hk
        have h5 := hs (m - 1) m (by omega) (by omega)
        rcases (show j < m - 1 ∨ j = m - 1 by omega) with h | rfl
        · have h6 := hs j (m - 1) h (by omega)
          omega
        · omega
    · rw [if_neg hk, List.append_nil]
      refine ⟨fun x hx => ?_, fun j hj => ?_, h3⟩
      · obtain ⟨j, hj, e⟩ := h1 x hx
        exact ⟨j, by omega, e⟩
      · rcases (show j < m ∨ j = m by omega) with h | rfl
        · exact h2 j h
        · have h0 : 0 < j := by
            rcases Nat.eq_zero_or_pos j with e | e
            · subst e; exact absurd (Lib.keeps_lt_one d 0 (by omega)) hk
            · exact e
          have e2 : d[j]! = d[j - 1]! := by
            by_cases e2 : d[j]! = d[j - 1]!
            · exact e2
            · exact absurd (Lib.keeps_pos e2) hk
          rw [e2]
          exact h2 (j - 1) (by omega)
/-- Rising, each once. -/
def canon (l : List Int) : List Int := Lib.compact (sortI l)
theorem sortI_mem {l : List Int} {x : Int} : x ∈ sortI l ↔ x ∈ l := List.mem_mergeSort
theorem sortI_srt (l : List Int) : (sortI l).Pairwise (· ≤ ·) := by
  have := List.pairwise_mergeSort (le := fun x y : Int => decide (x ≤ y)) (fun a b c h1 h2 => by simp at *; omega) (fun a b => by simp; omega) l
  exact this.imp (fun h => by simpa using h)
theorem canon_facts (l : List Int) : (∀ x, x ∈ canon l ↔ x ∈ l) ∧ (canon l).Pairwise (· < ·) := by
  have hg : ∀ i, i < (sortI l).length → (sortI l).toArray[i]! = (sortI l).getD i 0 := fun i hi => by simp [List.getD, hi]
  obtain ⟨h1, h2, h3⟩ := upto_facts (sortI l).toArray (fun i j hij hj => by
    simp only [List.size_toArray] at hj
    rw [hg i (by omega), hg j hj]
    have := List.pairwise_iff_getElem.1 (sortI_srt l) i j (by omega) hj hij
    simpa [List.getD, hj, show i < (sortI l).length by omega] using this) (sortI l).length (by simp)
  refine ⟨fun x => ⟨fun hx => ?_, fun hx => ?_⟩, h3⟩
  · obtain ⟨j, hj, e⟩ := h1 x hx
    rw [hg j hj] at e
    rw [← sortI_mem, ← e]
    simp [List.getD, hj]
  · rw [← sortI_mem] at hx
    obtain ⟨j, hj, rfl⟩ := List.getElem_of_mem hx
    have := h2 j hj
    rw [hg j hj, show (sortI l).getD j 0 = (sortI l)[j] by simp [List.getD, hj]] at this
    exact this
theorem canon_one {l : List Int} {x : Int} (h : ∀ y, y ∈ l ↔ y = x) : canon l = [x] := by
  obtain ⟨h1, h2⟩ := canon_facts l
  have hm : ∀ y, y ∈ canon l ↔ y = x := fun y => (h1 y).trans (h y)
  cases hc : canon l with
  | nil => have := (hm x).2 rfl; rw [hc] at this; cases this
  | cons a r =>
    rw [hc] at hm h2
    have ha : a = x := (hm a).1 (by simp)
    cases r with
    | nil => rw [ha]
    | cons c r =>
      have hcx : c = x := (hm c).1 (by simp)
      have := (List.pairwise_cons.1 h2).1 c (by simp)
      omega
theorem canon_nil {l : List Int} (h : l = []) : canon l = [] := by
  subst h
  obtain ⟨h1, _⟩ := canon_facts []
  cases hc : canon [] with
  | nil => rfl
  | cons a r => have := (h1 a).1 (by rw [hc]; simp); cases this
theorem f1 : askD 1 3 [] [] = (1, [(1, 3)], []) := by decide +kernel
theorem f2 : askD 2 3 [(1, 3)] [] = (1, [(1, 3), (2, 3)], []) := by decide +kernel
theorem f3 : askD 1 5 [(1, 3), (2, 3)] [] = (2, [(1, 3), (2, 3)], [(1, 5)]) := by decide +kernel
theorem f4 : askD 2 5 [(1, 3), (2, 3)] [(1, 5)] = (2, [(1, 3), (2, 3)], [(1, 5), (2, 5)]) := by decide +kernel
theorem f5 : blocksD 1 [(1, 3), (2, 3)] [(1, 5), (2, 5)] = [2] := by decide +kernel
theorem f6 : blocksD 2 [(1, 3), (2, 3)] [(1, 5), (2, 5)] = [1] := canon_one (l := metD [(1, 3), (2, 3)] [(1, 5), (2, 5)] 1 (2, 5)) (fun y => by
  have e : metD [(1, 3), (2, 3)] [(1, 5), (2, 5)] 1 (2, 5) = [1, 1] := by decide +kernel
  rw [e]; simp)
set_option maxRecDepth 100000 in
set_option maxHeartbeats 2000000 in
theorem first_any (w : World) : Calls Try.prog 10 #[] w fun e w' => e = .returned (.bool true) ∧ Below w.heap.size w w' := by
  obtain ⟨N, hN⟩ : ∃ N, N = w.heap.size := ⟨_, rfl⟩
  go_enter Try.func10, Try.ntmps10
  go_wp2_with fail
  refine (new_ln w).mono ?_
  rw [← hN]
  rintro e w1 ⟨rfl, L1, B1⟩
  replace hN := hide hN
  replace L1 := hide L1
  replace B1 := hide B1
  go_wp2_with fail
  refine (empty_ln w1 (unhide L1)).mono ?_
  rintro e w2 ⟨rfl, rfl⟩
  go_wp2_with fail
  refine (ask_ln w2 (unhide L1) (by decide) 1 3 f1).mono ?_
  rintro e w3 ⟨rfl, L2, b2⟩
  have B2 := hide ((unhide B1).trans b2)
  replace L2 := hide L2
  clear b2
  go_wp2_with fail
  refine (ask_ln w3 (unhide L2) (by decide) 2 3 f2).mono ?_
  rintro e w4 ⟨rfl, L3, b2⟩
  have B3 := hide ((unhide B2).trans b2)
  replace L3 := hide L3
  clear b2
  go_wp2_with fail
  refine (ask_ln w4 (unhide L3) (by decide) 1 5 f3).mono ?_
  rintro e w5 ⟨rfl, L4, b2⟩
  have B4 := hide ((unhide B3).trans b2)
  replace L4 := hide L4
  clear b2
  go_wp2_with fail
  refine (ask_ln w5 (unhide L4) (by decide) 2 5 f4).mono ?_
  rintro e w6 ⟨rfl, L5, b2⟩
  have B5 := hide ((unhide B4).trans b2)
  replace L5 := hide L5
  clear b2
  go_wp2_with fail
  refine (blocks_ln w6 (unhide L5) (by decide) 1 f5).mono ?_
  rintro e w7 ⟨v7, rfl, I7, b2⟩
  have L6 := hide ((unhide L5).next b2)
  have B6 := hide (bt (unhide B5) b2 (unhide L5).low)
  replace I7 := hide I7
  clear b2
  go_wp2_with fail
  refine (ints_is w7 (unhide I7) (by decide) 2 _ rfl _ rfl).mono ?_
  rintro e w8 ⟨rfl, b2⟩
  have L7 := hide ((unhide L6).next b2)
  have B7 := hide (bt (unhide B6) b2 (unhide L6).low)
  clear b2
  go_wp2_with fail
  refine (blocks_ln w8 (unhide L7) (by decide) 2 f6).mono ?_
  rintro e w9 ⟨v9, rfl, I9, b2⟩
  have L8 := hide ((unhide L7).next b2)
  have B8 := hide (bt (unhide B7) b2 (unhide L7).low)
  replace I9 := hide I9
  clear b2
  go_wp2_with fail
  refine (ints_is w9 (unhide I9) (by decide) 1 _ rfl _ rfl).mono ?_
  rintro e w10 ⟨rfl, b2⟩
  have B9 := hide (bt (unhide B8) b2 (unhide L8).low)
  clear b2
  go_wp2
  go_ret
  exact ⟨rfl, by rw [← unhide hN]; exact unhide B9⟩
end Go.Proofs.Ytmdbmkekdpbliaa
