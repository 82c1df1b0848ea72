/- Texts of this claim, put together in their order. -/
import Derived.Lib.SliceRun
import Derived.Test.YtgiklggnolbiiaaGreatBase1
import Derived.Test.YtgiklggnolbiiaaGreatBase2
import Derived.Test.YtgiklggnolbiiaaGreatBase3
/- New, Clone, Holders, Queue; the reference's Ints and Has. -/
namespace Go.Proofs.YtgiklggnolbiiaaGreat
open Go.RowKit
variable {B : Nat} {H Q : List En} {b : Nat} {hv qv : Value}

set_option maxRecDepth 100000 in
theorem new_any (w : World) : Calls Tryz.prog 34 #[] w fun e w' => e = .returned (.pointer (some ⟨w.heap.size, 0, none⟩)) ∧ La w.heap.size [] [] w.heap.size (.slice none 0 0) (.slice none 0 0) w' ∧ Below w.heap.size w w' := by
  go_enter Tryz.func34, Tryz.ntmps34
  go_wp2
  go_ret
  exact ⟨rfl, ⟨heap_alloc_new w _, .inl ⟨rfl, rfl⟩, .inl ⟨rfl, rfl⟩, fun k hk => (by cases hk), Nat.le_refl _, List.Pairwise.nil⟩, below_new w _⟩
set_option maxRecDepth 100000 in
theorem clone_any (w : World) {v : Value} {l : List En} (h : Es B v l w) (hn : l.length < 1000000) :
    Calls Tryz.prog 57 #[v] w fun e w' => ∃ v', e = .returned v' ∧ Es w.heap.size v' l w' ∧ Below w.heap.size w w' := by
  rcases h with ⟨rfl, rfl⟩ | ⟨g, cap, rfl, hB, r⟩
  · have q := fun w => Lib.run_eql_slice_nil (P := Tryz.prog) w 58 92 none 0 0 0 0 Tryz.underlying58
    go_enter Tryz.func57, Tryz.ntmps57
    go_wp2
    go_ret
    exact ⟨_, rfl, .inl ⟨rfl, rfl⟩, Below.refl _ _⟩
  · obtain ⟨i0, hi, hz0, hz1, hz2⟩ := info_parts inf42
    have q := fun w => Lib.run_eql_slice_nil (P := Tryz.prog) w 58 92 (some ⟨g, 0, none⟩) l.length cap 0 0 Tryz.underlying58
    have BW := below_new w (.cells #[] 92)
    have own : Hid ((w.alloc (.cells #[] 92)).ownsRow w.heap.size 92 2 (.slice (some ⟨w.heap.size, 0, none⟩) 0 0) 0 []) := World.ownsRow_lit w #[] 0 (Nat.le_refl _) (Nat.zero_le _) rfl
    have r1 := r.next BW
    have hsrc : Hid (∀ j u, (pairs l)[j]? = some u → (w.alloc (.cells #[] 92)).cell? ((⟨g, 0, none⟩ : Addr).add j) = some u) := fun j u hj => by
      have hj2 : j < l.length * 2 := by have := (List.getElem?_eq_some_iff.1 hj).1; rwa [pairs_len] at this
      rw [Addr.add_lit, Nat.zero_add, r1.at_ hj2, hj]
    have h63 : Hid (0 + l.length ≤ maxLen) := by show _ ≤ _; unfold maxLen; omega
    have h64 : Hid ((0 + l.length) * 16 ≤ 140737488355328) := by show _ ≤ _; omega
    have HBW := hide BW
    have Hi := hide (And.intro hi (And.intro hz0 (And.intro hz1 hz2)))
    have R := hide r
    have hpl := hide (pairs_len l)
    have hp1 := hide (pairs_one l)
    clear BW r r1 hi hz0 hz1 hz2
    go_enter Tryz.func57, Tryz.ntmps57
    go_wp2_with (at_builtin; refine wpList_append_own _ rfl (.tmp 5) (.tmp 6) 58 rfl w.heap.size 92 i0 _ 2 16 Tryz.underlying58 (unhide Hi).1 (unhide Hi).2.1 (unhide Hi).2.2.1 (unhide Hi).2.2.2 rfl (by decide) _ 0 [] rfl (unhide own) ⟨g, 0, none⟩ l.length cap (pairs l) rfl (unhide hpl) (unhide hsrc) (unhide hp1) (unhide h63) (unhide h64) (unhide HBW).size ?_; intro v' w' a1 a2 _; replace a1 := hide a1; replace a2 := hide a2)
    go_ret
    have a3 := unhide a1
    rw [Nat.zero_add] at a3
    exact ⟨v', rfl, Es.of a3, (unhide HBW).trans (grown_below (unhide a2) (unhide HBW).size (fun k hk => ((unhide own).lt k hk).1))⟩
set_option maxRecDepth 100000 in
theorem holders_any (w : World) (h : La B H Q b hv qv w) (hn : H.length < 1000000) :
    Calls Tryz.prog 97 #[.pointer (some ⟨b, 0, none⟩)] w fun e w' => ∃ v', e = .returned v' ∧ Es w.heap.size v' H w' ∧ Below w.heap.size w w' := by
  have c0 := h.c0
  have C := hide (clone_any w h.hr hn)
  have HL := hide h
  clear h
  go_enter Tryz.func97, Tryz.ntmps97
  go_wp2_with fail
  refine (unhide C).mono ?_
  rintro e w' ⟨v', rfl, h1, h2⟩
  have HX := hide (And.intro h1 h2)
  clear h1 h2
  go_wp2
  go_ret
  exact ⟨_, rfl, (unhide HX).1, (unhide HX).2⟩
set_option maxRecDepth 100000 in
theorem queue_any (w : World) (h : La B H Q b hv qv w) (hn : Q.length < 1000000) :
    Calls Tryz.prog 27 #[.pointer (some ⟨b, 0, none⟩)] w fun e w' => ∃ v', e = .returned v' ∧ Es w.heap.size v' Q w' ∧ Below w.heap.size w w' := by
  have c0 := h.c1
  have C := hide (clone_any w h.qr hn)
  have HL := hide h
  clear h
  go_enter Tryz.func27, Tryz.ntmps27
  go_wp2_with fail
  refine (unhide C).mono ?_
  rintro e w' ⟨v', rfl, h1, h2⟩
  have HX := hide (And.intro h1 h2)
  clear h1 h2
  go_wp2
  go_ret
  exact ⟨_, rfl, (unhide HX).1, (unhide HX).2⟩
/-- The slice v is read: the numbers l. -/
def Rd (w : World) (v : Value) (l : List Int) : Prop := ∃ a cap, v = .slice a l.length cap ∧ SegK .i64 w a l.length l
theorem Rd.next {w w' : World} {v : Value} {l : List Int} (h : Rd w v l) (k : Below w.heap.size w w') : Rd w' v l := by
  obtain ⟨a, cap, e, s⟩ := h
  exact ⟨a, cap, e, s.later k⟩
theorem Is.rd {w : World} {v : Value} {l : List Int} (h : Is B v l w) : Rd w v l := by
  rcases h.2 with ⟨rfl, e⟩ | ⟨g, cap, cur, rfl, _, hg, _⟩
  · have : l = [] := List.eq_nil_of_length_eq_zero e
    subst this
    exact ⟨none, 0, rfl, seg_nil _ _⟩
  · refine ⟨_, cap, rfl, rfl, .inr ⟨g, 0, rfl, fun i hi => ?_⟩⟩
    have := h.cells (g := g) rfl i (.int .i64 (l.getD i 0)) (by
      unfold vals
      rw [List.getElem?_map, List.getElem?_eq_getElem hi]; simp [List.getD, hi])
    rwa [Addr.add_lit] at this
theorem rd_one (w : World) (x : Int) : Rd (w.alloc (.cells #[.int .i64 x] 3)) (.slice (some ⟨w.heap.size, 0, none⟩) 1 1) [x] := ⟨_, 1, rfl, seg1 w x⟩
theorem eq_take {l m : List Int} {k : Nat} (h : l.length = m.length) (hk : l.length ≤ k) (hall : ∀ j, j < k → l.getD j 0 = m.getD j 0) : (l == m) = true := by
  rw [beq_iff_eq]
  apply List.ext_getElem h
  intro j h1 h2
  have := hall j (by omega)
  simpa [h1, h2] using this
theorem ne_at {l m : List Int} {k : Nat} (h : l.getD k 0 ≠ m.getD k 0) : (l == m) = false := by
  rw [beq_eq_false_iff_ne]
  rintro rfl
  exact h rfl
theorem seg_at {w : World} {a : Option Addr} {l : List Int} (h : SegK .i64 w a l.length l) {i : Nat} (hi : i < l.length) : ∃ b off, a = some ⟨b, off, none⟩ ∧ w.cell? ⟨b, off + i, none⟩ = some (.int .i64 (l.getD i 0)) := by
  rcases h.2 with h0 | ⟨b, off, e, hc⟩
  · omega
  · exact ⟨b, off, e, hc i hi⟩
set_option maxRecDepth 100000 in
theorem ints_any (u v : Value) (l m : List Int) (w : World) (hu : Rd w u l) (hv : Rd w v m) (hl9 : l.length < 100000000) (hm9 : m.length < 100000000) :
    Calls Tryz.prog 10 #[u, v] w fun e w' => e = .returned (.bool (l == m)) ∧ Below w.heap.size w w' := by
  obtain ⟨a, ca, rfl, h3⟩ := hu
  obtain ⟨b, cb, rfl, g3⟩ := hv
  replace h3 := hide h3
  replace g3 := hide g3
  by_cases hl : l.length = m.length
  · have hl2 := hide hl
    rw [← hl]
    clear hl hm9
    go_enter Tryz.func10, Tryz.ntmps10
    go_wp2_with fail
    go_loopw [5] (fun i wr => ∃ k : Nat, k ≤ l.length ∧ i = .int .i64 k ∧ Below w.heap.size w wr ∧ Hid (∀ j, j < k → l.getD j 0 = m.getD j 0)) (fun i _ => l.length - (intOf i).toNat)
    case atStart => exact ⟨0, Nat.zero_le _, rfl, Below.refl _ _, fun j hj => absurd hj (Nat.not_lt_zero _)⟩
    case round =>
      obtain ⟨k, hk, rfl, hb, hall⟩ := hrel
      by_cases hlt : k < l.length
      · obtain ⟨b1, o1, rfl, c1⟩ := seg_at ((unhide h3).later hb) (i := k) hlt
        obtain ⟨b2, o2, rfl, c2⟩ := seg_at ((unhide g3).later hb) (i := k) (by have := unhide hl2; omega)
        obtain ⟨x, hx⟩ : ∃ x, l.getD k 0 = x := ⟨_, rfl⟩
        obtain ⟨y, hy⟩ : ∃ y, m.getD k 0 = y := ⟨_, rfl⟩
        rw [hx] at c1
        rw [hy] at c2
        replace hb := hide hb
        by_cases e : x = y
        · have eb : (x == y) = true := by simpa using e
          have hall2 : Hid (∀ j, j < k + 1 → l.getD j 0 = m.getD j 0) := hide fun j hj => by
            by_cases h : j < k
            · exact unhide hall j h
            · obtain rfl : j = k := by omega
              rw [hx, hy, e]
          subst e
          clear hx hy
          go_wp2_with fail
          go_region
          all_goals
            go_wp2
            go_roundw
            case rel => exact ⟨k + 1, by omega, by go_num, (unhide hb).drew, unhide hall2⟩
            case measure => simp [intOf]; omega
        · have eb : (x == y) = false := by simpa using e
          have r : Hid ((l == m) = false) := hide (ne_at (k := k) (by rw [hx, hy]; exact e))
          clear hx hy
          go_wp2_with fail
          go_region
          all_goals
            go_wp2
            go_ret
            exact ⟨by rw [unhide r]; rfl, (unhide hb).drew⟩
      · have r : Hid ((l == m) = true) := hide (eq_take (k := k) (unhide hl2) (by omega) (unhide hall))
        replace hb := hide hb
        go_wp2
        go_ret
        exact ⟨by rw [unhide r]; rfl, unhide hb⟩
  · have r : Hid ((l == m) = false) := by
      show _ = _
      rw [beq_eq_false_iff_ne]
      rintro rfl
      exact hl rfl
    go_enter Tryz.func10, Tryz.ntmps10
    go_wp2
    go_ret
    exact ⟨by rw [unhide r]; rfl, Below.refl _ _⟩
end Go.Proofs.YtgiklggnolbiiaaGreat

/- A lane with its rows left open; the examples of the chapter: first. -/
namespace Go.Proofs.YtgiklggnolbiiaaGreat
open Go.RowKit
variable {B : Nat} {H Q : List En} {b : Nat}

/-- The lane in block b, at or above B: H hold, Q wait. -/
def Ln (B : Nat) (H Q : List En) (b : Nat) (w : World) : Prop := ∃ hv qv, La B H Q b hv qv w
theorem Ln.next {w w' : World} (h : Ln B H Q b w) (k : Below w.heap.size w w') : Ln B H Q b w' := by
  obtain ⟨hv, qv, l⟩ := h
  exact ⟨hv, qv, l.next k⟩
theorem Ln.low {w : World} (h : Ln B H Q b w) : B ≤ w.heap.size := by
  obtain ⟨hv, qv, l⟩ := h
  exact l.low
theorem Ln.srt {w : World} (h : Ln B H Q b w) : Srt H := by
  obtain ⟨hv, qv, l⟩ := h
  exact l.srt
/-- Behind a call that makes memory alone. -/
theorem bt {w0 w w' : World} (h : Below B w0 w) (k : Below w.heap.size w w') (hB : B ≤ w.heap.size) : Below B w0 w' := h.trans (k.mono hB)
theorem ask_ln (w : World) (h : Ln B H Q b w) (hn : H.length + Q.length < 999999) (who m : Int) {r : Int × List En × List En} (hr : askD who m H Q = r) :
    Calls Tryz.prog 36 #[.pointer (some ⟨b, 0, none⟩), .int .i64 who, .int .i64 m] w fun e w' => e = .returned (.int .i64 r.1) ∧ Ln B r.2.1 r.2.2 b w' ∧ Below B w w' := by
  obtain ⟨hv, qv, l⟩ := h
  subst hr
  refine (ask_any w l (by omega) (by omega) who m).mono ?_
  rintro e w' ⟨h1, hv', qv', L, M⟩
  exact ⟨h1, ⟨hv', qv', L⟩, M.below l⟩
theorem leave_ln (w : World) (h : Ln B H Q b w) (hn : H.length + Q.length < 999999) (who : Int) {r : List Int × List En × List En} (hr : leaveD who H Q = r) :
    Calls Tryz.prog 42 #[.pointer (some ⟨b, 0, none⟩), .int .i64 who] w fun e w' => ∃ gv, e = .returned gv ∧ Is w.heap.size gv r.1 w' ∧ Ln B r.2.1 r.2.2 b w' ∧ Below B w w' := by
  obtain ⟨hv, qv, l⟩ := h
  subst hr
  refine (leave_any w l hn who).mono ?_
  rintro e w' ⟨gv, hv', qv', h1, h2, L, M⟩
  exact ⟨gv, h1, h2, ⟨hv', qv', L⟩, M.below l⟩
theorem blocks_ln (w : World) (h : Ln B H Q b w) (hn : H.length + Q.length < 999999) (who : Int) {r : List Int} (hr : blocksD who H Q = r) :
    Calls Tryz.prog 91 #[.pointer (some ⟨b, 0, none⟩), .int .i64 who] w fun e w' => ∃ v, e = .returned v ∧ Is w.heap.size v r w' ∧ Below w.heap.size w w' := by
  obtain ⟨hv, qv, l⟩ := h
  subst hr
  exact blocks_any w l hn who
theorem holds_ln (w : World) (h : Ln B H Q b w) (hn : H.length < 1000000) (k : Int) {r : Int} (hr : lookD k H = r) :
    Calls Tryz.prog 47 #[.pointer (some ⟨b, 0, none⟩), .int .i64 k] w fun e w' => e = .returned (.int .i64 r) ∧ Below w.heap.size w w' := by
  obtain ⟨hv, qv, l⟩ := h
  subst hr
  exact holds_any w l hn k
theorem waits_ln (w : World) (h : Ln B H Q b w) (hn : Q.length < 1000000) (k : Int) {r : Int} (hr : lookD k Q = r) :
    Calls Tryz.prog 45 #[.pointer (some ⟨b, 0, none⟩), .int .i64 k] w fun e w' => e = .returned (.int .i64 r) ∧ Below w.heap.size w w' := by
  obtain ⟨hv, qv, l⟩ := h
  subst hr
  exact waits_any w l hn k
theorem holders_ln (w : World) (h : Ln B H Q b w) (hn : H.length < 1000000) :
    Calls Tryz.prog 97 #[.pointer (some ⟨b, 0, none⟩)] w fun e w' => ∃ v', e = .returned v' ∧ Es w.heap.size v' H w' ∧ Below w.heap.size w w' := by
  obtain ⟨hv, qv, l⟩ := h
  exact holders_any w l hn
theorem queue_ln (w : World) (h : Ln B H Q b w) (hn : Q.length < 1000000) :
    Calls Tryz.prog 27 #[.pointer (some ⟨b, 0, none⟩)] w fun e w' => ∃ v', e = .returned v' ∧ Es w.heap.size v' Q w' ∧ Below w.heap.size w w' := by
  obtain ⟨hv, qv, l⟩ := h
  exact queue_any w l hn
theorem new_ln (w : World) : Calls Tryz.prog 34 #[] w fun e w' => e = .returned (.pointer (some ⟨w.heap.size, 0, none⟩)) ∧ Ln w.heap.size [] [] w.heap.size w' ∧ Below w.heap.size w w' := by
  refine (new_any w).mono ?_
  rintro e w' ⟨h1, h2, h3⟩
  exact ⟨h1, ⟨_, _, h2⟩, h3⟩
theorem ints_is (w : World) {v : Value} {l : List Int} (h : Is B v l w) (hl : l.length < 100000000) (x : Int) (W : World) (hW : W = w.alloc (.cells #[.int .i64 x] 3)) (N : Nat) (hN : N = w.heap.size) :
    Calls Tryz.prog 10 #[v, .slice (some ⟨N, 0, none⟩) 1 1] W fun e w' => e = .returned (.bool (l == [x])) ∧ Below w.heap.size w w' := by
  subst hW hN
  refine (ints_any v _ l [x] _ (h.rd.next (below_new w _)) (rd_one w x) hl (by simp)).mono ?_
  rintro e w' ⟨h1, h2⟩
  exact ⟨h1, below_then (below_new w _) h2⟩
/-- A sorted list without its repetitions: rising, and who was there is there. -/
theorem upto_facts (d : Array Int) (hs : ∀ i j, i < j → j < d.size → d[i]! ≤ d[j]!) : ∀ m, m ≤ d.size → (∀ x ∈ Lib.compactUpTo d m, ∃ j, j < m ∧ d[j]! = x) ∧ (∀ j, j < m → d[j]! ∈ Lib.compactUpTo d m) ∧ (Lib.compactUpTo d m).Pairwise (· < ·)
  | 0, _ => by simp [Lib.compactUpTo]
  | m + 1, hm => by
    obtain ⟨h1, h2, h3⟩ := upto_facts d hs m (by omega)
    rw [Lib.compactUpTo_succ]
    by_cases hk : Lib.keeps d m = true
    · rw [if_pos hk]
      refine ⟨fun x hx => ?_, fun j hj => ?_, ?_⟩
      · rcases List.mem_append.1 hx with h | h
        · obtain ⟨j, hj, e⟩ := h1 x h
          exact ⟨j, by omega, e⟩
        · exact ⟨m, by omega, (List.mem_singleton.1 h).symm⟩
      · rcases (show j < m ∨ j = m by omega) with h | rfl
        · exact List.mem_append_left _ (h2 j h)
        · exact List.mem_append_right _ (List.mem_singleton.2 rfl)
      · rw [List.pairwise_append]
        refine ⟨h3, List.pairwise_singleton _ _, fun x hx y hy => ?_⟩
        rw [List.mem_singleton.1 hy]
        obtain ⟨j, hj, e⟩ := h1 x hx
        have hne : d[m]! ≠ d[m - 1]! := by
          intro e2
          rw [Lib.keeps_neg (by omega) e2] at hk
          cases hk
        have h5 := hs (m - 1) m (by omega) (by omega)
        rcases (show j < m - 1 ∨ j = m - 1 by omega) with h | rfl
        · have h6 := hs j (m - 1) h (by omega)
          omega
        · omega
    · rw [if_neg hk, List.append_nil]
      refine ⟨fun x hx => ?_, fun j hj => ?_, h3⟩
      · obtain ⟨j, hj, e⟩ := h1 x hx
        exact ⟨j, by omega, e⟩
      · rcases (show j < m ∨ j = m by omega) with h | rfl
        · exact h2 j h
        · have h0 : 0 < j := by
            rcases Nat.eq_zero_or_pos j with e | e
            · subst e; exact absurd (Lib.keeps_lt_one d 0 (by omega)) hk
            · exact e
          have e2 : d[j]! = d[j - 1]! := by
            by_cases e2 : d[j]! = d[j - 1]!
            · exact e2
            · exact absurd (Lib.keeps_pos e2) hk
          rw [e2]
          exact h2 (j - 1) (by omega)
/-- Rising, each once. -/
def canon (l : List Int) : List Int := Lib.compact (sortI l)
theorem sortI_mem {l : List Int} {x : Int} : x ∈ sortI l ↔ x ∈ l := List.mem_mergeSort
theorem sortI_srt (l : List Int) : (sortI l).Pairwise (· ≤ ·) := by
  have := List.pairwise_mergeSort (le := fun x y : Int => decide (x ≤ y)) (fun a b c h1 h2 => by simp at *; omega) (fun a b => by simp; omega) l
  exact this.imp (fun h => by simpa using h)
theorem canon_facts (l : List Int) : (∀ x, x ∈ canon l ↔ x ∈ l) ∧ (canon l).Pairwise (· < ·) := by
  have hg : ∀ i, i < (sortI l).length → (sortI l).toArray[i]! = (sortI l).getD i 0 := fun i hi => by simp [List.getD, hi]
  obtain ⟨h1, h2, h3⟩ := upto_facts (sortI l).toArray (fun i j hij hj => by
    simp only [List.size_toArray] at hj
    rw [hg i (by omega), hg j hj]
    have := List.pairwise_iff_getElem.1 (sortI_srt l) i j (by omega) hj hij
    simpa [List.getD, hj, show i < (sortI l).length by omega] using this) (sortI l).length (by simp)
  refine ⟨fun x => ⟨fun hx => ?_, fun hx => ?_⟩, h3⟩
  · obtain ⟨j, hj, e⟩ := h1 x hx
    rw [hg j hj] at e
    rw [← sortI_mem, ← e]
    simp [List.getD, hj]
  · rw [← sortI_mem] at hx
    obtain ⟨j, hj, rfl⟩ := List.getElem_of_mem hx
    have := h2 j hj
    rw [hg j hj, show (sortI l).getD j 0 = (sortI l)[j] by simp [List.getD, hj]] at this
    exact this
theorem canon_one {l : List Int} {x : Int} (h : ∀ y, y ∈ l ↔ y = x) : canon l = [x] := by
  obtain ⟨h1, h2⟩ := canon_facts l
  have hm : ∀ y, y ∈ canon l ↔ y = x := fun y => (h1 y).trans (h y)
  cases hc : canon l with
  | nil => have := (hm x).2 rfl; rw [hc] at this; cases this
  | cons a r =>
    rw [hc] at hm h2
    have ha : a = x := (hm a).1 (by simp)
    cases r with
    | nil => rw [ha]
    | cons c r =>
      have hcx : c = x := (hm c).1 (by simp)
      have := (List.pairwise_cons.1 h2).1 c (by simp)
      omega
theorem canon_nil {l : List Int} (h : l = []) : canon l = [] := by
  subst h
  obtain ⟨h1, _⟩ := canon_facts []
  cases hc : canon [] with
  | nil => rfl
  | cons a r => have := (h1 a).1 (by rw [hc]; simp); cases this
theorem f1 : askD 1 3 [] [] = (1, [(1, 3)], []) := by decide +kernel
theorem f2 : askD 2 3 [(1, 3)] [] = (1, [(1, 3), (2, 3)], []) := by decide +kernel
theorem f3 : askD 1 5 [(1, 3), (2, 3)] [] = (2, [(1, 3), (2, 3)], [(1, 5)]) := by decide +kernel
theorem f4 : askD 2 5 [(1, 3), (2, 3)] [(1, 5)] = (2, [(1, 3), (2, 3)], [(1, 5), (2, 5)]) := by decide +kernel
theorem f5 : blocksD 1 [(1, 3), (2, 3)] [(1, 5), (2, 5)] = [2] := by decide +kernel
theorem f6 : blocksD 2 [(1, 3), (2, 3)] [(1, 5), (2, 5)] = [1] := canon_one (l := metD [(1, 3), (2, 3)] [(1, 5), (2, 5)] 1 (2, 5)) (fun y => by
  have e : metD [(1, 3), (2, 3)] [(1, 5), (2, 5)] 1 (2, 5) = [1, 1] := by decide +kernel
  rw [e]; simp)
end Go.Proofs.YtgiklggnolbiiaaGreat

/- What holds of the six modes, by looking at all of them. -/
namespace Go.Proofs.YtgiklggnolbiiaaGreat
open Go.RowKit

theorem six {m : Int} (h : knownB m = true) : ∃ i : Fin 6, m = (i.val : Int) := by
  have := known_iff.1 h
  exact ⟨⟨m.toNat, by omega⟩, by simp; omega⟩
/-- The least above two. -/
def sup2 (a b : Int) : Int := joinD (joinD 0 a) b
theorem supL_pair (a b : Int) : supL [a, b] = sup2 a b := rfl
theorem supL_triple (a b c : Int) : supL [a, b, c] = joinD (sup2 a b) c := rfl

set_option maxRecDepth 20000 in
theorem two_facts : ∀ i j : Fin 6, let a : Int := i.val; let b : Int := j.val;
    fitsB b a = fitsB a b ∧ sup2 b a = sup2 a b ∧ sup2 a a = a ∧ knownB (sup2 a b) = true ∧ coversB (sup2 a b) a = true ∧ coversB (sup2 a b) b = true ∧
    (coversB a b = true → coversB (intentD a) (intentD b) = true ∧ (readsB b = true → readsB a = true) ∧ (writesB b = true → writesB a = true)) ∧
    (coversB a b = true → coversB b a = true → a = b) ∧ (writesB a = true → readsB a = true) ∧
    (writesB a = true → b ≠ 0 → fitsB a b = false) ∧ (readsB a = true → coversB b 2 = true → fitsB a b = false) ∧ fitsB 0 a = true ∧ fitsB a 0 = true ∧
    fitsB (intentD a) (intentD b) = true ∧ coversB a (intentD a) = true ∧ intentD (intentD a) = intentD a ∧
    coversB a a = true ∧ coversB a 0 = true ∧ coversB 5 a = true ∧ (coversB a b = true ∨ coversB b a = true ∨ a + b = 5) := by
  decide +kernel
set_option maxRecDepth 20000 in
theorem three_facts : ∀ i j k : Fin 6, let a : Int := i.val; let b : Int := j.val; let c : Int := k.val;
    sup2 (sup2 a b) c = joinD (sup2 a b) c ∧ (fitsB c (sup2 a b) = true → fitsB c a = true ∧ fitsB c b = true) ∧
    (coversB c a = true → coversB c b = true → coversB c (sup2 a b) = true) ∧
    (coversB a b = true → coversB b c = true → coversB a c = true) ∧ (coversB a b = true → fitsB a c = true → fitsB b c = true) := by
  decide +kernel
end Go.Proofs.YtgiklggnolbiiaaGreat

/- What Ask and Leave keep (plain facts). -/
namespace Go.Proofs.YtgiklggnolbiiaaGreat
open Go.RowKit

/-- A mode that one can hold. -/
def md (m : Int) : Prop := 1 ≤ m ∧ m ≤ 5
theorem has_iff {k : Int} {l : List En} : hasD k l = true ↔ ∃ x ∈ l, x.1 = k := by
  unfold hasD
  rw [List.any_eq_true]
  simp
theorem hasnt {k : Int} {l : List En} (h : hasD k l = false) : ∀ x ∈ l, x.1 ≠ k := fun x hx e => by
  rw [has_iff.2 ⟨x, hx, e⟩] at h; cases h
theorem look_mem {k : Int} : ∀ {l : List En}, hasD k l = true → (k, lookD k l) ∈ l
  | [], h => by cases h
  | p :: r, h => by
    unfold lookD
    cases e : (p.1 == k)
    · have h2 : hasD k r = true := by
        unfold hasD at h ⊢
        rw [List.any_cons, e] at h
        simpa using h
      exact List.mem_cons_of_mem _ (look_mem h2)
    · have : p.1 = k := by simpa using e
      rw [← this]
      exact List.mem_cons_self
theorem look_zero {k : Int} {l : List En} (hm : ∀ x ∈ l, md x.2) : lookD k l = 0 ↔ hasD k l = false := by
  refine ⟨fun h => ?_, look_no⟩
  cases e : hasD k l
  · rfl
  · have := (hm _ (look_mem e)).1
    simp only at this; omega
theorem look_uniq {k v : Int} : ∀ {l : List En}, Srt l → (k, v) ∈ l → lookD k l = v
  | [], _, h => by cases h
  | p :: r, hs, h => by
    obtain ⟨h1, h2⟩ := List.pairwise_cons.1 hs
    unfold lookD
    rcases List.mem_cons.1 h with e | h
    · subst e; simp
    · have := h1 _ h
      have e : (p.1 == k) = false := by rw [beq_eq_false_iff_ne]; simp only at this; omega
      rw [e]
      exact look_uniq (l := r) h2 h
theorem put_mem {y z : En} {l : List En} (h : z ∈ putD y l) : z = y ∨ z ∈ l := by
  unfold putD at h
  split at h
  · rcases List.mem_or_eq_of_mem_set h with h | h
    · exact .inr h
    · exact .inl h
  · rcases List.mem_append.1 h with h | h
    · exact .inr (List.mem_of_mem_take h)
    · rcases List.mem_cons.1 h with h | h
      · exact .inl h
      · exact .inr (List.mem_of_mem_drop h)
theorem mem_put {y : En} {l : List En} (hs : Srt l) : y ∈ putD y l := by
  unfold putD
  split
  · rename_i hh
    exact List.mem_set (look_pos hs hh).1 y
  · exact List.mem_append_right _ List.mem_cons_self
theorem put_old {y z : En} {l : List En} (hs : Srt l) (h : z ∈ l) (hne : z.1 ≠ y.1) : z ∈ putD y l := by
  unfold putD
  split
  · rename_i hh
    obtain ⟨p1, p2, _⟩ := look_pos hs hh
    obtain ⟨j, hj, rfl⟩ := List.getElem_of_mem h
    have hjp : posD y.1 l ≠ j := by
      rintro e
      apply hne
      have e2 : (l.getD j (0, 0)).1 = y.1 := by rw [← e]; exact p2
      simpa [List.getD, hj] using e2
    have : (l.set (posD y.1 l) y)[j]'(by rw [List.length_set]; exact hj) = l[j] := List.getElem_set_ne hjp _
    rw [← this]
    exact List.getElem_mem _
  · rw [← List.take_append_drop (posD y.1 l) l] at h
    rcases List.mem_append.1 h with h | h
    · exact List.mem_append_left _ h
    · exact List.mem_append_right _ (List.mem_cons_of_mem _ h)
theorem wait_mem {held : Int} {y z : En} {H Q : List En} : z ∈ waitD held y H Q ↔ z = y ∨ z ∈ Q := by
  unfold waitD
  split
  · rw [List.mem_append, List.mem_singleton]; exact Or.comm
  · rw [List.mem_append, List.mem_cons]
    constructor
    · rintro (h | h | h)
      · exact .inr (List.mem_of_mem_take h)
      · exact .inl h
      · exact .inr (List.mem_of_mem_drop h)
    · rintro (h | h)
      · exact .inr (.inl h)
      · rw [← List.take_append_drop (convD H Q) Q] at h
        rcases List.mem_append.1 h with h | h
        · exact .inl h
        · exact .inr (.inr h)
theorem wait_len (held : Int) (y : En) (H Q : List En) : (waitD held y H Q).length = Q.length + 1 := by
  unfold waitD
  split
  · simp
  · exact ins_len Q _ y (conv_le H Q)
/-- Each waits once. -/
def Once (l : List En) : Prop := l.Pairwise (fun a b => a.1 ≠ b.1)
theorem once_wait {held : Int} {y : En} {H Q : List En} (h : Once Q) (hy : ∀ x ∈ Q, x.1 ≠ y.1) : Once (waitD held y H Q) := by
  unfold waitD Once
  split
  · rw [List.pairwise_append]
    exact ⟨h, List.pairwise_singleton _ _, fun a ha c hc => by rw [List.mem_singleton.1 hc]; exact hy a ha⟩
  · rw [List.pairwise_append]
    refine ⟨h.sublist (List.take_sublist _ _), ?_, fun a ha c hc => ?_⟩
    · rw [List.pairwise_cons]
      exact ⟨fun a ha => fun e => hy a (List.mem_of_mem_drop ha) e.symm, h.sublist (List.drop_sublist _ _)⟩
    · rcases List.mem_cons.1 hc with rfl | hc
      · exact hy a (List.mem_of_mem_take ha)
      · have h2 : (Q.take (convD H Q) ++ Q.drop (convD H Q)).Pairwise (fun a b => a.1 ≠ b.1) := by rw [List.take_append_drop]; exact h
        exact (List.pairwise_append.1 h2).2.2 a ha c hc

/-- What holds of a lane at all times: modes that can be held; each waits once; the first that waits does not fit. -/
structure Ok (H Q : List En) : Prop where
  hm : ∀ x ∈ H, md x.2
  qm : ∀ x ∈ Q, md x.2
  once : Once Q
  first : ∀ x r, Q = x :: r → fitsL x H = false
theorem ok_nil : Ok [] [] := ⟨fun x h => (by cases h), fun x h => (by cases h), List.Pairwise.nil, fun x r h => (by cases h)⟩
theorem fits_knows {a b : Int} (h : fitsB a b = true) : knownB a = true ∧ knownB b = true := by
  unfold fitsB at h
  simp only [known_iff, hasB] at *
  repeat' split at h
  all_goals simp_all [known_iff]
  all_goals omega
theorem goal_md {held m : Int} (hh : held = 0 ∨ md held) (hm : knownB m = true) (h0 : (m == 0) = false) : md (goal held m) ∧ ∀ x, fitsB x (goal held m) = true → md held → fitsB x held = true := by
  have hk : knownB held = true := by
    rw [known_iff]
    rcases hh with h | h
    · omega
    · exact ⟨by have := h.1; omega, h.2⟩
  obtain ⟨i, rfl⟩ := six hk
  obtain ⟨j, rfl⟩ := six hm
  have key : ∀ i j : Fin 6, ((j.val : Int) == 0) = false → (decide (1 ≤ goal (i.val : Int) (j.val : Int)) && decide (goal (i.val : Int) (j.val : Int) ≤ 5)) = true := by decide +kernel
  have h1 := key i j h0
  simp only [Bool.and_eq_true, decide_eq_true_eq] at h1
  refine ⟨h1, fun x hx hmd => ?_⟩
  have hxk : knownB x = true := by
    cases e : knownB x
    · rw [(fits_knows hx).1] at e; cases e
    · rfl
  obtain ⟨k, rfl⟩ := six hxk
  have key2 : ∀ i j k : Fin 6, (!fitsB (k.val : Int) (goal (i.val : Int) (j.val : Int)) || fitsB (k.val : Int) (i.val : Int)) = true := by decide +kernel
  have h2 := key2 i j k
  rw [hx] at h2
  simpa using h2
theorem fits_no {x : En} {H : List En} : fitsL x H = false ↔ ∃ h ∈ H, hindD h x = true := by
  unfold fitsL
  rw [Bool.not_eq_false', List.any_eq_true]
theorem wait_first {held : Int} {y x : En} {H Q r : List En} (e : waitD held y H Q = x :: r) : (∃ r', Q = x :: r') ∨ (x = y ∧ passD held H Q = true) := by
  unfold waitD at e
  unfold passD
  cases hh : (held == 0)
  · rw [hh] at e
    simp only [Bool.false_eq_true, if_false] at e ⊢
    cases hc : convD H Q with
    | zero =>
      rw [hc] at e
      simp only [List.take_zero, List.nil_append] at e
      injection e with e1 _
      exact .inr ⟨e1.symm, rfl⟩
    | succ n =>
      cases Q with
      | nil => simp [convD] at hc
      | cons q r2 =>
        rw [hc] at e
        simp only [List.take_succ_cons, List.cons_append] at e
        injection e with e1 _
        exact .inl ⟨r2, by rw [e1]⟩
  · rw [hh] at e
    simp only [if_true] at e ⊢
    cases Q with
    | nil =>
      simp only [List.nil_append] at e
      injection e with e1 _
      exact .inr ⟨e1.symm, rfl⟩
    | cons q r2 =>
      simp only [List.cons_append] at e
      injection e with e1 _
      exact .inl ⟨r2, by rw [e1]⟩
/-- Ask keeps it; who is there was there, or asked; one more at most. -/
theorem ask_ok {H Q : List En} (who m : Int) (hs : Srt H) (h : Ok H Q) : Ok (askD who m H Q).2.1 (askD who m H Q).2.2 ∧ (askD who m H Q).2.1.length + (askD who m H Q).2.2.length ≤ H.length + Q.length + 1 ∧
    (∀ x ∈ (askD who m H Q).2.1, x.1 = who ∨ ∃ z ∈ H, z.1 = x.1) ∧ (∀ x ∈ (askD who m H Q).2.2, x.1 = who ∨ ∃ z ∈ Q, z.1 = x.1) := by
  have same : Ok H Q ∧ H.length + Q.length ≤ H.length + Q.length + 1 ∧ (∀ x ∈ H, x.1 = who ∨ ∃ z ∈ H, z.1 = x.1) ∧ (∀ x ∈ Q, x.1 = who ∨ ∃ z ∈ Q, z.1 = x.1) :=
    ⟨h, by omega, fun x hx => .inr ⟨x, hx, rfl⟩, fun x hx => .inr ⟨x, hx, rfl⟩⟩
  cases hk : okD who m Q
  · have e : askD who m H Q = (0, H, Q) := by unfold askD; rw [hk]; rfl
    rw [e]; exact same
  · obtain ⟨⟨h1, h2⟩, h3⟩ : (knownB m = true ∧ (m == 0) = false) ∧ (lookD who Q == 0) = true := by
      unfold okD at hk
      simpa using hk
    have hnq : hasD who Q = false := (look_zero h.qm).1 (by simpa using h3)
    have hheld : lookD who H = 0 ∨ md (lookD who H) := by
      cases e : hasD who H
      · exact .inl (look_no e)
      · exact .inr (h.hm _ (look_mem e))
    obtain ⟨g1, g2⟩ := goal_md hheld h1 h2
    obtain ⟨held, hd⟩ : ∃ held, held = lookD who H := ⟨_, rfl⟩
    obtain ⟨t, ht⟩ : ∃ t, t = goal held m := ⟨_, rfl⟩
    rw [← hd, ← ht] at g1 g2
    cases hs1 : (t == held)
    · cases hp : (passD held H Q && fitsL (who, t) H)
      · have e : askD who m H Q = (2, H, waitD held (who, t) H Q) := by unfold askD; simp only [hk, ← hd, ← ht, hs1, hp]; rfl
        rw [e]
        refine ⟨⟨h.hm, fun x hx => ?_, once_wait h.once (hasnt hnq), fun x r hx => ?_⟩, ?_, fun x hx => .inr ⟨x, hx, rfl⟩, fun x hx => ?_⟩
        · rcases wait_mem.1 hx with rfl | hx
          · exact g1
          · exact h.qm x hx
        · rcases wait_first hx with ⟨r', e2⟩ | ⟨e1, e2⟩
          · exact h.first x r' e2
          · rw [e1]
            rw [e2] at hp
            simpa using hp
        · simp only [wait_len]; omega
        · rcases wait_mem.1 hx with rfl | hx
          · exact .inl rfl
          · exact .inr ⟨x, hx, rfl⟩
      · have e : askD who m H Q = (1, putD (who, t) H, Q) := by unfold askD; simp only [hk, ← hd, ← ht, hs1, hp]; rfl
        rw [e]
        refine ⟨⟨fun x hx => ?_, h.qm, h.once, fun x r hx => ?_⟩, ?_, fun x hx => ?_, fun x hx => .inr ⟨x, hx, rfl⟩⟩
        · rcases put_mem hx with rfl | hx
          · exact g1
          · exact h.hm x hx
        · obtain ⟨z, hz, hz2⟩ := fits_no.1 (h.first x r hx)
          unfold hindD at hz2
          simp only [Bool.and_eq_true, bne_iff_ne, Bool.not_eq_true'] at hz2
          by_cases hw : z.1 = who
          · refine fits_no.2 ⟨(who, t), mem_put hs, ?_⟩
            unfold hindD
            simp only [Bool.and_eq_true, bne_iff_ne, Bool.not_eq_true']
            refine ⟨by rw [← hw]; exact hz2.1, ?_⟩
            have hv : held = z.2 := by rw [hd]; exact look_uniq hs (by rw [← hw]; exact hz)
            cases hf : fitsB x.2 t
            · rfl
            · have := g2 _ hf (by rw [hv]; exact h.hm z hz)
              rw [hv, hz2.2] at this; cases this
          · refine fits_no.2 ⟨z, put_old hs hz hw, ?_⟩
            unfold hindD
            simp only [Bool.and_eq_true, bne_iff_ne, Bool.not_eq_true']
            exact hz2
        · have := put_len (who, t) H
          simp only; omega
        · rcases put_mem hx with rfl | hx
          · exact .inl rfl
          · exact .inr ⟨x, hx, rfl⟩
    · have e : askD who m H Q = (1, H, Q) := by unfold askD; simp only [hk, ← hd, ← ht, hs1]; rfl
      rw [e]; exact same
theorem ask_srt {H Q : List En} (who m : Int) (hs : Srt H) : Srt (askD who m H Q).2.1 := by
  unfold askD
  split
  · simp only
    split
    · exact hs
    · split
      · exact srt_put hs
      · exact hs
  · exact hs
/-- What grant leaves. -/
theorem grant_facts : ∀ (Q H : List En), Srt H → Once Q → (∀ x ∈ H, md x.2) → (∀ x ∈ Q, md x.2) →
    (∀ x ∈ Q.take (grantD H Q).1, x ∈ (grantD H Q).2) ∧ (∀ z ∈ H, (∀ x ∈ Q, x.1 ≠ z.1) → z ∈ (grantD H Q).2) ∧ (∀ z ∈ (grantD H Q).2, z ∈ H ∨ z ∈ Q) ∧ Srt (grantD H Q).2 ∧ (∀ x r, Q.drop (grantD H Q).1 = x :: r → fitsL x (grantD H Q).2 = false)
  | [], H, hs, _, _, _ => ⟨fun x h => (by cases h), fun z h _ => h, fun z h => .inl h, hs, fun x r h => (by cases h)⟩
  | x :: r, H, hs, ho, hm, qm => by
    cases hf : fitsL x H
    · rw [grant_stop hf]
      refine ⟨fun z h => (by cases h), fun z h _ => h, fun z h => .inl h, hs, fun z r' h => ?_⟩
      simp only [List.drop_zero] at h
      injection h with h1 _
      rw [← h1]; exact hf
    · rw [grant_cons hf]
      obtain ⟨ho1, ho2⟩ := List.pairwise_cons.1 ho
      have hm' : ∀ z ∈ putD x H, md z.2 := fun z hz => by
        rcases put_mem hz with rfl | hz
        · exact qm _ List.mem_cons_self
        · exact hm z hz
      obtain ⟨i1, i2, i3, i4, i5⟩ := grant_facts r (putD x H) (srt_put hs) ho2 hm' (fun z hz => qm z (List.mem_cons_of_mem _ hz))
      refine ⟨fun z hz => ?_, fun z hz hne => ?_, fun z hz => ?_, i4, fun z r' h => i5 z r' (by simpa using h)⟩
      · simp only [List.take_succ_cons] at hz
        rcases List.mem_cons.1 hz with rfl | hz
        · exact i2 _ (mem_put hs) (fun q hq => (ho1 q hq).symm)
        · exact i1 z hz
      · exact i2 z (put_old hs hz (fun e => hne x List.mem_cons_self e.symm)) (fun q hq => hne q (List.mem_cons_of_mem _ hq))
      · rcases i3 z hz with h | h
        · rcases put_mem h with rfl | h
          · exact .inr List.mem_cons_self
          · exact .inl h
        · exact .inr (List.mem_cons_of_mem _ h)
theorem out_mem {who : Int} {l : List En} {z : En} (h : z ∈ out1 who l) : z ∈ l := List.mem_of_mem_eraseP h
theorem out_once {who : Int} {l : List En} (h : Once l) : Once (out1 who l) := h.sublist List.eraseP_sublist
theorem out_gone {who : Int} : ∀ {l : List En}, Once l → ∀ z ∈ out1 who l, z.1 ≠ who
  | [], _, z, h => by cases h
  | p :: r, ho, z, h => by
    obtain ⟨h1, h2⟩ := List.pairwise_cons.1 ho
    unfold out1 at h
    rw [List.eraseP_cons] at h
    cases e : isWho who p
    · rw [e] at h
      rcases List.mem_cons.1 h with rfl | h
      · simpa [isWho] using e
      · exact out_gone (l := r) h2 z h
    · rw [e] at h
      have ep : p.1 = who := by simpa [isWho] using e
      have := h1 z (by simpa using h)
      rw [ep] at this
      exact this.symm
theorem srt_once {l : List En} (h : Srt l) : Once l := h.imp (fun h => by omega)
/-- Leave keeps it; who is there was there, and is not who left; no more than before. -/
theorem leave_ok {H Q : List En} (who : Int) (hs : Srt H) (h : Ok H Q) : Ok (leaveD who H Q).2.1 (leaveD who H Q).2.2 ∧ (leaveD who H Q).2.1.length + (leaveD who H Q).2.2.length ≤ H.length + Q.length ∧
    (∀ x ∈ (leaveD who H Q).2.1, x.1 ≠ who ∧ ((∃ z ∈ H, z.1 = x.1) ∨ ∃ z ∈ Q, z.1 = x.1)) ∧ (∀ x ∈ (leaveD who H Q).2.2, x.1 ≠ who ∧ ∃ z ∈ Q, z.1 = x.1) := by
  have hm1 : ∀ x ∈ out1 who H, md x.2 := fun x hx => h.hm x (out_mem hx)
  have qm1 : ∀ x ∈ out1 who Q, md x.2 := fun x hx => h.qm x (out_mem hx)
  have ho1 := out_once (who := who) h.once
  obtain ⟨i1, i2, i3, i4, i5⟩ := grant_facts (out1 who Q) (out1 who H) (out_srt hs) ho1 hm1 qm1
  have hle := grant_le (out1 who Q) (out1 who H)
  have hgl := grant_len (out1 who Q) (out1 who H)
  have l1 := out_len who H
  have l2 := out_len who Q
  unfold leaveD
  refine ⟨⟨fun x hx => ?_, fun x hx => qm1 x (List.mem_of_mem_drop hx), ho1.sublist (List.drop_sublist _ _), i5⟩, ?_, fun x hx => ?_, fun x hx => ?_⟩
  · rcases i3 x hx with h | h
    · exact hm1 x h
    · exact qm1 x h
  · simp only [List.length_drop]; omega
  · rcases i3 x hx with h2 | h2
    · exact ⟨out_gone (srt_once hs) x h2, .inl ⟨x, out_mem h2, rfl⟩⟩
    · exact ⟨out_gone h.once x h2, .inr ⟨x, out_mem h2, rfl⟩⟩
  · have h2 := List.mem_of_mem_drop hx
    exact ⟨out_gone h.once x h2, x, out_mem h2, rfl⟩
end Go.Proofs.YtgiklggnolbiiaaGreat

/- What Ask and Leave keep, the rest of it (plain facts). -/
namespace Go.Proofs.YtgiklggnolbiiaaGreat
open Go.RowKit
variable {H Q : List En}

theorem srt_same {l : List En} (hs : Srt l) {x y : En} (hx : x ∈ l) (hy : y ∈ l) (e : x.1 = y.1) : x = y := by
  have h1 := look_uniq (k := x.1) (v := x.2) hs hx
  have h2 := look_uniq (k := x.1) (v := y.2) hs (by rw [e]; exact hy)
  exact Prod.ext e (h1.symm.trans h2)
theorem put_mem2 {y z : En} (hs : Srt H) (h : z ∈ putD y H) : z = y ∨ (z ∈ H ∧ z.1 ≠ y.1) := by
  by_cases e : z.1 = y.1
  · exact .inl (srt_same (srt_put hs) h (mem_put hs) e)
  · rcases put_mem h with h | h
    · exact .inl h
    · exact .inr ⟨h, e⟩
theorem has_put {y : En} (hs : Srt H) (k : Int) : hasD k (putD y H) = true ↔ k = y.1 ∨ hasD k H = true := by
  constructor
  · intro h
    obtain ⟨x, hx, e⟩ := has_iff.1 h
    rcases put_mem hx with rfl | hx
    · exact .inl e.symm
    · exact .inr (has_iff.2 ⟨x, hx, e⟩)
  · rintro (h | h)
    · exact has_iff.2 ⟨y, mem_put hs, h.symm⟩
    · obtain ⟨x, hx, e⟩ := has_iff.1 h
      by_cases e2 : x.1 = y.1
      · exact has_iff.2 ⟨y, mem_put hs, by rw [← e2]; exact e⟩
      · exact has_iff.2 ⟨x, put_old hs hx e2, e⟩
theorem look_put {y : En} (hs : Srt H) {k : Int} (hk : k ≠ y.1) : lookD k (putD y H) = lookD k H := by
  cases e : hasD k H
  · rw [look_no e]
    apply look_no
    cases e2 : hasD k (putD y H)
    · rfl
    · rcases (has_put hs k).1 e2 with h | h
      · exact absurd h hk
      · rw [e] at h; cases h
  · exact look_uniq (srt_put hs) (put_old hs (look_mem e) hk)
/-- All that is held fits together. -/
def Fit (H : List En) : Prop := ∀ x ∈ H, ∀ y ∈ H, x.1 ≠ y.1 → fitsB x.2 y.2 = true
theorem fits_comm {a b : Int} (ha : md a) (hb : md b) : fitsB a b = fitsB b a := by
  obtain ⟨i, rfl⟩ := six (m := a) (known_iff.2 ⟨by have := ha.1; omega, ha.2⟩)
  obtain ⟨j, rfl⟩ := six (m := b) (known_iff.2 ⟨by have := hb.1; omega, hb.2⟩)
  have key : ∀ i j : Fin 6, fitsB (i.val : Int) (j.val : Int) = fitsB (j.val : Int) (i.val : Int) := by decide +kernel
  exact key i j
theorem fit_put {y : En} (hs : Srt H) (hm : ∀ x ∈ H, md x.2) (hy : md y.2) (h : Fit H) (hf : fitsL y H = true) : Fit (putD y H) := by
  have key : ∀ x ∈ H, x.1 ≠ y.1 → fitsB y.2 x.2 = true := fun x hx hne => by
    unfold fitsL at hf
    rw [Bool.not_eq_true', List.any_eq_false] at hf
    have := hf x hx
    unfold hindD at this
    cases e : fitsB y.2 x.2
    · exfalso; apply this; simp [hne, e]
    · rfl
  intro x hx z hz hne
  rcases put_mem2 hs hx with ex | ⟨hx2, nx⟩ <;> rcases put_mem2 hs hz with ez | ⟨hz2, nz⟩
  · rw [ex, ez] at hne; exact absurd rfl hne
  · rw [ex]; exact key z hz2 nz
  · rw [ez, fits_comm (hm x hx2) hy]; exact key x hx2 nx
  · exact h x hx2 z hz2 hne
/-- Those that hold something wait ahead of those that do not. -/
def Ahead (H Q : List En) : Prop := Q.Pairwise (fun a c => hasD c.1 H = true → hasD a.1 H = true)
theorem conv_has (hm : ∀ x ∈ H, md x.2) : ∀ {Q : List En}, ∀ x ∈ Q.take (convD H Q), hasD x.1 H = true
  | [], x, h => by simp at h
  | q :: r, x, h => by
    unfold convD at h
    split at h
    · simp at h
    · rename_i hq
      rw [List.take_succ_cons] at h
      rcases List.mem_cons.1 h with rfl | h
      · cases e : hasD x.1 H
        · exact absurd (by rw [look_no e]; rfl) hq
        · rfl
      · exact conv_has hm x h
theorem ahead_wait {held : Int} {y : En} (hm : ∀ x ∈ H, md x.2) (hh : held = lookD y.1 H) (h : Ahead H Q) : Ahead H (waitD held y H Q) := by
  unfold waitD Ahead
  split
  · rename_i e
    have e0 : hasD y.1 H = false := (look_zero hm).1 (by rw [← hh]; simpa using e)
    rw [List.pairwise_append]
    exact ⟨h, List.pairwise_singleton _ _, fun a _ c hc h2 => by rw [List.mem_singleton.1 hc, e0] at h2; cases h2⟩
  · rename_i e
    have e0 : hasD y.1 H = true := by
      cases e2 : hasD y.1 H
      · exact absurd (by rw [hh, look_no e2]; rfl) e
      · rfl
    rw [List.pairwise_append]
    refine ⟨List.Pairwise.sublist (List.take_sublist _ _) h, ?_, fun a ha c _ _ => conv_has hm a ha⟩
    rw [List.pairwise_cons]
    exact ⟨fun c _ _ => e0, List.Pairwise.sublist (List.drop_sublist _ _) h⟩
/-- All of it. -/
structure Fine (H Q : List En) : Prop where
  ok : Ok H Q
  fit : Fit H
  ahead : Ahead H Q
  cov : ∀ x ∈ Q, coversB x.2 (lookD x.1 H) = true
theorem fine_nil : Fine [] [] := ⟨ok_nil, fun x h => (by cases h), List.Pairwise.nil, fun x h => (by cases h)⟩
theorem goal_cov {held m : Int} (hh : held = 0 ∨ md held) (hm : knownB m = true) : coversB (goal held m) held = true ∧ coversB (goal held m) m = true := by
  have hk : knownB held = true := by
    rw [known_iff]
    rcases hh with h | h
    · omega
    · exact ⟨by have := h.1; omega, h.2⟩
  obtain ⟨i, rfl⟩ := six hk
  obtain ⟨j, rfl⟩ := six hm
  have key : ∀ i j : Fin 6, (coversB (goal (i.val : Int) (j.val : Int)) (i.val : Int) && coversB (goal (i.val : Int) (j.val : Int)) (j.val : Int)) = true := by decide +kernel
  simpa using key i j
theorem ask_fine (who m : Int) (hs : Srt H) (h : Fine H Q) : Fine (askD who m H Q).2.1 (askD who m H Q).2.2 ∧
    ((askD who m H Q).1 = 1 → coversB (lookD who (askD who m H Q).2.1) m = true ∧ coversB (lookD who (askD who m H Q).2.1) (lookD who H) = true) ∧
    ((askD who m H Q).1 ≠ 1 → lookD who (askD who m H Q).2.1 = lookD who H) := by
  have hok := (ask_ok who m hs h.ok).1
  cases hk : okD who m Q
  · have e : askD who m H Q = (0, H, Q) := by unfold askD; rw [hk]; rfl
    rw [e]
    exact ⟨h, fun e => absurd e (show ¬ ((0 : Int) = 1) by decide), fun _ => rfl⟩
  · obtain ⟨⟨h1, h2⟩, h3⟩ : (knownB m = true ∧ (m == 0) = false) ∧ (lookD who Q == 0) = true := by
      unfold okD at hk
      simpa using hk
    have hnq : hasD who Q = false := (look_zero h.ok.qm).1 (by simpa using h3)
    have hheld : lookD who H = 0 ∨ md (lookD who H) := by
      cases e : hasD who H
      · exact .inl (look_no e)
      · exact .inr (h.ok.hm _ (look_mem e))
    obtain ⟨g1, _⟩ := goal_md hheld h1 h2
    obtain ⟨g3, g4⟩ := goal_cov hheld h1
    obtain ⟨held, hd⟩ : ∃ held, held = lookD who H := ⟨_, rfl⟩
    obtain ⟨t, ht⟩ : ∃ t, t = goal held m := ⟨_, rfl⟩
    rw [← hd, ← ht] at g1 g3 g4
    cases hs1 : (t == held)
    · cases hp : (passD held H Q && fitsL (who, t) H)
      · have e : askD who m H Q = (2, H, waitD held (who, t) H Q) := by unfold askD; simp only [hk, ← hd, ← ht, hs1, hp]; rfl
        rw [e] at hok ⊢
        refine ⟨⟨hok, h.fit, ahead_wait (y := (who, t)) h.ok.hm hd h.ahead, fun x hx => ?_⟩, fun e => absurd e (show ¬ ((2 : Int) = 1) by decide), fun _ => rfl⟩
        rcases wait_mem.1 hx with rfl | hx
        · show coversB t (lookD who H) = true
          rw [← hd]; exact g3
        · exact h.cov x hx
      · have e : askD who m H Q = (1, putD (who, t) H, Q) := by unfold askD; simp only [hk, ← hd, ← ht, hs1, hp]; rfl
        rw [Bool.and_eq_true] at hp
        rw [e] at hok ⊢
        have hl : lookD who (putD (who, t) H) = t := look_uniq (srt_put hs) (mem_put hs)
        refine ⟨⟨hok, fit_put hs h.ok.hm g1 h.fit hp.2, ?_, fun x hx => ?_⟩, fun _ => ?_, fun e => absurd rfl e⟩
        · cases e0 : hasD who H
          · have hQ : Q = [] := by
              have h5 := hp.1
              unfold passD at h5
              rw [hd, look_no e0] at h5
              simpa using h5
            rw [hQ]; exact List.Pairwise.nil
          · have same : ∀ k, hasD k (putD (who, t) H) = hasD k H := fun k => by
              cases e1 : hasD k H
              · cases e2 : hasD k (putD (who, t) H)
                · rfl
                · rcases (has_put hs k).1 e2 with h6 | h6
                  · rw [h6] at e1; rw [e0] at e1; cases e1
                  · rw [e1] at h6; cases h6
              · exact (has_put hs k).2 (.inr e1)
            unfold Ahead
            simp only [same]
            exact h.ahead
        · show coversB x.2 (lookD x.1 (putD (who, t) H)) = true
          rw [look_put hs (hasnt hnq x hx)]; exact h.cov x hx
        · show coversB (lookD who (putD (who, t) H)) m = true ∧ coversB (lookD who (putD (who, t) H)) (lookD who H) = true
          rw [hl, ← hd]; exact ⟨g4, g3⟩
    · have e : askD who m H Q = (1, H, Q) := by unfold askD; simp only [hk, ← hd, ← ht, hs1]; rfl
      have e2 : t = held := by simpa using hs1
      rw [e]
      refine ⟨h, fun _ => ?_, fun e => absurd rfl e⟩
      show coversB (lookD who H) m = true ∧ coversB (lookD who H) (lookD who H) = true
      rw [← hd, ← e2]
      refine ⟨g4, ?_⟩
      rw [← e2] at g3; exact g3
theorem grant_keep : ∀ (Q H : List En), Srt H → (∀ z ∈ H, (∀ q ∈ Q.take (grantD H Q).1, q.1 ≠ z.1) → z ∈ (grantD H Q).2) ∧ (∀ z ∈ (grantD H Q).2, z ∈ H ∨ z ∈ Q.take (grantD H Q).1)
  | [], H, _ => ⟨fun z h _ => h, fun z h => .inl h⟩
  | x :: r, H, hs => by
    cases hf : fitsL x H
    · rw [grant_stop hf]
      exact ⟨fun z h _ => h, fun z h => .inl h⟩
    · rw [grant_cons hf]
      obtain ⟨i1, i2⟩ := grant_keep r (putD x H) (srt_put hs)
      refine ⟨fun z hz hne => ?_, fun z hz => ?_⟩
      · rw [List.take_succ_cons] at hne
        exact i1 z (put_old hs hz (fun e => hne x List.mem_cons_self e.symm)) (fun q hq => hne q (List.mem_cons_of_mem _ hq))
      · rw [List.take_succ_cons]
        rcases i2 z hz with h | h
        · rcases put_mem h with rfl | h
          · exact .inr List.mem_cons_self
          · exact .inl h
        · exact .inr (List.mem_cons_of_mem _ h)
theorem grant_fit : ∀ (Q H : List En), Srt H → (∀ x ∈ H, md x.2) → (∀ x ∈ Q, md x.2) → Fit H → Fit (grantD H Q).2
  | [], H, _, _, _, h => h
  | x :: r, H, hs, hm, qm, h => by
    cases hf : fitsL x H
    · rw [grant_stop hf]; exact h
    · rw [grant_cons hf]
      have hx := qm x List.mem_cons_self
      refine grant_fit r (putD x H) (srt_put hs) (fun z hz => ?_) (fun z hz => qm z (List.mem_cons_of_mem _ hz)) (fit_put hs hm hx h hf)
      rcases put_mem hz with rfl | hz
      · exact hx
      · exact hm z hz
theorem out_keep {who : Int} {l : List En} {z : En} (h : z ∈ l) (hne : z.1 ≠ who) : z ∈ out1 who l := by
  unfold out1
  rw [List.mem_eraseP_of_neg]
  · exact h
  · simpa [isWho] using hne
theorem leave_fine (who : Int) (hs : Srt H) (h : Fine H Q) : Fine (leaveD who H Q).2.1 (leaveD who H Q).2.2 ∧ lookD who (leaveD who H Q).2.1 = 0 ∧ lookD who (leaveD who H Q).2.2 = 0 := by
  obtain ⟨hok, _, h3, h4⟩ := leave_ok who hs h.ok
  have no : ∀ {l : List En}, (∀ x ∈ l, x.1 ≠ who) → lookD who l = 0 := fun {l} hl => look_no (by
    cases e : hasD who l
    · rfl
    · obtain ⟨x, hx, e2⟩ := has_iff.1 e
      exact absurd e2 (hl x hx))
  have hs1 := out_srt (who := who) hs
  have ho1 := out_once (who := who) h.ok.once
  have hm1 : ∀ x ∈ out1 who H, md x.2 := fun x hx => h.ok.hm x (out_mem hx)
  have qm1 : ∀ x ∈ out1 who Q, md x.2 := fun x hx => h.ok.qm x (out_mem hx)
  have hfit1 : Fit (out1 who H) := fun x hx y hy => h.fit x (out_mem hx) y (out_mem hy)
  obtain ⟨k1, k2⟩ := grant_keep (out1 who Q) (out1 who H) hs1
  obtain ⟨_, _, _, srt', _⟩ := grant_facts (out1 who Q) (out1 who H) hs1 ho1 hm1 qm1
  have apart : ∀ x ∈ (out1 who Q).drop (grantD (out1 who H) (out1 who Q)).1, ∀ q ∈ (out1 who Q).take (grantD (out1 who H) (out1 who Q)).1, q.1 ≠ x.1 := fun x hx q hq => by
    have h2 : ((out1 who Q).take (grantD (out1 who H) (out1 who Q)).1 ++ (out1 who Q).drop (grantD (out1 who H) (out1 who Q)).1).Pairwise (fun a b => a.1 ≠ b.1) := by rw [List.take_append_drop]; exact ho1
    exact (List.pairwise_append.1 h2).2.2 q hq x hx
  have has' : ∀ x ∈ (out1 who Q).drop (grantD (out1 who H) (out1 who Q)).1, hasD x.1 (grantD (out1 who H) (out1 who Q)).2 = hasD x.1 H := fun x hx => by
    have hne := out_gone h.ok.once x (List.mem_of_mem_drop hx)
    cases e1 : hasD x.1 H
    · cases e2 : hasD x.1 (grantD (out1 who H) (out1 who Q)).2
      · rfl
      · obtain ⟨z, hz, e3⟩ := has_iff.1 e2
        rcases k2 z hz with h5 | h5
        · rw [has_iff.2 ⟨z, out_mem h5, e3⟩] at e1; cases e1
        · exact absurd e3 (apart x hx z h5)
    · obtain ⟨z, hz, e3⟩ := has_iff.1 e1
      exact has_iff.2 ⟨z, k1 z (out_keep hz (by rw [e3]; exact hne)) (fun q hq => by rw [e3]; exact apart x hx q hq), e3⟩
  refine ⟨⟨hok, grant_fit _ _ hs1 hm1 qm1 hfit1, ?_, fun x hx => ?_⟩, no (fun x hx => (h3 x hx).1), no (fun x hx => (h4 x hx).1)⟩
  · show List.Pairwise _ _
    have hsub : ((out1 who Q).drop (grantD (out1 who H) (out1 who Q)).1).Sublist Q := (List.drop_sublist _ _).trans List.eraseP_sublist
    have := List.Pairwise.sublist hsub h.ahead
    refine this.imp_of_mem (fun {a c} ha hc h6 h7 => ?_)
    have h7' : hasD c.1 (grantD (out1 who H) (out1 who Q)).2 = true := h7
    show hasD a.1 (grantD (out1 who H) (out1 who Q)).2 = true
    rw [has' a ha]
    rw [has' c hc] at h7'
    exact h6 h7'
  · have hx' : x ∈ (out1 who Q).drop (grantD (out1 who H) (out1 who Q)).1 := hx
    have hne := out_gone h.ok.once x (List.mem_of_mem_drop hx')
    have e : lookD x.1 (leaveD who H Q).2.1 = lookD x.1 H := by
      show lookD x.1 (grantD (out1 who H) (out1 who Q)).2 = _
      cases e1 : hasD x.1 H
      · rw [look_no e1, look_no (by rw [has' x hx']; exact e1)]
      · exact look_uniq srt' (k1 _ (out_keep (look_mem e1) hne) (fun q hq => apart x hx' q hq))
    rw [e]
    exact h.cov x (out_mem (List.mem_of_mem_drop hx'))
end Go.Proofs.YtgiklggnolbiiaaGreat

/- The reference's Fits; what holds of the sixf modes, by looking at all of them. -/
namespace Go.Proofs.YtgiklggnolbiiaaGreat
open Go.RowKit

theorem sixf {m : Int} (h : knownB m = true) : ∃ i : Fin 6, m = (i.val : Int) := by
  have := known_iff.1 h
  exact ⟨⟨m.toNat, by omega⟩, by simp; omega⟩
theorem each {m : Int} (h : knownB m = true) : m = 0 ∨ m = 1 ∨ m = 2 ∨ m = 3 ∨ m = 4 ∨ m = 5 := by
  have := known_iff.1 h
  omega
theorem fits_known {a b : Int} (h : fitsB a b = true) : knownB a = true ∧ knownB b = true := by
  unfold fitsB at h
  simp only [known_iff, hasB] at *
  repeat' split at h
  all_goals simp_all [known_iff]
  all_goals omega

set_option maxHeartbeats 4000000 in
set_option maxRecDepth 100000 in
theorem rfits_in (a b : Int) (w : World) (ha : knownB a = true) (hb : knownB b = true) : Calls Tryz.prog 96 #[.int .i64 a, .int .i64 b] w fun e w' => e = .returned (.bool (fitsB a b)) ∧ Below w.heap.size w w' := by
  rcases each ha with rfl | rfl | rfl | rfl | rfl | rfl <;> rcases each hb with rfl | rfl | rfl | rfl | rfl | rfl
  all_goals
    have Ha := hide ha
    have Hb := hide hb
    clear ha hb
    go_enter Tryz.func96, Tryz.ntmps96
    go_wp2_with fail
    refine (mode_any _ _).mono ?_
    rw [unhide Ha]
    rintro e w' ⟨rfl, rfl⟩
    go_wp2_with fail
    refine (mode_any _ _).mono ?_
    rw [unhide Hb]
    rintro e w' ⟨rfl, rfl⟩
    go_wp2
    go_ret
    exact ⟨ret_bool (by decide), below_new _ _⟩
set_option maxRecDepth 100000 in
theorem rfits_any (a b : Int) (w : World) : Calls Tryz.prog 96 #[.int .i64 a, .int .i64 b] w fun e w' => e = .returned (.bool (fitsB a b)) ∧ Below w.heap.size w w' := by
  cases ha : knownB a
  · have E := hide (show fitsB a b = false by
      cases h : fitsB a b
      · rfl
      · rw [(fits_known h).1] at ha; exact ha)
    have Ha := hide ha
    clear ha
    go_enter Tryz.func96, Tryz.ntmps96
    go_wp2_with fail
    refine (mode_any _ _).mono ?_
    rw [unhide Ha]
    rintro e w' ⟨rfl, rfl⟩
    go_wp2
    go_ret
    exact ⟨ret_bool (unhide E).symm, Below.refl _ _⟩
  cases hb : knownB b
  · have E := hide (show fitsB a b = false by
      cases h : fitsB a b
      · rfl
      · rw [(fits_known h).2] at hb; exact hb)
    have Ha := hide ha
    have Hb := hide hb
    clear ha hb
    go_enter Tryz.func96, Tryz.ntmps96
    go_wp2_with fail
    refine (mode_any _ _).mono ?_
    rw [unhide Ha]
    rintro e w' ⟨rfl, rfl⟩
    go_wp2_with fail
    refine (mode_any _ _).mono ?_
    rw [unhide Hb]
    rintro e w' ⟨rfl, rfl⟩
    go_wp2
    go_ret
    exact ⟨ret_bool (unhide E).symm, Below.refl _ _⟩
  · exact rfits_in a b w ha hb
end Go.Proofs.YtgiklggnolbiiaaGreat

/- The reference's lane, as it lies in memory; what only reads it: Holds, Waits, conversions, fits. -/
namespace Go.Proofs.YtgiklggnolbiiaaGreat
open Go.RowKit

/-- The reference's lane in block b: those that hold are H (the slice hv), those that wait Q (qv). -/
structure Lr (B : Nat) (H Q : List En) (b : Nat) (hv qv : Value) (w : World) : Prop where
  blk : w.heap[b]? = some (.cells #[hv, qv] 61 (0, 0))
  hr : Es B hv H w
  qr : Es B qv Q w
  bB : B ≤ b
namespace Lr
variable {B : Nat} {H Q : List En} {b : Nat} {hv qv : Value} {w w' : World}
theorem lt (h : Lr B H Q b hv qv w) : b < w.heap.size := heap_lt h.blk
theorem low (h : Lr B H Q b hv qv w) : B ≤ w.heap.size := Nat.le_of_lt (Nat.lt_of_le_of_lt h.bB h.lt)
theorem next (h : Lr B H Q b hv qv w) (k : Below w.heap.size w w') : Lr B H Q b hv qv w' := ⟨(k.block b h.lt).trans h.blk, h.hr.next k, h.qr.next k, h.bB⟩
theorem c0 (h : Lr B H Q b hv qv w) : w.cell? ⟨b, 0, none⟩ = some hv := by have := h.blk; simp [World.cell?, this]
theorem c1 (h : Lr B H Q b hv qv w) : w.cell? ⟨b, 1, none⟩ = some qv := by have := h.blk; simp [World.cell?, this]
end Lr
variable {B : Nat} {H Q : List En} {b : Nat} {hv qv : Value}
theorem look_none {k : Int} {l : List En} {n : Nat} (hn : l.length ≤ n) (h : ∀ t, t < n → isWho k (l.getD t (0, 0)) = false) : lookD k l = 0 :=
  look_no (has_no' (fun t ht e => by have := h t (by omega); unfold isWho at this; rw [e] at this; simp at this))
set_option maxRecDepth 100000 in
set_option maxHeartbeats 1000000 in
theorem rholds_any (w : World) (h : Lr B H Q b hv qv w) (hn : H.length < 1000000) (who : Int) :
    Calls Tryz.prog 38 #[.pointer (some ⟨b, 0, none⟩), .int .i64 who] w fun e w' => e = .returned (.int .i64 (lookD who H)) ∧ w' = w := by
  have c0 := h.c0
  rcases h.hr with ⟨rfl, rfl⟩ | ⟨g, cap, rfl, _, r⟩
  · clear h
    go_enter Tryz.func38, Tryz.ntmps38
    go_wp2
    go_loop [5] (fun i => i = .int .i64 0) (fun _ => 1)
    case atStart => exact rfl
    case round =>
      subst hrel
      go_wp2
      go_ret
      exact ⟨rfl, rfl⟩
  · have R := hide r
    clear h r
    go_enter Tryz.func38, Tryz.ntmps38
    go_wp2
    go_loop [5] (fun i => ∃ k : Nat, k ≤ H.length ∧ i = .int .i64 k ∧ Hid (∀ t, t < k → isWho who (H.getD t (0, 0)) = false)) (fun i => H.length - (intOf i).toNat)
    case atStart => exact ⟨0, Nat.zero_le _, rfl, fun t ht => by omega⟩
    case round =>
      obtain ⟨k, hk, rfl, hno⟩ := hrel
      by_cases hlt : k < H.length
      · obtain ⟨y, hy⟩ : ∃ y, y = H.getD k (0, 0) := ⟨_, rfl⟩
        have d1 : w.cell? ⟨g, k * 2, none⟩ = some (.int .i64 y.1) := by rw [hy]; exact (unhide R).fst hlt
        have d2 : w.cell? ⟨g, k * 2 + 1, none⟩ = some (.int .i64 y.2) := by rw [hy]; exact (unhide R).snd hlt
        cases hq : (y.1 == who)
        · have hno2 : Hid (∀ t, t < k + 1 → isWho who (H.getD t (0, 0)) = false) := fun t ht => by
            rcases (show t < k ∨ t = k by omega) with h | rfl
            · exact unhide hno t h
            · rw [← hy]; exact hq
          replace hy := hide hy
          go_wp2
          go_round
          case rel => exact ⟨k + 1, by omega, by go_num, unhide hno2⟩
          case measure => simp [intOf]; omega
        · have he : Hid (y.2 = lookD who H) := by
            show _ = _
            rw [hy]
            exact look_at hlt (unhide hno) (by rw [← hy]; exact hq)
          replace hy := hide hy
          go_wp2
          go_ret
          exact ⟨ret_int (unhide he), rfl⟩
      · have he : Hid (lookD who H = 0) := look_none (by omega) (unhide hno)
        go_wp2
        go_ret
        exact ⟨ret_int (unhide he).symm, rfl⟩
set_option maxRecDepth 100000 in
set_option maxHeartbeats 1000000 in
theorem rwaits_any (w : World) (h : Lr B H Q b hv qv w) (hn : Q.length < 1000000) (who : Int) :
    Calls Tryz.prog 43 #[.pointer (some ⟨b, 0, none⟩), .int .i64 who] w fun e w' => e = .returned (.int .i64 (lookD who Q)) ∧ w' = w := by
  have c1 := h.c1
  rcases h.qr with ⟨rfl, rfl⟩ | ⟨g, cap, rfl, _, r⟩
  · clear h
    go_enter Tryz.func43, Tryz.ntmps43
    go_wp2
    go_loop [5] (fun i => i = .int .i64 0) (fun _ => 1)
    case atStart => exact rfl
    case round =>
      subst hrel
      go_wp2
      go_ret
      exact ⟨rfl, rfl⟩
  · have R := hide r
    clear h r
    go_enter Tryz.func43, Tryz.ntmps43
    go_wp2
    go_loop [5] (fun i => ∃ k : Nat, k ≤ Q.length ∧ i = .int .i64 k ∧ Hid (∀ t, t < k → isWho who (Q.getD t (0, 0)) = false)) (fun i => Q.length - (intOf i).toNat)
    case atStart => exact ⟨0, Nat.zero_le _, rfl, fun t ht => by omega⟩
    case round =>
      obtain ⟨k, hk, rfl, hno⟩ := hrel
      by_cases hlt : k < Q.length
      · obtain ⟨y, hy⟩ : ∃ y, y = Q.getD k (0, 0) := ⟨_, rfl⟩
        have d1 : w.cell? ⟨g, k * 2, none⟩ = some (.int .i64 y.1) := by rw [hy]; exact (unhide R).fst hlt
        have d2 : w.cell? ⟨g, k * 2 + 1, none⟩ = some (.int .i64 y.2) := by rw [hy]; exact (unhide R).snd hlt
        cases hq : (y.1 == who)
        · have hno2 : Hid (∀ t, t < k + 1 → isWho who (Q.getD t (0, 0)) = false) := fun t ht => by
            rcases (show t < k ∨ t = k by omega) with h | rfl
            · exact unhide hno t h
            · rw [← hy]; exact hq
          replace hy := hide hy
          go_wp2
          go_round
          case rel => exact ⟨k + 1, by omega, by go_num, unhide hno2⟩
          case measure => simp [intOf]; omega
        · have he : Hid (y.2 = lookD who Q) := by
            show _ = _
            rw [hy]
            exact look_at hlt (unhide hno) (by rw [← hy]; exact hq)
          replace hy := hide hy
          go_wp2
          go_ret
          exact ⟨ret_int (unhide he), rfl⟩
      · have he : Hid (lookD who Q = 0) := look_none (by omega) (unhide hno)
        go_wp2
        go_ret
        exact ⟨ret_int (unhide he).symm, rfl⟩
/-- How many of those that wait hold something, wherever they stand. -/
def cnvD (H Q : List En) : Nat := (Q.filter (fun y => lookD y.1 H != 0)).length
theorem cnv_succ (H Q : List En) (t : Nat) (ht : t < Q.length) : cnvD H (Q.take (t + 1)) = cnvD H (Q.take t) + (if lookD (Q.getD t (0, 0)).1 H != 0 then 1 else 0) := by
  unfold cnvD
  rw [List.take_succ_eq_append_getElem ht, List.filter_append, List.length_append]
  have e : Q.getD t (0, 0) = Q[t] := by simp [List.getD, ht]
  rw [e]
  cases h : (lookD Q[t].1 H != 0) <;> simp [h]
theorem cnv_le (H Q : List En) : cnvD H Q ≤ Q.length := List.length_filter_le _ _
set_option maxRecDepth 100000 in
set_option maxHeartbeats 1000000 in
theorem rconv_any (w : World) (h : Lr B H Q b hv qv w) (hH : H.length < 1000000) (hn : Q.length < 1000000) :
    Calls Tryz.prog 56 #[.pointer (some ⟨b, 0, none⟩)] w fun e w' => e = .returned (.int .i64 (cnvD H Q : Nat)) ∧ w' = w := by
  have c1 := h.c1
  have HL := hide h
  rcases h.qr with ⟨rfl, rfl⟩ | ⟨g, cap, rfl, _, r⟩
  · clear h
    go_enter Tryz.func56, Tryz.ntmps56
    go_wp2
    go_loop [3, 4] (fun t i => i = .int .i64 0 ∧ t = .int .i64 0) (fun _ _ => 1)
    case atStart => exact ⟨rfl, rfl⟩
    case round =>
      obtain ⟨rfl, rfl⟩ := hrel
      go_wp2
      go_ret
      exact ⟨rfl, rfl⟩
  · have R := hide r
    clear h r
    go_enter Tryz.func56, Tryz.ntmps56
    go_wp2
    go_loop [3, 4] (fun t i => ∃ k : Nat, k ≤ Q.length ∧ i = .int .i64 k ∧ t = .int .i64 (cnvD H (Q.take k) : Nat)) (fun _ i => Q.length - (intOf i).toNat)
    case atStart => exact ⟨0, Nat.zero_le _, rfl, by simp [cnvD]⟩
    case round =>
      obtain ⟨k, hk, rfl, rfl⟩ := hrel
      by_cases hlt : k < Q.length
      · obtain ⟨y, hy⟩ : ∃ y, y = Q.getD k (0, 0) := ⟨_, rfl⟩
        have d1 : w.cell? ⟨g, k * 2, none⟩ = some (.int .i64 y.1) := by rw [hy]; exact (unhide R).fst hlt
        have hs := cnv_succ H Q k hlt
        have hle := Nat.le_trans (cnv_le H (Q.take k)) (List.length_take_le k Q)
        rw [← hy] at hs
        generalize cnvD H (Q.take k) = c at hs hle ⊢
        replace hs := hide hs
        clear hy
        go_wp2_with fail
        refine (rholds_any w (unhide HL) hH y.1).mono ?_
        rintro e w' ⟨rfl, rfl⟩
        cases hz : (lookD y.1 H != 0)
        · have hs2 : Hid (cnvD H (Q.take (k + 1)) = c) := by show _ = _; rw [unhide hs, hz]; rfl
          clear hs
          go_wp2
          go_round
          case rel => exact ⟨k + 1, by omega, by go_num, by rw [unhide hs2]⟩
          case measure => simp [intOf]; omega
        · have hs2 : Hid (cnvD H (Q.take (k + 1)) = c + 1) := by show _ = _; rw [unhide hs, hz]; rfl
          clear hs
          go_wp2
          go_round
          case rel => exact ⟨k + 1, by omega, by go_num, by rw [unhide hs2]; go_num⟩
          case measure => simp [intOf]; omega
      · obtain rfl : k = Q.length := by omega
        go_wp2
        go_ret
        exact ⟨rfl, rfl⟩
theorem fits_all {y : En} {l : List En} (h : ∀ t, t < l.length → hindD (l.getD t (0, 0)) y = false) : fitsL y l = true := by
  unfold fitsL
  rw [Bool.not_eq_true', List.any_eq_false]
  intro x hx
  obtain ⟨t, ht, rfl⟩ := List.getElem_of_mem hx
  have := h t ht
  have e : l.getD t (0, 0) = l[t] := by simp [List.getD, ht]
  rw [e] at this
  simp [this]
theorem fits_hit {y : En} {l : List En} {t : Nat} (ht : t < l.length) (h : hindD (l.getD t (0, 0)) y = true) : fitsL y l = false := by
  unfold fitsL
  rw [Bool.not_eq_false', List.any_eq_true]
  have e : l.getD t (0, 0) = l[t] := by simp [List.getD, ht]
  exact ⟨l[t], List.getElem_mem ht, by rw [← e]; exact h⟩
set_option maxRecDepth 100000 in
set_option maxHeartbeats 2000000 in
theorem rfits_lane (w : World) (h : Lr B H Q b hv qv w) (hn : H.length < 1000000) (who m : Int) :
    Calls Tryz.prog 83 #[.pointer (some ⟨b, 0, none⟩), .int .i64 who, .int .i64 m] w fun e w' => e = .returned (.bool (fitsL (who, m) H)) ∧ Below w.heap.size w w' := by
  have HL := hide h
  rcases h.hr with ⟨rfl, rfl⟩ | ⟨g, cap, rfl, _, r⟩
  · have c0 := h.c0
    clear h
    go_enter Tryz.func83, Tryz.ntmps83
    go_wp2
    go_loop [7] (fun i => i = .int .i64 0) (fun _ => 1)
    case atStart => exact rfl
    case round =>
      subst hrel
      go_wp2
      go_ret
      exact ⟨rfl, Below.refl _ _⟩
  · have R := hide r
    clear h r
    have c0 := (unhide HL).c0
    go_enter Tryz.func83, Tryz.ntmps83
    go_wp2
    clear c0
    go_loopw [7] (fun i wr => ∃ k : Nat, k ≤ H.length ∧ i = .int .i64 k ∧ Hid (∀ t, t < k → hindD (H.getD t (0, 0)) (who, m) = false) ∧ Hid (Below w.heap.size w wr)) (fun i _ => H.length - (intOf i).toNat)
    case atStart => exact ⟨0, Nat.zero_le _, rfl, fun t ht => (by omega), Below.refl _ _⟩
    case round =>
      obtain ⟨k, hk, rfl, hno, b3⟩ := hrel
      have c0 := ((unhide HL).next (unhide b3)).c0
      by_cases hlt : k < H.length
      · obtain ⟨y, hy⟩ : ∃ y, y = H.getD k (0, 0) := ⟨_, rfl⟩
        have r3 := (unhide R).next (unhide b3)
        have d1 : wr.cell? ⟨g, k * 2, none⟩ = some (.int .i64 y.1) := by rw [hy]; exact r3.fst hlt
        have d2 : wr.cell? ⟨g, k * 2 + 1, none⟩ = some (.int .i64 y.2) := by rw [hy]; exact r3.snd hlt
        clear r3
        have hext : ∀ v, hindD y (who, m) = v → v = false → Hid (∀ t, t < k + 1 → hindD (H.getD t (0, 0)) (who, m) = false) := fun v e1 e2 t ht => by
          rcases (show t < k ∨ t = k by omega) with h | rfl
          · exact unhide hno t h
          · rw [← hy, e1, e2]
        have hstop : hindD y (who, m) = true → Hid (fitsL (who, m) H = false) := fun e => fits_hit hlt (by rw [← hy]; exact e)
        have hdef : hindD y (who, m) = ((y.1 != who) && !fitsB m y.2) := rfl
        replace hy := hide hy
        cases hq : (y.1 != who)
        · have hno2 := hext _ rfl (by rw [hdef, hq]; rfl)
          clear hext hstop hdef
          go_wp2
          go_roundw
          case rel => exact ⟨k + 1, by omega, by go_num, unhide hno2, unhide b3⟩
          case measure => simp [intOf]; omega
        · cases hf : fitsB m y.2
          · have hs := hstop (by rw [hdef, hq, hf]; rfl)
            have F := rfits_any m y.2 wr
            rw [hf] at F
            replace F := hide F
            clear hext hstop hdef hf
            go_wp2_with fail
            refine (unhide F).mono ?_
            rintro e w4 ⟨rfl, b4⟩
            replace b4 := hide (below_then (unhide b3) b4)
            clear c0 d1 d2
            go_wp2
            go_ret
            exact ⟨ret_bool (unhide hs).symm, unhide b4⟩
          · have hno2 := hext _ rfl (by rw [hdef, hq, hf]; rfl)
            have F := rfits_any m y.2 wr
            rw [hf] at F
            replace F := hide F
            clear hext hstop hdef hf
            go_wp2_with fail
            refine (unhide F).mono ?_
            rintro e w4 ⟨rfl, b4⟩
            replace b4 := hide (below_then (unhide b3) b4)
            clear c0 d1 d2
            go_wp2
            go_roundw
            case rel => exact ⟨k + 1, by omega, by go_num, unhide hno2, unhide b4⟩
            case measure => simp [intOf]; omega
      · obtain rfl : k = H.length := by omega
        have hs : Hid (fitsL (who, m) H = true) := fits_all (unhide hno)
        go_wp2
        go_ret
        exact ⟨ret_bool (unhide hs).symm, unhide b3⟩
end Go.Proofs.YtgiklggnolbiiaaGreat
