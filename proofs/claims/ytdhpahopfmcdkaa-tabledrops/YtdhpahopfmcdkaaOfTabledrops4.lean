/- Texts of this claim, put together in their order. -/
import Derived.Lib.SliceRun
import Derived.BigQuiet
import Derived.Test.YtdhpahopfmcdkaaOfTabledrops1
import Derived.Test.YtdhpahopfmcdkaaOfTabledrops2
import Derived.Test.YtdhpahopfmcdkaaOfTabledrops3
/- New, Clone, Holders, Queue; the reference's Ints and Has. -/
namespace Go.Proofs.Ytdhpahopfmcdkaa
open Go.RowKit
variable {B : Nat} {H Q : List En} {b : Nat} {hv qv : Value}

set_option maxRecDepth 100000 in
theorem new_any (w : World) : Calls Try.prog 11 #[] w fun e w' => e = .returned (.pointer (some ⟨w.heap.size, 0, none⟩)) ∧ La w.heap.size [] [] w.heap.size (.slice none 0 0) (.slice none 0 0) w' ∧ Below w.heap.size w w' := by
  go_enter Try.func11, Try.ntmps11
  go_wp2
  go_ret
  exact ⟨rfl, ⟨heap_alloc_new w _, .inl ⟨rfl, rfl⟩, .inl ⟨rfl, rfl⟩, fun k hk => (by cases hk), Nat.le_refl _, List.Pairwise.nil⟩, below_new w _⟩
set_option maxRecDepth 100000 in
theorem clone_any (w : World) {v : Value} {l : List En} (h : Es B v l w) (hn : l.length < 1000000) :
    Calls Try.prog 73 #[v] w fun e w' => ∃ v', e = .returned v' ∧ Es w.heap.size v' l w' ∧ Below w.heap.size w w' := by
  rcases h with ⟨rfl, rfl⟩ | ⟨g, cap, rfl, hB, r⟩
  · have q := fun w => Lib.run_eql_slice_nil (P := Try.prog) w 27 63 none 0 0 0 0 Try.underlying27
    go_enter Try.func73, Try.ntmps73
    go_wp2
    go_ret
    exact ⟨_, rfl, .inl ⟨rfl, rfl⟩, Below.refl _ _⟩
  · obtain ⟨i0, hi, hz0, hz1, hz2⟩ := info_parts inf42
    have q := fun w => Lib.run_eql_slice_nil (P := Try.prog) w 27 63 (some ⟨g, 0, none⟩) l.length cap 0 0 Try.underlying27
    have BW := below_new w (.cells #[] 63)
    have own : Hid ((w.alloc (.cells #[] 63)).ownsRow w.heap.size 63 2 (.slice (some ⟨w.heap.size, 0, none⟩) 0 0) 0 []) := World.ownsRow_lit w #[] 0 (Nat.le_refl _) (Nat.zero_le _) rfl
    have r1 := r.next BW
    have hsrc : Hid (∀ j u, (pairs l)[j]? = some u → (w.alloc (.cells #[] 63)).cell? ((⟨g, 0, none⟩ : Addr).add j) = some u) := fun j u hj => by
      have hj2 : j < l.length * 2 := by have := (List.getElem?_eq_some_iff.1 hj).1; rwa [pairs_len] at this
      rw [Addr.add_lit, Nat.zero_add, r1.at_ hj2, hj]
    have h63 : Hid (0 + l.length ≤ maxLen) := by show _ ≤ _; unfold maxLen; omega
    have h64 : Hid ((0 + l.length) * 16 ≤ 140737488355328) := by show _ ≤ _; omega
    have HBW := hide BW
    have Hi := hide (And.intro hi (And.intro hz0 (And.intro hz1 hz2)))
    have R := hide r
    have hpl := hide (pairs_len l)
    have hp1 := hide (pairs_one l)
    clear BW r r1 hi hz0 hz1 hz2
    go_enter Try.func73, Try.ntmps73
    go_wp2_with (at_builtin; refine wpList_append_own _ rfl (.tmp 5) (.tmp 6) 27 rfl w.heap.size 63 i0 _ 2 16 Try.underlying27 (unhide Hi).1 (unhide Hi).2.1 (unhide Hi).2.2.1 (unhide Hi).2.2.2 rfl (by decide) _ 0 [] rfl (unhide own) ⟨g, 0, none⟩ l.length cap (pairs l) rfl (unhide hpl) (unhide hsrc) (unhide hp1) (unhide h63) (unhide h64) (unhide HBW).size ?_; intro v' w' a1 a2 _; replace a1 := hide a1; replace a2 := hide a2)
    go_ret
    have a3 := unhide a1
    rw [Nat.zero_add] at a3
    exact ⟨v', rfl, Es.of a3, (unhide HBW).trans (grown_below (unhide a2) (unhide HBW).size (fun k hk => ((unhide own).lt k hk).1))⟩
set_option maxRecDepth 100000 in
theorem holders_any (w : World) (h : La B H Q b hv qv w) (hn : H.length < 1000000) :
    Calls Try.prog 24 #[.pointer (some ⟨b, 0, none⟩)] w fun e w' => ∃ v', e = .returned v' ∧ Es w.heap.size v' H w' ∧ Below w.heap.size w w' := by
  have c0 := h.c0
  have C := hide (clone_any w h.hr hn)
  have HL := hide h
  clear h
  go_enter Try.func24, Try.ntmps24
  go_wp2_with fail
  refine (unhide C).mono ?_
  rintro e w' ⟨v', rfl, h1, h2⟩
  have HX := hide (And.intro h1 h2)
  clear h1 h2
  go_wp2
  go_ret
  exact ⟨_, rfl, (unhide HX).1, (unhide HX).2⟩
set_option maxRecDepth 100000 in
theorem queue_any (w : World) (h : La B H Q b hv qv w) (hn : Q.length < 1000000) :
    Calls Try.prog 25 #[.pointer (some ⟨b, 0, none⟩)] w fun e w' => ∃ v', e = .returned v' ∧ Es w.heap.size v' Q w' ∧ Below w.heap.size w w' := by
  have c0 := h.c1
  have C := hide (clone_any w h.qr hn)
  have HL := hide h
  clear h
  go_enter Try.func25, Try.ntmps25
  go_wp2_with fail
  refine (unhide C).mono ?_
  rintro e w' ⟨v', rfl, h1, h2⟩
  have HX := hide (And.intro h1 h2)
  clear h1 h2
  go_wp2
  go_ret
  exact ⟨_, rfl, (unhide HX).1, (unhide HX).2⟩
/-- The slice v is read: the numbers l. -/
def Rd (w : World) (v : Value) (l : List Int) : Prop := ∃ a cap, v = .slice a l.length cap ∧ SegK .i64 w a l.length l
theorem Rd.next {w w' : World} {v : Value} {l : List Int} (h : Rd w v l) (k : Below w.heap.size w w') : Rd w' v l := by
  obtain ⟨a, cap, e, s⟩ := h
  exact ⟨a, cap, e, s.later k⟩
theorem Is.rd {w : World} {v : Value} {l : List Int} (h : Is B v l w) : Rd w v l := by
  rcases h.2 with ⟨rfl, e⟩ | ⟨g, cap, cur, rfl, _, hg, _⟩
  · have : l = [] := List.eq_nil_of_length_eq_zero e
    subst this
    exact ⟨none, 0, rfl, seg_nil _ _⟩
  · refine ⟨_, cap, rfl, rfl, .inr ⟨g, 0, rfl, fun i hi => ?_⟩⟩
    have := h.cells (g := g) rfl i (.int .i64 (l.getD i 0)) (by
      unfold vals
      rw [List.getElem?_map, List.getElem?_eq_getElem hi]; simp [List.getD, hi])
    rwa [Addr.add_lit] at this
theorem rd_one (w : World) (x : Int) : Rd (w.alloc (.cells #[.int .i64 x] 3)) (.slice (some ⟨w.heap.size, 0, none⟩) 1 1) [x] := ⟨_, 1, rfl, seg1 w x⟩
theorem eq_take {l m : List Int} {k : Nat} (h : l.length = m.length) (hk : l.length ≤ k) (hall : ∀ j, j < k → l.getD j 0 = m.getD j 0) : (l == m) = true := by
  rw [beq_iff_eq]
  apply List.ext_getElem h
  intro j h1 h2
  have := hall j (by omega)
  simpa [h1, h2] using this
theorem ne_at {l m : List Int} {k : Nat} (h : l.getD k 0 ≠ m.getD k 0) : (l == m) = false := by
  rw [beq_eq_false_iff_ne]
  rintro rfl
  exact h rfl
theorem seg_at {w : World} {a : Option Addr} {l : List Int} (h : SegK .i64 w a l.length l) {i : Nat} (hi : i < l.length) : ∃ b off, a = some ⟨b, off, none⟩ ∧ w.cell? ⟨b, off + i, none⟩ = some (.int .i64 (l.getD i 0)) := by
  rcases h.2 with h0 | ⟨b, off, e, hc⟩
  · omega
  · exact ⟨b, off, e, hc i hi⟩
set_option maxRecDepth 100000 in
theorem ints_any (u v : Value) (l m : List Int) (w : World) (hu : Rd w u l) (hv : Rd w v m) (hl9 : l.length < 100000000) (hm9 : m.length < 100000000) :
    Calls Try.prog 14 #[u, v] w fun e w' => e = .returned (.bool (l == m)) ∧ Below w.heap.size w w' := by
  obtain ⟨a, ca, rfl, h3⟩ := hu
  obtain ⟨b, cb, rfl, g3⟩ := hv
  replace h3 := hide h3
  replace g3 := hide g3
  by_cases hl : l.length = m.length
  · have hl2 := hide hl
    rw [← hl]
    clear hl hm9
    go_enter Try.func14, Try.ntmps14
    go_wp2_with fail
    go_loopw [5] (fun i wr => ∃ k : Nat, k ≤ l.length ∧ i = .int .i64 k ∧ Below w.heap.size w wr ∧ Hid (∀ j, j < k → l.getD j 0 = m.getD j 0)) (fun i _ => l.length - (intOf i).toNat)
    case atStart => exact ⟨0, Nat.zero_le _, rfl, Below.refl _ _, fun j hj => absurd hj (Nat.not_lt_zero _)⟩
    case round =>
      obtain ⟨k, hk, rfl, hb, hall⟩ := hrel
      by_cases hlt : k < l.length
      · obtain ⟨b1, o1, rfl, c1⟩ := seg_at ((unhide h3).later hb) (i := k) hlt
        obtain ⟨b2, o2, rfl, c2⟩ := seg_at ((unhide g3).later hb) (i := k) (by have := unhide hl2; omega)
        obtain ⟨x, hx⟩ : ∃ x, l.getD k 0 = x := ⟨_, rfl⟩
        obtain ⟨y, hy⟩ : ∃ y, m.getD k 0 = y := ⟨_, rfl⟩
        rw [hx] at c1
        rw [hy] at c2
        replace hb := hide hb
        by_cases e : x = y
        · have eb : (x == y) = true := by simpa using e
          have hall2 : Hid (∀ j, j < k + 1 → l.getD j 0 = m.getD j 0) := hide fun j hj => by
            by_cases h : j < k
            · exact unhide hall j h
            · obtain rfl : j = k := by omega
              rw [hx, hy, e]
          subst e
          clear hx hy
          go_wp2_with fail
          go_region
          all_goals
            go_wp2
            go_roundw
            case rel => exact ⟨k + 1, by omega, by go_num, (unhide hb).drew, unhide hall2⟩
            case measure => simp [intOf]; omega
        · have eb : (x == y) = false := by simpa using e
          have r : Hid ((l == m) = false) := hide (ne_at (k := k) (by rw [hx, hy]; exact e))
          clear hx hy
          go_wp2_with fail
          go_region
          all_goals
            go_wp2
            go_ret
            exact ⟨by rw [unhide r]; rfl, (unhide hb).drew⟩
      · have r : Hid ((l == m) = true) := hide (eq_take (k := k) (unhide hl2) (by omega) (unhide hall))
        replace hb := hide hb
        go_wp2
        go_ret
        exact ⟨by rw [unhide r]; rfl, unhide hb⟩
  · have r : Hid ((l == m) = false) := by
      show _ = _
      rw [beq_eq_false_iff_ne]
      rintro rfl
      exact hl rfl
    go_enter Try.func14, Try.ntmps14
    go_wp2
    go_ret
    exact ⟨by rw [unhide r]; rfl, Below.refl _ _⟩
end Go.Proofs.Ytdhpahopfmcdkaa

/- A lane with its rows left open; the examples of the chapter: first. -/
namespace Go.Proofs.Ytdhpahopfmcdkaa
open Go.RowKit
variable {B : Nat} {H Q : List En} {b : Nat}

/-- The lane in block b, at or above B: H hold, Q wait. -/
def Ln (B : Nat) (H Q : List En) (b : Nat) (w : World) : Prop := ∃ hv qv, La B H Q b hv qv w
theorem Ln.next {w w' : World} (h : Ln B H Q b w) (k : Below w.heap.size w w') : Ln B H Q b w' := by
  obtain ⟨hv, qv, l⟩ := h
  exact ⟨hv, qv, l.next k⟩
theorem Ln.low {w : World} (h : Ln B H Q b w) : B ≤ w.heap.size := by
  obtain ⟨hv, qv, l⟩ := h
  exact l.low
theorem Ln.srt {w : World} (h : Ln B H Q b w) : Srt H := by
  obtain ⟨hv, qv, l⟩ := h
  exact l.srt
/-- Behind a call that makes memory alone. -/
theorem bt {w0 w w' : World} (h : Below B w0 w) (k : Below w.heap.size w w') (hB : B ≤ w.heap.size) : Below B w0 w' := h.trans (k.mono hB)
theorem ask_ln (w : World) (h : Ln B H Q b w) (hn : H.length + Q.length < 999999) (who m : Int) {r : Int × List En × List En} (hr : askD who m H Q = r) :
    Calls Try.prog 12 #[.pointer (some ⟨b, 0, none⟩), .int .i64 who, .int .i64 m] w fun e w' => e = .returned (.int .i64 r.1) ∧ Ln B r.2.1 r.2.2 b w' ∧ Below B w w' := by
  obtain ⟨hv, qv, l⟩ := h
  subst hr
  refine (ask_any w l (by omega) (by omega) who m).mono ?_
  rintro e w' ⟨h1, hv', qv', L, M⟩
  exact ⟨h1, ⟨hv', qv', L⟩, M.below l⟩
theorem leave_ln (w : World) (h : Ln B H Q b w) (hn : H.length + Q.length < 999999) (who : Int) {r : List Int × List En × List En} (hr : leaveD who H Q = r) :
    Calls Try.prog 15 #[.pointer (some ⟨b, 0, none⟩), .int .i64 who] w fun e w' => ∃ gv, e = .returned gv ∧ Is w.heap.size gv r.1 w' ∧ Ln B r.2.1 r.2.2 b w' ∧ Below B w w' := by
  obtain ⟨hv, qv, l⟩ := h
  subst hr
  refine (leave_any w l hn who).mono ?_
  rintro e w' ⟨gv, hv', qv', h1, h2, L, M⟩
  exact ⟨gv, h1, h2, ⟨hv', qv', L⟩, M.below l⟩
theorem blocks_ln (w : World) (h : Ln B H Q b w) (hn : H.length + Q.length < 999999) (who : Int) {r : List Int} (hr : blocksD who H Q = r) :
    Calls Try.prog 21 #[.pointer (some ⟨b, 0, none⟩), .int .i64 who] w fun e w' => ∃ v, e = .returned v ∧ Is w.heap.size v r w' ∧ Below w.heap.size w w' := by
  obtain ⟨hv, qv, l⟩ := h
  subst hr
  exact blocks_any w l hn who
theorem holds_ln (w : World) (h : Ln B H Q b w) (hn : H.length < 1000000) (k : Int) {r : Int} (hr : lookD k H = r) :
    Calls Try.prog 17 #[.pointer (some ⟨b, 0, none⟩), .int .i64 k] w fun e w' => e = .returned (.int .i64 r) ∧ Below w.heap.size w w' := by
  obtain ⟨hv, qv, l⟩ := h
  subst hr
  exact holds_any w l hn k
theorem waits_ln (w : World) (h : Ln B H Q b w) (hn : Q.length < 1000000) (k : Int) {r : Int} (hr : lookD k Q = r) :
    Calls Try.prog 19 #[.pointer (some ⟨b, 0, none⟩), .int .i64 k] w fun e w' => e = .returned (.int .i64 r) ∧ Below w.heap.size w w' := by
  obtain ⟨hv, qv, l⟩ := h
  subst hr
  exact waits_any w l hn k
theorem holders_ln (w : World) (h : Ln B H Q b w) (hn : H.length < 1000000) :
    Calls Try.prog 24 #[.pointer (some ⟨b, 0, none⟩)] w fun e w' => ∃ v', e = .returned v' ∧ Es w.heap.size v' H w' ∧ Below w.heap.size w w' := by
  obtain ⟨hv, qv, l⟩ := h
  exact holders_any w l hn
theorem queue_ln (w : World) (h : Ln B H Q b w) (hn : Q.length < 1000000) :
    Calls Try.prog 25 #[.pointer (some ⟨b, 0, none⟩)] w fun e w' => ∃ v', e = .returned v' ∧ Es w.heap.size v' Q w' ∧ Below w.heap.size w w' := by
  obtain ⟨hv, qv, l⟩ := h
  exact queue_any w l hn
theorem empty_ln (w : World) (h : Ln B H Q b w) : Calls Try.prog 26 #[.pointer (some ⟨b, 0, none⟩)] w fun e w' => e = .returned (.bool (H.length == 0 && Q.length == 0)) ∧ w' = w := by
  obtain ⟨hv, qv, l⟩ := h
  exact empty_any w l
theorem new_ln (w : World) : Calls Try.prog 11 #[] w fun e w' => e = .returned (.pointer (some ⟨w.heap.size, 0, none⟩)) ∧ Ln w.heap.size [] [] w.heap.size w' ∧ Below w.heap.size w w' := by
  refine (new_any w).mono ?_
  rintro e w' ⟨h1, h2, h3⟩
  exact ⟨h1, ⟨_, _, h2⟩, h3⟩
theorem ints_is (w : World) {v : Value} {l : List Int} (h : Is B v l w) (hl : l.length < 100000000) (x : Int) (W : World) (hW : W = w.alloc (.cells #[.int .i64 x] 3)) (N : Nat) (hN : N = w.heap.size) :
    Calls Try.prog 14 #[v, .slice (some ⟨N, 0, none⟩) 1 1] W fun e w' => e = .returned (.bool (l == [x])) ∧ Below w.heap.size w w' := by
  subst hW hN
  refine (ints_any v _ l [x] _ (h.rd.next (below_new w _)) (rd_one w x) hl (by simp)).mono ?_
  rintro e w' ⟨h1, h2⟩
  exact ⟨h1, below_then (below_new w _) h2⟩
/-- A sorted list without its repetitions: rising, and who was there is there. -/
theorem upto_facts (d : Array Int) (hs : ∀ i j, i < j → j < d.size → d[i]! ≤ d[j]!) : ∀ m, m ≤ d.size → (∀ x ∈ Lib.compactUpTo d m, ∃ j, j < m ∧ d[j]! = x) ∧ (∀ j, j < m → d[j]! ∈ Lib.compactUpTo d m) ∧ (Lib.compactUpTo d m).Pairwise (· < ·)
  | 0, _ => by simp [Lib.compactUpTo]
  | m + 1, hm => by
    obtain ⟨h1, h2, h3⟩ := upto_facts d hs m (by omega)
    rw [Lib.compactUpTo_succ]
    by_cases hk : Lib.keeps d m = true
    · rw [if_pos hk]
      refine ⟨fun x hx => ?_, fun j hj => ?_, ?_⟩
      · rcases List.mem_append.1 hx with h | h
        · obtain ⟨j, hj, e⟩ := h1 x h
          exact ⟨j, by omega, e⟩
        · exact ⟨m, by omega, (List.mem_singleton.1 h).symm⟩
      · rcases (show j < m ∨ j = m by omega) with h | rfl
        · exact List.mem_append_left _ (h2 j h)
        · exact List.mem_append_right _ (List.mem_singleton.2 rfl)
      · rw [List.pairwise_append]
        refine ⟨h3, List.pairwise_singleton _ _, fun x hx y hy => ?_⟩
        rw [List.mem_singleton.1 hy]
        obtain ⟨j, hj, e⟩ := h1 x hx
        have hne : d[m]! ≠ d[m - 1]! := by
          intro e2
          rw [Lib.keeps_neg (by omega) e2] at hk
          cases hk
        have h5 := hs (m - 1) m (by omega) (by omega)
        rcases (show j < m - 1 ∨ j = m - 1 by omega) with h | rfl
        · have h6 := hs j (m - 1) h (by omega)
          omega
        · omega
    · rw [if_neg hk, List.append_nil]
      refine ⟨fun x hx => ?_, fun j hj => ?_, h3⟩
      · obtain ⟨j, hj, e⟩ := h1 x hx
        exact ⟨j, by omega, e⟩
      · rcases (show j < m ∨ j = m by omega) with h | rfl
        · exact h2 j h
        · have h0 : 0 < j := by
            rcases Nat.eq_zero_or_pos j with e | e
            · subst e; exact absurd (Lib.keeps_lt_one d 0 (by omega)) hk
            · exact e
          have e2 : d[j]! = d[j - 1]! := by
            by_cases e2 : d[j]! = d[j - 1]!
            · exact e2
            · exact absurd (Lib.keeps_pos e2) hk
          rw [e2]
          exact h2 (j - 1) (by omega)
/-- Rising, each once. -/
def canon (l : List Int) : List Int := Lib.compact (sortI l)
theorem sortI_mem {l : List Int} {x : Int} : x ∈ sortI l ↔ x ∈ l := List.mem_mergeSort
theorem sortI_srt (l : List Int) : (sortI l).Pairwise (· ≤ ·) := by
  have := List.pairwise_mergeSort (le := fun x y : Int => decide (x ≤ y)) (fun a b c h1 h2 => by simp at *; omega) (fun a b => by simp; omega) l
  exact this.imp (fun h => by simpa using h)
theorem canon_facts (l : List Int) : (∀ x, x ∈ canon l ↔ x ∈ l) ∧ (canon l).Pairwise (· < ·) := by
  have hg : ∀ i, i < (sortI l).length → (sortI l).toArray[i]! = (sortI l).getD i 0 := fun i hi => by simp [List.getD, hi]
  obtain ⟨h1, h2, h3⟩ := upto_facts (sortI l).toArray (fun i j hij hj => by
    simp only [List.size_toArray] at hj
    rw [hg i (by omega), hg j hj]
    have := List.pairwise_iff_getElem.1 (sortI_srt l) i j (by omega) hj hij
    simpa [List.getD, hj, show i < (sortI l).length by omega] using this) (sortI l).length (by simp)
  refine ⟨fun x => ⟨fun hx => ?_, fun hx => ?_⟩, h3⟩
  · obtain ⟨j, hj, e⟩ := h1 x hx
    rw [hg j hj] at e
    rw [← sortI_mem, ← e]
    simp [List.getD, hj]
  · rw [← sortI_mem] at hx
    obtain ⟨j, hj, rfl⟩ := List.getElem_of_mem hx
    have := h2 j hj
    rw [hg j hj, show (sortI l).getD j 0 = (sortI l)[j] by simp [List.getD, hj]] at this
    exact this
theorem canon_one {l : List Int} {x : Int} (h : ∀ y, y ∈ l ↔ y = x) : canon l = [x] := by
  obtain ⟨h1, h2⟩ := canon_facts l
  have hm : ∀ y, y ∈ canon l ↔ y = x := fun y => (h1 y).trans (h y)
  cases hc : canon l with
  | nil => have := (hm x).2 rfl; rw [hc] at this; cases this
  | cons a r =>
    rw [hc] at hm h2
    have ha : a = x := (hm a).1 (by simp)
    cases r with
    | nil => rw [ha]
    | cons c r =>
      have hcx : c = x := (hm c).1 (by simp)
      have := (List.pairwise_cons.1 h2).1 c (by simp)
      omega
theorem canon_nil {l : List Int} (h : l = []) : canon l = [] := by
  subst h
  obtain ⟨h1, _⟩ := canon_facts []
  cases hc : canon [] with
  | nil => rfl
  | cons a r => have := (h1 a).1 (by rw [hc]; simp); cases this
theorem f1 : askD 1 3 [] [] = (1, [(1, 3)], []) := by decide +kernel
theorem f2 : askD 2 3 [(1, 3)] [] = (1, [(1, 3), (2, 3)], []) := by decide +kernel
theorem f3 : askD 1 5 [(1, 3), (2, 3)] [] = (2, [(1, 3), (2, 3)], [(1, 5)]) := by decide +kernel
theorem f4 : askD 2 5 [(1, 3), (2, 3)] [(1, 5)] = (2, [(1, 3), (2, 3)], [(1, 5), (2, 5)]) := by decide +kernel
theorem f5 : blocksD 1 [(1, 3), (2, 3)] [(1, 5), (2, 5)] = [2] := by decide +kernel
theorem f6 : blocksD 2 [(1, 3), (2, 3)] [(1, 5), (2, 5)] = [1] := canon_one (l := metD [(1, 3), (2, 3)] [(1, 5), (2, 5)] 1 (2, 5)) (fun y => by
  have e : metD [(1, 3), (2, 3)] [(1, 5), (2, 5)] 1 (2, 5) = [1, 1] := by decide +kernel
  rw [e]; simp)
set_option maxRecDepth 100000 in
set_option maxHeartbeats 2000000 in
theorem first_any (w : World) : Calls Try.prog 10 #[] w fun e w' => e = .returned (.bool true) ∧ Below w.heap.size w w' := by
  obtain ⟨N, hN⟩ : ∃ N, N = w.heap.size := ⟨_, rfl⟩
  go_enter Try.func10, Try.ntmps10
  go_wp2_with fail
  refine (new_ln w).mono ?_
  rw [← hN]
  rintro e w1 ⟨rfl, L1, B1⟩
  replace hN := hide hN
  replace L1 := hide L1
  replace B1 := hide B1
  go_wp2_with fail
  refine (empty_ln w1 (unhide L1)).mono ?_
  rintro e w2 ⟨rfl, rfl⟩
  go_wp2_with fail
  refine (ask_ln w2 (unhide L1) (by decide) 1 3 f1).mono ?_
  rintro e w3 ⟨rfl, L2, b2⟩
  have B2 := hide ((unhide B1).trans b2)
  replace L2 := hide L2
  clear b2
  go_wp2_with fail
  refine (ask_ln w3 (unhide L2) (by decide) 2 3 f2).mono ?_
  rintro e w4 ⟨rfl, L3, b2⟩
  have B3 := hide ((unhide B2).trans b2)
  replace L3 := hide L3
  clear b2
  go_wp2_with fail
  refine (ask_ln w4 (unhide L3) (by decide) 1 5 f3).mono ?_
  rintro e w5 ⟨rfl, L4, b2⟩
  have B4 := hide ((unhide B3).trans b2)
  replace L4 := hide L4
  clear b2
  go_wp2_with fail
  refine (ask_ln w5 (unhide L4) (by decide) 2 5 f4).mono ?_
  rintro e w6 ⟨rfl, L5, b2⟩
  have B5 := hide ((unhide B4).trans b2)
  replace L5 := hide L5
  clear b2
  go_wp2_with fail
  refine (blocks_ln w6 (unhide L5) (by decide) 1 f5).mono ?_
  rintro e w7 ⟨v7, rfl, I7, b2⟩
  have L6 := hide ((unhide L5).next b2)
  have B6 := hide (bt (unhide B5) b2 (unhide L5).low)
  replace I7 := hide I7
  clear b2
  go_wp2_with fail
  refine (ints_is w7 (unhide I7) (by decide) 2 _ rfl _ rfl).mono ?_
  rintro e w8 ⟨rfl, b2⟩
  have L7 := hide ((unhide L6).next b2)
  have B7 := hide (bt (unhide B6) b2 (unhide L6).low)
  clear b2
  go_wp2_with fail
  refine (blocks_ln w8 (unhide L7) (by decide) 2 f6).mono ?_
  rintro e w9 ⟨v9, rfl, I9, b2⟩
  have L8 := hide ((unhide L7).next b2)
  have B8 := hide (bt (unhide B7) b2 (unhide L7).low)
  replace I9 := hide I9
  clear b2
  go_wp2_with fail
  refine (ints_is w9 (unhide I9) (by decide) 1 _ rfl _ rfl).mono ?_
  rintro e w10 ⟨rfl, b2⟩
  have B9 := hide (bt (unhide B8) b2 (unhide L8).low)
  clear b2
  go_wp2
  go_ret
  exact ⟨rfl, by rw [← unhide hN]; exact unhide B9⟩
end Go.Proofs.Ytdhpahopfmcdkaa

/- A table in memory: its lanes side by side, each in blocks of its own. -/
namespace Go.Proofs.Ytdhpahopfmcdkaa
open Go.RowKit

/-- What one lane holds: who holds, who waits. -/
abbrev Lv := List En × List En
/-- Lane i is x from now on. -/
def upd (T : Nat → Lv) (i : Nat) (x : Lv) : Nat → Lv := fun j => if j = i then x else T j
theorem upd_same (T : Nat → Lv) (i : Nat) (x : Lv) : upd T i x i = x := by simp [upd]
theorem upd_other (T : Nat → Lv) {i j : Nat} (x : Lv) (h : j ≠ i) : upd T i x j = T j := by simp [upd, h]
/-- One of a family is put in another's stead. -/
def set1 {α : Type} (f : Nat → α) (i : Nat) (x : α) : Nat → α := fun j => if j = i then x else f j
theorem set1_same {α : Type} (f : Nat → α) (i : Nat) (x : α) : set1 f i x i = x := by simp [set1]
theorem set1_other {α : Type} (f : Nat → α) {i j : Nat} (x : α) (h : j ≠ i) : set1 f i x j = f j := by simp [set1, h]
/-- The lanes of a table: lane i lies in block lb i. -/
structure Ls (B n : Nat) (T : Nat → Lv) (lb : Nat → Nat) (hv qv : Nat → Value) (w : World) : Prop where
  la : ∀ i, i < n → La B (T i).1 (T i).2 (lb i) (hv i) (qv i) w
  inj : ∀ i j, i < n → j < n → lb i = lb j → i = j
  apart : ∀ i j, i < n → j < n → i ≠ j → ∀ k, (hv i).ownBlock = some k ∨ (qv i).ownBlock = some k → (hv j).ownBlock ≠ some k ∧ (qv j).ownBlock ≠ some k
/-- Entries lie in other blocks than what is of another type. -/
theorem es_ne {B : Nat} {v : Value} {l : List En} {w : World} (h : Es B v l w) {k : Nat} {cur : Array Value} {t : TypeId} (hk : w.heap[k]? = some (.cells cur t (0, 0))) (ht : t ≠ 63) : v.ownBlock ≠ some k := fun e => by
  obtain ⟨c, hc⟩ := h.ty k e
  rw [hc] at hk
  injection hk with hk
  injection hk with _ h2 _
  exact ht h2.symm
/-- What is neither a lane nor entries stays where a lane is turned. -/
theorem Mv.stays {B b : Nat} {H Q : List En} {hv qv hv' qv' : Value} {w w' : World} (m : Mv b hv qv hv' qv' w w') (l : La B H Q b hv qv w) {k : Nat} {cur : Array Value} {t : TypeId} (h : w.heap[k]? = some (.cells cur t (0, 0))) (h1 : t ≠ 63) (h2 : t ≠ 90) : w'.heap[k]? = some (.cells cur t (0, 0)) := by
  refine (m.block k (heap_lt h) (fun e => ?_) (es_ne l.hr h h1) (es_ne l.qr h h1)).trans h
  rw [e, l.blk] at h
  injection h with h
  injection h with _ h3 _
  exact h2 h3.symm
namespace Ls
variable {B n : Nat} {T : Nat → Lv} {lb : Nat → Nat} {hv qv : Nat → Value} {w w' : World}
theorem next (h : Ls B n T lb hv qv w) (k : Below w.heap.size w w') : Ls B n T lb hv qv w' := ⟨fun i hi => (h.la i hi).next k, h.inj, h.apart⟩
/-- Another lane is turned: this one stays. -/
theorem other (h : Ls B n T lb hv qv w) {i j : Nat} (hi : i < n) (hj : j < n) (hne : j ≠ i) {hv' qv' : Value} (m : Mv (lb i) (hv i) (qv i) hv' qv' w w') : La B (T j).1 (T j).2 (lb j) (hv j) (qv j) w' := by
  have l := h.la j hj
  have li := h.la i hi
  refine ⟨(m.block _ l.lt (fun e => hne (h.inj j i hj hi e)) (es_ne li.hr l.blk (by decide)) (es_ne li.qr l.blk (by decide))).trans l.blk, l.hr.keep fun g hg => ?_, l.qr.keep fun g hg => ?_, l.dq, l.bB, l.srt⟩
  · have a := h.apart j i hj hi hne g (.inl hg)
    exact m.block g (l.hr.lt g hg).2 (fun e => es_ne l.hr li.blk (by decide) (by rw [← e]; exact hg)) a.1 a.2
  · have a := h.apart j i hj hi hne g (.inr hg)
    exact m.block g (l.qr.lt g hg).2 (fun e => es_ne l.qr li.blk (by decide) (by rw [← e]; exact hg)) a.1 a.2
/-- Lane i is turned. -/
theorem step (h : Ls B n T lb hv qv w) {i : Nat} (hi : i < n) {hv' qv' : Value} {x : Lv} (m : Mv (lb i) (hv i) (qv i) hv' qv' w w') (l : La B x.1 x.2 (lb i) hv' qv' w') : Ls B n (upd T i x) lb (set1 hv i hv') (set1 qv i qv') w' := by
  have li := h.la i hi
  have new : ∀ j, j < n → j ≠ i → ∀ k, hv'.ownBlock = some k ∨ qv'.ownBlock = some k → (hv j).ownBlock ≠ some k ∧ (qv j).ownBlock ≠ some k := fun j hj hne k hk => by
    have lj := h.la j hj
    have far : (hv i).ownBlock = some k ∨ (qv i).ownBlock = some k ∨ w.heap.size ≤ k := by
      rcases hk with hk | hk
      · rcases m.ha k hk with e | e
        · exact .inl e
        · exact .inr (.inr e)
      · rcases m.qa k hk with e | e
        · exact .inr (.inl e)
        · exact .inr (.inr e)
    rcases far with e | e | e
    · exact h.apart i j hi hj (fun e => hne e.symm) k (.inl e)
    · exact h.apart i j hi hj (fun e => hne e.symm) k (.inr e)
    · exact ⟨fun e2 => by have := (lj.hr.lt k e2).2; omega, fun e2 => by have := (lj.qr.lt k e2).2; omega⟩
  refine ⟨fun j hj => ?_, h.inj, fun j k hj hk hne g hg => ?_⟩
  · by_cases e : j = i
    · subst e
      rw [upd_same, set1_same, set1_same]
      exact l
    · rw [upd_other T x e, set1_other hv hv' e, set1_other qv qv' e]
      exact h.other hi hj e m
  · by_cases e : j = i
    · subst e
      have e2 : k ≠ j := fun e => hne e.symm
      rw [set1_same, set1_same] at hg
      rw [set1_other hv hv' e2, set1_other qv qv' e2]
      exact new k hk e2 g hg
    · rw [set1_other hv hv' e, set1_other qv qv' e] at hg
      by_cases e2 : k = i
      · subst e2
        rw [set1_same, set1_same]
        refine ⟨fun e3 => ?_, fun e3 => ?_⟩
        · have := new j hj e g (.inl e3)
          rcases hg with hg | hg
          · exact this.1 hg
          · exact this.2 hg
        · have := new j hj e g (.inr e3)
          rcases hg with hg | hg
          · exact this.1 hg
          · exact this.2 hg
      · rw [set1_other hv hv' e2, set1_other qv qv' e2]
        exact h.apart j k hj hk hne g hg
end Ls
/-- The table in block b: n nodes, room for most locks, the lanes T; all of it at or above B. -/
structure Tb (B n : Nat) (most : Int) (T : Nat → Lv) (b rb : Nat) (lb : Nat → Nat) (hv qv : Nat → Value) (w : World) : Prop where
  blk : w.heap[b]? = some (.cells #[.slice (some ⟨rb, 0, none⟩) n n, .int .i64 most] 57 (0, 0))
  row : ∃ cur, w.heap[rb]? = some (.cells cur 107 (0, 0)) ∧ ∀ i, i < n → cur[i]? = some (.pointer (some ⟨lb i, 0, none⟩))
  ls : Ls B n T lb hv qv w
  bB : B ≤ b
  rB : B ≤ rb
namespace Tb
variable {B n : Nat} {most : Int} {T : Nat → Lv} {b rb : Nat} {lb : Nat → Nat} {hv qv : Nat → Value} {w w' : World}
theorem lt (h : Tb B n most T b rb lb hv qv w) : b < w.heap.size := heap_lt h.blk
theorem rlt (h : Tb B n most T b rb lb hv qv w) : rb < w.heap.size := heap_lt h.row.choose_spec.1
theorem low (h : Tb B n most T b rb lb hv qv w) : B ≤ w.heap.size := Nat.le_of_lt (Nat.lt_of_le_of_lt h.bB h.lt)
theorem next (h : Tb B n most T b rb lb hv qv w) (k : Below w.heap.size w w') : Tb B n most T b rb lb hv qv w' :=
  ⟨(k.block b h.lt).trans h.blk, ⟨_, (k.block rb h.rlt).trans h.row.choose_spec.1, h.row.choose_spec.2⟩, h.ls.next k, h.bB, h.rB⟩
theorem step (h : Tb B n most T b rb lb hv qv w) {i : Nat} (hi : i < n) {hv' qv' : Value} {x : Lv} (m : Mv (lb i) (hv i) (qv i) hv' qv' w w') (l : La B x.1 x.2 (lb i) hv' qv' w') : Tb B n most (upd T i x) b rb lb (set1 hv i hv') (set1 qv i qv') w' :=
  ⟨m.stays (h.ls.la i hi) h.blk (by decide) (by decide), ⟨_, m.stays (h.ls.la i hi) h.row.choose_spec.1 (by decide) (by decide), h.row.choose_spec.2⟩, h.ls.step hi m l, h.bB, h.rB⟩
theorem c0 (h : Tb B n most T b rb lb hv qv w) : w.cell? ⟨b, 0, none⟩ = some (.slice (some ⟨rb, 0, none⟩) n n) := by have := h.blk; simp [World.cell?, this]
theorem c1 (h : Tb B n most T b rb lb hv qv w) : w.cell? ⟨b, 1, none⟩ = some (.int .i64 most) := by have := h.blk; simp [World.cell?, this]
theorem at_ (h : Tb B n most T b rb lb hv qv w) {i : Nat} (hi : i < n) : w.cell? ⟨rb, i, none⟩ = some (.pointer (some ⟨lb i, 0, none⟩)) := by
  obtain ⟨cur, h1, h2⟩ := h.row
  simp [World.cell?, h1, h2 i hi]
end Tb
end Go.Proofs.Ytdhpahopfmcdkaa

/- What only reads a table: known, has, locks, Len, Waits, Holds, Lane. -/
namespace Go.Proofs.Ytdhpahopfmcdkaa
open Go.RowKit
variable {B n : Nat} {most : Int} {T : Nat → Lv} {b rb : Nat} {lb : Nat → Nat} {hv qv : Nat → Value}

set_option maxRecDepth 100000 in
theorem known_t (w : World) (h : Tb B n most T b rb lb hv qv w) (k : Int) : Calls Try.prog 77 #[.pointer (some ⟨b, 0, none⟩), .int .i64 k] w fun e w' => e = .returned (.bool (decide (0 ≤ k) && decide (k < n))) ∧ w' = w := by
  have c0 := h.c0
  by_cases h1 : 0 ≤ k <;> by_cases h2 : k < n
  all_goals
    go_enter Try.func77, Try.ntmps77
    go_wp2
    go_ret
    exact ⟨by simp [h1, h2], rfl⟩
/-- Has who a lock here? -/
def hasL (who : Int) (x : Lv) : Bool := (lookD who x.1 != 0) || (lookD who x.2 != 0)
set_option maxRecDepth 100000 in
theorem has_t (w : World) {x : Lv} {l : Nat} (h : Ln B x.1 x.2 l w) (hn : x.1.length < 1000000) (hq : x.2.length < 1000000) (who : Int) : Calls Try.prog 76 #[.agg #[.pointer (some ⟨l, 0, none⟩)], .int .i64 who] w fun e w' => e = .returned (.bool (hasL who x)) ∧ Below w.heap.size w w' := by
  unfold hasL
  have H1 := hide (h.next (below_new w (.cells #[.pointer (some ⟨l, 0, none⟩)] 107)))
  obtain ⟨m, hm⟩ : ∃ m, m = lookD who x.1 := ⟨_, rfl⟩
  rw [← hm]
  replace hm := hide hm
  cases h1 : (m != 0)
  · go_enter Try.func76, Try.ntmps76
    go_wp2_with fail
    refine (holds_ln _ (unhide H1) hn who (unhide hm).symm).mono ?_
    rintro e w1 ⟨rfl, b1⟩
    have H2 := hide ((unhide H1).next b1)
    have cb : w1.cell? ⟨w.heap.size, 0, none⟩ = some (.pointer (some ⟨l, 0, none⟩)) := (b1.cell (p := ⟨w.heap.size, 0, none⟩) (by simp)).trans (by rw [World.cell?_alloc_new]; rfl)
    replace b1 := hide (below_then (below_new w _) b1)
    go_wp2_with fail
    refine (waits_ln _ (unhide H2) hq who rfl).mono ?_
    rintro e w2 ⟨rfl, b2⟩
    replace b2 := hide (below_then (unhide b1) b2)
    go_wp2
    go_ret
    exact ⟨rfl, unhide b2⟩
  · go_enter Try.func76, Try.ntmps76
    go_wp2_with fail
    refine (holds_ln _ (unhide H1) hn who (unhide hm).symm).mono ?_
    rintro e w1 ⟨rfl, b1⟩
    replace b1 := hide (below_then (below_new w _) b1)
    go_wp2
    go_ret
    exact ⟨rfl, unhide b1⟩
/-- How many of those that wait hold nothing. -/
def newD (H : List En) (Q : List En) : List En := Q.filter (fun y => lookD y.1 H == 0)
theorem new_succ (H Q : List En) (t : Nat) (ht : t < Q.length) : (newD H (Q.take (t + 1))).length = (newD H (Q.take t)).length + (if lookD (Q.getD t (0, 0)).1 H == 0 then 1 else 0) := by
  unfold newD
  rw [List.take_succ_eq_append_getElem ht, List.filter_append, List.length_append]
  have e : Q.getD t (0, 0) = Q[t] := by simp [List.getD, ht]
  rw [e]
  cases h : (lookD Q[t].1 H == 0) <;> simp [h]
theorem new_le (H Q : List En) : (newD H Q).length ≤ Q.length := List.length_filter_le _ _
/-- How many have a lock here. -/
def locksD (x : Lv) : Nat := x.1.length + (newD x.1 x.2).length
set_option maxRecDepth 100000 in
set_option maxHeartbeats 2000000 in
theorem locks_t (w : World) {x : Lv} {l : Nat} (h : Ln B x.1 x.2 l w) (hn : x.1.length < 1000000) (hq : x.2.length < 1000000) : Calls Try.prog 78 #[.agg #[.pointer (some ⟨l, 0, none⟩)]] w fun e w' => e = .returned (.int .i64 (locksD x : Nat)) ∧ Below w.heap.size w w' := by
  obtain ⟨H, Q⟩ := x
  have H1 := hide (h.next (below_new w (.cells #[.pointer (some ⟨l, 0, none⟩)] 107)))
  unfold locksD
  dsimp only at hn hq H1 ⊢
  clear h
  go_enter Try.func78, Try.ntmps78
  go_wp2_with fail
  refine (holders_ln _ (unhide H1) hn).mono ?_
  rintro e w1 ⟨v1, rfl, E1, b1⟩
  have H2 := hide ((unhide H1).next b1)
  have cb : w1.cell? ⟨w.heap.size, 0, none⟩ = some (.pointer (some ⟨l, 0, none⟩)) := (b1.cell (p := ⟨w.heap.size, 0, none⟩) (by simp)).trans (by rw [World.cell?_alloc_new]; rfl)
  have hbl : Hid (w.heap.size < w1.heap.size) := by have := b1.size; show _ < _; simp at this; omega
  obtain ⟨a1, n1, c1, rfl, hn1⟩ := slice_form' E1
  subst hn1
  clear E1
  replace b1 := hide (below_then (below_new w _) b1)
  go_wp2_with fail
  refine (queue_ln _ (unhide H2) hq).mono ?_
  rintro e w2 ⟨v2, rfl, E2, b2⟩
  have H3 := hide ((unhide H2).next b2)
  have CB := hide ((b2.cell (p := ⟨w.heap.size, 0, none⟩) (unhide hbl)).trans cb)
  have hbl2 : Hid (w.heap.size < w2.heap.size) := Nat.lt_of_lt_of_le (unhide hbl) b2.size
  replace b2 := hide (below_then (unhide b1) b2)
  obtain ⟨a2, n2, c2, rfl, hn2⟩ := slice_form' E2
  subst hn2
  replace E2 := hide E2
  clear cb
  go_wp2_with fail
  go_loopw [3, 14] (fun s3 s14 wr => ∃ t : Nat, t ≤ Q.length ∧ s3 = .int .i64 (H.length + (newD H (Q.take t)).length : Nat) ∧ s14 = .int .i64 t ∧ Hid (Below w2.heap.size w2 wr)) (fun _ s14 _ => Q.length - (intOf s14).toNat)
  case atStart => exact ⟨0, Nat.zero_le _, by simp [newD], rfl, Below.refl _ _⟩
  case round =>
    obtain ⟨t, ht, rfl, rfl, b3⟩ := hrel
    by_cases hlt : t < Q.length
    · obtain ⟨g, rfl, r⟩ : ∃ g, a2 = some ⟨g, 0, none⟩ ∧ Rb g c2 Q wr := by
        rcases (unhide E2).next (unhide b3) with ⟨_, e⟩ | ⟨g, cap', e, _, r⟩
        · rw [e] at hlt; simp at hlt
        · injection e with e1 _ e2
          subst e1 e2
          exact ⟨g, rfl, r⟩
      obtain ⟨y, hy⟩ : ∃ y, y = Q.getD t (0, 0) := ⟨_, rfl⟩
      have d1 : wr.cell? ⟨g, t * 2, none⟩ = some (.int .i64 y.1) := by rw [hy]; exact r.fst hlt
      have d2 : wr.cell? ⟨g, t * 2 + 1, none⟩ = some (.int .i64 y.2) := by rw [hy]; exact r.snd hlt
      have hns := hide (new_succ H Q t hlt)
      have hnle := Nat.le_trans (new_le H (Q.take t)) (List.length_take_le t Q)
      rw [← hy] at hns
      have H4 := hide (((unhide H3).next (unhide b3)).next (below_new wr (.cells #[.int .i64 y.1, .int .i64 y.2] 63)))
      have cb : (wr.alloc (.cells #[.int .i64 y.1, .int .i64 y.2] 63)).cell? ⟨w.heap.size, 0, none⟩ = some (.pointer (some ⟨l, 0, none⟩)) := (below_then (unhide b3) (below_new wr _)).cell (p := ⟨w.heap.size, 0, none⟩) (unhide hbl2) |>.trans (unhide CB)
      clear hy r
      obtain ⟨m, hm⟩ : ∃ m, m = lookD y.1 H := ⟨_, rfl⟩
      rw [← hm] at hns
      replace hm := hide hm
      generalize (newD H (List.take t Q)).length = c at hns hnle ⊢
      go_wp2_with fail
      refine (holds_ln _ (unhide H4) hn y.1 (unhide hm).symm).mono ?_
      rintro e w5 ⟨rfl, b5⟩
      replace b5 := hide (below_then (unhide b3) (below_then (below_new wr _) b5))
      clear d1 d2 cb
      cases hz : (m == 0)
      · rw [hz] at hns
        go_wp2
        go_roundw
        case rel => exact ⟨t + 1, by omega, by rw [unhide hns]; rfl, by go_num, unhide b5⟩
        case measure => simp [intOf]; omega
      · rw [hz] at hns
        go_wp2
        go_roundw
        case rel => exact ⟨t + 1, by omega, by rw [unhide hns]; go_num, by go_num, unhide b5⟩
        case measure => simp [intOf]; omega
    · obtain rfl : t = Q.length := by omega
      go_wp2
      go_ret
      exact ⟨by rw [List.take_length]; rfl, below_then (unhide b2) (unhide b3)⟩
end Go.Proofs.Ytdhpahopfmcdkaa

/- What only reads a table: Len, Waits, Holds, Lane. -/
namespace Go.Proofs.Ytdhpahopfmcdkaa
open Go.RowKit
variable {B n : Nat} {most : Int} {T : Nat → Lv} {b rb : Nat} {lb : Nat → Nat} {hv qv : Nat → Value}

/-- No lane holds more than k, nor do more than k wait there. -/
def Few (n k : Nat) (T : Nat → Lv) : Prop := ∀ i, i < n → (T i).1.length ≤ k ∧ (T i).2.length ≤ k
/-- How many locks there are, in the first m lanes. -/
def lenD (T : Nat → Lv) : Nat → Nat
  | 0 => 0
  | m + 1 => lenD T m + locksD (T m)
theorem len_le {T : Nat → Lv} {n k : Nat} (h : Few n k T) : ∀ m, m ≤ n → lenD T m ≤ m * (2 * k)
  | 0, _ => Nat.zero_le _
  | m + 1, hm => by
    have h1 := len_le h m (by omega)
    obtain ⟨h2, h3⟩ := h m (by omega)
    have h4 := new_le (T m).1 (T m).2
    have e : (m + 1) * (2 * k) = m * (2 * k) + 2 * k := Nat.succ_mul _ _
    rw [e]
    show lenD T m + locksD (T m) ≤ _
    unfold locksD
    omega
set_option maxRecDepth 100000 in
set_option maxHeartbeats 2000000 in
theorem len_t (w : World) (h : Tb B n most T b rb lb hv qv w) (hf : Few n 1000 T) (hn : n ≤ 10000) : Calls Try.prog 35 #[.pointer (some ⟨b, 0, none⟩)] w fun e w' => e = .returned (.int .i64 (lenD T n : Nat)) ∧ Below w.heap.size w w' := by
  have c0 := h.c0
  have HT := hide h
  clear h
  go_enter Try.func35, Try.ntmps35
  go_wp2_with fail
  clear c0
  go_loopw [3, 11] (fun s3 s11 wr => ∃ t : Nat, t ≤ n ∧ s3 = .int .i64 (lenD T t : Nat) ∧ s11 = .int .i64 t ∧ Hid (Below w.heap.size w wr)) (fun _ s11 _ => n - (intOf s11).toNat)
  case atStart => exact ⟨0, Nat.zero_le _, rfl, rfl, Below.refl _ _⟩
  case round =>
    obtain ⟨t, ht, rfl, rfl, b3⟩ := hrel
    by_cases hlt : t < n
    · have T3 := (unhide HT).next (unhide b3)
      have d1 := T3.at_ hlt
      obtain ⟨f1, f2⟩ := hf t hlt
      have hle := len_le hf t ht
      have hll : locksD (T t) ≤ 2000 := by have := new_le (T t).1 (T t).2; unfold locksD; omega
      have L4 := hide ((T3.ls.la t hlt).next (below_new wr (.cells #[.pointer (some ⟨lb t, 0, none⟩)] 107)))
      have hlen : Hid (lenD T (t + 1) = lenD T t + locksD (T t)) := rfl
      generalize lenD T t = c at hle hlen ⊢
      have hc : c ≤ 20000000 := by
        have : t * (2 * 1000) ≤ 10000 * (2 * 1000) := Nat.mul_le_mul_right _ (by omega)
        omega
      replace f1 := hide f1
      replace f2 := hide f2
      clear T3 hle
      go_wp2_with fail
      refine (locks_t _ ⟨_, _, unhide L4⟩ (by have := unhide f1; omega) (by have := unhide f2; omega)).mono ?_
      rintro e w5 ⟨rfl, b5⟩
      replace b5 := hide (below_then (unhide b3) (below_then (below_new wr _) b5))
      generalize locksD (T t) = l at hll hlen ⊢
      clear d1
      go_wp2
      go_roundw
      case rel => exact ⟨t + 1, by omega, by rw [unhide hlen]; go_num, by go_num, unhide b5⟩
      case measure => simp [intOf]; omega
    · obtain rfl : t = n := by omega
      go_wp2
      go_ret
      exact ⟨rfl, unhide b3⟩
/-- Nobody of that name waits. -/
def noneW (who : Int) (n : Nat) (T : Nat → Lv) : Prop := ∀ i, i < n → lookD who (T i).2 = 0
/-- It waits at i, and nowhere below. -/
def someW (who : Int) (n : Nat) (T : Nat → Lv) (i : Nat) : Prop := i < n ∧ lookD who (T i).2 ≠ 0 ∧ ∀ j, j < i → lookD who (T j).2 = 0
theorem waits_or (who : Int) (T : Nat → Lv) : ∀ n, noneW who n T ∨ ∃ i, someW who n T i
  | 0 => .inl fun i h => by omega
  | n + 1 => by
    rcases waits_or who T n with h | ⟨i, h1, h2, h3⟩
    · by_cases e : lookD who (T n).2 = 0
      · refine .inl fun i hi => ?_
        rcases (show i < n ∨ i = n by omega) with h4 | rfl
        · exact h i h4
        · exact e
      · exact .inr ⟨n, Nat.lt_succ_self n, e, h⟩
    · exact .inr ⟨i, by omega, h2, h3⟩
/-- The answer of Waits, s the first node where who waits (n: none). -/
def waitV (who : Int) (n : Nat) (T : Nat → Lv) (s : Nat) : Value := .tuple #[.agg #[.int .i64 (if s < n then (s : Int) else 0), .int .i64 (if s < n then lookD who (T s).2 else 0)], .bool (decide (s < n))]
theorem lock_cells {w : World} {p : Nat} {x y : Int} (h : w.heap[p]? = some (.cells #[.int .i64 x, .int .i64 y] 50 (0, 0))) : w.cell? ⟨p, 0, none⟩ = some (.int .i64 x) ∧ w.cell? ⟨p, 1, none⟩ = some (.int .i64 y) ∧ w.frozen? ⟨p, 0, none⟩ = false ∧ w.frozen? ⟨p, 1, none⟩ = false := by
  simp [World.cell?, World.frozen?, h]
set_option maxRecDepth 100000 in
set_option maxHeartbeats 2000000 in
theorem waits_t (w : World) (h : Tb B n most T b rb lb hv qv w) (hf : Few n 1000 T) (hn : n ≤ 10000) (who : Int) (s : Nat) (hs : s ≤ n) (h0 : ∀ j, j < s → lookD who (T j).2 = 0) (h1 : s < n → lookD who (T s).2 ≠ 0) :
    Calls Try.prog 31 #[.pointer (some ⟨b, 0, none⟩), .int .i64 who] w fun e w' => e = .returned (waitV who n T s) ∧ Below w.heap.size w w' := by
  have HT := hide h
  replace h0 := hide h0
  replace h1 := hide h1
  have c0 := (h.next (below_new w (.cells #[.int .i64 0, .int .i64 0] 50))).c0
  obtain ⟨W1, hW1⟩ : ∃ W1, W1 = w.alloc (.cells #[.int .i64 0, .int .i64 0] 50) := ⟨_, rfl⟩
  obtain ⟨p, hp⟩ : ∃ p, p = w.heap.size := ⟨_, rfl⟩
  have P1 : Hid (W1.heap[p]? = some (.cells #[.int .i64 0, .int .i64 0] 50 (0, 0))) := by rw [hW1, hp]; exact heap_alloc_new w _
  have B1 : Hid (Below w.heap.size w W1) := by rw [hW1]; exact below_new w _
  have hpl : Hid (p < W1.heap.size) := heap_lt (unhide P1)
  have hwp : Hid (w.heap.size = p) := hp.symm
  clear h
  go_enter Try.func31, Try.ntmps31
  go_wp2_with fail
  rw [← hW1, ← hp]
  replace hW1 := hide hW1
  replace hp := hide hp
  clear c0
  go_loopw [14] (fun s14 wr => ∃ t : Nat, t ≤ s ∧ s14 = .int .i64 t ∧ Hid (Below W1.heap.size W1 wr)) (fun s14 _ => n - (intOf s14).toNat)
  case atStart => exact ⟨0, Nat.zero_le _, rfl, Below.refl _ _⟩
  case round =>
    obtain ⟨t, ht, rfl, b3⟩ := hrel
    by_cases hlt : t < n
    · have T3 := (unhide HT).next (below_then (unhide B1) (unhide b3))
      have d1 := T3.at_ hlt
      obtain ⟨f1, f2⟩ := hf t hlt
      have L4 := hide ((T3.ls.la t hlt).next (below_new wr (.cells #[.pointer (some ⟨lb t, 0, none⟩)] 107)))
      replace f2 := hide f2
      obtain ⟨m, hm⟩ : ∃ m, m = lookD who (T t).2 := ⟨_, rfl⟩
      replace hm := hide hm
      clear T3 f1
      go_wp2_with fail
      refine (waits_ln _ ⟨_, _, unhide L4⟩ (by have := unhide f2; omega) who (unhide hm).symm).mono ?_
      rintro e w5 ⟨rfl, b5⟩
      replace b5 := hide (below_then (unhide b3) (below_then (below_new wr _) b5))
      clear d1
      by_cases hts : t = s
      · have hm0 : (m != 0) = true := by rw [unhide hm, hts]; simpa using unhide h1 (by omega)
        have hm1 : m ≠ 0 := by simpa using hm0
        have P5 := ((unhide b5).block p (unhide hpl)).trans (unhide P1)
        obtain ⟨k0, k1, k2, k3⟩ := lock_cells P5
        have PT : Hid (Below w.heap.size w ((w5.setCell ⟨p, 0, none⟩ (.int .i64 t)).setCell ⟨p, 1, none⟩ (.int .i64 m))) := ((below_then (unhide B1) (unhide b5)).setCell (p := ⟨p, 0, none⟩) (Nat.le_of_eq (unhide hwp)) _).setCell (p := ⟨p, 1, none⟩) (Nat.le_of_eq (unhide hwp)) _
        go_wp2
        (try simp only [Exit.inBlock, Exit.then])
        refine bodyPost_ret (v := waitV who n T s) ?_ rfl ⟨rfl, by have := unhide PT; rw [hts] at this; exact this⟩
        rw [results_cell_tmp rfl]
        unfold waitV
        rw [if_pos (by omega), if_pos (by omega), decide_eq_true (by omega : s < n), ← hts, ← unhide hm]
        go_simp
      · have hm0 : (m != 0) = false := by rw [unhide hm, unhide h0 t (by omega)]; rfl
        have hm1 : m = 0 := by simpa using hm0
        go_wp2
        go_roundw
        case rel => exact ⟨t + 1, by omega, by go_num, unhide b5⟩
        case measure => simp [intOf]; omega
    · obtain rfl : t = n := by omega
      obtain rfl : t = s := by omega
      have P5 := ((unhide b3).block p (unhide hpl)).trans (unhide P1)
      obtain ⟨k0, k1, k2, k3⟩ := lock_cells P5
      have PT : Hid (Below w.heap.size w ((wr.setCell ⟨p, 0, none⟩ (.int .i64 0)).setCell ⟨p, 1, none⟩ (.int .i64 0))) := ((below_then (unhide B1) (unhide b3)).setCell (p := ⟨p, 0, none⟩) (Nat.le_of_eq (unhide hwp)) _).setCell (p := ⟨p, 1, none⟩) (Nat.le_of_eq (unhide hwp)) _
      go_wp2
      (try simp only [Exit.inBlock, Exit.then])
      refine bodyPost_ret (v := waitV who t T t) ?_ rfl ⟨rfl, unhide PT⟩
      rw [results_cell_tmp rfl]
      unfold waitV
      rw [if_neg (by omega), if_neg (by omega), decide_eq_false (by omega : ¬ t < t)]
      go_simp
/-- The first node where who waits; n, if there is none. -/
def atW (who : Int) (T : Nat → Lv) : Nat → Nat
  | 0 => 0
  | n + 1 => if atW who T n = n then (if lookD who (T n).2 = 0 then n + 1 else n) else atW who T n
theorem atW_le (who : Int) (T : Nat → Lv) : ∀ n, atW who T n ≤ n
  | 0 => Nat.le_refl _
  | n + 1 => by
    have := atW_le who T n
    unfold atW
    split
    · split <;> omega
    · omega
theorem atW_low (who : Int) (T : Nat → Lv) : ∀ n, ∀ j, j < atW who T n → lookD who (T j).2 = 0
  | 0, j, h => by simp [atW] at h
  | n + 1, j, h => by
    have h1 := atW_low who T n
    unfold atW at h
    split at h
    · rename_i e
      split at h
      · rename_i e2
        rcases (show j < n ∨ j = n by omega) with h2 | rfl
        · exact h1 j (by omega)
        · exact e2
      · exact h1 j (by omega)
    · exact h1 j h
theorem atW_at (who : Int) (T : Nat → Lv) : ∀ n, atW who T n < n → lookD who (T (atW who T n)).2 ≠ 0
  | 0, h => by omega
  | n + 1, h => by
    have h1 := atW_at who T n
    have h2 := atW_le who T n
    unfold atW at h ⊢
    split
    · rename_i e
      rw [if_pos e] at h
      split
      · rename_i e2; rw [if_pos e2] at h; omega
      · rename_i e2; exact e2
    · rename_i e
      exact h1 (by omega)
theorem waits_tb (w : World) (h : Tb B n most T b rb lb hv qv w) (hf : Few n 1000 T) (hn : n ≤ 10000) (who : Int) :
    Calls Try.prog 31 #[.pointer (some ⟨b, 0, none⟩), .int .i64 who] w fun e w' => e = .returned (waitV who n T (atW who T n)) ∧ Below w.heap.size w w' :=
  waits_t w h hf hn who _ (atW_le who T n) (atW_low who T n) (atW_at who T n)
set_option maxRecDepth 100000 in
theorem holds_t (w : World) (h : Tb B n most T b rb lb hv qv w) (hf : Few n 1000 T) (who node : Int) (h0 : 0 ≤ node) (h1 : node < n) :
    Calls Try.prog 45 #[.pointer (some ⟨b, 0, none⟩), .int .i64 who, .int .i64 node] w fun e w' => e = .returned (.int .i64 (lookD who (T node.toNat).1)) ∧ Below w.heap.size w w' := by
  obtain ⟨k, rfl⟩ : ∃ k : Nat, node = (k : Int) := ⟨node.toNat, by omega⟩
  have hk : k < n := by omega
  have c0 := h.c0
  have d0 := h.at_ hk
  have K := hide (known_t w h (k : Int))
  have L := hide (h.ls.la k hk)
  have f1 := hide (hf k hk).1
  have e : (decide (0 ≤ (k : Int)) && decide ((k : Int) < n)) = true := by simp; omega
  rw [e] at K
  have e2 : (k : Int).toNat = k := rfl
  rw [e2]
  clear h e
  go_enter Try.func45, Try.ntmps45
  go_wp2_with fail
  refine (unhide K).mono ?_
  rintro e w1 ⟨rfl, rfl⟩
  go_wp2_with fail
  refine (holds_ln _ ⟨_, _, unhide L⟩ (by have := unhide f1; omega) who rfl).mono ?_
  rintro e w2 ⟨rfl, b2⟩
  replace b2 := hide b2
  clear c0 d0
  go_wp2
  go_ret
  exact ⟨rfl, unhide b2⟩
set_option maxRecDepth 100000 in
theorem lane_t (w : World) (h : Tb B n most T b rb lb hv qv w) (node : Int) (h0 : 0 ≤ node) (h1 : node < n) :
    Calls Try.prog 33 #[.pointer (some ⟨b, 0, none⟩), .int .i64 node] w fun e w' => e = .returned (.pointer (some ⟨lb node.toNat, 0, none⟩)) ∧ w' = w := by
  obtain ⟨k, rfl⟩ : ∃ k : Nat, node = (k : Int) := ⟨node.toNat, by omega⟩
  have hk : k < n := by omega
  have c0 := h.c0
  have d0 := h.at_ hk
  have K := hide (known_t w h (k : Int))
  have e : (decide (0 ≤ (k : Int)) && decide ((k : Int) < n)) = true := by simp; omega
  rw [e] at K
  have e2 : (k : Int).toNat = k := rfl
  rw [e2]
  clear h e
  go_enter Try.func33, Try.ntmps33
  go_wp2_with fail
  refine (unhide K).mono ?_
  rintro e w1 ⟨rfl, rfl⟩
  go_wp2
  go_ret
  exact ⟨rfl, rfl⟩
end Go.Proofs.Ytdhpahopfmcdkaa

/- A new table. -/
namespace Go.Proofs.Ytdhpahopfmcdkaa
open Go.RowKit

/-- Nothing anywhere. -/
def none0 : Nat → Lv := fun _ => ([], [])
/-- The lanes so far: j of them, of the row of n that lies in block rb. -/
structure Nw (B n rb j : Nat) (lb : Nat → Nat) (w : World) : Prop where
  row : ∃ cur, w.heap[rb]? = some (.cells cur 107 (0, 0)) ∧ cur.size = n ∧ ∀ i, i < j → cur[i]? = some (.pointer (some ⟨lb i, 0, none⟩))
  ls : Ls B j none0 lb (fun _ => .slice none 0 0) (fun _ => .slice none 0 0) w
  rB : B ≤ rb
theorem nw_start {B n rb : Nat} {w : World} {cur : Array Value} (h : w.heap[rb]? = some (.cells cur 107 (0, 0))) (hc : cur.size = n) (hB : B ≤ rb) : Nw B n rb 0 (fun _ => 0) w :=
  ⟨⟨cur, h, hc, fun i hi => by omega⟩, ⟨fun i hi => by omega, fun i j hi => by omega, fun i j hi => by omega⟩, hB⟩
theorem La.set95 {B b rb j : Nat} {H Q : List En} {hv qv : Value} {w : World} {cur : Array Value} (l : La B H Q b hv qv w) (h : w.heap[rb]? = some (.cells cur 107 (0, 0))) (v : Value) : La B H Q b hv qv (w.setCell ⟨rb, j, none⟩ v) := by
  refine ⟨(set_other _ _ _ _ _ (fun e => ?_)).trans l.blk, l.hr.keep fun g hg => set_other _ _ _ _ _ (fun e => es_ne l.hr h (by decide) (by rw [← e]; exact hg)), l.qr.keep fun g hg => set_other _ _ _ _ _ (fun e => es_ne l.qr h (by decide) (by rw [← e]; exact hg)), l.dq, l.bB, l.srt⟩
  rw [← e, l.blk] at h
  cases h
theorem nw_step {B n rb j : Nat} {lb : Nat → Nat} {w w' : World} (h : Nw B n rb j lb w) (hj : j < n) (L : La w.heap.size [] [] w.heap.size (.slice none 0 0) (.slice none 0 0) w') (k : Below w.heap.size w w') :
    Nw B n rb (j + 1) (set1 lb j w.heap.size) (w'.setCell ⟨rb, j, none⟩ (.pointer (some ⟨w.heap.size, 0, none⟩))) ∧ (∃ x, w'.cell? ⟨rb, j, none⟩ = some x) ∧ w'.frozen? ⟨rb, j, none⟩ = false := by
  obtain ⟨⟨cur, h1, h2, h3⟩, hl, hB⟩ := h
  have hrl := heap_lt h1
  have h1' := (k.block rb hrl).trans h1
  have hset : (w'.setCell ⟨rb, j, none⟩ (.pointer (some ⟨w.heap.size, 0, none⟩))).heap[rb]? = some (.cells (cur.set! j (.pointer (some ⟨w.heap.size, 0, none⟩))) 107 (0, 0)) := by
    show (w'.heap.modify rb _)[rb]? = _
    rw [Array.getElem?_modify, if_pos rfl, h1']; rfl
  have hjc : j < cur.size := by omega
  have L2 : La B [] [] w.heap.size (.slice none 0 0) (.slice none 0 0) w' := ⟨L.blk, .inl ⟨rfl, rfl⟩, .inl ⟨rfl, rfl⟩, fun k hk => (by cases hk), by omega, List.Pairwise.nil⟩
  refine ⟨⟨⟨_, hset, by simp [h2], fun i hi => ?_⟩, ⟨fun i hi => ?_, fun i i' hi hi' e => ?_, fun i i' _ _ _ g hg => ?_⟩, hB⟩, ⟨cur[j], by simp [World.cell?, h1', hjc]⟩, by simp [World.frozen?, h1']⟩
  · by_cases e : i = j
    · subst e
      rw [set1_same]
      simp [hjc]
    · rw [set1_other lb _ e, ← h3 i (by omega)]
      simp [Ne.symm e]
  · by_cases e : i = j
    · subst e
      rw [set1_same]
      exact L2.set95 h1' _
    · rw [set1_other lb _ e]
      exact ((hl.la i (by omega)).next k).set95 h1' _
  · by_cases e1 : i = j
    · by_cases e2 : i' = j
      · omega
      · subst e1
        rw [set1_same, set1_other lb _ e2] at e
        have := (hl.la i' (by omega)).lt
        omega
    · by_cases e2 : i' = j
      · subst e2
        rw [set1_same, set1_other lb _ e1] at e
        have := (hl.la i (by omega)).lt
        omega
      · rw [set1_other lb _ e1, set1_other lb _ e2] at e
        exact hl.inj i i' (by omega) (by omega) e
  · rcases hg with hg | hg <;> cases hg
theorem nw_end {B n rb : Nat} {most : Int} {lb : Nat → Nat} {w : World} (h : Nw B n rb n lb w) (hBw : B ≤ w.heap.size) : Tb B n most none0 w.heap.size rb lb (fun _ => .slice none 0 0) (fun _ => .slice none 0 0) (w.alloc (.cells #[.slice (some ⟨rb, 0, none⟩) n n, .int .i64 most] 57)) := by
  have bn := below_new w (.cells #[.slice (some ⟨rb, 0, none⟩) n n, .int .i64 most] 57)
  obtain ⟨⟨cur, h1, _, h3⟩, hl, hB⟩ := h
  exact ⟨heap_alloc_new w _, ⟨cur, (bn.block rb (heap_lt h1)).trans h1, h3⟩, hl.next bn, hBw, hB⟩
theorem zero95 : (Try.prog.info? 107).map (fun i => (i.zero, i.size, i.bytes)) = some (some (.agg #[.pointer none]), 1, 8) := by kernel_rfl
theorem make95 (n : Nat) (hn : n ≤ 10000) (w : World) : (Instr.makeSlice 53 (.int .i64 (n : Int)) (.int .i64 (n : Int))).run Try.prog w = .ok (.slice (some ⟨w.heap.size, 0, none⟩) n n) (w.alloc (.cells (madeCells #[.pointer none] n) 107)) := by
  obtain ⟨i, hi, hz, hs, hb⟩ := info_parts zero95
  have := run_makeSlice (P := Try.prog) w 53 107 i _ Try.underlying53 hi hz .i64 .i64 (n : Int) (n : Int) (by omega) (Int.le_refl _) (by rw [hs]; omega) (by rw [hb]; omega) (by omega)
  simp only [Int.toNat_natCast, hs, Nat.mul_one] at this
  exact this
set_option maxRecDepth 100000 in
set_option maxHeartbeats 2000000 in
theorem newt_t (n : Nat) (most : Int) (w : World) (h1 : 1 ≤ n) (h2 : n ≤ 10000) (h3 : 1 ≤ most) (h4 : most ≤ 4096) :
    Calls Try.prog 28 #[.int .i64 (n : Int), .int .i64 most] w fun e w' => ∃ b rb lb, e = .returned (.tuple #[.pointer (some ⟨b, 0, none⟩), .int .i64 0]) ∧ Tb w.heap.size n most none0 b rb lb (fun _ => .slice none 0 0) (fun _ => .slice none 0 0) w' ∧ Below w.heap.size w w' := by
  have hmk := make95 n h2
  obtain ⟨W1, hW1⟩ : ∃ W1, W1 = w.alloc (.cells (madeCells #[.pointer none] n) 107) := ⟨_, rfl⟩
  obtain ⟨rb, hrb⟩ : ∃ rb, rb = w.heap.size := ⟨_, rfl⟩
  have N1 : Hid (Nw w.heap.size n rb 0 (fun _ => 0) W1) := by rw [hW1, hrb]; exact nw_start (heap_alloc_new w _) (by simp [size_madeCells]) (Nat.le_refl _)
  have B1 : Hid (Below w.heap.size w W1) := by rw [hW1]; exact below_new w _
  have hh1 : (n : Int) ≥ 1 := by omega
  have hh2 : (n : Int) ≤ 10000 := by omega
  go_enter Try.func28, Try.ntmps28
  go_wp2_with fail
  rw [← hW1, ← hrb]
  replace hW1 := hide hW1
  replace hrb := hide hrb
  clear hmk
  go_loopw [26] (fun s26 wr => ∃ (t : Nat) (lb : Nat → Nat), t ≤ n ∧ s26 = .int .i64 t ∧ Hid (Nw w.heap.size n rb t lb wr) ∧ Hid (Below w.heap.size w wr)) (fun s26 _ => n - (intOf s26).toNat)
  case atStart => exact ⟨0, _, Nat.zero_le _, rfl, unhide N1, unhide B1⟩
  case round =>
    obtain ⟨t, lb, ht, rfl, N3, b3⟩ := hrel
    by_cases hlt : t < n
    · go_wp2_with fail
      refine (new_any wr).mono ?_
      rintro e w5 ⟨rfl, L5, b5⟩
      obtain ⟨N5, ⟨x, k1⟩, k2⟩ := nw_step (unhide N3) hlt L5 b5
      have b6 := hide ((below_then (unhide b3) b5).setCell (p := ⟨rb, t, none⟩) (unhide N3).rB (.pointer (some ⟨wr.heap.size, 0, none⟩)))
      replace N5 := hide N5
      clear L5 b5
      go_wp2
      go_roundw
      case rel => exact ⟨t + 1, _, by omega, by go_num, unhide N5, unhide b6⟩
      case measure => simp [intOf]; omega
    · obtain rfl : t = n := by omega
      have E3 := hide (nw_end (most := most) (unhide N3) (unhide b3).size)
      have b6 := hide (below_add (unhide b3) (.cells #[.slice (some ⟨rb, 0, none⟩) t t, .int .i64 most] 57))
      go_wp2
      go_ret2
      exact ⟨_, rfl, ⟨_, _, unhide E3⟩, unhide b6⟩
set_option maxRecDepth 100000 in
theorem newt_bad (n most : Int) (w : World) (h : n < 1 ∨ (n ≤ 10000 ∧ 1 ≤ n ∧ most < 1) ∨ 10000 < n ∨ (1 ≤ n ∧ n ≤ 10000 ∧ 4096 < most)) :
    Calls Try.prog 28 #[.int .i64 n, .int .i64 most] w fun e w' => e = .returned (.tuple #[.pointer none, .int .i64 1]) ∧ w' = w := by
  rcases h with h | ⟨h, h2, h3⟩ | h | ⟨h, h2, h3⟩
  all_goals
    go_enter Try.func28, Try.ntmps28
    go_wp2
    go_ret2
    exact ⟨rfl, rfl⟩
end Go.Proofs.Ytdhpahopfmcdkaa

/- A region that draws its order, whose callees make memory but turn nothing that lies: one walk in the order of the text, over the class of the worlds behind w0 in which S holds. -/
namespace Go.Proofs.Ytdhpahopfmcdkaa
open Go.RowKit

/-- The worlds behind w0 in which S holds. -/
structure Wc (S : World → Prop) (w0 : World) where
  w : World
  ok : S w
  bel : Below w0.heap.size w0 w
theorem Wc.call {S : World → Prop} {w0 : World} (hs : ∀ w w', S w → Below w.heap.size w w' → S w') {x : Wc S w0} {f : FuncId} {args : Array Value} {v : Value}
    (h : Calls Try.prog f args x.w fun e w' => e = .returned v ∧ Below x.w.heap.size x.w w') : Calls Try.prog f args x.w fun e w'' => e = .returned v ∧ ∃ y : Wc S w0, w'' = y.w :=
  h.mono fun _ w' ⟨he, hb⟩ => ⟨he, ⟨w', hs _ _ x.ok hb, below_then x.bel hb⟩, rfl⟩
theorem wp_region_wc {S : World → Prop} {w0 : World} {id : Nat} {Q : Exit → Act → World → Prop} {a : Act} {w : World} {l : List Oper} (hx : S w.drew) (hl : Below w0.heap.size w0 w) (hm : Try.prog.follows .mixedOrders = true) (hB : Region.lexB .any l.toArray = true)
    (h : wpQuiet Try.prog l.toArray (fun w' => ∃ x : Wc S w0, w' = x.w) (fun a' => ∀ w', (∃ x : Wc S w0, w' = x.w) → Q .normal a' w') l a) : (Code.region id l.toArray true).wp Try.prog Q a w :=
  wp_region_quiet (C := fun w' => ∃ x : Wc S w0, w' = x.w) hm hB ⟨⟨w.drew, hx, hl.drew⟩, rfl⟩ (by simpa using h)
end Go.Proofs.Ytdhpahopfmcdkaa

/- Ask at a table. -/
namespace Go.Proofs.Ytdhpahopfmcdkaa
open Go.RowKit
variable {B n : Nat} {most : Int} {T : Nat → Lv} {b rb : Nat} {lb : Nat → Nat} {hv qv : Nat → Value}

/-- What speaks against asking: 4 no node, 5 who waits, 1 no mode, 3 no room, 0 nothing. -/
def errD (n : Nat) (most : Int) (T : Nat → Lv) (who node m : Int) : Int :=
  if (decide (0 ≤ node) && decide (node < n)) = false then 4
  else if atW who T n < n then 5
  else if who < 0 ∨ m = 0 ∨ knownB m = false then 1
  else if hasL who (T node.toNat) = false ∧ most ≤ (lenD T n : Int) then 3 else 0
theorem Tb.drewN {w : World} (h : Tb B n most T b rb lb hv qv w) (k : Nat) : Tb B n most T b rb lb hv qv (w.drewN k) := h.next ⟨rfl, rfl, rfl, Nat.le_refl _, fun _ _ => rfl⟩
theorem Tb.drew {w : World} (h : Tb B n most T b rb lb hv qv w) : Tb B n most T b rb lb hv qv w.drew := h.next ⟨rfl, rfl, rfl, Nat.le_refl _, fun _ _ => rfl⟩
theorem Ln.drw {H Q : List En} {w : World} (h : Ln B H Q b w) : Ln B H Q b w.drew := h.next ⟨rfl, rfl, rfl, Nat.le_refl _, fun _ _ => rfl⟩
theorem has_r (w : World) {x : Lv} {l : Nat} (h : Ln B x.1 x.2 l w) (hn : x.1.length < 1000000) (hq : x.2.length < 1000000) (who : Int) {r : Bool} (hr : hasL who x = r) : Calls Try.prog 76 #[.agg #[.pointer (some ⟨l, 0, none⟩)], .int .i64 who] w fun e w' => e = .returned (.bool r) ∧ Below w.heap.size w w' := by
  subst hr; exact has_t w h hn hq who
set_option maxRecDepth 100000 in
set_option maxHeartbeats 2000000 in
theorem may_t (w : World) (h : Tb B n most T b rb lb hv qv w) (hf : Few n 1000 T) (hn : n ≤ 10000) (who node m : Int) :
    Calls Try.prog 74 #[.pointer (some ⟨b, 0, none⟩), .int .i64 who, .int .i64 node, .int .i64 m] w fun e w' => e = .returned (.int .i64 (errD n most T who node m)) ∧ Below w.heap.size w w' := by
  have HT := hide h
  have K := hide (known_t w h node)
  clear h
  unfold errD
  cases hk : (decide (0 ≤ node) && decide (node < n))
  · rw [hk] at K
    rw [if_pos rfl]
    clear hk
    go_enter Try.func74, Try.ntmps74
    go_wp2_with fail
    refine (unhide K).mono ?_
    rintro e w1 ⟨rfl, rfl⟩
    go_wp2
    go_ret
    exact ⟨rfl, Below.refl _ _⟩
  · rw [hk] at K
    rw [if_neg (by decide)]
    obtain ⟨k, rfl⟩ : ∃ k : Nat, node = (k : Int) := ⟨node.toNat, by simp at hk; omega⟩
    have hkn : k < n := by simp at hk; omega
    have e2 : (k : Int).toNat = k := rfl
    rw [e2]
    have W := hide (fun w1 (hb : Below w.heap.size w w1) => waits_tb w1 ((unhide HT).next hb) hf hn who)
    obtain ⟨s, hs⟩ : ∃ s, s = atW who T n := ⟨_, rfl⟩
    rw [← hs] at W ⊢
    clear hk e2
    by_cases hsn : s < n
    · rw [if_pos hsn]
      have hv : waitV who n T s = .tuple #[.agg #[.int .i64 s, .int .i64 (lookD who (T s).2)], .bool true] := by
        unfold waitV; rw [if_pos hsn, if_pos hsn, decide_eq_true hsn]
      rw [hv] at W
      replace hs := hide hs
      clear hv
      go_enter Try.func74, Try.ntmps74
      go_wp2_with fail
      refine (unhide K).mono ?_
      rintro e w1 ⟨rfl, rfl⟩
      go_wp2_with fail
      refine (unhide W _ (Below.refl _ _)).mono ?_
      rintro e w2 ⟨rfl, b2⟩
      have B3 := hide (below_add b2 (.cells #[.int .i64 s, .int .i64 (lookD who (T s).2)] 50))
      clear b2
      go_wp2
      go_ret
      exact ⟨rfl, unhide B3⟩
    · rw [if_neg hsn]
      have hv : waitV who n T s = .tuple #[.agg #[.int .i64 0, .int .i64 0], .bool false] := by
        unfold waitV; rw [if_neg hsn, if_neg hsn, decide_eq_false hsn]
      rw [hv] at W
      replace hs := hide hs
      clear hv hsn
      by_cases hbad : who < 0 ∨ m = 0 ∨ knownB m = false
      · rw [if_pos hbad]
        have hb3 : who < 0 ∨ (0 ≤ who ∧ m = 0) ∨ (0 ≤ who ∧ m ≠ 0 ∧ knownB m = false) := by
          by_cases h1 : who < 0
          · exact .inl h1
          · by_cases h2 : m = 0
            · exact .inr (.inl ⟨by omega, h2⟩)
            · rcases hbad with h | h | h
              · exact absurd h h1
              · exact absurd h h2
              · exact .inr (.inr ⟨by omega, h2, h⟩)
        rcases hb3 with h1 | ⟨h1, rfl⟩ | ⟨h1, h2, h3⟩
        all_goals
          clear hbad
          go_enter Try.func74, Try.ntmps74
          go_wp2_with fail
          refine (unhide K).mono ?_
          rintro e w1 ⟨rfl, rfl⟩
          go_wp2_with fail
          refine (unhide W _ (Below.refl _ _)).mono ?_
          rintro e w2 ⟨rfl, b2⟩
          have B3 := hide (below_add b2 (.cells #[.int .i64 0, .int .i64 0] 50))
          clear b2
          go_wp2_with (first | (go_at_call 52; refine (known_any m _).mono ?_; rw [h3]; rintro e w4 ⟨rfl, rfl⟩))
          go_ret
          exact ⟨rfl, unhide B3⟩
      · rw [if_neg hbad]
        have hw0 : 0 ≤ who := by omega
        have hm0 : m ≠ 0 := fun e => hbad (.inr (.inl e))
        have hkm : knownB m = true := by
          cases e : knownB m
          · exact absurd (.inr (.inr e)) hbad
          · rfl
        have hle := len_le hf n (Nat.le_refl _)
        have hl9 : lenD T n ≤ 20000000 := by
          have : n * (2 * 1000) ≤ 10000 * (2 * 1000) := Nat.mul_le_mul_right _ (by omega)
          omega
        have hm0' : (m == 0) = false := by simpa using hm0
        obtain ⟨f1, f2⟩ := hf k hkn
        replace f1 := hide f1
        replace f2 := hide f2
        clear hbad hle
        obtain ⟨r, hr⟩ : ∃ r : Int, r = (if hasL who (T k) = false ∧ most ≤ (lenD T n : Int) then 3 else 0) := ⟨_, rfl⟩
        rw [← hr]
        replace hr := hide hr
        go_enter Try.func74, Try.ntmps74
        go_wp2_with fail
        refine (unhide K).mono ?_
        rintro e w1 ⟨rfl, rfl⟩
        go_wp2_with fail
        refine (unhide W _ (Below.refl _ _)).mono ?_
        rintro e w2 ⟨rfl, b2⟩
        obtain ⟨W3, hW3⟩ : ∃ W3, W3 = w2.alloc (.cells #[.int .i64 0, .int .i64 0] 50) := ⟨_, rfl⟩
        have B3 := hide (below_add b2 (.cells #[.int .i64 0, .int .i64 0] 50))
        have T3 := (unhide HT).next (unhide B3)
        rw [← hW3] at B3 T3
        have q0 := T3.c0
        have q1 := T3.c1
        have q2 := T3.at_ hkn
        have hbl := hide T3.lt
        have hrl := hide T3.rlt
        have T3h := hide T3
        have L3 := hide (show Ln _ _ _ _ _ from ⟨_, _, T3.ls.la k hkn⟩)
        clear b2 T3
        go_wp2_with (first | (go_at_call 52; refine (known_any m _).mono ?_; rw [hkm]; rintro e w4 ⟨rfl, rfl⟩))
        rw [← hW3]
        replace hW3 := hide hW3
        clear q0 q1 q2
        have TD := (unhide T3h).drew
        have hne : Nonempty (Wc (Tb B n most T b rb lb hv qv) w1) := ⟨⟨_, TD, (unhide B3).drew⟩⟩
        have q0 : ∀ x : Wc (Tb B n most T b rb lb hv qv) w1, x.w.cell? ⟨b, 0, none⟩ = some (.slice (some ⟨rb, 0, none⟩) n n) := fun x => x.ok.c0
        have q1 : ∀ x : Wc (Tb B n most T b rb lb hv qv) w1, x.w.cell? ⟨b, 1, none⟩ = some (.int .i64 most) := fun x => x.ok.c1
        have q2 : ∀ x : Wc (Tb B n most T b rb lb hv qv) w1, x.w.cell? ⟨rb, k, none⟩ = some (.pointer (some ⟨lb k, 0, none⟩)) := fun x => x.ok.at_ hkn
        have cL := hide (fun x : Wc (Tb B n most T b rb lb hv qv) w1 => len_t x.w x.ok hf hn)
        cases hh : hasL who (T k)
        · have cH := hide (fun x : Wc (Tb B n most T b rb lb hv qv) w1 => has_r x.w (x := T k) ⟨_, _, x.ok.ls.la k hkn⟩ (by have := unhide f1; omega) (by have := unhide f2; omega) who hh)
          by_cases hmo : most ≤ (lenD T n : Int)
          · have er : Hid (r = 3) := by show _ = _; rw [unhide hr, hh, if_pos ⟨rfl, hmo⟩]
            clear hh
            refine wp_region_wc (S := Tb B n most T b rb lb hv qv) TD (unhide B3) (by kernel_rfl) (by kernel_rfl) ?_
            try simp only [List.append]
            repeat (go_big_quiet_step (first | (go_at_call 76; with_reducible exact Wc.call (fun _ _ h k => h.next k) (unhide cH _)) | (go_at_call 35; with_reducible exact Wc.call (fun _ _ h k => h.next k) (unhide cL _))))
            refine wpQuiet_nil ?_
            intro w6 hw'
            have b6 : Hid (Below w1.heap.size w1 w6) := by
              obtain ⟨x, hx⟩ := hw'
              rw [hx]
              exact x.bel
            clear hw' q0 q1 q2 hne cL cH TD
            go_wp2
            go_ret
            exact ⟨by rw [unhide er]; rfl, unhide b6⟩
          · have er : Hid (r = 0) := by show _ = _; rw [unhide hr, hh, if_neg (fun e => hmo e.2)]
            clear hh
            refine wp_region_wc (S := Tb B n most T b rb lb hv qv) TD (unhide B3) (by kernel_rfl) (by kernel_rfl) ?_
            try simp only [List.append]
            repeat (go_big_quiet_step (first | (go_at_call 76; with_reducible exact Wc.call (fun _ _ h k => h.next k) (unhide cH _)) | (go_at_call 35; with_reducible exact Wc.call (fun _ _ h k => h.next k) (unhide cL _))))
            refine wpQuiet_nil ?_
            intro w6 hw'
            have b6 : Hid (Below w1.heap.size w1 w6) := by
              obtain ⟨x, hx⟩ := hw'
              rw [hx]
              exact x.bel
            clear hw' q0 q1 q2 hne cL cH TD
            go_wp2
            go_ret
            exact ⟨by rw [unhide er]; rfl, unhide b6⟩
        · have cH := hide (fun x : Wc (Tb B n most T b rb lb hv qv) w1 => has_r x.w (x := T k) ⟨_, _, x.ok.ls.la k hkn⟩ (by have := unhide f1; omega) (by have := unhide f2; omega) who hh)
          have er : Hid (r = 0) := by show _ = _; rw [unhide hr, hh, if_neg (fun e => by cases e.1)]
          clear hh
          refine wp_region_wc (S := Tb B n most T b rb lb hv qv) TD (unhide B3) (by kernel_rfl) (by kernel_rfl) ?_
          try simp only [List.append]
          repeat (go_big_quiet_step (first | (go_at_call 76; with_reducible exact Wc.call (fun _ _ h k => h.next k) (unhide cH _)) | (go_at_call 35; with_reducible exact Wc.call (fun _ _ h k => h.next k) (unhide cL _))))
          refine wpQuiet_nil ?_
          intro w6 hw'
          have b6 : Hid (Below w1.heap.size w1 w6) := by
            obtain ⟨x, hx⟩ := hw'
            rw [hx]
            exact x.bel
          clear hw' q0 q1 q2 hne cL cH TD
          go_wp2
          go_ret
          exact ⟨by rw [unhide er]; rfl, unhide b6⟩
end Go.Proofs.Ytdhpahopfmcdkaa
