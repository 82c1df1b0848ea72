/- New, Clone, Holders, Queue; the reference's Ints and Has. -/
import Derived.Test.YtmdbmkekdpbliaaBlk
import Derived.Lib.SliceRun
namespace Go.Proofs.Ytmdbmkekdpbliaa
open Go.RowKit
variable {B : Nat} {H Q : List En} {b : Nat} {hv qv : Value}

set_option maxRecDepth 100000 in
theorem new_any (w : World) : Calls Try.prog 11 #[] w fun e w' => e = .returned (.pointer (some ⟨w.heap.size, 0, none⟩)) ∧ La w.heap.size [] [] w.heap.size (.slice none 0 0) (.slice none 0 0) w' ∧ Below w.heap.size w w' := by
  go_enter Try.func11, Try.ntmps11
  go_wp2
  go_ret
  exact ⟨rfl, ⟨heap_alloc_new w _, .inl ⟨rfl, rfl⟩, .inl ⟨rfl, rfl⟩, fun k hk => (by cases hk), Nat.le_refl _, List.Pairwise.nil⟩, below_new w _⟩
set_option maxRecDepth 100000 in
theorem clone_any (w : World) {v : Value} {l : List En} (h : Es B v l w) (hn : l.length < 1000000) :
    Calls Try.prog 62 #[v] w fun e w' => ∃ v', e = .returned v' ∧ Es w.heap.size v' l w' ∧ Below w.heap.size w w' := by
  rcases h with ⟨rfl, rfl⟩ | ⟨g, cap, rfl, hB, r⟩
  · have q := fun w => Lib.run_eql_slice_nil (P := Try.prog) w 27 41 none 0 0 0 0 Try.underlying27
    go_enter Try.func62, Try.ntmps62
    go_wp2
    go_ret
    exact ⟨_, rfl, .inl ⟨rfl, rfl⟩, Below.refl _ _⟩
  · obtain ⟨i0, hi, hz0, hz1, hz2⟩ := info_parts inf42
    have q := fun w => Lib.run_eql_slice_nil (P := Try.prog) w 27 41 (some ⟨g, 0, none⟩) l.length cap 0 0 Try.underlying27
    have BW := below_new w (.cells #[] 41)
    have own : Hid ((w.alloc (.cells #[] 41)).ownsRow w.heap.size 41 2 (.slice (some ⟨w.heap.size, 0, none⟩) 0 0) 0 []) := World.ownsRow_lit w #[] 0 (Nat.le_refl _) (Nat.zero_le _) rfl
    have r1 := r.next BW
    have hsrc : Hid (∀ j u, (pairs l)[j]? = some u → (w.alloc (.cells #[] 41)).cell? ((⟨g, 0, none⟩ : Addr).add j) = some u) := fun j u hj => by
      have hj2 : j < l.length * 2 := by have := (List.getElem?_eq_some_iff.1 hj).1; rwa [pairs_len] at this
      rw [Addr.add_lit, Nat.zero_add, r1.at_ hj2, hj]
    have h63 : Hid (0 + l.length ≤ maxLen) := by show _ ≤ _; unfold maxLen; omega
    have h64 : Hid ((0 + l.length) * 16 ≤ 140737488355328) := by show _ ≤ _; omega
    have HBW := hide BW
    have Hi := hide (And.intro hi (And.intro hz0 (And.intro hz1 hz2)))
    have R := hide r
    have hpl := hide (pairs_len l)
    have hp1 := hide (pairs_one l)
    clear BW r r1 hi hz0 hz1 hz2
    go_enter Try.func62, Try.ntmps62
    go_wp2_with (at_builtin; refine wpList_append_own _ rfl (.tmp 5) (.tmp 6) 27 rfl w.heap.size 41 i0 _ 2 16 Try.underlying27 (unhide Hi).1 (unhide Hi).2.1 (unhide Hi).2.2.1 (unhide Hi).2.2.2 rfl (by decide) _ 0 [] rfl (unhide own) ⟨g, 0, none⟩ l.length cap (pairs l) rfl (unhide hpl) (unhide hsrc) (unhide hp1) (unhide h63) (unhide h64) (unhide HBW).size ?_; intro v' w' a1 a2 _; replace a1 := hide a1; replace a2 := hide a2)
    go_ret
    have a3 := unhide a1
    rw [Nat.zero_add] at a3
    exact ⟨v', rfl, Es.of a3, (unhide HBW).trans (grown_below (unhide a2) (unhide HBW).size (fun k hk => ((unhide own).lt k hk).1))⟩
set_option maxRecDepth 100000 in
theorem holders_any (w : World) (h : La B H Q b hv qv w) (hn : H.length < 1000000) :
    Calls Try.prog 24 #[.pointer (some ⟨b, 0, none⟩)] w fun e w' => ∃ v', e = .returned v' ∧ Es w.heap.size v' H w' ∧ Below w.heap.size w w' := by
  have c0 := h.c0
  have C := hide (clone_any w h.hr hn)
  have HL := hide h
  clear h
  go_enter Try.func24, Try.ntmps24
  go_wp2_with fail
  refine (unhide C).mono ?_
  rintro e w' ⟨v', rfl, h1, h2⟩
  have HX := hide (And.intro h1 h2)
  clear h1 h2
  go_wp2
  go_ret
  exact ⟨_, rfl, (unhide HX).1, (unhide HX).2⟩
set_option maxRecDepth 100000 in
theorem queue_any (w : World) (h : La B H Q b hv qv w) (hn : Q.length < 1000000) :
    Calls Try.prog 25 #[.pointer (some ⟨b, 0, none⟩)] w fun e w' => ∃ v', e = .returned v' ∧ Es w.heap.size v' Q w' ∧ Below w.heap.size w w' := by
  have c0 := h.c1
  have C := hide (clone_any w h.qr hn)
  have HL := hide h
  clear h
  go_enter Try.func25, Try.ntmps25
  go_wp2_with fail
  refine (unhide C).mono ?_
  rintro e w' ⟨v', rfl, h1, h2⟩
  have HX := hide (And.intro h1 h2)
  clear h1 h2
  go_wp2
  go_ret
  exact ⟨_, rfl, (unhide HX).1, (unhide HX).2⟩
/-- The slice v is read: the numbers l. -/
def Rd (w : World) (v : Value) (l : List Int) : Prop := ∃ a cap, v = .slice a l.length cap ∧ SegK .i64 w a l.length l
theorem Rd.next {w w' : World} {v : Value} {l : List Int} (h : Rd w v l) (k : Below w.heap.size w w') : Rd w' v l := by
  obtain ⟨a, cap, e, s⟩ := h
  exact ⟨a, cap, e, s.later k⟩
theorem Is.rd {w : World} {v : Value} {l : List Int} (h : Is B v l w) : Rd w v l := by
  rcases h.2 with ⟨rfl, e⟩ | ⟨g, cap, cur, rfl, _, hg, _⟩
  · have : l = [] := List.eq_nil_of_length_eq_zero e
    subst this
    exact ⟨none, 0, rfl, seg_nil _ _⟩
  · refine ⟨_, cap, rfl, rfl, .inr ⟨g, 0, rfl, fun i hi => ?_⟩⟩
    have := h.cells (g := g) rfl i (.int .i64 (l.getD i 0)) (by
      unfold vals
      rw [List.getElem?_map, List.getElem?_eq_getElem hi]; simp [List.getD, hi])
    rwa [Addr.add_lit] at this
theorem rd_one (w : World) (x : Int) : Rd (w.alloc (.cells #[.int .i64 x] 3)) (.slice (some ⟨w.heap.size, 0, none⟩) 1 1) [x] := ⟨_, 1, rfl, seg1 w x⟩
theorem eq_take {l m : List Int} {k : Nat} (h : l.length = m.length) (hk : l.length ≤ k) (hall : ∀ j, j < k → l.getD j 0 = m.getD j 0) : (l == m) = true := by
  rw [beq_iff_eq]
  apply List.ext_getElem h
  intro j h1 h2
  have := hall j (by omega)
  simpa [h1, h2] using this
theorem ne_at {l m : List Int} {k : Nat} (h : l.getD k 0 ≠ m.getD k 0) : (l == m) = false := by
  rw [beq_eq_false_iff_ne]
  rintro rfl
  exact h rfl
theorem seg_at {w : World} {a : Option Addr} {l : List Int} (h : SegK .i64 w a l.length l) {i : Nat} (hi : i < l.length) : ∃ b off, a = some ⟨b, off, none⟩ ∧ w.cell? ⟨b, off + i, none⟩ = some (.int .i64 (l.getD i 0)) := by
  rcases h.2 with h0 | ⟨b, off, e, hc⟩
  · omega
  · exact ⟨b, off, e, hc i hi⟩
set_option maxRecDepth 100000 in
theorem ints_any (u v : Value) (l m : List Int) (w : World) (hu : Rd w u l) (hv : Rd w v m) (hl9 : l.length < 100000000) (hm9 : m.length < 100000000) :
    Calls Try.prog 14 #[u, v] w fun e w' => e = .returned (.bool (l == m)) ∧ Below w.heap.size w w' := by
  obtain ⟨a, ca, rfl, h3⟩ := hu
  obtain ⟨b, cb, rfl, g3⟩ := hv
  replace h3 := hide h3
  replace g3 := hide g3
  by_cases hl : l.length = m.length
  · have hl2 := hide hl
    rw [← hl]
    clear hl hm9
    go_enter Try.func14, Try.ntmps14
    go_wp2_with fail
    go_loopw [5] (fun i wr => ∃ k : Nat, k ≤ l.length ∧ i = .int .i64 k ∧ Below w.heap.size w wr ∧ Hid (∀ j, j < k → l.getD j 0 = m.getD j 0)) (fun i _ => l.length - (intOf i).toNat)
    case atStart => exact ⟨0, Nat.zero_le _, rfl, Below.refl _ _, fun j hj => absurd hj (Nat.not_lt_zero _)⟩
    case round =>
      obtain ⟨k, hk, rfl, hb, hall⟩ := hrel
      by_cases hlt : k < l.length
      · obtain ⟨b1, o1, rfl, c1⟩ := seg_at ((unhide h3).later hb) (i := k) hlt
        obtain ⟨b2, o2, rfl, c2⟩ := seg_at ((unhide g3).later hb) (i := k) (by have := unhide hl2; omega)
        obtain ⟨x, hx⟩ : ∃ x, l.getD k 0 = x := ⟨_, rfl⟩
        obtain ⟨y, hy⟩ : ∃ y, m.getD k 0 = y := ⟨_, rfl⟩
        rw [hx] at c1
        rw [hy] at c2
        replace hb := hide hb
        by_cases e : x = y
        · have eb : (x == y) = true := by simpa using e
          have hall2 : Hid (∀ j, j < k + 1 → l.getD j 0 = m.getD j 0) := hide fun j hj => by
            by_cases h : j < k
            · exact unhide hall j h
            · obtain rfl : j = k := by omega
              rw [hx, hy, e]
          subst e
          clear hx hy
          go_wp2_with fail
          go_region
          all_goals
            go_wp2
            go_roundw
            case rel => exact ⟨k + 1, by omega, by go_num, (unhide hb).drew, unhide hall2⟩
            case measure => simp [intOf]; omega
        · have eb : (x == y) = false := by simpa using e
          have r : Hid ((l == m) = false) := hide (ne_at (k := k) (by rw [hx, hy]; exact e))
          clear hx hy
          go_wp2_with fail
          go_region
          all_goals
            go_wp2
            go_ret
            exact ⟨by rw [unhide r]; rfl, (unhide hb).drew⟩
      · have r : Hid ((l == m) = true) := hide (eq_take (k := k) (unhide hl2) (by omega) (unhide hall))
        replace hb := hide hb
        go_wp2
        go_ret
        exact ⟨by rw [unhide r]; rfl, unhide hb⟩
  · have r : Hid ((l == m) = false) := by
      show _ = _
      rw [beq_eq_false_iff_ne]
      rintro rfl
      exact hl rfl
    go_enter Try.func14, Try.ntmps14
    go_wp2
    go_ret
    exact ⟨by rw [unhide r]; rfl, Below.refl _ _⟩
end Go.Proofs.Ytmdbmkekdpbliaa
