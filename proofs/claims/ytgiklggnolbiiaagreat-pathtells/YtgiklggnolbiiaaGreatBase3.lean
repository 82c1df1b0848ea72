/- Texts of this claim, put together in their order. -/
import Derived.Shelf.SortM.Plain
import Derived.Shelf.SortM.SortNone
import Derived.Ground.SlgmProg
import Derived.Shelf.SlicesG.CompactI
import Derived.Ground.SlgnProg
import Derived.Test.YtgiklggnolbiiaaGreatProg
import Derived.Lib.OwnBridge
import Derived.Lib.RowBridge
import Derived.Test.YtgiklggnolbiiaaGreatBase1
import Derived.Test.YtgiklggnolbiiaaGreatBase2
/- Ask. -/
namespace Go.Proofs.YtgiklggnolbiiaaGreat
open Go.RowKit
variable {B : Nat} {H Q : List En} {b : Nat} {hv qv : Value}

/-- The least above what is held and what is asked for. -/
def goal (held m : Int) : Int := supL [held, m]
/-- May who ask for m? -/
def okD (who m : Int) (Q : List En) : Bool := knownB m && !(m == 0) && (lookD who Q == 0)
/-- What Ask answers, and those that hold and wait behind it. -/
def askD (who m : Int) (H Q : List En) : Int × List En × List En :=
  if okD who m Q then
    let held := lookD who H
    let y : En := (who, goal held m)
    if y.2 == held then (1, H, Q) else if passD held H Q && fitsL y H then (1, putD y H, Q) else (2, H, waitD held y H Q)
  else (0, H, Q)
def AskPost (w : World) (b : Nat) (hv qv : Value) (B : Nat) (r : Int × List En × List En) (e : Ending) (w' : World) : Prop :=
  e = .returned (.int .i64 r.1) ∧ ∃ hv' qv', La B r.2.1 r.2.2 b hv' qv' w' ∧ Mv b hv qv hv' qv' w w'
set_option maxHeartbeats 1000000 in
set_option maxRecDepth 100000 in
theorem ask_bad (w : World) (h : La B H Q b hv qv w) (hQ : Q.length < 999999) (who m : Int) (hk : okD who m Q = false) :
    Calls Tryz.prog 36 #[.pointer (some ⟨b, 0, none⟩), .int .i64 who, .int .i64 m] w (AskPost w b hv qv B (0, H, Q)) := by
  have HL := hide h
  clear h
  unfold okD at hk
  cases h1 : knownB m
  · clear hk
    go_enter Tryz.func36, Tryz.ntmps36
    go_wp2_with fail
    refine (known_any m _).mono ?_
    rw [h1]
    rintro e w' ⟨rfl, rfl⟩
    go_wp2
    go_ret
    exact ⟨rfl, _, _, unhide HL, Mv.of_below (Below.refl _ _)⟩
  · cases h2 : (m == 0)
    · have h3 : (lookD who Q == 0) = false := by simpa [h1, h2] using hk
      clear hk
      go_enter Tryz.func36, Tryz.ntmps36
      go_wp2_with fail
      refine (known_any m _).mono ?_
      rw [h1]
      rintro e w' ⟨rfl, rfl⟩
      go_wp2_with fail
      refine (waits_any _ (unhide HL) (by omega) who).mono ?_
      rintro e w2 ⟨rfl, hb⟩
      have HB := hide hb
      have h4 : (lookD who Q != 0) = true := by unfold bne; rw [h3]; rfl
      clear hb
      generalize lookD who Q = z at *
      go_wp2
      go_ret
      exact ⟨rfl, _, _, (unhide HL).next (unhide HB), Mv.of_below (unhide HB)⟩
    · clear hk
      go_enter Tryz.func36, Tryz.ntmps36
      go_wp2_with fail
      refine (known_any m _).mono ?_
      rw [h1]
      rintro e w' ⟨rfl, rfl⟩
      go_wp2
      go_ret
      exact ⟨rfl, _, _, unhide HL, Mv.of_below (Below.refl _ _)⟩
set_option maxRecDepth 100000 in
set_option maxHeartbeats 1000000 in
theorem ask_same (w : World) (h : La B H Q b hv qv w) (hH : H.length < 999999) (hQ : Q.length < 999999) (who m held : Int) (hk : okD who m Q = true) (hheld : lookD who H = held) (t : Int) (ht : goal held m = t) (hs : (t == held) = true) :
    Calls Tryz.prog 36 #[.pointer (some ⟨b, 0, none⟩), .int .i64 who, .int .i64 m] w (AskPost w b hv qv B (1, H, Q)) := by
  obtain ⟨⟨h1, h2⟩, h3⟩ : (knownB m = true ∧ (m == 0) = false) ∧ (lookD who Q == 0) = true := by
    unfold okD at hk
    simpa using hk
  have HL := hide h
  have Ht := hide ht
  have Hh := hide hheld
  clear h hk ht hheld
  go_enter Tryz.func36, Tryz.ntmps36
  go_wp2_with fail
  refine (known_any m _).mono ?_
  rw [h1]
  rintro e w0 ⟨rfl, rfl⟩
  go_wp2_with fail
  refine (waits_any _ (unhide HL) (by omega) who).mono ?_
  rintro e w2 ⟨rfl, hb⟩
  have h4 : (lookD who Q != 0) = false := by unfold bne; rw [h3]; rfl
  have B2 := hide hb
  clear hb
  have h5 := hide h3
  clear h3
  generalize lookD who Q = z at h4 ⊢
  go_wp2_with fail
  refine (holds_any _ ((unhide HL).next (unhide B2)) (by omega) who).mono ?_
  rw [unhide Hh]
  rintro e w3 ⟨rfl, hb⟩
  have B3 := hide (below_then (unhide B2) hb)
  clear hb h4
  go_wp2_with fail
  refine (sup_any _ 2 2 [held, m] _ (seg2 w3 held m) (by decide)).mono ?_
  rw [show supL [held, m] = t from unhide Ht]
  rintro e w4 ⟨rfl, rfl⟩
  go_wp2
  go_ret
  exact ⟨rfl, _, _, (unhide HL).next (below_add (below_add (unhide B3) _) _), Mv.of_below (below_add (below_add (unhide B3) _) _)⟩
set_option maxRecDepth 100000 in
set_option maxHeartbeats 1000000 in
theorem ask_hold (w : World) (h : La B H Q b hv qv w) (hH : H.length < 999999) (hQ : Q.length < 999999) (who m held : Int) (hk : okD who m Q = true) (hheld : lookD who H = held) (t : Int) (ht : goal held m = t) (hs : (t == held) = false) (hp : passD held H Q = true) (hf : fitsL (who, t) H = true) :
    Calls Tryz.prog 36 #[.pointer (some ⟨b, 0, none⟩), .int .i64 who, .int .i64 m] w (AskPost w b hv qv B (1, putD (who, t) H, Q)) := by
  obtain ⟨⟨h1, h2⟩, h3⟩ : (knownB m = true ∧ (m == 0) = false) ∧ (lookD who Q == 0) = true := by
    unfold okD at hk
    simpa using hk
  have HL := hide h
  have Ht := hide ht
  have Hh := hide hheld
  clear h hk ht hheld
  go_enter Tryz.func36, Tryz.ntmps36
  go_wp2_with fail
  refine (known_any m _).mono ?_
  rw [h1]
  rintro e w0 ⟨rfl, rfl⟩
  go_wp2_with fail
  refine (waits_any _ (unhide HL) (by omega) who).mono ?_
  rintro e w2 ⟨rfl, hb⟩
  have h4 : (lookD who Q != 0) = false := by unfold bne; rw [h3]; rfl
  have B2 := hide hb
  clear hb
  have h5 := hide h3
  clear h3
  generalize lookD who Q = z at h4 ⊢
  go_wp2_with fail
  refine (holds_any _ ((unhide HL).next (unhide B2)) (by omega) who).mono ?_
  rw [unhide Hh]
  rintro e w3 ⟨rfl, hb⟩
  have B3 := hide (below_then (unhide B2) hb)
  clear hb h4
  go_wp2_with fail
  refine (sup_any _ 2 2 [held, m] _ (seg2 w3 held m) (by decide)).mono ?_
  rw [show supL [held, m] = t from unhide Ht]
  rintro e w4 ⟨rfl, rfl⟩
  obtain ⟨w5, hw5⟩ : ∃ w5, w5 = (w3.alloc (.cells #[.int .i64 held, .int .i64 m] 3)).alloc (.cells #[.int .i64 who, .int .i64 t] 92) := ⟨_, rfl⟩
  have hN : (w3.alloc (.cells #[.int .i64 held, .int .i64 m] 3)).heap.size = w3.heap.size + 1 := by simp
  have bx : w5.heap[w3.heap.size + 1]? = some (.cells #[.int .i64 ((who, t) : En).1, .int .i64 ((who, t) : En).2] 92 (0, 0)) := by rw [hw5, ← hN]; exact box_new _ (who, t)
  have B5 : Hid (Below w0.heap.size w0 w5) := by rw [hw5]; exact below_add (below_add (unhide B3) _) _
  have HW5 := hide hw5
  have Bx := hide bx
  clear bx hw5 hN
  have hsz := hide (heap_lt (unhide Bx))
  have hp2 := hide hp
  clear hp
  go_wp2_with fail
  rw [← unhide HW5]
  refine (pass_any w5 ((unhide HL).next (unhide B5)) (by omega) (by omega) held).mono ?_
  rw [unhide hp2]
  rintro e w6 ⟨rfl, hb⟩
  have B6 := hide (below_then (unhide B5) hb)
  have Bx6 := hide ((hb.block _ (unhide hsz)).trans (unhide Bx))
  obtain ⟨x0, x1⟩ := box_cells (y := (who, t)) (unhide Bx6)
  clear hb
  have hf2 := hide hf
  clear hf
  go_wp2_with fail
  refine (fits_lane w6 ((unhide HL).next (unhide B6)) (by omega) (who, t)).mono ?_
  rw [unhide hf2]
  rintro e w7 ⟨rfl, hb⟩
  have B7 := hide (below_then (unhide B6) hb)
  obtain ⟨y0, y1⟩ := box_cells (y := (who, t)) ((hb.block _ (heap_lt (unhide Bx6))).trans (unhide Bx6))
  clear hb x0 x1
  go_wp2_with fail
  refine (hold_any w7 ((unhide HL).next (unhide B7)) hH (who, t)).mono ?_
  rintro e w8 ⟨rfl, hv', L, M⟩
  have HX := hide (And.intro L M)
  clear L M
  go_wp2
  go_ret
  exact ⟨rfl, _, _, (unhide HX).1, (Mv.of_below (unhide B7)).trans (unhide HX).2⟩
set_option maxRecDepth 100000 in
set_option maxHeartbeats 1000000 in
theorem ask_wait2 (w : World) (h : La B H Q b hv qv w) (hH : H.length < 999999) (hQ : Q.length < 999999) (who m held : Int) (hk : okD who m Q = true) (hheld : lookD who H = held) (t : Int) (ht : goal held m = t) (hs : (t == held) = false) (hp : passD held H Q = true) (hf : fitsL (who, t) H = false) :
    Calls Tryz.prog 36 #[.pointer (some ⟨b, 0, none⟩), .int .i64 who, .int .i64 m] w (AskPost w b hv qv B (2, H, waitD held (who, t) H Q)) := by
  obtain ⟨⟨h1, h2⟩, h3⟩ : (knownB m = true ∧ (m == 0) = false) ∧ (lookD who Q == 0) = true := by
    unfold okD at hk
    simpa using hk
  have HL := hide h
  have Ht := hide ht
  have Hh := hide hheld
  clear h hk ht hheld
  go_enter Tryz.func36, Tryz.ntmps36
  go_wp2_with fail
  refine (known_any m _).mono ?_
  rw [h1]
  rintro e w0 ⟨rfl, rfl⟩
  go_wp2_with fail
  refine (waits_any _ (unhide HL) (by omega) who).mono ?_
  rintro e w2 ⟨rfl, hb⟩
  have h4 : (lookD who Q != 0) = false := by unfold bne; rw [h3]; rfl
  have B2 := hide hb
  clear hb
  have h5 := hide h3
  clear h3
  generalize lookD who Q = z at h4 ⊢
  go_wp2_with fail
  refine (holds_any _ ((unhide HL).next (unhide B2)) (by omega) who).mono ?_
  rw [unhide Hh]
  rintro e w3 ⟨rfl, hb⟩
  have B3 := hide (below_then (unhide B2) hb)
  clear hb h4
  go_wp2_with fail
  refine (sup_any _ 2 2 [held, m] _ (seg2 w3 held m) (by decide)).mono ?_
  rw [show supL [held, m] = t from unhide Ht]
  rintro e w4 ⟨rfl, rfl⟩
  obtain ⟨w5, hw5⟩ : ∃ w5, w5 = (w3.alloc (.cells #[.int .i64 held, .int .i64 m] 3)).alloc (.cells #[.int .i64 who, .int .i64 t] 92) := ⟨_, rfl⟩
  have hN : (w3.alloc (.cells #[.int .i64 held, .int .i64 m] 3)).heap.size = w3.heap.size + 1 := by simp
  have bx : w5.heap[w3.heap.size + 1]? = some (.cells #[.int .i64 ((who, t) : En).1, .int .i64 ((who, t) : En).2] 92 (0, 0)) := by rw [hw5, ← hN]; exact box_new _ (who, t)
  have B5 : Hid (Below w0.heap.size w0 w5) := by rw [hw5]; exact below_add (below_add (unhide B3) _) _
  have HW5 := hide hw5
  have Bx := hide bx
  clear bx hw5 hN
  have hsz := hide (heap_lt (unhide Bx))
  have hp2 := hide hp
  clear hp
  go_wp2_with fail
  rw [← unhide HW5]
  refine (pass_any w5 ((unhide HL).next (unhide B5)) (by omega) (by omega) held).mono ?_
  rw [unhide hp2]
  rintro e w6 ⟨rfl, hb⟩
  have B6 := hide (below_then (unhide B5) hb)
  have Bx6 := hide ((hb.block _ (unhide hsz)).trans (unhide Bx))
  obtain ⟨x0, x1⟩ := box_cells (y := (who, t)) (unhide Bx6)
  clear hb
  have hf2 := hide hf
  clear hf
  go_wp2_with fail
  refine (fits_lane w6 ((unhide HL).next (unhide B6)) (by omega) (who, t)).mono ?_
  rw [unhide hf2]
  rintro e w7 ⟨rfl, hb⟩
  have B7 := hide (below_then (unhide B6) hb)
  obtain ⟨y0, y1⟩ := box_cells (y := (who, t)) ((hb.block _ (heap_lt (unhide Bx6))).trans (unhide Bx6))
  clear hb x0 x1
  go_wp2_with fail
  refine (wait_any w7 ((unhide HL).next (unhide B7)) hH hQ held (who, t)).mono ?_
  rintro e w8 ⟨rfl, qv', L, M⟩
  have HX := hide (And.intro L M)
  clear L M
  go_wp2
  go_ret
  exact ⟨rfl, _, _, (unhide HX).1, (Mv.of_below (unhide B7)).trans (unhide HX).2⟩
set_option maxRecDepth 100000 in
set_option maxHeartbeats 1000000 in
theorem ask_wait1 (w : World) (h : La B H Q b hv qv w) (hH : H.length < 999999) (hQ : Q.length < 999999) (who m held : Int) (hk : okD who m Q = true) (hheld : lookD who H = held) (t : Int) (ht : goal held m = t) (hs : (t == held) = false) (hp : passD held H Q = false) :
    Calls Tryz.prog 36 #[.pointer (some ⟨b, 0, none⟩), .int .i64 who, .int .i64 m] w (AskPost w b hv qv B (2, H, waitD held (who, t) H Q)) := by
  obtain ⟨⟨h1, h2⟩, h3⟩ : (knownB m = true ∧ (m == 0) = false) ∧ (lookD who Q == 0) = true := by
    unfold okD at hk
    simpa using hk
  have HL := hide h
  have Ht := hide ht
  have Hh := hide hheld
  clear h hk ht hheld
  go_enter Tryz.func36, Tryz.ntmps36
  go_wp2_with fail
  refine (known_any m _).mono ?_
  rw [h1]
  rintro e w0 ⟨rfl, rfl⟩
  go_wp2_with fail
  refine (waits_any _ (unhide HL) (by omega) who).mono ?_
  rintro e w2 ⟨rfl, hb⟩
  have h4 : (lookD who Q != 0) = false := by unfold bne; rw [h3]; rfl
  have B2 := hide hb
  clear hb
  have h5 := hide h3
  clear h3
  generalize lookD who Q = z at h4 ⊢
  go_wp2_with fail
  refine (holds_any _ ((unhide HL).next (unhide B2)) (by omega) who).mono ?_
  rw [unhide Hh]
  rintro e w3 ⟨rfl, hb⟩
  have B3 := hide (below_then (unhide B2) hb)
  clear hb h4
  go_wp2_with fail
  refine (sup_any _ 2 2 [held, m] _ (seg2 w3 held m) (by decide)).mono ?_
  rw [show supL [held, m] = t from unhide Ht]
  rintro e w4 ⟨rfl, rfl⟩
  obtain ⟨w5, hw5⟩ : ∃ w5, w5 = (w3.alloc (.cells #[.int .i64 held, .int .i64 m] 3)).alloc (.cells #[.int .i64 who, .int .i64 t] 92) := ⟨_, rfl⟩
  have hN : (w3.alloc (.cells #[.int .i64 held, .int .i64 m] 3)).heap.size = w3.heap.size + 1 := by simp
  have bx : w5.heap[w3.heap.size + 1]? = some (.cells #[.int .i64 ((who, t) : En).1, .int .i64 ((who, t) : En).2] 92 (0, 0)) := by rw [hw5, ← hN]; exact box_new _ (who, t)
  have B5 : Hid (Below w0.heap.size w0 w5) := by rw [hw5]; exact below_add (below_add (unhide B3) _) _
  have HW5 := hide hw5
  have Bx := hide bx
  clear bx hw5 hN
  have hsz := hide (heap_lt (unhide Bx))
  have hp2 := hide hp
  clear hp
  go_wp2_with fail
  rw [← unhide HW5]
  refine (pass_any w5 ((unhide HL).next (unhide B5)) (by omega) (by omega) held).mono ?_
  rw [unhide hp2]
  rintro e w6 ⟨rfl, hb⟩
  have B6 := hide (below_then (unhide B5) hb)
  have Bx6 := hide ((hb.block _ (unhide hsz)).trans (unhide Bx))
  obtain ⟨x0, x1⟩ := box_cells (y := (who, t)) (unhide Bx6)
  clear hb
  go_wp2_with fail
  refine (wait_any w6 ((unhide HL).next (unhide B6)) hH hQ held (who, t)).mono ?_
  rintro e w8 ⟨rfl, qv', L, M⟩
  have HX := hide (And.intro L M)
  clear L M
  go_wp2
  go_ret
  exact ⟨rfl, _, _, (unhide HX).1, (Mv.of_below (unhide B6)).trans (unhide HX).2⟩
theorem ask_any (w : World) (h : La B H Q b hv qv w) (hH : H.length < 999999) (hQ : Q.length < 999999) (who m : Int) :
    Calls Tryz.prog 36 #[.pointer (some ⟨b, 0, none⟩), .int .i64 who, .int .i64 m] w (AskPost w b hv qv B (askD who m H Q)) := by
  cases hk : okD who m Q
  · have e : askD who m H Q = (0, H, Q) := by unfold askD; rw [hk]; rfl
    rw [e]
    exact ask_bad w h hQ who m hk
  · cases hs : (goal (lookD who H) m == lookD who H)
    · cases hp : passD (lookD who H) H Q
      · have e : askD who m H Q = (2, H, waitD (lookD who H) (who, goal (lookD who H) m) H Q) := by unfold askD; simp [hk, hs, hp]
        rw [e]
        exact ask_wait1 w h hH hQ who m _ hk rfl _ rfl hs hp
      · cases hf : fitsL (who, goal (lookD who H) m) H
        · have e : askD who m H Q = (2, H, waitD (lookD who H) (who, goal (lookD who H) m) H Q) := by unfold askD; simp [hk, hs, hp, hf]
          rw [e]
          exact ask_wait2 w h hH hQ who m _ hk rfl _ rfl hs hp hf
        · have e : askD who m H Q = (1, putD (who, goal (lookD who H) m) H, Q) := by unfold askD; simp [hk, hs, hp, hf]
          rw [e]
          exact ask_hold w h hH hQ who m _ hk rfl _ rfl hs hp hf
    · have e : askD who m H Q = (1, H, Q) := by unfold askD; simp [hk, hs]
      rw [e]
      exact ask_same w h hH hQ who m _ hk rfl _ rfl hs
end Go.Proofs.YtgiklggnolbiiaaGreat

/- grant, Leave. -/
namespace Go.Proofs.YtgiklggnolbiiaaGreat
open Go.RowKit
variable {B : Nat} {H Q : List En} {b : Nat} {hv qv : Value}

/-- Entries i to j are taken out. -/
theorem delete_any {v : Value} {l : List En} (w : World) (h : Es B v l w) (i j : Nat) (hij : i ≤ j) (hj : j ≤ l.length) :
    Calls Tryz.prog 87 #[v, .int .i64 i, .int .i64 j] w fun e w' => ∃ v', e = .returned v' ∧ Es B v' (l.take i ++ l.drop j) w' ∧ w.grownBy w' v.ownBlock ∧ At v v' w.heap.size := by
  by_cases he : i = j
  · subst he
    refine (delete_same w h i hj).mono ?_
    rintro e w' ⟨rfl, rfl⟩
    rw [List.take_append_drop]
    exact ⟨_, rfl, h, ⟨rfl, rfl, rfl, Nat.le_refl _, fun _ _ _ => rfl⟩, At.refl _ _⟩
  · rcases h with ⟨rfl, rfl⟩ | ⟨g, cap, rfl, hB, r⟩
    · simp at hj; omega
    · refine (delete_cut w r i j (by omega) hj).mono ?_
      rintro e w' ⟨rfl, r', hg⟩
      have hn : (l.take i ++ l.drop j).length = l.length - (j - i) := by simp only [List.length_append, List.length_take, List.length_drop]; omega
      exact ⟨_, rfl, .inr ⟨g, cap, by rw [hn], hB, r'⟩, hg, fun k hk => .inl hk⟩

/-- The cells that hold the numbers of a list. -/
def vals (l : List Int) : List Value := l.map (Value.int .i64)
theorem vals_one (l : List Int) : ∀ u ∈ vals l, u.oneCell' = true := by
  intro u hu
  unfold vals at hu
  obtain ⟨n, _, rfl⟩ := List.mem_map.1 hu
  rfl
/-- The slice v: the numbers l, in a row of its own at or above B. -/
def Is (B : Nat) (v : Value) (l : List Int) (w : World) : Prop := w.ownsRow B 3 1 v l.length (vals l)
theorem is_nil (B : Nat) (w : World) : Is B (.slice none 0 0) [] w := World.ownsRow_nil w B 3 1
theorem Is.ty {v : Value} {l : List Int} {w : World} (h : Is B v l w) : ∀ g, v.ownBlock = some g → ∃ cur, w.heap[g]? = some (.cells cur 3 (0, 0)) := by
  rcases h.2 with ⟨rfl, _⟩ | ⟨g, cap, cur, rfl, _, hg, _⟩
  · intro k hk; cases hk
  · intro k hk
    obtain rfl : g = k := by simpa [Value.ownBlock] using hk
    exact ⟨_, hg⟩
theorem Is.keep {v : Value} {l : List Int} {w w' : World} (h : Is B v l w) (k : ∀ g, v.ownBlock = some g → w'.heap[g]? = w.heap[g]?) : Is B v l w' := by
  refine ⟨h.1, ?_⟩
  rcases h.2 with h0 | ⟨g, cap, cur, rfl, hB, hg, r⟩
  · exact .inl h0
  · exact .inr ⟨g, cap, cur, rfl, hB, (k g rfl).trans hg, r⟩
theorem Is.next {v : Value} {l : List Int} {w w' : World} (h : Is B v l w) (k : Below w.heap.size w w') : Is B v l w' := h.keep fun g hg => k.block g (h.lt g hg).2
theorem Is.form {v : Value} {l : List Int} {w : World} (h : Is B v l w) : ∃ a cap, v = .slice a l.length cap := by
  rcases h.2 with ⟨rfl, e⟩ | ⟨g, cap, cur, rfl, _⟩
  · exact ⟨none, 0, by rw [e]⟩
  · exact ⟨_, cap, rfl⟩
/-- Numbers lie in other blocks than a lane. -/
theorem Is.moved {v : Value} {l : List Int} {w w' : World} {hv' qv' : Value} {B' : Nat} (h : Is B' v l w) (k : La B H Q b hv qv w) (m : Mv b hv qv hv' qv' w w') : Is B' v l w' :=
  h.keep fun g hg => by
    obtain ⟨cur, hc⟩ := h.ty g hg
    refine m.block g (h.lt g hg).2 (fun e => ?_) (fun e => ?_) (fun e => ?_)
    · rw [e, k.blk] at hc; cases hc
    · obtain ⟨c2, h2⟩ := k.hr.ty g e
      rw [h2] at hc; cases hc
    · obtain ⟨c2, h2⟩ := k.qr.ty g e
      rw [h2] at hc; cases hc
theorem La.beside {v : Value} {l : List Int} {w w' : World} {B' : Nat} (k : La B H Q b hv qv w) (h : Is B' v l w) (g : w.grownBy w' v.ownBlock) : La B H Q b hv qv w' := by
  refine ⟨(g.block b k.lt (fun e => ?_)).trans k.blk, k.hr.keep fun j hj => g.block j (k.hr.lt j hj).2 (fun e => ?_), k.qr.keep fun j hj => g.block j (k.qr.lt j hj).2 (fun e => ?_), k.dq, k.bB, k.srt⟩
  · obtain ⟨cur, hc⟩ := h.ty b e.symm
    rw [k.blk] at hc; cases hc
  · obtain ⟨cur, hc⟩ := h.ty j e.symm
    obtain ⟨c2, h2⟩ := k.hr.ty j hj
    rw [h2] at hc; cases hc
  · obtain ⟨cur, hc⟩ := h.ty j e.symm
    obtain ⟨c2, h2⟩ := k.qr.ty j hj
    rw [h2] at hc; cases hc
theorem Mv.beside {v : Value} {l : List Int} {w0 w w' : World} {hv' qv' : Value} (m : Mv b hv qv hv' qv' w0 w) (h : Is w0.heap.size v l w) (g : w.grownBy w' v.ownBlock) : Mv b hv qv hv' qv' w0 w' :=
  ⟨g.os.trans m.os, g.tape.trans m.tape, g.output.trans m.output, Nat.le_trans m.size g.size, fun k hk h1 h2 h3 => (g.block k (Nat.lt_of_lt_of_le hk m.size) (fun e => by have := (h.lt k e.symm).1; omega)).trans (m.block k hk h1 h2 h3), m.ha, m.qa⟩

/-- How many of those that wait are let in, from the first on, and who holds behind it. -/
def grantD (H : List En) : List En → Nat × List En
  | [] => (0, H)
  | x :: r => if fitsL x H then ((grantD (putD x H) r).1 + 1, (grantD (putD x H) r).2) else (0, H)
theorem grant_cons {H r : List En} {x : En} (h : fitsL x H = true) : grantD H (x :: r) = ((grantD (putD x H) r).1 + 1, (grantD (putD x H) r).2) := by
  conv => lhs; unfold grantD
  rw [h]; rfl
theorem grant_stop {H r : List En} {x : En} (h : fitsL x H = false) : grantD H (x :: r) = (0, H) := by
  unfold grantD
  rw [h]; rfl
theorem grant_le : ∀ (Q H : List En), (grantD H Q).1 ≤ Q.length
  | [], H => Nat.le_refl _
  | x :: r, H => by
    unfold grantD
    split
    · have := grant_le r (putD x H); simp; omega
    · simp
theorem grant_len : ∀ (Q H : List En), (grantD H Q).2.length ≤ H.length + (grantD H Q).1
  | [], H => Nat.le_refl _
  | x :: r, H => by
    unfold grantD
    split
    · have := grant_len r (putD x H)
      have := put_len x H
      simp only; omega
    · simp
theorem drop_at {l : List En} {i : Nat} (hi : i < l.length) : l.drop i = l.getD i (0, 0) :: l.drop (i + 1) := by
  rw [List.drop_eq_getElem_cons hi]; simp [List.getD, hi]
theorem take_map (l : List En) (i : Nat) (hi : i < l.length) : (l.take (i + 1)).map (·.1) = (l.take i).map (·.1) ++ [(l.getD i (0, 0)).1] := by
  rw [List.take_succ_eq_append_getElem hi, List.map_append]; simp [List.getD, hi]
theorem inf3 : (Tryz.prog.info? 3).map (fun i => (i.zero, i.size, i.bytes)) = some (some (.int .i64 0), 1, 8) := by kernel_rfl
/-- What grant answers, and the lane behind it. -/
def GrantPost (w : World) (b : Nat) (hv qv : Value) (B : Nat) (H Q : List En) (e : Ending) (w' : World) : Prop :=
  ∃ gv hv' qv', e = .returned gv ∧ Is w.heap.size gv ((Q.take (grantD H Q).1).map (·.1)) w' ∧ La B (grantD H Q).2 (Q.drop (grantD H Q).1) b hv' qv' w' ∧ Mv b hv qv hv' qv' w w'
/-- The last statement: those that were let in wait no more. -/
theorem grant_end {w wr : World} {Hi : List En} {hv1 gv : Value} (i : Nat) (L : La B Hi Q b hv1 qv wr) (M : Mv b hv qv hv1 qv w wr) (g : Is w.heap.size gv ((Q.take i).map (·.1)) wr) (hg : grantD H Q = (i, Hi)) {v : Value} {w' : World} (he : Es B v (Q.take 0 ++ Q.drop i) w') (gr : wr.grownBy w' qv.ownBlock) (ha : At qv v wr.heap.size) :
    GrantPost w b hv qv B H Q (.returned gv) (w'.setCell ⟨b, 1, none⟩ v) := by
  obtain ⟨L2, M2⟩ := L.put1 gr he ha
  refine ⟨gv, hv1, v, rfl, ?_, ?_, M.trans M2⟩
  · rw [hg]; exact g.moved L M2
  · rw [hg]; simpa using L2
set_option maxRecDepth 100000 in
set_option maxHeartbeats 2000000 in
theorem grant_any (w : World) (h : La B H Q b hv qv w) (hn : H.length + Q.length < 999999) :
    Calls Tryz.prog 89 #[.pointer (some ⟨b, 0, none⟩)] w (GrantPost w b hv qv B H Q) := by
  have c1 := h.c1
  obtain ⟨a, n, cap, rfl, hq⟩ := slice_form' h.qr
  have HL := hide h
  have Hq := hide hq
  obtain ⟨i3, hi3, hz0, hz1, hz2⟩ := info_parts inf3
  have Hi3 := hide (And.intro hi3 (And.intro hz0 (And.intro hz1 hz2)))
  have hn9 : n < 999999 := by omega
  clear h hi3 hz0 hz1 hz2 hq
  go_enter Tryz.func89, Tryz.ntmps89
  go_wp2
  clear c1
  go_loopw [3, 11] (fun s3 s11 wr => ∃ (i : Nat) (Hi : List En) (hv1 : Value) (ag : Option Addr) (cg : Nat), i ≤ n ∧ s3 = .slice ag i cg ∧ s11 = .int .i64 i ∧ Hid (La B Hi Q b hv1 (.slice a n cap) wr) ∧ Hid (Mv b hv (.slice a n cap) hv1 (.slice a n cap) w wr) ∧ Hid (Is w.heap.size (.slice ag i cg) ((Q.take i).map (·.1)) wr) ∧ Hid (Hi.length ≤ H.length + i) ∧ Hid (grantD H Q = ((grantD Hi (Q.drop i)).1 + i, (grantD Hi (Q.drop i)).2))) (fun _ s11 _ => n - (intOf s11).toNat)
  case atStart => exact ⟨0, H, hv, none, 0, Nat.zero_le _, rfl, rfl, unhide HL, Mv.of_below (Below.refl _ _), is_nil _ _, by show _ ≤ _; omega, by show _ = _; rw [List.drop_zero]; exact rfl⟩
  case round =>
    obtain ⟨i, Hi, hv1, ag, cg, hi, rfl, rfl, L, M, G, hl, hg⟩ := hrel
    by_cases hlt : i < n
    · have hlt2 : Hid (i < Q.length) := by have := unhide Hq; show _ < _; omega
      obtain ⟨g, rfl, r⟩ : ∃ g, a = some ⟨g, 0, none⟩ ∧ Rb g cap Q wr := by
        rcases (unhide L).qr with ⟨_, e⟩ | ⟨g, cap', e, _, r⟩
        · have := unhide hlt2; rw [e] at this; simp at this
        · injection e with e1 _ e2
          subst e1 e2
          exact ⟨g, rfl, r⟩
      obtain ⟨x, hx⟩ : ∃ x, x = Q.getD i (0, 0) := ⟨_, rfl⟩
      have c1 : wr.cell? ⟨g, i * 2, none⟩ = some (.int .i64 x.1) := by rw [hx]; exact r.fst (unhide hlt2)
      have c2 : wr.cell? ⟨g, i * 2 + 1, none⟩ = some (.int .i64 x.2) := by rw [hx]; exact r.snd (unhide hlt2)
      have Hx := hide hx
      have hd : Hid (Q.drop i = x :: Q.drop (i + 1)) := by show _ = _; rw [hx]; exact drop_at (unhide hlt2)
      clear hx r
      have hlen : Hi.length < 999999 := by have := unhide hl; have := unhide hlt2; omega
      go_wp2_with fail
      refine (fits_lane _ ((unhide L).next (below_new wr _)) (by omega) x).mono ?_
      rintro e w2 ⟨rfl, hb⟩
      have B2 := hide (below_then (below_new wr _) hb)
      have bx := (hb.block _ (by simp)).trans (box_new wr x)
      have Bx := hide bx
      obtain ⟨x0, x1⟩ := box_cells bx
      have L2 := hide ((unhide L).next (unhide B2))
      have M2 := hide ((unhide M).then_ (unhide B2))
      have G2 := hide ((unhide G).next (unhide B2))
      clear bx hb c1 c2
      cases hf : fitsL x Hi
      · have hg2 : Hid (grantD H Q = (i, Hi)) := by
          have := unhide hg
          rw [unhide hd] at this
          show _ = _
          rw [this, grant_stop hf, Nat.zero_add]
        clear x0 x1
        have c1 := (unhide L2).c1
        have hdel := hide (delete_any (B := B) (v := .slice (some ⟨g, 0, none⟩) n cap) w2 (unhide L2).qr 0 i (Nat.zero_le _) (by have := unhide Hq; omega))
        go_wp2_with fail
        refine (unhide hdel).mono ?_
        rintro e w' ⟨v', rfl, es, gr, at4⟩
        obtain ⟨a4, n4, cap4, rfl, hn4⟩ := slice_form' es
        replace hn4 := hide hn4
        have q0 := (unhide L2).grown1 gr
        have m0 : w'.cell? ⟨b, 1, none⟩ = some (.slice (some ⟨g, 0, none⟩) n cap) := (by simp [World.cell?, q0])
        have m3 : w'.frozen? ⟨b, 1, none⟩ = false := (by simp [World.frozen?, q0])
        have PT := hide (grant_end i (unhide L2) (unhide M2) (unhide G2) (unhide hg2) es gr at4)
        clear gr es at4 q0 c1
        go_wp2
        go_ret
        exact unhide PT
      · have hg2 : Hid (grantD H Q = ((grantD (putD x Hi) (Q.drop (i + 1))).1 + (i + 1), (grantD (putD x Hi) (Q.drop (i + 1))).2)) := by
          have := unhide hg
          rw [unhide hd] at this
          show _ = _
          rw [this]
          rw [grant_cons hf, Nat.add_assoc, Nat.add_comm 1 i]
        have Hf := hide hf
        clear hf
        go_wp2_with fail
        refine (hold_any w2 (unhide L2) hlen x).mono ?_
        rintro e w3 ⟨rfl, hv2, L3, M3⟩
        have bx3 : w3.heap[wr.heap.size]? = some (.cells #[.int .i64 x.1, .int .i64 x.2] 92 (0, 0)) := (M3.block _ (heap_lt (unhide Bx)) (fun e => by have := (unhide L).lt; omega) (fun e => Nat.lt_irrefl _ ((unhide L).hr.lt _ e).2) (fun e => Nat.lt_irrefl _ ((unhide L).qr.lt _ e).2)).trans (unhide Bx)
        have G3 := hide ((unhide G2).moved (unhide L2) M3)
        have M4 := hide ((unhide M2).trans M3)
        have L4 := hide L3
        obtain ⟨y0, y1⟩ := box_cells bx3
        clear L3 M3 bx3 x0 x1
        have B5 := below_new w3 (.cells #[.int .i64 x.1] 3)
        have hl5 : ((Q.take i).map (·.1)).length = i := by have := unhide hlt2; rw [List.length_map, List.length_take]; omega
        have G5 := (unhide G3).next B5
        have own5 : Hid ((w3.alloc (.cells #[.int .i64 x.1] 3)).ownsRow w.heap.size 3 1 (.slice ag i cg) i (vals ((Q.take i).map (·.1)))) := by
          have := G5
          unfold Is at this
          rw [hl5] at this
          exact this
        have HB5 := hide (And.intro B5 G5)
        have h63 : Hid (i + 1 ≤ maxLen) := by have := unhide hlt2; show _ ≤ _; unfold maxLen; omega
        have h64 : Hid ((i + 1) * 8 ≤ 140737488355328) := by have := unhide hlt2; show _ ≤ _; omega
        have hbs : Hid (w.heap.size ≤ (w3.alloc (.cells #[.int .i64 x.1] 3)).heap.size) := Nat.le_trans (unhide M4).size B5.size
        have hnw : Hid (∀ j u, [Value.int .i64 x.1][j]? = some u → (w3.alloc (.cells #[.int .i64 x.1] 3)).cell? ((⟨w3.heap.size, 0, none⟩ : Addr).add j) = some u) := World.news_of_block (heap_alloc_new w3 _)
        have Hl5 := hide hl5
        clear B5 G5 hl5
        go_wp2_with (at_builtin; refine wpList_append_lies _ rfl (.tmp 22) (.tmp 25) 36 rfl w.heap.size 3 i3 _ 1 8 Tryz.underlying36 (unhide Hi3).1 (unhide Hi3).2.1 (unhide Hi3).2.2.1 (unhide Hi3).2.2.2 rfl (by decide) _ i _ rfl (unhide own5) ⟨w3.heap.size, 0, none⟩ 1 1 [.int .i64 x.1] rfl rfl (unhide hnw) (vals_one [x.1]) (by decide) (unhide h63) (unhide h64) (unhide hbs) _ rfl ?_; intro g5 cap5 w5 a1 a2 a3 _; replace a1 := hide a1; replace a2 := hide a2)
        go_roundw
        case rel => exact ⟨i + 1, putD x Hi, hv2, some ⟨g5, 0, none⟩, cap5, by omega, rfl, by go_num, ((unhide L4).next (unhide HB5).1).beside (unhide HB5).2 (unhide a2), ((unhide M4).then_ (unhide HB5).1).beside (unhide HB5).2 (unhide a2), by
          show World.ownsRow _ _ _ _ _ _ _
          rw [take_map Q i (unhide hlt2), List.length_append, unhide Hl5, ← unhide Hx]
          unfold vals
          rw [List.map_append]
          exact unhide a1, by have := put_len x Hi; have := unhide hl; show _ ≤ _; omega, hg2⟩
        case measure => simp [intOf]; omega
    · obtain rfl : i = n := by omega
      have hg2 : Hid (grantD H Q = (i, Hi)) := by
        have := unhide hg
        rw [show Q.drop i = [] from List.drop_eq_nil_of_le (by have := unhide Hq; omega)] at this
        show _ = _
        rw [this]
        unfold grantD
        simp
      have c1 := (unhide L).c1
      have hdel := hide (delete_any (B := B) (v := .slice a i cap) wr (unhide L).qr 0 i (Nat.zero_le _) (by have := unhide Hq; omega))
      go_wp2_with fail
      refine (unhide hdel).mono ?_
      rintro e w' ⟨v', rfl, es, gr, at4⟩
      obtain ⟨a4, n4, cap4, rfl, hn4⟩ := slice_form' es
      replace hn4 := hide hn4
      have q0 := (unhide L).grown1 gr
      have m0 : w'.cell? ⟨b, 1, none⟩ = some (.slice a i cap) := (by simp [World.cell?, q0])
      have m3 : w'.frozen? ⟨b, 1, none⟩ = false := (by simp [World.frozen?, q0])
      have PT := hide (grant_end i (unhide L) (unhide M) (unhide G) (unhide hg2) es gr at4)
      clear gr es at4 q0 c1
      go_wp2
      go_ret
      exact unhide PT
end Go.Proofs.YtgiklggnolbiiaaGreat

/- Leave. -/
namespace Go.Proofs.YtgiklggnolbiiaaGreat
open Go.RowKit
variable {B : Nat} {H Q : List En} {b : Nat} {hv qv : Value}

/-- All but who. -/
def out1 (who : Int) (l : List En) : List En := l.eraseP (isWho who)
theorem out_at (who : Int) : ∀ {l : List En} {i : Nat}, i < l.length → (∀ t, t < i → isWho who (l.getD t (0, 0)) = false) → isWho who (l.getD i (0, 0)) = true → l.take i ++ l.drop (i + 1) = out1 who l
  | [], i, h, _, _ => by simp at h
  | p :: r, 0, _, _, h => by
    have h2 : isWho who p = true := h
    unfold out1
    rw [List.eraseP_cons, h2]; rfl
  | p :: r, i + 1, hi, h1, h2 => by
    have h0 : isWho who p = false := h1 0 (by omega)
    unfold out1
    rw [List.eraseP_cons, h0]
    show p :: (r.take i ++ r.drop (i + 1)) = p :: r.eraseP (isWho who)
    rw [out_at who (l := r) (i := i) (by simpa using hi) (fun t ht => by simpa using h1 (t + 1) (by omega)) (by simpa using h2)]; rfl
theorem out_no {who : Int} {l : List En} (h : hasD who l = false) : out1 who l = l := by
  unfold out1
  rw [List.eraseP_of_forall_not]
  intro a ha
  have := List.any_eq_false.1 h a ha
  simpa [isWho] using this
theorem out_pos {who : Int} {l : List En} (hs : Srt l) (h : hasD who l = true) : l.take (posD who l) ++ l.drop (posD who l + 1) = out1 who l := by
  obtain ⟨p1, p2, _⟩ := look_pos hs h
  refine out_at who p1 (fun t ht => ?_) ?_
  · have := pos_below who ht
    simp only [isWho, beq_eq_false_iff_ne]; omega
  · simp only [isWho, beq_iff_eq]; exact p2
theorem out_idx {who : Int} {l : List En} : (hasD who l = false ∧ idxD (isWho who) l = -1) ∨ ∃ i : Nat, i < l.length ∧ idxD (isWho who) l = (i : Int) ∧ l.take i ++ l.drop (i + 1) = out1 who l := by
  rcases look_idx (k := who) (l := l) with h | ⟨i, hi, h1, e, _, _⟩
  · exact .inl h
  · have e2 : l.findIdx (isWho who) = i := by
      have h2 : l.any (isWho who) = true := h1
      unfold idxD at e
      rw [h2] at e
      have e3 : ((l.findIdx (isWho who) : Nat) : Int) = (i : Int) := by simpa using e
      exact Int.ofNat.inj e3
    refine .inr ⟨i, hi, e, out_at who hi (fun t ht => ?_) ?_⟩
    · have := List.not_of_lt_findIdx (p := isWho who) (xs := l) (i := t) (by omega)
      simpa [List.getD, show t < l.length by omega] using this
    · have := List.findIdx_getElem (xs := l) (p := isWho who) (w := by omega)
      simp only [e2] at this
      simpa [List.getD, hi] using this
theorem out_len (who : Int) (l : List En) : (out1 who l).length ≤ l.length := List.length_eraseP_le
theorem out_srt {who : Int} {l : List En} (h : Srt l) : Srt (out1 who l) := h.sublist List.eraseP_sublist
theorem Is.down {B' : Nat} {v : Value} {l : List Int} {w : World} (h : Is B' v l w) (hB : B ≤ B') : Is B v l w := by
  refine ⟨h.1, ?_⟩
  rcases h.2 with h0 | ⟨g, cap, cur, e, h1, r⟩
  · exact .inl h0
  · exact .inr ⟨g, cap, cur, e, Nat.le_trans hB h1, r⟩
/-- What Leave answers, and those that hold and wait behind it. -/
def leaveD (who : Int) (H Q : List En) : List Int × List En × List En :=
  (((out1 who Q).take (grantD (out1 who H) (out1 who Q)).1).map (·.1), (grantD (out1 who H) (out1 who Q)).2, (out1 who Q).drop (grantD (out1 who H) (out1 who Q)).1)
def LeavePost (w : World) (b : Nat) (hv qv : Value) (B : Nat) (r : List Int × List En × List En) (e : Ending) (w' : World) : Prop :=
  ∃ gv hv' qv', e = .returned gv ∧ Is w.heap.size gv r.1 w' ∧ La B r.2.1 r.2.2 b hv' qv' w' ∧ Mv b hv qv hv' qv' w w'
theorem leave_end {w w1 : World} {hv1 qv1 : Value} {who : Int} (M : Mv b hv qv hv1 qv1 w w1) {e : Ending} {w' : World} (g : GrantPost w1 b hv1 qv1 B (out1 who H) (out1 who Q) e w') : LeavePost w b hv qv B (leaveD who H Q) e w' := by
  obtain ⟨gv, hv', qv', e1, g1, g2, g3⟩ := g
  exact ⟨gv, hv', qv', e1, g1.down M.size, g2, M.trans g3⟩
set_option maxRecDepth 100000 in
set_option maxHeartbeats 1000000 in
theorem leave_ff (w : World) (h : La B H Q b hv qv w) (hn : H.length + Q.length < 999999) (who : Int) (h1 : hasD who H = false) (h2 : hasD who Q = false) (h3 : idxD (isWho who) Q = -1) :
    Calls Tryz.prog 42 #[.pointer (some ⟨b, 0, none⟩), .int .i64 who] w (LeavePost w b hv qv B (leaveD who H Q)) := by
  have HL := hide h
  have P2 := hide (out_no h1)
  have P4 := hide (out_no h2)
  clear h2
  have O1 := hide (out_len who H)
  have O2 := hide (out_srt (who := who) h.srt)
  have H3 := hide h3
  have H1 := hide h1
  clear h1 h3 h
  go_enter Tryz.func42, Tryz.ntmps42
  go_wp2_with fail
  refine (holder_any w (unhide HL) (by omega) who).mono ?_
  rw [unhide H1]
  rintro e w1 ⟨rfl, hb⟩
  have L1 := hide ((unhide HL).next hb)
  have M1 := hide (Mv.of_below (b := b) (hv := hv) (qv := qv) hb)
  clear hb
  have HX : Hid (out1 who H = H) := P2
  generalize posD who H = p at *
  go_wp2_with fail
  have L3 : Hid (La B (out1 who H) Q b hv qv w1) := by rw [unhide HX]; exact unhide L1
  have M3 := M1
  refine (place_any w1 (unhide L3) (by omega) who).mono ?_
  rw [unhide H3]
  rintro e w4 ⟨rfl, hb⟩
  have L4 := hide ((unhide L3).next hb)
  have M4 := hide ((unhide M3).then_ hb)
  clear hb
  go_wp2_with fail
  have L6 : Hid (La B (out1 who H) (out1 who Q) b hv qv w4) := by rw [unhide P4]; exact unhide L4
  refine (grant_any w4 (unhide L6) (by have := unhide O1; rw [unhide P4]; omega)).mono ?_
  rintro e w7 hG
  obtain ⟨gv, e1, hG2⟩ : ∃ gv, e = .returned gv ∧ GrantPost w4 b _ _ B (out1 who H) (out1 who Q) (.returned gv) w7 := by
    obtain ⟨gv, h1, h2, rfl, r⟩ := hG
    exact ⟨gv, rfl, gv, h1, h2, rfl, r⟩
  subst e1
  have PG := hide (leave_end (unhide M4) hG2)
  clear hG hG2
  go_wp2
  go_ret
  exact unhide PG
set_option maxRecDepth 100000 in
set_option maxHeartbeats 1000000 in
theorem leave_ft (w : World) (h : La B H Q b hv qv w) (hn : H.length + Q.length < 999999) (who : Int) (h1 : hasD who H = false) (i : Nat) (hi : i < Q.length) (h3 : idxD (isWho who) Q = (i : Int)) (h4 : Q.take i ++ Q.drop (i + 1) = out1 who Q) :
    Calls Tryz.prog 42 #[.pointer (some ⟨b, 0, none⟩), .int .i64 who] w (LeavePost w b hv qv B (leaveD who H Q)) := by
  have HL := hide h
  have P2 := hide (out_no h1)
  have P4 := hide h4
  clear h4
  have O1 := hide (out_len who H)
  have O2 := hide (out_srt (who := who) h.srt)
  have H3 := hide h3
  have H1 := hide h1
  clear h1 h3 h
  go_enter Tryz.func42, Tryz.ntmps42
  go_wp2_with fail
  refine (holder_any w (unhide HL) (by omega) who).mono ?_
  rw [unhide H1]
  rintro e w1 ⟨rfl, hb⟩
  have L1 := hide ((unhide HL).next hb)
  have M1 := hide (Mv.of_below (b := b) (hv := hv) (qv := qv) hb)
  clear hb
  have HX : Hid (out1 who H = H) := P2
  generalize posD who H = p at *
  go_wp2_with fail
  have L3 : Hid (La B (out1 who H) Q b hv qv w1) := by rw [unhide HX]; exact unhide L1
  have M3 := M1
  refine (place_any w1 (unhide L3) (by omega) who).mono ?_
  rw [unhide H3]
  rintro e w4 ⟨rfl, hb⟩
  have L4 := hide ((unhide L3).next hb)
  have M4 := hide ((unhide M3).then_ hb)
  clear hb
  have c1 := (unhide L4).c1
  have hdel2 : Hid (Calls Tryz.prog 87 #[qv, .int .i64 i, .int .i64 ((i : Int) + 1)] w4 fun e w' => ∃ v', e = .returned v' ∧ Es B v' (Q.take i ++ Q.drop (i + 1)) w' ∧ w4.grownBy w' qv.ownBlock ∧ At qv v' w4.heap.size) := delete_any w4 (unhide L4).qr i (i + 1) (by omega) (by omega)
  go_wp2_with fail
  refine (unhide hdel2).mono ?_
  rw [unhide P4]
  rintro e w5 ⟨v', rfl, es, gr, at4⟩
  obtain ⟨a5, n5, cap5, rfl, hn5⟩ := slice_form' es
  replace hn5 := hide hn5
  have q0 := (unhide L4).grown1 gr
  have m0 : w5.cell? ⟨b, 1, none⟩ = some qv := (by simp [World.cell?, q0])
  have m3 : w5.frozen? ⟨b, 1, none⟩ = false := (by simp [World.frozen?, q0])
  have PT := (unhide L4).put1 gr es at4
  obtain ⟨w6, hw6⟩ : ∃ w6, w6 = w5.setCell ⟨b, 1, none⟩ (.slice a5 n5 cap5) := ⟨_, rfl⟩
  rw [← hw6] at PT
  have L6 := hide PT.1
  have M6 := hide ((unhide M4).trans PT.2)
  have HW6 := hide hw6
  clear PT gr es at4 q0 c1 hw6
  have O4 := hide (out_len who Q)
  go_wp2_with fail
  rw [← unhide HW6]
  clear m0 m3
  refine (grant_any w6 (unhide L6) (by have := unhide O1; have := unhide O4; omega)).mono ?_
  rintro e w7 hG
  obtain ⟨gv, e1, hG2⟩ : ∃ gv, e = .returned gv ∧ GrantPost w6 b _ _ B (out1 who H) (out1 who Q) (.returned gv) w7 := by
    obtain ⟨gv, h1, h2, rfl, r⟩ := hG
    exact ⟨gv, rfl, gv, h1, h2, rfl, r⟩
  subst e1
  have PG := hide (leave_end (unhide M6) hG2)
  clear hG hG2
  go_wp2
  go_ret
  exact unhide PG
set_option maxRecDepth 100000 in
set_option maxHeartbeats 1000000 in
theorem leave_tf (w : World) (h : La B H Q b hv qv w) (hn : H.length + Q.length < 999999) (who : Int) (h1 : hasD who H = true) (h2 : hasD who Q = false) (h3 : idxD (isWho who) Q = -1) :
    Calls Tryz.prog 42 #[.pointer (some ⟨b, 0, none⟩), .int .i64 who] w (LeavePost w b hv qv B (leaveD who H Q)) := by
  have HL := hide h
  have P1 := hide (look_pos h.srt h1).1
  have P2 := hide (out_pos h.srt h1)
  have P4 := hide (out_no h2)
  clear h2
  have O1 := hide (out_len who H)
  have O2 := hide (out_srt (who := who) h.srt)
  have H3 := hide h3
  have H1 := hide h1
  clear h1 h3 h
  go_enter Tryz.func42, Tryz.ntmps42
  go_wp2_with fail
  refine (holder_any w (unhide HL) (by omega) who).mono ?_
  rw [unhide H1]
  rintro e w1 ⟨rfl, hb⟩
  have L1 := hide ((unhide HL).next hb)
  have M1 := hide (Mv.of_below (b := b) (hv := hv) (qv := qv) hb)
  clear hb
  generalize posD who H = p at *
  have hp9 : p < 999999 := by have := unhide P1; omega
  have c0 := (unhide L1).c0
  have hdel : Hid (Calls Tryz.prog 87 #[hv, .int .i64 p, .int .i64 ((p : Int) + 1)] w1 fun e w' => ∃ v', e = .returned v' ∧ Es B v' (H.take p ++ H.drop (p + 1)) w' ∧ w1.grownBy w' hv.ownBlock ∧ At hv v' w1.heap.size) := delete_any w1 (unhide L1).hr p (p + 1) (by omega) (by have := unhide P1; omega)
  go_wp2_with fail
  refine (unhide hdel).mono ?_
  rw [unhide P2]
  rintro e w2 ⟨v', rfl, es, gr, at4⟩
  obtain ⟨a4, n4, cap4, rfl, hn4⟩ := slice_form' es
  replace hn4 := hide hn4
  have q0 := (unhide L1).grown0 gr
  have m0 : w2.cell? ⟨b, 0, none⟩ = some hv := (by simp [World.cell?, q0])
  have m3 : w2.frozen? ⟨b, 0, none⟩ = false := (by simp [World.frozen?, q0])
  have PT := (unhide L1).put0 gr es at4 (unhide O2)
  obtain ⟨w3, hw3⟩ : ∃ w3, w3 = w2.setCell ⟨b, 0, none⟩ (.slice a4 n4 cap4) := ⟨_, rfl⟩
  rw [← hw3] at PT
  have L3 := hide PT.1
  have M3 := hide ((unhide M1).trans PT.2)
  have HW3 := hide hw3
  clear PT gr es at4 q0 c0 hw3
  go_wp2_with fail
  rw [← unhide HW3]
  clear m0 m3
  refine (place_any w3 (unhide L3) (by omega) who).mono ?_
  rw [unhide H3]
  rintro e w4 ⟨rfl, hb⟩
  have L4 := hide ((unhide L3).next hb)
  have M4 := hide ((unhide M3).then_ hb)
  clear hb
  go_wp2_with fail
  have L6 : Hid (La B (out1 who H) (out1 who Q) b (.slice a4 n4 cap4) qv w4) := by rw [unhide P4]; exact unhide L4
  refine (grant_any w4 (unhide L6) (by have := unhide O1; rw [unhide P4]; omega)).mono ?_
  rintro e w7 hG
  obtain ⟨gv, e1, hG2⟩ : ∃ gv, e = .returned gv ∧ GrantPost w4 b _ _ B (out1 who H) (out1 who Q) (.returned gv) w7 := by
    obtain ⟨gv, h1, h2, rfl, r⟩ := hG
    exact ⟨gv, rfl, gv, h1, h2, rfl, r⟩
  subst e1
  have PG := hide (leave_end (unhide M4) hG2)
  clear hG hG2
  go_wp2
  go_ret
  exact unhide PG
set_option maxRecDepth 100000 in
set_option maxHeartbeats 1000000 in
theorem leave_tt (w : World) (h : La B H Q b hv qv w) (hn : H.length + Q.length < 999999) (who : Int) (h1 : hasD who H = true) (i : Nat) (hi : i < Q.length) (h3 : idxD (isWho who) Q = (i : Int)) (h4 : Q.take i ++ Q.drop (i + 1) = out1 who Q) :
    Calls Tryz.prog 42 #[.pointer (some ⟨b, 0, none⟩), .int .i64 who] w (LeavePost w b hv qv B (leaveD who H Q)) := by
  have HL := hide h
  have P1 := hide (look_pos h.srt h1).1
  have P2 := hide (out_pos h.srt h1)
  have P4 := hide h4
  clear h4
  have O1 := hide (out_len who H)
  have O2 := hide (out_srt (who := who) h.srt)
  have H3 := hide h3
  have H1 := hide h1
  clear h1 h3 h
  go_enter Tryz.func42, Tryz.ntmps42
  go_wp2_with fail
  refine (holder_any w (unhide HL) (by omega) who).mono ?_
  rw [unhide H1]
  rintro e w1 ⟨rfl, hb⟩
  have L1 := hide ((unhide HL).next hb)
  have M1 := hide (Mv.of_below (b := b) (hv := hv) (qv := qv) hb)
  clear hb
  generalize posD who H = p at *
  have hp9 : p < 999999 := by have := unhide P1; omega
  have c0 := (unhide L1).c0
  have hdel : Hid (Calls Tryz.prog 87 #[hv, .int .i64 p, .int .i64 ((p : Int) + 1)] w1 fun e w' => ∃ v', e = .returned v' ∧ Es B v' (H.take p ++ H.drop (p + 1)) w' ∧ w1.grownBy w' hv.ownBlock ∧ At hv v' w1.heap.size) := delete_any w1 (unhide L1).hr p (p + 1) (by omega) (by have := unhide P1; omega)
  go_wp2_with fail
  refine (unhide hdel).mono ?_
  rw [unhide P2]
  rintro e w2 ⟨v', rfl, es, gr, at4⟩
  obtain ⟨a4, n4, cap4, rfl, hn4⟩ := slice_form' es
  replace hn4 := hide hn4
  have q0 := (unhide L1).grown0 gr
  have m0 : w2.cell? ⟨b, 0, none⟩ = some hv := (by simp [World.cell?, q0])
  have m3 : w2.frozen? ⟨b, 0, none⟩ = false := (by simp [World.frozen?, q0])
  have PT := (unhide L1).put0 gr es at4 (unhide O2)
  obtain ⟨w3, hw3⟩ : ∃ w3, w3 = w2.setCell ⟨b, 0, none⟩ (.slice a4 n4 cap4) := ⟨_, rfl⟩
  rw [← hw3] at PT
  have L3 := hide PT.1
  have M3 := hide ((unhide M1).trans PT.2)
  have HW3 := hide hw3
  clear PT gr es at4 q0 c0 hw3
  go_wp2_with fail
  rw [← unhide HW3]
  clear m0 m3
  refine (place_any w3 (unhide L3) (by omega) who).mono ?_
  rw [unhide H3]
  rintro e w4 ⟨rfl, hb⟩
  have L4 := hide ((unhide L3).next hb)
  have M4 := hide ((unhide M3).then_ hb)
  clear hb
  have c1 := (unhide L4).c1
  have hdel2 : Hid (Calls Tryz.prog 87 #[qv, .int .i64 i, .int .i64 ((i : Int) + 1)] w4 fun e w' => ∃ v', e = .returned v' ∧ Es B v' (Q.take i ++ Q.drop (i + 1)) w' ∧ w4.grownBy w' qv.ownBlock ∧ At qv v' w4.heap.size) := delete_any w4 (unhide L4).qr i (i + 1) (by omega) (by omega)
  go_wp2_with fail
  refine (unhide hdel2).mono ?_
  rw [unhide P4]
  rintro e w5 ⟨v', rfl, es, gr, at4⟩
  obtain ⟨a5, n5, cap5, rfl, hn5⟩ := slice_form' es
  replace hn5 := hide hn5
  have q0 := (unhide L4).grown1 gr
  have m0 : w5.cell? ⟨b, 1, none⟩ = some qv := (by simp [World.cell?, q0])
  have m3 : w5.frozen? ⟨b, 1, none⟩ = false := (by simp [World.frozen?, q0])
  have PT := (unhide L4).put1 gr es at4
  obtain ⟨w6, hw6⟩ : ∃ w6, w6 = w5.setCell ⟨b, 1, none⟩ (.slice a5 n5 cap5) := ⟨_, rfl⟩
  rw [← hw6] at PT
  have L6 := hide PT.1
  have M6 := hide ((unhide M4).trans PT.2)
  have HW6 := hide hw6
  clear PT gr es at4 q0 c1 hw6
  have O4 := hide (out_len who Q)
  go_wp2_with fail
  rw [← unhide HW6]
  clear m0 m3
  refine (grant_any w6 (unhide L6) (by have := unhide O1; have := unhide O4; omega)).mono ?_
  rintro e w7 hG
  obtain ⟨gv, e1, hG2⟩ : ∃ gv, e = .returned gv ∧ GrantPost w6 b _ _ B (out1 who H) (out1 who Q) (.returned gv) w7 := by
    obtain ⟨gv, h1, h2, rfl, r⟩ := hG
    exact ⟨gv, rfl, gv, h1, h2, rfl, r⟩
  subst e1
  have PG := hide (leave_end (unhide M6) hG2)
  clear hG hG2
  go_wp2
  go_ret
  exact unhide PG
theorem leave_any (w : World) (h : La B H Q b hv qv w) (hn : H.length + Q.length < 999999) (who : Int) :
    Calls Tryz.prog 42 #[.pointer (some ⟨b, 0, none⟩), .int .i64 who] w (LeavePost w b hv qv B (leaveD who H Q)) := by
  cases h1 : hasD who H
  · rcases out_idx (who := who) (l := Q) with ⟨h2, h3⟩ | ⟨i, hi, h3, h4⟩
    · exact leave_ff w h hn who h1 h2 h3
    · exact leave_ft w h hn who h1 i hi h3 h4
  · rcases out_idx (who := who) (l := Q) with ⟨h2, h3⟩ | ⟨i, hi, h3, h4⟩
    · exact leave_tf w h hn who h1 h2 h3
    · exact leave_tt w h hn who h1 i hi h3 h4
end Go.Proofs.YtgiklggnolbiiaaGreat

/- The library contracts that this seat uses, laid at its translation by the kit's command (plain words). -/
namespace Go.Proofs.YtgiklggnolbiiaaGreat
open Go.Shelf
def Tryz.laysS_ren : Go.Shelf.Ren := ⟨fun | 5 => 117 | 8 => 93 | 7 => 136 | 19 => 127 | 20 => 128 | 10 => 147 | 11 => 148 | 12 => 149 | 13 => 150 | 14 => 151 | 15 => 152 | 16 => 153 | 17 => 154 | 18 => 155 | 30 => 160 | 31 => 138 | 32 => 139 | 33 => 161 | 34 => 162 | 35 => 94 | 40 => 163 | n => n, fun | 23 => 36 | 25 => 3 | 3 => 3 | 32 => 119 | 22 => 36 | 0 => 0 | 44 => 136 | 46 => 138 | 4 => 4 | 36 => 130 | 35 => 129 | 41 => 112 | 5 => 5 | 9 => 9 | 53 => 143 | 57 => 147 | 63 => 155 | 64 => 156 | n => n, fun | n => n⟩
theorem Tryz.laysS : Go.Proofs.SlLaysM.n5 Tryz.prog Tryz.laysS_ren := {
  mixed := by kernel_rfl
  f5 := ⟨Tryz.f117.name, by decide, Tryz.func117.trans (congrArg some (by kernel_rfl))⟩
  f7 := ⟨Tryz.f136.name, by decide, Tryz.func136.trans (congrArg some (by kernel_rfl))⟩
  f8 := Tryz.func93.trans (congrArg some (by kernel_rfl))
  f10 := ⟨Tryz.f147.name, by decide, Tryz.func147.trans (congrArg some (by kernel_rfl))⟩
  f11 := ⟨Tryz.f148.name, by decide, Tryz.func148.trans (congrArg some (by kernel_rfl))⟩
  f12 := ⟨Tryz.f149.name, by decide, Tryz.func149.trans (congrArg some (by kernel_rfl))⟩
  f13 := ⟨Tryz.f150.name, by decide, Tryz.func150.trans (congrArg some (by kernel_rfl))⟩
  f14 := ⟨Tryz.f151.name, by decide, Tryz.func151.trans (congrArg some (by kernel_rfl))⟩
  f15 := ⟨Tryz.f152.name, by decide, Tryz.func152.trans (congrArg some (by kernel_rfl))⟩
  f16 := ⟨Tryz.f153.name, by decide, Tryz.func153.trans (congrArg some (by kernel_rfl))⟩
  f17 := ⟨Tryz.f154.name, by decide, Tryz.func154.trans (congrArg some (by kernel_rfl))⟩
  f18 := ⟨Tryz.f155.name, by decide, Tryz.func155.trans (congrArg some (by kernel_rfl))⟩
  f19 := Tryz.func127.trans (congrArg some (by kernel_rfl))
  f20 := Tryz.func128.trans (congrArg some (by kernel_rfl))
  f30 := ⟨Tryz.f160.name, by decide, Tryz.func160.trans (congrArg some (by kernel_rfl))⟩
  f31 := Tryz.func138.trans (congrArg some (by kernel_rfl))
  f32 := Tryz.func139.trans (congrArg some (by kernel_rfl))
  f33 := ⟨Tryz.f161.name, by decide, Tryz.func161.trans (congrArg some (by kernel_rfl))⟩
  f34 := ⟨Tryz.f162.name, by decide, Tryz.func162.trans (congrArg some (by kernel_rfl))⟩
  f35 := ⟨Tryz.f94.name, by decide, Tryz.func94.trans (congrArg some (by kernel_rfl))⟩
  f40 := ⟨Tryz.f163.name, by decide, Tryz.func163.trans (congrArg some (by kernel_rfl))⟩
  t0 := Tryz.underlying0
  a0 := Tryz.isAgg0
  z0 := Tryz.sizeOf0
  v0 := Tryz.zeroValue0
  t3 := Tryz.underlying3
  a3 := Tryz.isAgg3
  z3 := Tryz.sizeOf3
  v3 := Tryz.zeroValue3
  t4 := Tryz.underlying4
  a4 := Tryz.isAgg4
  z4 := Tryz.sizeOf4
  v4 := Tryz.zeroValue4
  t5 := Tryz.underlying5
  a5 := Tryz.isAgg5
  z5 := Tryz.sizeOf5
  v5 := Tryz.zeroValue5
  t9 := Tryz.underlying9
  a9 := Tryz.isAgg9
  z9 := Tryz.sizeOf9
  v9 := Tryz.zeroValue9
  t22 := Tryz.underlying36
  a22 := Tryz.isAgg36
  z22 := Tryz.sizeOf36
  v22 := Tryz.zeroValue36
  t23 := Tryz.underlying36
  a23 := Tryz.isAgg36
  z23 := Tryz.sizeOf36
  v23 := Tryz.zeroValue36
  t25 := Tryz.underlying3
  a25 := Tryz.isAgg3
  z25 := Tryz.sizeOf3
  v25 := Tryz.zeroValue3
  t32 := Tryz.underlying119
  a32 := Tryz.isAgg119
  z32 := Tryz.sizeOf119
  v32 := Tryz.zeroValue119
  t35 := Tryz.underlying129
  a35 := Tryz.isAgg129
  z35 := Tryz.sizeOf129
  v35 := Tryz.zeroValue129
  t36 := Tryz.underlying130
  a36 := Tryz.isAgg130
  z36 := Tryz.sizeOf130
  v36 := Tryz.zeroValue130
  t41 := Tryz.underlying112
  a41 := Tryz.isAgg112
  z41 := Tryz.sizeOf112
  v41 := Tryz.zeroValue112
  t44 := Tryz.underlying136
  a44 := Tryz.isAgg136
  z44 := Tryz.sizeOf136
  v44 := Tryz.zeroValue136
  t46 := Tryz.underlying138
  a46 := Tryz.isAgg138
  z46 := Tryz.sizeOf138
  v46 := Tryz.zeroValue138
  t53 := Tryz.underlying143
  a53 := Tryz.isAgg143
  z53 := Tryz.sizeOf143
  v53 := Tryz.zeroValue143
  t57 := Tryz.underlying147
  a57 := Tryz.isAgg147
  z57 := Tryz.sizeOf147
  v57 := Tryz.zeroValue147
  t63 := Tryz.underlying155
  a63 := Tryz.isAgg155
  z63 := Tryz.sizeOf155
  v63 := Tryz.zeroValue155
  t64 := Tryz.underlying156
  a64 := Tryz.isAgg156
  z64 := Tryz.sizeOf156
  v64 := Tryz.zeroValue156 }
def Tryz.laysC_ren : Go.Shelf.Ren := ⟨fun | 43 => 118 | n => n, fun | 22 => 36 | 23 => 3 | 3 => 3 | 4 => 4 | 0 => 0 | n => n, fun | n => n⟩
theorem Tryz.laysC : Go.Proofs.SlLaysN.n43 Tryz.prog Tryz.laysC_ren := {
  mixed := by kernel_rfl
  f43 := ⟨Tryz.f118.name, by decide, Tryz.func118.trans (congrArg some (by kernel_rfl))⟩
  t0 := Tryz.underlying0
  a0 := Tryz.isAgg0
  z0 := Tryz.sizeOf0
  v0 := Tryz.zeroValue0
  t3 := Tryz.underlying3
  a3 := Tryz.isAgg3
  z3 := Tryz.sizeOf3
  v3 := Tryz.zeroValue3
  t4 := Tryz.underlying4
  a4 := Tryz.isAgg4
  z4 := Tryz.sizeOf4
  v4 := Tryz.zeroValue4
  t22 := Tryz.underlying36
  a22 := Tryz.isAgg36
  z22 := Tryz.sizeOf36
  v22 := Tryz.zeroValue36
  t23 := Tryz.underlying3
  a23 := Tryz.isAgg3
  z23 := Tryz.sizeOf3
  v23 := Tryz.zeroValue3
  i23 := by kernel_rfl }
end Go.Proofs.YtgiklggnolbiiaaGreat

/- The library's Sort and Compact at numbers; Blocks. -/
namespace Go.Proofs.YtgiklggnolbiiaaGreat
open Go.RowKit
variable {B : Nat} {H Q : List En} {b : Nat} {hv qv : Value}

def sortI (l : List Int) : List Int := l.mergeSort fun x y => decide (x ≤ y)
theorem sortI_len (l : List Int) : (sortI l).length = l.length := List.length_mergeSort _
theorem grow_old (w : World) (os : Array Obj) (k : Nat) (h : k < w.heap.size) : (Go.Sort.grow w os).heap[k]? = w.heap[k]? := by
  show (w.heap ++ os)[k]? = _
  rw [Array.getElem?_append_left h]
theorem is_pos {v : Value} {l : List Int} {w : World} (h : Is B v l w) (hl : 0 < l.length) : ∃ g cap, v = .slice (some ⟨g, 0, none⟩) l.length cap ∧ B ≤ g ∧ g < w.heap.size ∧ l.length ≤ cap ∧ Sort.Holds (Value.int .i64) w g 0 l.toArray := by
  have hne : v ≠ .slice none 0 0 := by
    rintro rfl
    rcases h.2 with ⟨_, e⟩ | ⟨g, cap, cur, e, _⟩
    · omega
    · cases e
  obtain ⟨g, cap, e, h1, h2, h3, _, _, h4⟩ := Lib.holds_of_ownsRow (enc := Value.int .i64) h hne
  exact ⟨g, cap, e, h1, h2, h3, h4⟩
theorem sort_any (w : World) {v : Value} {l : List Int} (h : Is B v l w) (hl : l.length < 1000000000) :
    Calls Tryz.prog 117 #[v] w fun e w' => e = .returned (.tuple #[]) ∧ Is B v (sortI l) w' ∧ w.grownBy w' v.ownBlock := by
  rcases Nat.eq_zero_or_pos l.length with h0 | h0
  · obtain rfl : l = [] := List.eq_nil_of_length_eq_zero h0
    obtain ⟨a, cap, rfl⟩ := h.form
    refine Calls.mono (AnyM.slices_Sort_int_none Tryz.laysS a cap w) ?_
    rintro e w' ⟨rfl, rfl⟩
    have e0 : sortI [] = [] := by unfold sortI; exact List.mergeSort_nil
    rw [e0]
    exact ⟨rfl, h, ⟨rfl, rfl, rfl, Nat.le_refl _, fun _ _ _ => rfl⟩⟩
  · obtain ⟨g, cap, rfl, hB, hg, hc, hH⟩ := is_pos h h0
    refine Calls.mono (AnyM.slices_Sort_int Tryz.laysS g 0 cap l w hH hg (by omega)) ?_
    rintro e w' ⟨rfl, n, os, hw⟩
    change w' = Sort.grow (Sort.putRow (Value.int .i64) (Sort.ahead w n) g 0 (sortI l).toArray) os at hw
    subst hw
    have own := Lib.ownsRow_putRow (enc := Value.int .i64) (q := n) (k := l.length) h (ys := sortI l) (sortI_len l) (Nat.le_refl _)
    have hsz : (Sort.putRow (Value.int .i64) (Sort.ahead w n) g 0 (sortI l).toArray).heap.size = w.heap.size := by simp [Sort.putRow, Sort.mapBlock, Sort.ahead]
    refine ⟨rfl, ?_, ⟨rfl, rfl, rfl, ?_, fun k hk hne => ?_⟩⟩
    · have own2 : Is B (.slice (some ⟨g, 0, none⟩) l.length cap) (sortI l) (Sort.putRow (Value.int .i64) (Sort.ahead w n) g 0 (sortI l).toArray) := by
        unfold Is vals
        rw [sortI_len]
        have e1 : (sortI l).take l.length = sortI l := List.take_of_length_le (by rw [sortI_len]; exact Nat.le_refl _)
        rw [e1] at own
        exact own
      exact own2.keep fun k hk => grow_old _ os k (by
        obtain rfl : g = k := by simpa [Value.ownBlock] using hk
        rw [hsz]; exact hg)
    · show w.heap.size ≤ (_ ++ os).size
      rw [Array.size_append, hsz]; omega
    · refine (grow_old _ os k (by rw [hsz]; exact hk)).trans ?_
      have hgk : g ≠ k := fun e => hne (by rw [e]; rfl)
      simp [Sort.putRow, Sort.mapBlock, Sort.ahead, Array.getElem?_modify, hgk]
theorem compact_any (w : World) {v : Value} {l : List Int} (h : Is B v l w) (hl : l.length < 1000000000) :
    Calls Tryz.prog 118 #[v] w fun e w' => ∃ v', e = .returned v' ∧ Is B v' (Lib.compact l) w' ∧ w.grownBy w' v.ownBlock := by
  rcases Nat.eq_zero_or_pos l.length with h0 | h0
  · obtain rfl : l = [] := List.eq_nil_of_length_eq_zero h0
    obtain ⟨a, cap, rfl⟩ := h.form
    refine Calls.mono (AnyG.slices_Compact_int_empty Tryz.laysC a cap w) ?_
    rintro e w' ⟨rfl, rfl⟩
    exact ⟨_, rfl, h, ⟨rfl, rfl, rfl, Nat.le_refl _, fun _ _ _ => rfl⟩⟩
  · obtain ⟨g, cap, rfl, hB, hg, hc, hH⟩ := is_pos h h0
    refine Calls.mono (AnyG.slices_Compact_int Tryz.laysC g 0 cap l w hH (by omega) hc) ?_
    rintro e w' ⟨rfl, n, rfl⟩
    have hle := Lib.compact_length_le l
    have own := Lib.ownsRow_putRow (enc := Value.int .i64) (q := n) (k := (Lib.compact l).length) h (ys := Lib.compact l ++ List.replicate (l.length - (Lib.compact l).length) 0) (by rw [List.length_append, List.length_replicate]; omega) hle
    rw [List.take_left] at own
    refine ⟨_, rfl, own, ⟨rfl, rfl, rfl, ?_, fun k hk hne => ?_⟩⟩
    · simp [Sort.putRow, Sort.mapBlock, Sort.ahead]
    · have hgk : g ≠ k := fun e => hne (by rw [e]; rfl)
      simp [Sort.putRow, Sort.mapBlock, Sort.ahead, Array.getElem?_modify, hgk]
/-- One number more, behind the others. -/
theorem wpList_push (w : World) {ops : Array Oper} {rest : List Oper} {o : Oper} {a : Act} {Q : Exit → Act → World → Prop} (hgd : o.guard = none) (s x : Operand)
    (ho : o.op = .call { callee := .builtin .append, args := #[s, x], argTypes := #[36, 36] }) (base : Nat) (ag : Option Addr) (n cg : Nat) (l : List Int) (z : Int)
    (N : Nat) (hs : a.eval s = .slice ag n cg) (hx : a.eval x = .slice (some ⟨N, 0, none⟩) 1 1) (hN : w.heap.size = N) (hn : l.length = n) (hown : Is base (.slice ag n cg) l w) (hb : base ≤ w.heap.size) (hm : n < 10000000)
    (h : ∀ g cap w', Is base (.slice (some ⟨g, 0, none⟩) (n + 1) cap) (l ++ [z]) w' → w.grownBy w' (Value.slice ag n cg).ownBlock → wpList Tryz.prog ops Q rest (a.put o.dst (.slice (some ⟨g, 0, none⟩) (n + 1) cap)) w') :
    wpList Tryz.prog ops Q (o :: rest) a (w.alloc (.cells #[.int .i64 z] 3)) := by
  subst hN
  obtain ⟨i3, hi3, hz0, hz1, hz2⟩ := info_parts inf3
  have B5 := below_new w (.cells #[.int .i64 z] 3)
  have G5 := hown.next B5
  have own5 : (w.alloc (.cells #[.int .i64 z] 3)).ownsRow base 3 1 (.slice ag n cg) n (vals l) := by
    have := G5
    unfold Is at this
    rw [hn] at this
    exact this
  refine wpList_append_lies _ hgd s x 36 ho base 3 i3 _ 1 8 Tryz.underlying36 hi3 hz0 hz1 hz2 rfl (by decide) _ n _ hs own5 ⟨w.heap.size, 0, none⟩ 1 1 [.int .i64 z] hx rfl (World.news_of_block (heap_alloc_new w _)) (vals_one [z]) (by decide) (by unfold maxLen; omega) (by omega) (Nat.le_trans hb B5.size) _ rfl ?_
  intro g cap w' a1 a2 _ _
  refine h g cap w' ?_ (grown_trans (grown_of_below B5 _) a2)
  unfold Is vals
  rw [List.length_append, hn, List.map_append]
  exact a1
/-- For whom the one at place i waits, as they are met. -/
def metD (H Q : List En) (i : Nat) (y : En) : List Int := (Q.take i).map (·.1) ++ (H.filter (fun x => hindD x y)).map (·.1)
/-- For whom who waits. -/
def blocksD (who : Int) (H Q : List En) : List Int :=
  match idxD (isWho who) Q with
  | .ofNat i => Lib.compact (sortI (metD H Q i (Q.getD i (0, 0))))
  | .negSucc _ => []
theorem flt_succ (p : En → Bool) (l : List En) (j : Nat) (hj : j < l.length) : ((l.take (j + 1)).filter p).map (·.1) = ((l.take j).filter p).map (·.1) ++ (if p (l.getD j (0, 0)) then [(l.getD j (0, 0)).1] else []) := by
  rw [List.take_succ_eq_append_getElem hj, List.filter_append, List.map_append]
  congr 1
  have e : l.getD j (0, 0) = l[j] := by simp [List.getD, hj]
  rw [e]
  cases h : p l[j] <;> simp [h]
set_option maxRecDepth 100000 in
set_option maxHeartbeats 2000000 in
theorem blocks_some (w : World) (h : La B H Q b hv qv w) (hn : H.length + Q.length < 999999) (who : Int) (i : Nat) (hi : i < Q.length) (he : idxD (isWho who) Q = (i : Int)) :
    Calls Tryz.prog 91 #[.pointer (some ⟨b, 0, none⟩), .int .i64 who] w fun e w' => ∃ v, e = .returned v ∧ Is w.heap.size v (Lib.compact (sortI (metD H Q i (Q.getD i (0, 0))))) w' ∧ Below w.heap.size w w' := by
  have HL := hide h
  have He := hide he
  obtain ⟨g, cap, rfl, hBg, rq⟩ : ∃ g cap, qv = .slice (some ⟨g, 0, none⟩) Q.length cap ∧ B ≤ g ∧ Rb g cap Q w := by
    rcases h.qr with ⟨_, e⟩ | h1
    · rw [e] at hi; simp at hi
    · exact h1
  have hqc := rq.le
  have hqm := rq.mx
  unfold maxLen at hqm
  have RQ := hide rq
  obtain ⟨y, hy⟩ : ∃ y, y = Q.getD i (0, 0) := ⟨_, rfl⟩
  have Hy := hide hy
  rw [← hy]
  have f0 := rq.fst hi
  have f1 := rq.snd hi
  rw [← hy] at f0 f1
  have F0 := hide f0
  have F1 := hide f1
  have hgw := hide rq.lt
  clear h he rq hy f0 f1
  have hic : i ≤ cap := by omega
  go_enter Tryz.func91, Tryz.ntmps91
  go_wp2_with fail
  refine (place_any w (unhide HL) (by omega) who).mono ?_
  rw [unhide He]
  rintro e w1 ⟨rfl, hb⟩
  have c1 := ((unhide HL).next hb).c1
  have B1 := hide hb
  clear hb
  go_wp2
  clear c1
  go_loopw [6, 23] (fun s6 s23 wr => ∃ (j : Nat) (ag : Option Addr) (cg : Nat), j ≤ i ∧ s6 = .slice ag j cg ∧ s23 = .int .i64 j ∧ Hid (Is w.heap.size (.slice ag j cg) ((Q.take j).map (·.1)) wr) ∧ Hid (Below w.heap.size w wr)) (fun _ s23 _ => i - (intOf s23).toNat)
  case atStart => exact ⟨0, none, 0, Nat.zero_le _, rfl, rfl, is_nil _ _, unhide B1⟩
  case round =>
    obtain ⟨j, ag, cg, hj, rfl, rfl, G, Bw⟩ := hrel
    by_cases hlt : j < i
    · obtain ⟨x, hx⟩ : ∃ x, x = Q.getD j (0, 0) := ⟨_, rfl⟩
      have r := (unhide RQ).next (unhide Bw)
      have d1 : wr.cell? ⟨g, j * 2, none⟩ = some (.int .i64 x.1) := by rw [hx]; exact r.fst (by omega)
      have d2 : wr.cell? ⟨g, j * 2 + 1, none⟩ = some (.int .i64 x.2) := by rw [hx]; exact r.snd (by omega)
      have Hx := hide hx
      have hl5 : Hid (((Q.take j).map (·.1)).length = j) := by show _ = _; rw [List.length_map, List.length_take]; omega
      have G2 := hide ((unhide G).next (below_new wr (.cells #[.int .i64 x.1, .int .i64 x.2] 92)))
      have hbs : Hid (w.heap.size ≤ (wr.alloc (.cells #[.int .i64 x.1, .int .i64 x.2] 92)).heap.size) := Nat.le_trans (unhide Bw).size (below_new wr _).size
      have hj9 : j < 10000000 := by omega
      clear hx r
      go_wp2_with (at_builtin; refine wpList_push _ rfl (.tmp 27) (.tmp 30) rfl w.heap.size ag j cg _ x.1 _ rfl rfl (by simp) (unhide hl5) (unhide G2) (unhide hbs) hj9 ?_; intro g5 cap5 w5 a1 a2; replace a1 := hide a1; replace a2 := hide a2)
      go_roundw
      case rel => exact ⟨j + 1, some ⟨g5, 0, none⟩, cap5, by omega, rfl, by go_num, by rw [take_map Q j (by omega), ← unhide Hx]; exact unhide a1, (unhide Bw).trans (grown_below (grown_trans (grown_of_below (below_new wr _) _) (unhide a2)) (unhide Bw).size (fun k hk => ((unhide G).lt k hk).1))⟩
      case measure => simp [intOf]; omega
    · obtain rfl : j = i := by omega
      have c0 := ((unhide HL).next (unhide Bw)).c0
      obtain ⟨ah, nh, ch, rfl, hnh⟩ := slice_form' (unhide HL).hr
      have Hnh := hide hnh
      have hnh9 : nh < 999999 := by omega
      clear hnh
      go_wp2
      clear c0
      obtain ⟨M0, hM0⟩ : ∃ M0, M0 = (Q.take j).map (·.1) := ⟨_, rfl⟩
      have HM0 := hide hM0
      have hM9 : Hid (M0.length = j) := by show _ = _; rw [hM0, List.length_map, List.length_take]; omega
      rw [← hM0] at G
      clear hM0
      go_loopw [6, 38] (fun s6 s38 wr => ∃ (t n2 : Nat) (ag : Option Addr) (cg : Nat), t ≤ nh ∧ s6 = .slice ag n2 cg ∧ s38 = .int .i64 t ∧ Hid ((M0 ++ ((H.take t).filter (fun x => hindD x y)).map (·.1)).length = n2) ∧ n2 ≤ j + t ∧ Hid (Is w.heap.size (.slice ag n2 cg) (M0 ++ ((H.take t).filter (fun x => hindD x y)).map (·.1)) wr) ∧ Hid (Below w.heap.size w wr)) (fun _ s38 _ => nh - (intOf s38).toNat)
      case atStart => exact ⟨0, j, ag, cg, Nat.zero_le _, rfl, rfl, by show _ = _; simpa using unhide hM9, by omega, by simpa [Hid] using unhide G, unhide Bw⟩
      case round =>
        obtain ⟨t, n2, ag2, cg2, ht, rfl, rfl, hl2, hn2, G2, B2⟩ := hrel
        by_cases hlt2 : t < nh
        · have hlt3 : Hid (t < H.length) := by have := unhide Hnh; show _ < _; omega
          obtain ⟨g2, rfl, r2⟩ : ∃ g2, ah = some ⟨g2, 0, none⟩ ∧ Rb g2 ch H w := by
            rcases (unhide HL).hr with ⟨_, e⟩ | ⟨g', cap', e, _, r⟩
            · have := unhide hlt3; rw [e] at this; simp at this
            · injection e with e1 _ e2
              subst e1 e2
              exact ⟨g', rfl, r⟩
          obtain ⟨x, hx⟩ : ∃ x, x = H.getD t (0, 0) := ⟨_, rfl⟩
          have r3 := r2.next (unhide B2)
          have d1 : wr.cell? ⟨g2, t * 2, none⟩ = some (.int .i64 x.1) := by rw [hx]; exact r3.fst (unhide hlt3)
          have d2 : wr.cell? ⟨g2, t * 2 + 1, none⟩ = some (.int .i64 x.2) := by rw [hx]; exact r3.snd (unhide hlt3)
          have Hx := hide hx
          have hfs := hide (flt_succ (fun x => hindD x y) H t (unhide hlt3))
          obtain ⟨W1, hW1⟩ : ∃ W1, W1 = wr.alloc (.cells #[.int .i64 x.1, .int .i64 x.2] 92) := ⟨_, rfl⟩
          have BW : Below wr.heap.size wr W1 := by rw [hW1]; exact below_new wr _
          have B0 : Below w.heap.size w W1 := below_then (unhide B2) BW
          obtain ⟨k0, k1⟩ := box_cells (w := W1) (p := wr.heap.size) (y := x) (by rw [hW1]; exact box_new wr x)
          have k2 := ((unhide HL).next B0).c1
          have k3 := (B0.cell (p := ⟨g, j * 2, none⟩) (unhide hgw)).trans (unhide F0)
          have k4 := (B0.cell (p := ⟨g, j * 2 + 1, none⟩) (unhide hgw)).trans (unhide F1)
          have hsz1 : Hid (wr.heap.size < W1.heap.size) := by rw [hW1]; show _ < _; simp
          have hbl : Hid (b < W1.heap.size) := ((unhide HL).next B0).lt
          have hgl : Hid (g < W1.heap.size) := Nat.lt_of_lt_of_le (unhide hgw) B0.size
          have HB0 := hide B0
          have HW1 := hide hW1
          have hjq : j < Q.length := hi
          clear hx r2 r3 B0 BW hW1
          go_wp2_with fail
          rw [← unhide HW1]
          clear d1 d2
          go_region_held3 (fun wz => wz.cell? ⟨wr.heap.size, 0, none⟩ = some (.int .i64 x.1) ∧ wz.cell? ⟨wr.heap.size, 1, none⟩ = some (.int .i64 x.2) ∧ wz.cell? ⟨b, 1, none⟩ = some (.slice (some ⟨g, 0, none⟩) Q.length cap) ∧ wz.cell? ⟨g, j * 2, none⟩ = some (.int .i64 y.1) ∧ wz.cell? ⟨g, j * 2 + 1, none⟩ = some (.int .i64 y.2))
            (first | exact ⟨k0, k1, k2, k3, k4⟩ | exact ⟨m0, m1, m2, m3, m4⟩)
            (first | (go_at_call 111; refine Calls.mono (hinders_any x y _) ?_; rintro e w5 ⟨rfl, hb5⟩; have m0 := (hb5.cell (p := ⟨wr.heap.size, 0, none⟩) (unhide hsz1)).trans k0; have m1 := (hb5.cell (p := ⟨wr.heap.size, 1, none⟩) (unhide hsz1)).trans k1; have m2 := (hb5.cell (p := ⟨b, 1, none⟩) (unhide hbl)).trans k2; have m3 := (hb5.cell (p := ⟨g, j * 2, none⟩) (unhide hgl)).trans k3; have m4 := (hb5.cell (p := ⟨g, j * 2 + 1, none⟩) (unhide hgl)).trans k4; replace hb5 := hide hb5))
          have hb6 : Below W1.heap.size W1 w5 := ⟨(unhide hb5).os, (unhide hb5).tape, (unhide hb5).output, (unhide hb5).size, (unhide hb5).block⟩
          have B6 := hide (below_then (unhide HB0) hb6)
          have hbw : Below wr.heap.size wr w5 := below_then (by rw [unhide HW1]; exact below_new wr _) hb6
          have G6 := hide ((unhide G2).next hbw)
          clear hb6 hbw k0 k1 k2 k3 k4 m2 m3 m4
          cases hh : hindD x y
          · have e1 : Hid (((H.take (t + 1)).filter (fun x => hindD x y)).map (·.1) = ((H.take t).filter (fun x => hindD x y)).map (·.1)) := by
              show _ = _
              rw [unhide hfs, ← unhide Hx, hh]; simp
            clear hh
            go_wp2
            go_roundw
            case rel => exact ⟨t + 1, n2, ag2, cg2, by omega, rfl, by go_num, by rw [unhide e1]; exact hl2, by omega, by rw [unhide e1]; exact unhide G6, unhide B6⟩
            case measure => simp [intOf]; omega
          · have e1 : Hid (M0 ++ ((H.take (t + 1)).filter (fun x => hindD x y)).map (·.1) = M0 ++ ((H.take t).filter (fun x => hindD x y)).map (·.1) ++ [x.1]) := by
              show _ = _
              rw [unhide hfs, ← unhide Hx, hh]; simp
            clear hh
            have hn29 : n2 < 10000000 := by omega
            go_wp2_with (at_builtin; refine wpList_push w5 rfl (.tmp 51) (.tmp 54) rfl w.heap.size ag2 n2 cg2 _ x.1 _ rfl rfl rfl (unhide hl2) (unhide G6) (unhide B6).size hn29 ?_; intro g5 cap5 w7 a1 a2; replace a1 := hide a1; replace a2 := hide a2)
            go_roundw
            case rel => exact ⟨t + 1, n2 + 1, some ⟨g5, 0, none⟩, cap5, by omega, rfl, by go_num, by
              show _ = _
              rw [unhide e1, List.length_append, unhide hl2]; rfl, by omega, by rw [unhide e1]; exact unhide a1, (unhide B6).trans (grown_below (unhide a2) (unhide B6).size (fun k hk => ((unhide G6).lt k hk).1))⟩
            case measure => simp [intOf]; omega
        · obtain rfl : t = nh := by omega
          have e9 : Hid (M0 ++ ((H.take t).filter (fun x => hindD x y)).map (·.1) = metD H Q j y) := by
            show _ = _
            have eH : H.take t = H := List.take_of_length_le (by have := unhide Hnh; omega)
            unfold metD
            rw [unhide HM0, eH]
          go_wp2_with fail
          refine (sort_any _ (unhide G2) (by rw [unhide hl2]; omega)).mono ?_
          rintro e w3 ⟨rfl, G3, gr3⟩
          have hl3 := sortI_len (M0 ++ ((H.take t).filter (fun x => hindD x y)).map (·.1))
          have B3 := hide ((unhide B2).trans (grown_below gr3 (unhide B2).size (fun k hk => ((unhide G2).lt k hk).1)))
          have C3 := hide (compact_any _ G3 (by rw [hl3, unhide hl2]; omega))
          have G3h := hide G3
          clear hl3 gr3 G3
          go_wp2_with fail
          refine (unhide C3).mono ?_
          rintro e w4 ⟨v4, rfl, G4, gr4⟩
          have B4 := hide ((unhide B3).trans (grown_below gr4 (unhide B3).size (fun k hk => ((unhide G3h).lt k hk).1)))
          have G4h := hide G4
          clear gr4 G4
          rw [unhide e9] at G4h
          go_wp2
          go_ret
          exact ⟨_, rfl, unhide G4h, unhide B4⟩
set_option maxRecDepth 100000 in
theorem blocks_any (w : World) (h : La B H Q b hv qv w) (hn : H.length + Q.length < 999999) (who : Int) :
    Calls Tryz.prog 91 #[.pointer (some ⟨b, 0, none⟩), .int .i64 who] w fun e w' => ∃ v, e = .returned v ∧ Is w.heap.size v (blocksD who H Q) w' ∧ Below w.heap.size w w' := by
  unfold blocksD
  rcases look_idx (k := who) (l := Q) with ⟨_, e⟩ | ⟨i, hi, _, e, _, _⟩
  · rw [e]
    show Calls Tryz.prog 91 _ w fun e w' => ∃ v, e = .returned v ∧ Is w.heap.size v [] w' ∧ Below w.heap.size w w'
    have HL := hide h
    have He := hide e
    clear h e
    go_enter Tryz.func91, Tryz.ntmps91
    go_wp2_with fail
    refine (place_any w (unhide HL) (by omega) who).mono ?_
    rw [unhide He]
    rintro e w1 ⟨rfl, hb⟩
    have B1 := hide hb
    clear hb
    go_wp2
    go_ret
    exact ⟨_, rfl, is_nil _ _, unhide B1⟩
  · rw [e]
    exact blocks_some w h hn who i hi e
end Go.Proofs.YtgiklggnolbiiaaGreat
