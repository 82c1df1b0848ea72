/- Ask. -/
import Derived.Test.YtmdbmkekdpbliaaWait
namespace Go.Proofs.Ytmdbmkekdpbliaa
open Go.RowKit
variable {B : Nat} {H Q : List En} {b : Nat} {hv qv : Value}

/-- The least above what is held and what is asked for. -/
def goal (held m : Int) : Int := supL [held, m]
/-- May who ask for m? -/
def okD (who m : Int) (Q : List En) : Bool := knownB m && !(m == 0) && (lookD who Q == 0)
/-- What Ask answers, and those that hold and wait behind it. -/
def askD (who m : Int) (H Q : List En) : Int × List En × List En :=
  if okD who m Q then
    let held := lookD who H
    let y : En := (who, goal held m)
    if y.2 == held then (1, H, Q) else if passD held H Q && fitsL y H then (1, putD y H, Q) else (2, H, waitD held y H Q)
  else (0, H, Q)
def AskPost (w : World) (b : Nat) (hv qv : Value) (B : Nat) (r : Int × List En × List En) (e : Ending) (w' : World) : Prop :=
  e = .returned (.int .i64 r.1) ∧ ∃ hv' qv', La B r.2.1 r.2.2 b hv' qv' w' ∧ Mv b hv qv hv' qv' w w'
set_option maxHeartbeats 1000000 in
set_option maxRecDepth 100000 in
theorem ask_bad (w : World) (h : La B H Q b hv qv w) (hQ : Q.length < 999999) (who m : Int) (hk : okD who m Q = false) :
    Calls Try.prog 12 #[.pointer (some ⟨b, 0, none⟩), .int .i64 who, .int .i64 m] w (AskPost w b hv qv B (0, H, Q)) := by
  have HL := hide h
  clear h
  unfold okD at hk
  cases h1 : knownB m
  · clear hk
    go_enter Try.func12, Try.ntmps12
    go_wp2_with fail
    refine (known_any m _).mono ?_
    rw [h1]
    rintro e w' ⟨rfl, rfl⟩
    go_wp2
    go_ret
    exact ⟨rfl, _, _, unhide HL, Mv.of_below (Below.refl _ _)⟩
  · cases h2 : (m == 0)
    · have h3 : (lookD who Q == 0) = false := by simpa [h1, h2] using hk
      clear hk
      go_enter Try.func12, Try.ntmps12
      go_wp2_with fail
      refine (known_any m _).mono ?_
      rw [h1]
      rintro e w' ⟨rfl, rfl⟩
      go_wp2_with fail
      refine (waits_any _ (unhide HL) (by omega) who).mono ?_
      rintro e w2 ⟨rfl, hb⟩
      have HB := hide hb
      have h4 : (lookD who Q != 0) = true := by unfold bne; rw [h3]; rfl
      clear hb
      generalize lookD who Q = z at *
      go_wp2
      go_ret
      exact ⟨rfl, _, _, (unhide HL).next (unhide HB), Mv.of_below (unhide HB)⟩
    · clear hk
      go_enter Try.func12, Try.ntmps12
      go_wp2_with fail
      refine (known_any m _).mono ?_
      rw [h1]
      rintro e w' ⟨rfl, rfl⟩
      go_wp2
      go_ret
      exact ⟨rfl, _, _, unhide HL, Mv.of_below (Below.refl _ _)⟩
set_option maxRecDepth 100000 in
set_option maxHeartbeats 1000000 in
theorem ask_same (w : World) (h : La B H Q b hv qv w) (hH : H.length < 999999) (hQ : Q.length < 999999) (who m held : Int) (hk : okD who m Q = true) (hheld : lookD who H = held) (t : Int) (ht : goal held m = t) (hs : (t == held) = true) :
    Calls Try.prog 12 #[.pointer (some ⟨b, 0, none⟩), .int .i64 who, .int .i64 m] w (AskPost w b hv qv B (1, H, Q)) := by
  obtain ⟨⟨h1, h2⟩, h3⟩ : (knownB m = true ∧ (m == 0) = false) ∧ (lookD who Q == 0) = true := by
    unfold okD at hk
    simpa using hk
  have HL := hide h
  have Ht := hide ht
  have Hh := hide hheld
  clear h hk ht hheld
  go_enter Try.func12, Try.ntmps12
  go_wp2_with fail
  refine (known_any m _).mono ?_
  rw [h1]
  rintro e w0 ⟨rfl, rfl⟩
  go_wp2_with fail
  refine (waits_any _ (unhide HL) (by omega) who).mono ?_
  rintro e w2 ⟨rfl, hb⟩
  have h4 : (lookD who Q != 0) = false := by unfold bne; rw [h3]; rfl
  have B2 := hide hb
  clear hb
  have h5 := hide h3
  clear h3
  generalize lookD who Q = z at h4 ⊢
  go_wp2_with fail
  refine (holds_any _ ((unhide HL).next (unhide B2)) (by omega) who).mono ?_
  rw [unhide Hh]
  rintro e w3 ⟨rfl, hb⟩
  have B3 := hide (below_then (unhide B2) hb)
  clear hb h4
  go_wp2_with fail
  refine (sup_any _ 2 2 [held, m] _ (seg2 w3 held m) (by decide)).mono ?_
  rw [show supL [held, m] = t from unhide Ht]
  rintro e w4 ⟨rfl, rfl⟩
  go_wp2
  go_ret
  exact ⟨rfl, _, _, (unhide HL).next (below_add (below_add (unhide B3) _) _), Mv.of_below (below_add (below_add (unhide B3) _) _)⟩
set_option maxRecDepth 100000 in
set_option maxHeartbeats 1000000 in
theorem ask_hold (w : World) (h : La B H Q b hv qv w) (hH : H.length < 999999) (hQ : Q.length < 999999) (who m held : Int) (hk : okD who m Q = true) (hheld : lookD who H = held) (t : Int) (ht : goal held m = t) (hs : (t == held) = false) (hp : passD held H Q = true) (hf : fitsL (who, t) H = true) :
    Calls Try.prog 12 #[.pointer (some ⟨b, 0, none⟩), .int .i64 who, .int .i64 m] w (AskPost w b hv qv B (1, putD (who, t) H, Q)) := by
  obtain ⟨⟨h1, h2⟩, h3⟩ : (knownB m = true ∧ (m == 0) = false) ∧ (lookD who Q == 0) = true := by
    unfold okD at hk
    simpa using hk
  have HL := hide h
  have Ht := hide ht
  have Hh := hide hheld
  clear h hk ht hheld
  go_enter Try.func12, Try.ntmps12
  go_wp2_with fail
  refine (known_any m _).mono ?_
  rw [h1]
  rintro e w0 ⟨rfl, rfl⟩
  go_wp2_with fail
  refine (waits_any _ (unhide HL) (by omega) who).mono ?_
  rintro e w2 ⟨rfl, hb⟩
  have h4 : (lookD who Q != 0) = false := by unfold bne; rw [h3]; rfl
  have B2 := hide hb
  clear hb
  have h5 := hide h3
  clear h3
  generalize lookD who Q = z at h4 ⊢
  go_wp2_with fail
  refine (holds_any _ ((unhide HL).next (unhide B2)) (by omega) who).mono ?_
  rw [unhide Hh]
  rintro e w3 ⟨rfl, hb⟩
  have B3 := hide (below_then (unhide B2) hb)
  clear hb h4
  go_wp2_with fail
  refine (sup_any _ 2 2 [held, m] _ (seg2 w3 held m) (by decide)).mono ?_
  rw [show supL [held, m] = t from unhide Ht]
  rintro e w4 ⟨rfl, rfl⟩
  obtain ⟨w5, hw5⟩ : ∃ w5, w5 = (w3.alloc (.cells #[.int .i64 held, .int .i64 m] 3)).alloc (.cells #[.int .i64 who, .int .i64 t] 41) := ⟨_, rfl⟩
  have hN : (w3.alloc (.cells #[.int .i64 held, .int .i64 m] 3)).heap.size = w3.heap.size + 1 := by simp
  have bx : w5.heap[w3.heap.size + 1]? = some (.cells #[.int .i64 ((who, t) : En).1, .int .i64 ((who, t) : En).2] 41 (0, 0)) := by rw [hw5, ← hN]; exact box_new _ (who, t)
  have B5 : Hid (Below w0.heap.size w0 w5) := by rw [hw5]; exact below_add (below_add (unhide B3) _) _
  have HW5 := hide hw5
  have Bx := hide bx
  clear bx hw5 hN
  have hsz := hide (heap_lt (unhide Bx))
  have hp2 := hide hp
  clear hp
  go_wp2_with fail
  rw [← unhide HW5]
  refine (pass_any w5 ((unhide HL).next (unhide B5)) (by omega) (by omega) held).mono ?_
  rw [unhide hp2]
  rintro e w6 ⟨rfl, hb⟩
  have B6 := hide (below_then (unhide B5) hb)
  have Bx6 := hide ((hb.block _ (unhide hsz)).trans (unhide Bx))
  obtain ⟨x0, x1⟩ := box_cells (y := (who, t)) (unhide Bx6)
  clear hb
  have hf2 := hide hf
  clear hf
  go_wp2_with fail
  refine (fits_lane w6 ((unhide HL).next (unhide B6)) (by omega) (who, t)).mono ?_
  rw [unhide hf2]
  rintro e w7 ⟨rfl, hb⟩
  have B7 := hide (below_then (unhide B6) hb)
  obtain ⟨y0, y1⟩ := box_cells (y := (who, t)) ((hb.block _ (heap_lt (unhide Bx6))).trans (unhide Bx6))
  clear hb x0 x1
  go_wp2_with fail
  refine (hold_any w7 ((unhide HL).next (unhide B7)) hH (who, t)).mono ?_
  rintro e w8 ⟨rfl, hv', L, M⟩
  have HX := hide (And.intro L M)
  clear L M
  go_wp2
  go_ret
  exact ⟨rfl, _, _, (unhide HX).1, (Mv.of_below (unhide B7)).trans (unhide HX).2⟩
set_option maxRecDepth 100000 in
set_option maxHeartbeats 1000000 in
theorem ask_wait2 (w : World) (h : La B H Q b hv qv w) (hH : H.length < 999999) (hQ : Q.length < 999999) (who m held : Int) (hk : okD who m Q = true) (hheld : lookD who H = held) (t : Int) (ht : goal held m = t) (hs : (t == held) = false) (hp : passD held H Q = true) (hf : fitsL (who, t) H = false) :
    Calls Try.prog 12 #[.pointer (some ⟨b, 0, none⟩), .int .i64 who, .int .i64 m] w (AskPost w b hv qv B (2, H, waitD held (who, t) H Q)) := by
  obtain ⟨⟨h1, h2⟩, h3⟩ : (knownB m = true ∧ (m == 0) = false) ∧ (lookD who Q == 0) = true := by
    unfold okD at hk
    simpa using hk
  have HL := hide h
  have Ht := hide ht
  have Hh := hide hheld
  clear h hk ht hheld
  go_enter Try.func12, Try.ntmps12
  go_wp2_with fail
  refine (known_any m _).mono ?_
  rw [h1]
  rintro e w0 ⟨rfl, rfl⟩
  go_wp2_with fail
  refine (waits_any _ (unhide HL) (by omega) who).mono ?_
  rintro e w2 ⟨rfl, hb⟩
  have h4 : (lookD who Q != 0) = false := by unfold bne; rw [h3]; rfl
  have B2 := hide hb
  clear hb
  have h5 := hide h3
  clear h3
  generalize lookD who Q = z at h4 ⊢
  go_wp2_with fail
  refine (holds_any _ ((unhide HL).next (unhide B2)) (by omega) who).mono ?_
  rw [unhide Hh]
  rintro e w3 ⟨rfl, hb⟩
  have B3 := hide (below_then (unhide B2) hb)
  clear hb h4
  go_wp2_with fail
  refine (sup_any _ 2 2 [held, m] _ (seg2 w3 held m) (by decide)).mono ?_
  rw [show supL [held, m] = t from unhide Ht]
  rintro e w4 ⟨rfl, rfl⟩
  obtain ⟨w5, hw5⟩ : ∃ w5, w5 = (w3.alloc (.cells #[.int .i64 held, .int .i64 m] 3)).alloc (.cells #[.int .i64 who, .int .i64 t] 41) := ⟨_, rfl⟩
  have hN : (w3.alloc (.cells #[.int .i64 held, .int .i64 m] 3)).heap.size = w3.heap.size + 1 := by simp
  have bx : w5.heap[w3.heap.size + 1]? = some (.cells #[.int .i64 ((who, t) : En).1, .int .i64 ((who, t) : En).2] 41 (0, 0)) := by rw [hw5, ← hN]; exact box_new _ (who, t)
  have B5 : Hid (Below w0.heap.size w0 w5) := by rw [hw5]; exact below_add (below_add (unhide B3) _) _
  have HW5 := hide hw5
  have Bx := hide bx
  clear bx hw5 hN
  have hsz := hide (heap_lt (unhide Bx))
  have hp2 := hide hp
  clear hp
  go_wp2_with fail
  rw [← unhide HW5]
  refine (pass_any w5 ((unhide HL).next (unhide B5)) (by omega) (by omega) held).mono ?_
  rw [unhide hp2]
  rintro e w6 ⟨rfl, hb⟩
  have B6 := hide (below_then (unhide B5) hb)
  have Bx6 := hide ((hb.block _ (unhide hsz)).trans (unhide Bx))
  obtain ⟨x0, x1⟩ := box_cells (y := (who, t)) (unhide Bx6)
  clear hb
  have hf2 := hide hf
  clear hf
  go_wp2_with fail
  refine (fits_lane w6 ((unhide HL).next (unhide B6)) (by omega) (who, t)).mono ?_
  rw [unhide hf2]
  rintro e w7 ⟨rfl, hb⟩
  have B7 := hide (below_then (unhide B6) hb)
  obtain ⟨y0, y1⟩ := box_cells (y := (who, t)) ((hb.block _ (heap_lt (unhide Bx6))).trans (unhide Bx6))
  clear hb x0 x1
  go_wp2_with fail
  refine (wait_any w7 ((unhide HL).next (unhide B7)) hH hQ held (who, t)).mono ?_
  rintro e w8 ⟨rfl, qv', L, M⟩
  have HX := hide (And.intro L M)
  clear L M
  go_wp2
  go_ret
  exact ⟨rfl, _, _, (unhide HX).1, (Mv.of_below (unhide B7)).trans (unhide HX).2⟩
set_option maxRecDepth 100000 in
set_option maxHeartbeats 1000000 in
theorem ask_wait1 (w : World) (h : La B H Q b hv qv w) (hH : H.length < 999999) (hQ : Q.length < 999999) (who m held : Int) (hk : okD who m Q = true) (hheld : lookD who H = held) (t : Int) (ht : goal held m = t) (hs : (t == held) = false) (hp : passD held H Q = false) :
    Calls Try.prog 12 #[.pointer (some ⟨b, 0, none⟩), .int .i64 who, .int .i64 m] w (AskPost w b hv qv B (2, H, waitD held (who, t) H Q)) := by
  obtain ⟨⟨h1, h2⟩, h3⟩ : (knownB m = true ∧ (m == 0) = false) ∧ (lookD who Q == 0) = true := by
    unfold okD at hk
    simpa using hk
  have HL := hide h
  have Ht := hide ht
  have Hh := hide hheld
  clear h hk ht hheld
  go_enter Try.func12, Try.ntmps12
  go_wp2_with fail
  refine (known_any m _).mono ?_
  rw [h1]
  rintro e w0 ⟨rfl, rfl⟩
  go_wp2_with fail
  refine (waits_any _ (unhide HL) (by omega) who).mono ?_
  rintro e w2 ⟨rfl, hb⟩
  have h4 : (lookD who Q != 0) = false := by unfold bne; rw [h3]; rfl
  have B2 := hide hb
  clear hb
  have h5 := hide h3
  clear h3
  generalize lookD who Q = z at h4 ⊢
  go_wp2_with fail
  refine (holds_any _ ((unhide HL).next (unhide B2)) (by omega) who).mono ?_
  rw [unhide Hh]
  rintro e w3 ⟨rfl, hb⟩
  have B3 := hide (below_then (unhide B2) hb)
  clear hb h4
  go_wp2_with fail
  refine (sup_any _ 2 2 [held, m] _ (seg2 w3 held m) (by decide)).mono ?_
  rw [show supL [held, m] = t from unhide Ht]
  rintro e w4 ⟨rfl, rfl⟩
  obtain ⟨w5, hw5⟩ : ∃ w5, w5 = (w3.alloc (.cells #[.int .i64 held, .int .i64 m] 3)).alloc (.cells #[.int .i64 who, .int .i64 t] 41) := ⟨_, rfl⟩
  have hN : (w3.alloc (.cells #[.int .i64 held, .int .i64 m] 3)).heap.size = w3.heap.size + 1 := by simp
  have bx : w5.heap[w3.heap.size + 1]? = some (.cells #[.int .i64 ((who, t) : En).1, .int .i64 ((who, t) : En).2] 41 (0, 0)) := by rw [hw5, ← hN]; exact box_new _ (who, t)
  have B5 : Hid (Below w0.heap.size w0 w5) := by rw [hw5]; exact below_add (below_add (unhide B3) _) _
  have HW5 := hide hw5
  have Bx := hide bx
  clear bx hw5 hN
  have hsz := hide (heap_lt (unhide Bx))
  have hp2 := hide hp
  clear hp
  go_wp2_with fail
  rw [← unhide HW5]
  refine (pass_any w5 ((unhide HL).next (unhide B5)) (by omega) (by omega) held).mono ?_
  rw [unhide hp2]
  rintro e w6 ⟨rfl, hb⟩
  have B6 := hide (below_then (unhide B5) hb)
  have Bx6 := hide ((hb.block _ (unhide hsz)).trans (unhide Bx))
  obtain ⟨x0, x1⟩ := box_cells (y := (who, t)) (unhide Bx6)
  clear hb
  go_wp2_with fail
  refine (wait_any w6 ((unhide HL).next (unhide B6)) hH hQ held (who, t)).mono ?_
  rintro e w8 ⟨rfl, qv', L, M⟩
  have HX := hide (And.intro L M)
  clear L M
  go_wp2
  go_ret
  exact ⟨rfl, _, _, (unhide HX).1, (Mv.of_below (unhide B6)).trans (unhide HX).2⟩
theorem ask_any (w : World) (h : La B H Q b hv qv w) (hH : H.length < 999999) (hQ : Q.length < 999999) (who m : Int) :
    Calls Try.prog 12 #[.pointer (some ⟨b, 0, none⟩), .int .i64 who, .int .i64 m] w (AskPost w b hv qv B (askD who m H Q)) := by
  cases hk : okD who m Q
  · have e : askD who m H Q = (0, H, Q) := by unfold askD; rw [hk]; rfl
    rw [e]
    exact ask_bad w h hQ who m hk
  · cases hs : (goal (lookD who H) m == lookD who H)
    · cases hp : passD (lookD who H) H Q
      · have e : askD who m H Q = (2, H, waitD (lookD who H) (who, goal (lookD who H) m) H Q) := by unfold askD; simp [hk, hs, hp]
        rw [e]
        exact ask_wait1 w h hH hQ who m _ hk rfl _ rfl hs hp
      · cases hf : fitsL (who, goal (lookD who H) m) H
        · have e : askD who m H Q = (2, H, waitD (lookD who H) (who, goal (lookD who H) m) H Q) := by unfold askD; simp [hk, hs, hp, hf]
          rw [e]
          exact ask_wait2 w h hH hQ who m _ hk rfl _ rfl hs hp hf
        · have e : askD who m H Q = (1, putD (who, goal (lookD who H) m) H, Q) := by unfold askD; simp [hk, hs, hp, hf]
          rw [e]
          exact ask_hold w h hH hQ who m _ hk rfl _ rfl hs hp hf
    · have e : askD who m H Q = (1, H, Q) := by unfold askD; simp [hk, hs]
      rw [e]
      exact ask_same w h hH hQ who m _ hk rfl _ rfl hs
end Go.Proofs.Ytmdbmkekdpbliaa
