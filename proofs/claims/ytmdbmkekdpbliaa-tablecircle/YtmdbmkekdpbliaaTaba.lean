/- Ask at a table. -/
import Derived.Test.YtmdbmkekdpbliaaTabn
import Derived.Test.YtmdbmkekdpbliaaWcs
namespace Go.Proofs.Ytmdbmkekdpbliaa
open Go.RowKit
variable {B n : Nat} {most : Int} {T : Nat → Lv} {b rb : Nat} {lb : Nat → Nat} {hv qv : Nat → Value}

/-- What speaks against asking: 4 no node, 5 who waits, 1 no mode, 3 no room, 0 nothing. -/
def errD (n : Nat) (most : Int) (T : Nat → Lv) (who node m : Int) : Int :=
  if (decide (0 ≤ node) && decide (node < n)) = false then 4
  else if atW who T n < n then 5
  else if who < 0 ∨ m = 0 ∨ knownB m = false then 1
  else if hasL who (T node.toNat) = false ∧ most ≤ (lenD T n : Int) then 3 else 0
theorem Tb.drewN {w : World} (h : Tb B n most T b rb lb hv qv w) (k : Nat) : Tb B n most T b rb lb hv qv (w.drewN k) := h.next ⟨rfl, rfl, rfl, Nat.le_refl _, fun _ _ => rfl⟩
theorem Tb.drew {w : World} (h : Tb B n most T b rb lb hv qv w) : Tb B n most T b rb lb hv qv w.drew := h.next ⟨rfl, rfl, rfl, Nat.le_refl _, fun _ _ => rfl⟩
theorem Ln.drw {H Q : List En} {w : World} (h : Ln B H Q b w) : Ln B H Q b w.drew := h.next ⟨rfl, rfl, rfl, Nat.le_refl _, fun _ _ => rfl⟩
theorem has_r (w : World) {x : Lv} {l : Nat} (h : Ln B x.1 x.2 l w) (hn : x.1.length < 1000000) (hq : x.2.length < 1000000) (who : Int) {r : Bool} (hr : hasL who x = r) : Calls Try.prog 66 #[.agg #[.pointer (some ⟨l, 0, none⟩)], .int .i64 who] w fun e w' => e = .returned (.bool r) ∧ Below w.heap.size w w' := by
  subst hr; exact has_t w h hn hq who
set_option maxRecDepth 100000 in
set_option maxHeartbeats 2000000 in
theorem may_t (w : World) (h : Tb B n most T b rb lb hv qv w) (hf : Few n 1000 T) (hn : n ≤ 10000) (who node m : Int) :
    Calls Try.prog 64 #[.pointer (some ⟨b, 0, none⟩), .int .i64 who, .int .i64 node, .int .i64 m] w fun e w' => e = .returned (.int .i64 (errD n most T who node m)) ∧ Below w.heap.size w w' := by
  have HT := hide h
  have K := hide (known_t w h node)
  clear h
  unfold errD
  cases hk : (decide (0 ≤ node) && decide (node < n))
  · rw [hk] at K
    rw [if_pos rfl]
    clear hk
    go_enter Try.func64, Try.ntmps64
    go_wp2_with fail
    refine (unhide K).mono ?_
    rintro e w1 ⟨rfl, rfl⟩
    go_wp2
    go_ret
    exact ⟨rfl, Below.refl _ _⟩
  · rw [hk] at K
    rw [if_neg (by decide)]
    obtain ⟨k, rfl⟩ : ∃ k : Nat, node = (k : Int) := ⟨node.toNat, by simp at hk; omega⟩
    have hkn : k < n := by simp at hk; omega
    have e2 : (k : Int).toNat = k := rfl
    rw [e2]
    have W := hide (fun w1 (hb : Below w.heap.size w w1) => waits_tb w1 ((unhide HT).next hb) hf hn who)
    obtain ⟨s, hs⟩ : ∃ s, s = atW who T n := ⟨_, rfl⟩
    rw [← hs] at W ⊢
    clear hk e2
    by_cases hsn : s < n
    · rw [if_pos hsn]
      have hv : waitV who n T s = .tuple #[.agg #[.int .i64 s, .int .i64 (lookD who (T s).2)], .bool true] := by
        unfold waitV; rw [if_pos hsn, if_pos hsn, decide_eq_true hsn]
      rw [hv] at W
      replace hs := hide hs
      clear hv
      go_enter Try.func64, Try.ntmps64
      go_wp2_with fail
      refine (unhide K).mono ?_
      rintro e w1 ⟨rfl, rfl⟩
      go_wp2_with fail
      refine (unhide W _ (Below.refl _ _)).mono ?_
      rintro e w2 ⟨rfl, b2⟩
      have B3 := hide (below_add b2 (.cells #[.int .i64 s, .int .i64 (lookD who (T s).2)] 53))
      clear b2
      go_wp2
      go_ret
      exact ⟨rfl, unhide B3⟩
    · rw [if_neg hsn]
      have hv : waitV who n T s = .tuple #[.agg #[.int .i64 0, .int .i64 0], .bool false] := by
        unfold waitV; rw [if_neg hsn, if_neg hsn, decide_eq_false hsn]
      rw [hv] at W
      replace hs := hide hs
      clear hv hsn
      by_cases hbad : who < 0 ∨ m = 0 ∨ knownB m = false
      · rw [if_pos hbad]
        have hb3 : who < 0 ∨ (0 ≤ who ∧ m = 0) ∨ (0 ≤ who ∧ m ≠ 0 ∧ knownB m = false) := by
          by_cases h1 : who < 0
          · exact .inl h1
          · by_cases h2 : m = 0
            · exact .inr (.inl ⟨by omega, h2⟩)
            · rcases hbad with h | h | h
              · exact absurd h h1
              · exact absurd h h2
              · exact .inr (.inr ⟨by omega, h2, h⟩)
        rcases hb3 with h1 | ⟨h1, rfl⟩ | ⟨h1, h2, h3⟩
        all_goals
          clear hbad
          go_enter Try.func64, Try.ntmps64
          go_wp2_with fail
          refine (unhide K).mono ?_
          rintro e w1 ⟨rfl, rfl⟩
          go_wp2_with fail
          refine (unhide W _ (Below.refl _ _)).mono ?_
          rintro e w2 ⟨rfl, b2⟩
          have B3 := hide (below_add b2 (.cells #[.int .i64 0, .int .i64 0] 53))
          clear b2
          go_wp2_with (first | (go_at_call 41; refine (known_any m _).mono ?_; rw [h3]; rintro e w4 ⟨rfl, rfl⟩))
          go_ret
          exact ⟨rfl, unhide B3⟩
      · rw [if_neg hbad]
        have hw0 : 0 ≤ who := by omega
        have hm0 : m ≠ 0 := fun e => hbad (.inr (.inl e))
        have hkm : knownB m = true := by
          cases e : knownB m
          · exact absurd (.inr (.inr e)) hbad
          · rfl
        have hle := len_le hf n (Nat.le_refl _)
        have hl9 : lenD T n ≤ 20000000 := by
          have : n * (2 * 1000) ≤ 10000 * (2 * 1000) := Nat.mul_le_mul_right _ (by omega)
          omega
        have hm0' : (m == 0) = false := by simpa using hm0
        obtain ⟨f1, f2⟩ := hf k hkn
        replace f1 := hide f1
        replace f2 := hide f2
        clear hbad hle
        obtain ⟨r, hr⟩ : ∃ r : Int, r = (if hasL who (T k) = false ∧ most ≤ (lenD T n : Int) then 3 else 0) := ⟨_, rfl⟩
        rw [← hr]
        replace hr := hide hr
        go_enter Try.func64, Try.ntmps64
        go_wp2_with fail
        refine (unhide K).mono ?_
        rintro e w1 ⟨rfl, rfl⟩
        go_wp2_with fail
        refine (unhide W _ (Below.refl _ _)).mono ?_
        rintro e w2 ⟨rfl, b2⟩
        obtain ⟨W3, hW3⟩ : ∃ W3, W3 = w2.alloc (.cells #[.int .i64 0, .int .i64 0] 53) := ⟨_, rfl⟩
        have B3 := hide (below_add b2 (.cells #[.int .i64 0, .int .i64 0] 53))
        have T3 := (unhide HT).next (unhide B3)
        rw [← hW3] at B3 T3
        have q0 := T3.c0
        have q1 := T3.c1
        have q2 := T3.at_ hkn
        have hbl := hide T3.lt
        have hrl := hide T3.rlt
        have T3h := hide T3
        have L3 := hide (show Ln _ _ _ _ _ from ⟨_, _, T3.ls.la k hkn⟩)
        clear b2 T3
        go_wp2_with (first | (go_at_call 41; refine (known_any m _).mono ?_; rw [hkm]; rintro e w4 ⟨rfl, rfl⟩))
        rw [← hW3]
        replace hW3 := hide hW3
        clear q0 q1 q2
        have TD := (unhide T3h).drew
        have hne : Nonempty (Wc (Tb B n most T b rb lb hv qv) w1) := ⟨⟨_, TD, (unhide B3).drew⟩⟩
        have q0 : ∀ x : Wc (Tb B n most T b rb lb hv qv) w1, x.w.cell? ⟨b, 0, none⟩ = some (.slice (some ⟨rb, 0, none⟩) n n) := fun x => x.ok.c0
        have q1 : ∀ x : Wc (Tb B n most T b rb lb hv qv) w1, x.w.cell? ⟨b, 1, none⟩ = some (.int .i64 most) := fun x => x.ok.c1
        have q2 : ∀ x : Wc (Tb B n most T b rb lb hv qv) w1, x.w.cell? ⟨rb, k, none⟩ = some (.pointer (some ⟨lb k, 0, none⟩)) := fun x => x.ok.at_ hkn
        have cL := hide (fun x : Wc (Tb B n most T b rb lb hv qv) w1 => len_t x.w x.ok hf hn)
        cases hh : hasL who (T k)
        · have cH := hide (fun x : Wc (Tb B n most T b rb lb hv qv) w1 => has_r x.w (x := T k) ⟨_, _, x.ok.ls.la k hkn⟩ (by have := unhide f1; omega) (by have := unhide f2; omega) who hh)
          by_cases hmo : most ≤ (lenD T n : Int)
          · have er : Hid (r = 3) := by show _ = _; rw [unhide hr, hh, if_pos ⟨rfl, hmo⟩]
            clear hh
            refine wp_region_wc (S := Tb B n most T b rb lb hv qv) TD (unhide B3) (by kernel_rfl) (by kernel_rfl) ?_
            try simp only [List.append]
            repeat (go_big_quiet_step (first | (go_at_call 66; with_reducible exact Wc.call (fun _ _ h k => h.next k) (unhide cH _)) | (go_at_call 36; with_reducible exact Wc.call (fun _ _ h k => h.next k) (unhide cL _))))
            refine wpQuiet_nil ?_
            intro w6 hw'
            have b6 : Hid (Below w1.heap.size w1 w6) := by
              obtain ⟨x, hx⟩ := hw'
              rw [hx]
              exact x.bel
            clear hw' q0 q1 q2 hne cL cH TD
            go_wp2
            go_ret
            exact ⟨by rw [unhide er]; rfl, unhide b6⟩
          · have er : Hid (r = 0) := by show _ = _; rw [unhide hr, hh, if_neg (fun e => hmo e.2)]
            clear hh
            refine wp_region_wc (S := Tb B n most T b rb lb hv qv) TD (unhide B3) (by kernel_rfl) (by kernel_rfl) ?_
            try simp only [List.append]
            repeat (go_big_quiet_step (first | (go_at_call 66; with_reducible exact Wc.call (fun _ _ h k => h.next k) (unhide cH _)) | (go_at_call 36; with_reducible exact Wc.call (fun _ _ h k => h.next k) (unhide cL _))))
            refine wpQuiet_nil ?_
            intro w6 hw'
            have b6 : Hid (Below w1.heap.size w1 w6) := by
              obtain ⟨x, hx⟩ := hw'
              rw [hx]
              exact x.bel
            clear hw' q0 q1 q2 hne cL cH TD
            go_wp2
            go_ret
            exact ⟨by rw [unhide er]; rfl, unhide b6⟩
        · have cH := hide (fun x : Wc (Tb B n most T b rb lb hv qv) w1 => has_r x.w (x := T k) ⟨_, _, x.ok.ls.la k hkn⟩ (by have := unhide f1; omega) (by have := unhide f2; omega) who hh)
          have er : Hid (r = 0) := by show _ = _; rw [unhide hr, hh, if_neg (fun e => by cases e.1)]
          clear hh
          refine wp_region_wc (S := Tb B n most T b rb lb hv qv) TD (unhide B3) (by kernel_rfl) (by kernel_rfl) ?_
          try simp only [List.append]
          repeat (go_big_quiet_step (first | (go_at_call 66; with_reducible exact Wc.call (fun _ _ h k => h.next k) (unhide cH _)) | (go_at_call 36; with_reducible exact Wc.call (fun _ _ h k => h.next k) (unhide cL _))))
          refine wpQuiet_nil ?_
          intro w6 hw'
          have b6 : Hid (Below w1.heap.size w1 w6) := by
            obtain ⟨x, hx⟩ := hw'
            rw [hx]
            exact x.bel
          clear hw' q0 q1 q2 hne cL cH TD
          go_wp2
          go_ret
          exact ⟨by rw [unhide er]; rfl, unhide b6⟩
end Go.Proofs.Ytmdbmkekdpbliaa
