/- The walk of ModeSups. -/
import Derived.Test.YtjbhakimakfliaaOwn
namespace Go.Proofs.Ytjbhakimakfliaa
open Go.RowKit

set_option maxRecDepth 20000 in
set_option maxHeartbeats 4000000 in
theorem modeSups_walk (x : Option Addr) (len cap : Nat) (l : List Int) (w : World) (hs : SegK .i64 w x len l) (hlc : len ≤ cap) (hm : cap ≤ maxLen) (hnil : x = none → cap = 0) (_ : ∀ n ∈ l, (Lit.int .i64 n).wf = true) :
    Calls Try.prog 7 #[.slice x len cap] w fun e w' => e = .returned (.bool true) ∧ Below w.heap.size w w' := by
  have Hlm := hide (Nat.le_trans hlc hm)
  have Hs := hide hs
  have Hnil := hide hnil
  have Hlen := hide hs.1
  clear hs hlc hm hnil
  go_enter Try.func7, Try.ntmps7
  go_wp2_with fail
  refine (first_any _).mono ?_
  rintro e w1 ⟨rfl, hb⟩
  have Hl := hide hb
  clear hb
  rcases Nat.lt_or_ge 50 len with hlen | hlen
  · have hd : decide ((50 : Int) < len) = true := decide_eq_true (by omega)
    go_wp2_with fail
    refine (first_any _).mono ?_
    rintro e w2 ⟨rfl, hb⟩
    go_wp2
    go_ret
    exact ⟨rfl, below_then (unhide Hl) hb⟩
  have hd : decide ((50 : Int) < len) = false := decide_eq_false (by omega)
  go_wp2_with fail
  go_loop [3] (fun i => ∃ k : Nat, k ≤ len ∧ i = .int .i64 k ∧ Hid (∀ j, j < k → knownB (l.getD j 0) = true)) (fun i => len - (intOf i).toNat)
  case atStart => exact ⟨0, Nat.zero_le _, rfl, fun j hj => absurd hj (Nat.not_lt_zero _)⟩
  case round =>
    obtain ⟨k, hk, rfl, Hk⟩ := hrel
    by_cases hlt : k < len
    · obtain ⟨b, off, rfl, hcell⟩ := ((unhide Hs).later (unhide Hl)).at hlt
      obtain ⟨y, hy⟩ : ∃ y, y = l.getD k 0 := ⟨_, rfl⟩
      rw [← hy] at hcell
      have Hy := hide hy
      clear hy
      cases hkn : knownB y
      · have K := hide hkn
        clear hkn
        have HB := hide (sup_bad (l := l) (x := y) (by rw [unhide Hy]; exact mem_at (by rw [unhide Hlen]; exact hlt)) (unhide K))
        go_wp2_with fail
        refine (known_any y _).mono ?_
        rw [unhide K]
        rintro e w' ⟨rfl, rfl⟩
        go_wp2_with fail
        refine (first_any _).mono ?_
        rintro e w2 ⟨rfl, hb⟩
        replace Hl := hide (below_then (unhide Hl) hb)
        clear hb hcell
        go_wp2_with fail
        refine (sup_any _ _ _ l _ ((unhide Hs).later (unhide Hl)) (unhide Hlm)).mono ?_
        rw [unhide HB]
        rintro e w' ⟨rfl, rfl⟩
        go_wp2
        go_ret
        exact ⟨rfl, unhide Hl⟩
      · have K := hide hkn
        clear hkn
        go_wp2_with fail
        refine (known_any y _).mono ?_
        rw [unhide K]
        rintro e w' ⟨rfl, rfl⟩
        go_wp2
        go_round
        case rel => exact ⟨k + 1, by omega, by go_num, hide fun j hj => by
          rcases (show j < k ∨ j = k by omega) with h | rfl
          · exact unhide Hk j h
          · rw [← unhide Hy]; exact unhide K⟩
        case measure => simp [intOf]; omega
    · obtain ⟨f1, f2, f3, f4⟩ := sups_facts (l := l) (fun j hj => unhide Hk j (by rw [unhide Hlen] at hj; omega))
      have F1 := hide f1
      have F2 := hide f2
      have F3 := hide f3
      have F4 := hide f4
      clear f1 f2 f3 f4 Hk
      go_wp2_with fail
      refine (sup_any _ _ _ l _ ((unhide Hs).later (unhide Hl)) (unhide Hlm)).mono ?_
      generalize supL l = s at *
      rintro e w' ⟨rfl, rfl⟩
      go_wp2_with fail
      go_loopw [5] (fun i wr => ∃ k : Nat, k ≤ len ∧ i = .int .i64 k ∧ Hid (Below w.heap.size w wr)) (fun i _ => len - (intOf i).toNat)
      case atStart => exact ⟨0, Nat.zero_le _, rfl, Hl⟩
      case round =>
        clear Hl
        obtain ⟨k2, hk2, rfl, Hl⟩ := hrel
        by_cases hlt2 : k2 < len
        · obtain ⟨b, off, rfl, hcell⟩ := ((unhide Hs).later (unhide Hl)).at hlt2
          have E := hide (unhide F1 k2 (by rw [unhide Hlen]; exact hlt2))
          generalize l.getD k2 0 = y at *
          go_wp2_with fail
          refine (covers_any s y _).mono ?_
          rw [unhide E]
          rintro e w2 ⟨rfl, hb⟩
          replace Hl := hide (below_then (unhide Hl) hb)
          clear hb hcell
          go_wp2
          go_roundw
          case rel => exact ⟨k2 + 1, by omega, by go_num, Hl⟩
          case measure => simp [intOf]; omega
        · go_wp2_with fail
          go_loopw [6] (fun m wr => ∃ k : Nat, k ≤ 6 ∧ m = .int .i64 k ∧ Hid (Below w.heap.size w wr)) (fun m _ => 6 - (intOf m).toNat)
          case atStart => exact ⟨0, Nat.zero_le _, rfl, Hl⟩
          case round =>
            clear Hl
            obtain ⟨m, hm6, rfl, Hl⟩ := hrel
            by_cases hmlt : m < 6
            · have hmd : decide ((m : Int) < 6) = true := decide_eq_true (by omega)
              go_wp2_with fail
              go_loopw [7, 8] (fun ab i wr => ∃ n : Nat, n ≤ len ∧ i = .int .i64 n ∧ ab = .bool (allTo m l n) ∧ Hid (Below w.heap.size w wr)) (fun _ i _ => len - (intOf i).toNat)
              case atStart => exact ⟨0, Nat.zero_le _, rfl, rfl, Hl⟩
              case round =>
                clear Hl
                obtain ⟨n, hn, rfl, rfl, Hl⟩ := hrel
                by_cases hnlt : n < len
                · obtain ⟨b, off, rfl, hcell⟩ := ((unhide Hs).later (unhide Hl)).at hnlt
                  have E := hide (allTo_succ m l n (by rw [unhide Hlen]; exact hnlt))
                  generalize l.getD n 0 = y at *
                  generalize allTo m l n = ab at *
                  cases ab
                  · go_wp2
                    go_roundw
                    case rel => exact ⟨n + 1, by omega, by go_num, by rw [unhide E]; rfl, Hl⟩
                    case measure => simp [intOf]; omega
                  · go_wp2_with fail
                    refine (covers_any m y _).mono ?_
                    rintro e w2 ⟨rfl, hb⟩
                    replace Hl := hide (below_then (unhide Hl) hb)
                    clear hb hcell
                    go_wp2
                    go_roundw
                    case rel => exact ⟨n + 1, by omega, by go_num, by rw [unhide E]; rfl, Hl⟩
                    case measure => simp [intOf]; omega
                · cases hab : allTo m l n
                  · go_wp2
                    go_roundw
                    case rel => exact ⟨m + 1, by omega, by go_num, Hl⟩
                    case measure => simp [intOf]; omega
                  · have E := hide (unhide F2 m (known_iff.2 (by omega)) (allTo_all (by rw [unhide Hlen]; exact hnlt) hab))
                    go_wp2_with fail
                    refine (covers_any m s _).mono ?_
                    rw [unhide E]
                    rintro e w2 ⟨rfl, hb⟩
                    replace Hl := hide (below_then (unhide Hl) hb)
                    clear hb
                    go_wp2
                    go_roundw
                    case rel => exact ⟨m + 1, by omega, by go_num, Hl⟩
                    case measure => simp [intOf]; omega
            · obtain rfl : m = 6 := by omega
              go_wp2_with fail
              refine (first_any _).mono ?_
              rintro e w2 ⟨rfl, hb⟩
              replace Hl := hide (below_then (unhide Hl) hb)
              clear hb
              go_wp2_with (at_builtin; refine wpList_append_seg _ (by rfl) _ _ rfl w2.heap.size _ 1 [0] rfl (owns_one w2 0 _ (Nat.le_refl _)) x len cap l rfl ((unhide Hs).later (below_add (unhide Hl) _)) (unhide Hnil) ?c2 ?c3 ?_)
              case c2 => omega
              case c3 => simp
              intro v3 w3 hown hgr
              have hb : Below w2.heap.size w2 w3 := (below_new w2 _).grown hgr (by simp) (fun q hq => by simp [Value.ownBlock] at hq; omega)
              replace Hl := hide (below_then (unhide Hl) hb)
              obtain ⟨a3, cap3, rfl, _, _, hs3⟩ := owns_seg hown
              clear hown hgr hb
              have Hs3 := hide hs3
              clear hs3
              go_wp2_with fail
              refine (sup_any a3 (1 + len) cap3 (0 :: l) _ (unhide Hs3) (by unfold maxLen; omega)).mono ?_
              rw [unhide F3]
              rintro e w' ⟨rfl, rfl⟩
              go_wp2_with (at_builtin; refine wpList_append_seg _ (by rfl) _ _ rfl w'.heap.size _ 1 [s] rfl (owns_one w' s _ (Nat.le_refl _)) x len cap l rfl ((unhide Hs).later (below_add (unhide Hl) _)) (unhide Hnil) ?c2 ?c3 ?_)
              case c2 => omega
              case c3 => simp
              intro v4 w4 hown hgr
              have hb : Below w'.heap.size w' w4 := (below_new w' _).grown hgr (by simp) (fun q hq => by simp [Value.ownBlock] at hq; omega)
              replace Hl := hide (below_then (unhide Hl) hb)
              obtain ⟨a4, cap4, rfl, _, _, hs4⟩ := owns_seg hown
              clear hown hgr hb
              have Hs4 := hide hs4
              clear hs4
              go_wp2_with fail
              refine (sup_any a4 (1 + len) cap4 (s :: l) _ (unhide Hs4) (by unfold maxLen; omega)).mono ?_
              rw [unhide F4]
              rintro e w' ⟨rfl, rfl⟩
              go_wp2
              go_ret
              exact ⟨rfl, unhide Hl⟩
end Go.Proofs.Ytjbhakimakfliaa
