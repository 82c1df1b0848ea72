/- The walk of ProgOdd: it answers true. -/
import Derived.Test.YtanieihnkajpdaaDoorPut
namespace Go.Proofs.YtanieihnkajpdaaDoor
open Go.RowKit

theorem set_other {qs : List (In × Value)} {t n : Nat} {q : In × Value} (h : ∀ i, i < n → i ≠ t → (qs.map (·.1)).getD i z0 = cst i) : ∀ i, i < n → i ≠ t → ((qs.set t q).map (·.1)).getD i z0 = cst i := fun i hi e => by
  rw [← h i hi e]
  have e3 : ¬ t = i := fun h => e h.symm
  simp [e3]
theorem lo_one (w : World) (y : Int) : Lo (w.alloc (.cells #[.int .i64 y] 3)) (.slice (some ⟨w.heap.size, 0, none⟩) 1 1) [y] := by
  refine ⟨_, 1, rfl, rfl, .inr ⟨w.heap.size, 1, #[.int .i64 y], rfl, Nat.zero_le _, ?_, Nat.le_refl _, by decide, rfl, rfl⟩⟩
  exact heap_alloc_new w _
theorem set_len {qs : List (In × Value)} {t n : Nat} {q : In × Value} (h : qs.length = n) : (qs.set t q).length = n := by simpa using h
set_option maxRecDepth 100000 in
set_option maxHeartbeats 4000000 in
theorem progOdd_in (n t : Nat) (tt : Int) (w : World) (h1 : 1 ≤ n) (h2 : n ≤ 60) (h3 : t < n) (hr : Vr w) :
    Calls Tryd.prog 5 #[.int .i64 (n : Int), .int .i64 (t : Int), .int .i64 tt] w fun e w' => e = .returned (.bool true) ∧ Below w.heap.size w w' := by
  have hmax : maxLen = 9223372036854775807 := rfl
  have d0 : decide ((n : Int) < 1) = false := decide_eq_false (by omega)
  have d1 : decide (60 < (n : Int)) = false := decide_eq_false (by omega)
  have d2 : decide ((t : Int) < 0) = false := decide_eq_false (by omega)
  have d3 : decide ((n : Int) ≤ (t : Int)) = false := decide_eq_false (by omega)
  have d4 : decide (n ≤ t) = false := decide_eq_false (by omega)
  have tn : (t : Int) < (n : Int) := by omega
  go_enter Tryd.func5, Tryd.ntmps5
  go_wp2_with fail
  refine (first_any _ hr).mono ?_
  rintro e w1 ⟨rfl, hb1⟩
  replace hb1 := hide hb1
  go_wp2_with fail
  go_loopw [7, 8] (fun u i wr => ∃ k : Nat, k ≤ n ∧ i = .int .i64 k ∧ Below w.heap.size w wr ∧ wr.ownsRow w.heap.size 32 5 u k (flat ((List.range k).map cstQ))) (fun _ i _ => n - (RowKit.intOf i).toNat)
  case atStart => exact ⟨0, Nat.zero_le _, rfl, unhide hb1, World.ownsRow_nil _ _ _ _⟩
  case round =>
    obtain ⟨k, hk, rfl, hb, hown⟩ := hrel
    clear hb1
    by_cases hlt : k < n
    · have kd : decide ((k : Int) < (n : Int)) = true := decide_eq_true (by omega)
      have kl : (k : Int) < (n : Int) := by omega
      obtain ⟨y, hy⟩ : ∃ y, bits .and .i64 (k : Int) 3 = y := ⟨_, rfl⟩
      have bA := below_new wr (.cells #[.int .i64 3, .int .i64 y, .int .i64 (k : Int), .int .i64 0, .slice none 0 0] 32)
      have ownA := own_next hown bA
      have gA := below_then hb bA
      have newsA := news_new wr (insC (⟨3, y, (k : Int), 0, []⟩, .slice none 0 0)) 32 1 5 1 wr.heap.size rfl rfl (fun q hq => by
        simp only [insC, List.mem_cons, List.not_mem_nil, or_false] at hq
        rcases hq with rfl | rfl | rfl | rfl | rfl <;> rfl)
      have sA := gA.size
      replace gA := hide gA
      have hy2 := hide hy
      clear hown hb bA
      go_wp2_with (at_builtin; refine wpList_app elIns _ rfl _ _ rfl w.heap.size _ k (flat ((List.range k).map cstQ)) rfl ownA _ 1 (insC (⟨3, y, (k : Int), 0, []⟩, .slice none 0 0)) rfl newsA (by omega) (by omega) sA ?_; intro v6 w6 hown6 hgr6)
      have g6 := hide ((unhide gA).grown hgr6 sA (fun q hq => (ownA.lt q hq).1))
      have hown7 : w6.ownsRow w.heap.size 32 5 v6 (k + 1) (flat ((List.range (k + 1)).map cstQ)) := by
        rw [cst_snoc, flat_append]
        have : flat [cstQ k] = insC (⟨3, y, (k : Int), 0, []⟩, .slice none 0 0) := by simp [flat, cstQ, cst, insC, unhide hy2]
        rw [this]; exact hown6
      replace hown7 := hide hown7
      clear hown6 hgr6 newsA ownA gA
      go_wp2
      go_roundw
      case rel => exact ⟨k + 1, by omega, by go_num, unhide g6, unhide hown7⟩
      case measure => first | omega | (simp; omega) | (simp [RowKit.intOf]; omega)
    · have kd : decide ((k : Int) < (n : Int)) = false := decide_eq_false (by omega)
      obtain rfl : k = n := by omega
      obtain ⟨g, cap, re⟩ : ∃ g cap, u7 = .slice (some ⟨g, 0, none⟩) k cap := by
        rcases hown.2 with ⟨_, e⟩ | ⟨g, cap, cur, e, _⟩
        · omega
        · exact ⟨g, cap, e⟩
      subst re
      have hP : Pq w.heap.size wr g k cap ((List.range k).map cstQ) := ⟨hown, by simp, fun q hq => by
        obtain ⟨i, _, rfl⟩ := List.mem_map.1 hq
        exact lo_nil _⟩
      have hc : ∀ i, i < k → i ≠ t → (((List.range k).map cstQ).map (·.1)).getD i z0 = cst i := fun i hi _ => by simp [hi, cstQ]
      have hc0 := hide (check_cst k h2)
      have hql : ((List.range k).map cstQ).length = k := by simp
      generalize (List.range k).map cstQ = qs at hP hc hc0 hql
      clear hown
      replace hc := hide hc
      replace hql := hide hql
      replace hb := hide hb
      replace hP := hide hP
      go_wp2_with fail
      refine (small_any _).mono ?_
      rintro e w2a ⟨rfl, hba⟩
      have hPa := (unhide hP).next hba
      have gba := below_then (unhide hb) hba
      clear hba hP hb
      have kK := progCheck_any smallC _ _ w2a hPa.ps
      unfold cv at kK
      unfold cv
      rw [unhide hc0] at kK
      replace hPa := hide hPa
      replace gba := hide gba
      go_wp2_with fail
      refine kK.mono ?_
      rintro e w2b ⟨rfl, hbb⟩
      have hP := (unhide hPa).next hbb
      have hb := hide (below_then (unhide gba) hbb)
      clear hbb kK hPa gba
      obtain ⟨⟨_, c0⟩, ⟨_, c1⟩, ⟨_, c2⟩, ⟨_, c3⟩, ⟨_, c4⟩⟩ := hP.cells h3
      have f0 := hP.frozen (t * 5)
      have f1 := hP.frozen (t * 5 + 1)
      have f2 := hP.frozen (t * 5 + 2)
      have f3 := hP.frozen (t * 5 + 3)
      have f4 := hP.frozen (t * 5 + 4)
      have hP2 := hP.put h3 ⟨5, 3, tt, 0, []⟩ (v := .slice none 0 0) (lo_nil _)
      have hb2 := hide (hP.below (unhide hb) t (.int .i64 5) (.int .i64 3) (.int .i64 tt) (.int .i64 0) (.slice none 0 0))
      have hq2 := hide (set_len (t := t) (q := (⟨5, 3, tt, 0, []⟩, .slice none 0 0)) (unhide hql))
      have hc2 := hide (set_other (q := (⟨5, 3, tt, 0, []⟩, .slice none 0 0)) (unhide hc))
      have hv := hide (check_set k t h2 h3 ⟨5, 3, tt, 0, []⟩ (.slice none 0 0) _ (unhide hql) (unhide hc))
      rw [show stB 4 ⟨5, 3, tt, 0, []⟩ t k = (decide ((t : Int) < tt) && decide (tt ≤ (k : Int))) from by simp [stB, wiB]] at hv
      clear hP hb hc hql
      have hc := hc2
      have hql := hq2
      clear hc2 hq2
      replace hP2 := hide hP2
      go_wp2_with fail
      refine (small_any _).mono ?_
      rintro e v3a ⟨rfl, hba⟩
      have hPa := (unhide hP2).next hba
      have gba := below_then (unhide hb2) hba
      clear hba hP2 hb2
      have kK := progCheck_any smallC _ _ v3a hPa.ps
      unfold cv at kK
      unfold cv
      rw [unhide hv] at kK
      replace hPa := hide hPa
      replace gba := hide gba
      go_wp2_with fail
      refine kK.mono ?_
      rintro e v3b ⟨rfl, hbb⟩
      have hP := (unhide hPa).next hbb
      have hb := hide (below_then (unhide gba) hbb)
      clear hbb kK hPa gba
      clear hv c0 c1 c2 c3 c4 f0 f1 f2 f3 f4
      obtain ⟨bb, hbb⟩ : ∃ bb : Bool, (decide ((t : Int) < tt) && decide (tt ≤ (k : Int))) = bb := ⟨_, rfl⟩
      rw [hbb]
      obtain ⟨ev, hev⟩ : ∃ ev : Int, (if bb = true then (0 : Int) else 2) = ev := ⟨_, rfl⟩
      rw [hev]
      have hev2 : (ev == 0) = bb := by rw [← hev]; cases bb <;> rfl
      replace hev := hide hev
      replace hbb := hide hbb
      obtain ⟨⟨_, c0⟩, ⟨_, c1⟩, ⟨_, c2⟩, ⟨_, c3⟩, ⟨_, c4⟩⟩ := hP.cells h3
      have f0 := hP.frozen (t * 5)
      have f1 := hP.frozen (t * 5 + 1)
      have f2 := hP.frozen (t * 5 + 2)
      have f3 := hP.frozen (t * 5 + 3)
      have f4 := hP.frozen (t * 5 + 4)
      have hP2 := hP.put h3 ⟨1, 4, 0, -1, []⟩ (v := .slice none 0 0) (lo_nil _)
      have hb2 := hide (hP.below (unhide hb) t (.int .i64 1) (.int .i64 4) (.int .i64 0) (.int .i64 (-1)) (.slice none 0 0))
      have hq2 := hide (set_len (t := t) (q := (⟨1, 4, 0, -1, []⟩, .slice none 0 0)) (unhide hql))
      have hc2 := hide (set_other (q := (⟨1, 4, 0, -1, []⟩, .slice none 0 0)) (unhide hc))
      have hv := hide (check_set k t h2 h3 ⟨1, 4, 0, -1, []⟩ (.slice none 0 0) _ (unhide hql) (unhide hc))
      rw [show stB 4 ⟨1, 4, 0, -1, []⟩ t k = false from by simp [stB, wiB]] at hv
      clear hP hb hc hql
      have hc := hc2
      have hql := hq2
      clear hc2 hq2
      replace hP2 := hide hP2
      go_wp2_with fail
      refine (small_any _).mono ?_
      rintro e v4a ⟨rfl, hba⟩
      have hPa := (unhide hP2).next hba
      have gba := below_then (unhide hb2) hba
      clear hba hP2 hb2
      have kK := progCheck_any smallC _ _ v4a hPa.ps
      unfold cv at kK
      unfold cv
      rw [unhide hv] at kK
      replace hPa := hide hPa
      replace gba := hide gba
      go_wp2_with fail
      refine kK.mono ?_
      rintro e v4b ⟨rfl, hbb⟩
      have hP := (unhide hPa).next hbb
      have hb := hide (below_then (unhide gba) hbb)
      clear hbb kK hPa gba
      clear hv c0 c1 c2 c3 c4 f0 f1 f2 f3 f4
      simp only [Bool.false_eq_true, if_false]
      obtain ⟨lw, hlw⟩ : ∃ lw, lw = v4b.heap.size := ⟨_, rfl⟩
      have bL := below_new v4b (.cells #[.int .i64 1] 3)
      have loL : Lo (v4b.alloc (.cells #[.int .i64 1] 3)) (.slice (some ⟨v4b.heap.size, 0, none⟩) 1 1) [1] := lo_one v4b 1
      replace hP := hP.next bL
      replace hb := hide (below_then (unhide hb) bL)
      clear bL hlw lw
      obtain ⟨⟨_, c0⟩, ⟨_, c1⟩, ⟨_, c2⟩, ⟨_, c3⟩, ⟨_, c4⟩⟩ := hP.cells h3
      have f0 := hP.frozen (t * 5)
      have f1 := hP.frozen (t * 5 + 1)
      have f2 := hP.frozen (t * 5 + 2)
      have f3 := hP.frozen (t * 5 + 3)
      have f4 := hP.frozen (t * 5 + 4)
      have hP2 := hP.put h3 ⟨4, 0, 9, 0, [1]⟩ (v := .slice (some ⟨v4b.heap.size, 0, none⟩) 1 1) loL
      have hb2 := hide (hP.below (unhide hb) t (.int .i64 4) (.int .i64 0) (.int .i64 9) (.int .i64 0) (.slice (some ⟨v4b.heap.size, 0, none⟩) 1 1))
      have hq2 := hide (set_len (t := t) (q := (⟨4, 0, 9, 0, [1]⟩, .slice (some ⟨v4b.heap.size, 0, none⟩) 1 1)) (unhide hql))
      have hc2 := hide (set_other (q := (⟨4, 0, 9, 0, [1]⟩, .slice (some ⟨v4b.heap.size, 0, none⟩) 1 1)) (unhide hc))
      have hv := hide (check_set k t h2 h3 ⟨4, 0, 9, 0, [1]⟩ (.slice (some ⟨v4b.heap.size, 0, none⟩) 1 1) _ (unhide hql) (unhide hc))
      rw [show stB 4 ⟨4, 0, 9, 0, [1]⟩ t k = false from by simp [stB, reB, knownB]] at hv
      clear hP hb hc hql
      have hc := hc2
      have hql := hq2
      clear hc2 hq2
      replace hP2 := hide hP2
      go_wp2_with fail
      refine (small_any _).mono ?_
      rintro e v5a ⟨rfl, hba⟩
      have hPa := (unhide hP2).next hba
      have gba := below_then (unhide hb2) hba
      clear hba hP2 hb2
      have kK := progCheck_any smallC _ _ v5a hPa.ps
      unfold cv at kK
      unfold cv
      rw [unhide hv] at kK
      replace hPa := hide hPa
      replace gba := hide gba
      go_wp2_with fail
      refine kK.mono ?_
      rintro e v5b ⟨rfl, hbb⟩
      have hP := (unhide hPa).next hbb
      have hb := hide (below_then (unhide gba) hbb)
      clear hbb kK hPa gba
      clear hv c0 c1 c2 c3 c4 f0 f1 f2 f3 f4
      clear loL
      simp only [Bool.false_eq_true, if_false]
      obtain ⟨lw, hlw⟩ : ∃ lw, lw = v5b.heap.size := ⟨_, rfl⟩
      have bL := below_new v5b (.cells #[.int .i64 1] 3)
      have loL : Lo (v5b.alloc (.cells #[.int .i64 1] 3)) (.slice (some ⟨v5b.heap.size, 0, none⟩) 1 1) [1] := lo_one v5b 1
      replace hP := hP.next bL
      replace hb := hide (below_then (unhide hb) bL)
      clear bL hlw lw
      obtain ⟨⟨_, c0⟩, ⟨_, c1⟩, ⟨_, c2⟩, ⟨_, c3⟩, ⟨_, c4⟩⟩ := hP.cells h3
      have f0 := hP.frozen (t * 5)
      have f1 := hP.frozen (t * 5 + 1)
      have f2 := hP.frozen (t * 5 + 2)
      have f3 := hP.frozen (t * 5 + 3)
      have f4 := hP.frozen (t * 5 + 4)
      have hP2 := hP.put h3 ⟨6, 0, 0, 0, [1]⟩ (v := .slice (some ⟨v5b.heap.size, 0, none⟩) 1 1) loL
      have hb2 := hide (hP.below (unhide hb) t (.int .i64 6) (.int .i64 0) (.int .i64 0) (.int .i64 0) (.slice (some ⟨v5b.heap.size, 0, none⟩) 1 1))
      have hq2 := hide (set_len (t := t) (q := (⟨6, 0, 0, 0, [1]⟩, .slice (some ⟨v5b.heap.size, 0, none⟩) 1 1)) (unhide hql))
      have hc2 := hide (set_other (q := (⟨6, 0, 0, 0, [1]⟩, .slice (some ⟨v5b.heap.size, 0, none⟩) 1 1)) (unhide hc))
      have hv := hide (check_set k t h2 h3 ⟨6, 0, 0, 0, [1]⟩ (.slice (some ⟨v5b.heap.size, 0, none⟩) 1 1) _ (unhide hql) (unhide hc))
      rw [show stB 4 ⟨6, 0, 0, 0, [1]⟩ t k = false from by simp [stB]] at hv
      clear hP hb hc hql
      have hc := hc2
      have hql := hq2
      clear hc2 hq2
      replace hP2 := hide hP2
      go_wp2_with fail
      refine (small_any _).mono ?_
      rintro e v6a ⟨rfl, hba⟩
      have hPa := (unhide hP2).next hba
      have gba := below_then (unhide hb2) hba
      clear hba hP2 hb2
      have kK := progCheck_any smallC _ _ v6a hPa.ps
      unfold cv at kK
      unfold cv
      rw [unhide hv] at kK
      replace hPa := hide hPa
      replace gba := hide gba
      go_wp2_with fail
      refine kK.mono ?_
      rintro e v6b ⟨rfl, hbb⟩
      have hP := (unhide hPa).next hbb
      have hb := hide (below_then (unhide gba) hbb)
      clear hbb kK hPa gba
      clear hv c0 c1 c2 c3 c4 f0 f1 f2 f3 f4
      clear loL
      simp only [Bool.false_eq_true, if_false]
      obtain ⟨⟨_, c0⟩, ⟨_, c1⟩, ⟨_, c2⟩, ⟨_, c3⟩, ⟨_, c4⟩⟩ := hP.cells h3
      have f0 := hP.frozen (t * 5)
      have f1 := hP.frozen (t * 5 + 1)
      have f2 := hP.frozen (t * 5 + 2)
      have f3 := hP.frozen (t * 5 + 3)
      have f4 := hP.frozen (t * 5 + 4)
      have hP2 := hP.put h3 ⟨7, -9, tt, 77, []⟩ (v := .slice none 0 0) (lo_nil _)
      have hb2 := hide (hP.below (unhide hb) t (.int .i64 7) (.int .i64 (-9)) (.int .i64 tt) (.int .i64 77) (.slice none 0 0))
      have hv := hide (check_set k t h2 h3 ⟨7, -9, tt, 77, []⟩ (.slice none 0 0) _ (unhide hql) (unhide hc))
      rw [show stB 4 ⟨7, -9, tt, 77, []⟩ t k = true from by simp [stB]] at hv
      clear hP hb hc hql
      replace hP2 := hide hP2
      go_wp2_with fail
      refine (first_any _ (hr.next (unhide hb2))).mono ?_
      rintro e w8 ⟨rfl, hb8⟩
      have hP8 := (unhide hP2).next hb8
      have g8 := hide (below_then (unhide hb2) hb8)
      clear hb8 hP2 hb2 c0 c1 c2 c3 c4 f0 f1 f2 f3 f4
      have eb := (unhide hbb).symm
      clear hbb hev hev2
      replace hP8 := hide hP8
      by_cases q1 : (t : Int) < tt
      · have d5 : decide ((t : Int) < tt) = true := decide_eq_true q1
        by_cases q2 : tt ≤ (k : Int)
        · have d6 : decide (tt ≤ (k : Int)) = true := decide_eq_true q2
          obtain rfl : bb = true := by rw [eb]; rw [d5, d6]; rfl
          clear eb
          go_wp2_with fail
          refine (small_any _).mono ?_
          rintro e w9 ⟨rfl, hb9⟩
          have hP9 := (unhide hP8).next hb9
          have g9 := hide (below_then (unhide g8) hb9)
          have kK := progCheck_any smallC _ _ w9 hP9.ps
          unfold cv at kK
          unfold cv
          rw [unhide hv] at kK
          clear hb9 hP8 g8 hP9
          go_wp2_with fail
          refine kK.mono ?_
          rintro e w10 ⟨rfl, hb10⟩
          have g10 := hide (below_then (unhide g9) hb10)
          clear hb10 kK
          go_wp2
          go_ret
          exact ⟨rfl, unhide g10⟩
        · have d6 : decide (tt ≤ (k : Int)) = false := decide_eq_false q2
          obtain rfl : bb = false := by rw [eb]; rw [d5, d6]; rfl
          clear eb
          go_wp2_with fail
          refine (small_any _).mono ?_
          rintro e w9 ⟨rfl, hb9⟩
          have hP9 := (unhide hP8).next hb9
          have g9 := hide (below_then (unhide g8) hb9)
          have kK := progCheck_any smallC _ _ w9 hP9.ps
          unfold cv at kK
          unfold cv
          rw [unhide hv] at kK
          clear hb9 hP8 g8 hP9
          go_wp2_with fail
          refine kK.mono ?_
          rintro e w10 ⟨rfl, hb10⟩
          have g10 := hide (below_then (unhide g9) hb10)
          clear hb10 kK
          go_wp2
          go_ret
          exact ⟨rfl, unhide g10⟩
      · have d5 : decide ((t : Int) < tt) = false := decide_eq_false q1
        obtain rfl : bb = false := by rw [eb]; rw [d5]; rfl
        clear eb
        go_wp2_with fail
        refine (small_any _).mono ?_
        rintro e w9 ⟨rfl, hb9⟩
        have hP9 := (unhide hP8).next hb9
        have g9 := hide (below_then (unhide g8) hb9)
        have kK := progCheck_any smallC _ _ w9 hP9.ps
        unfold cv at kK
        unfold cv
        rw [unhide hv] at kK
        clear hb9 hP8 g8 hP9
        go_wp2_with fail
        refine kK.mono ?_
        rintro e w10 ⟨rfl, hb10⟩
        have g10 := hide (below_then (unhide g9) hb10)
        clear hb10 kK
        go_wp2
        go_ret
        exact ⟨rfl, unhide g10⟩
set_option maxRecDepth 100000 in
theorem progOdd_walk (n t tt : Int) (w : World) (hr : Vr w) :
    Calls Tryd.prog 5 #[.int .i64 n, .int .i64 t, .int .i64 tt] w fun e w' => e = .returned (.bool true) ∧ Below w.heap.size w w' := by
  by_cases hA : 1 ≤ n ∧ n ≤ 60 ∧ 0 ≤ t ∧ t < n
  · obtain ⟨h1, h2, h3, h4⟩ := hA
    obtain ⟨n, rfl⟩ := Int.eq_ofNat_of_zero_le (show 0 ≤ n by omega)
    obtain ⟨t, rfl⟩ := Int.eq_ofNat_of_zero_le h3
    exact progOdd_in n t tt w (by omega) (by omega) (by omega) hr
  · have hA2 := hide hA
    clear hA
    go_enter Tryd.func5, Tryd.ntmps5
    go_wp2_with fail
    refine (first_any _ hr).mono ?_
    rintro e w1 ⟨rfl, hb1⟩
    replace hb1 := hide hb1
    rcases Bool.eq_false_or_eq_true (decide (n < 1)) with d0 | d0
    · go_wp2_with fail
      refine (first_any _ (hr.next (unhide hb1))).mono ?_
      rintro e w2 ⟨rfl, hb2⟩
      have g2 := hide (below_then (unhide hb1) hb2)
      clear hb2
      go_wp2
      go_ret
      exact ⟨rfl, unhide g2⟩
    rcases Bool.eq_false_or_eq_true (decide (60 < n)) with d1 | d1
    · go_wp2_with fail
      refine (first_any _ (hr.next (unhide hb1))).mono ?_
      rintro e w2 ⟨rfl, hb2⟩
      have g2 := hide (below_then (unhide hb1) hb2)
      clear hb2
      go_wp2
      go_ret
      exact ⟨rfl, unhide g2⟩
    rcases Bool.eq_false_or_eq_true (decide (t < 0)) with d2 | d2
    · go_wp2_with fail
      refine (first_any _ (hr.next (unhide hb1))).mono ?_
      rintro e w2 ⟨rfl, hb2⟩
      have g2 := hide (below_then (unhide hb1) hb2)
      clear hb2
      go_wp2
      go_ret
      exact ⟨rfl, unhide g2⟩
    rcases Bool.eq_false_or_eq_true (decide (n ≤ t)) with d3 | d3
    · go_wp2_with fail
      refine (first_any _ (hr.next (unhide hb1))).mono ?_
      rintro e w2 ⟨rfl, hb2⟩
      have g2 := hide (below_then (unhide hb1) hb2)
      clear hb2
      go_wp2
      go_ret
      exact ⟨rfl, unhide g2⟩
    exfalso
    have hA := unhide hA2
    apply hA
    simp at d0 d1 d2 d3
    omega
end Go.Proofs.YtanieihnkajpdaaDoor
