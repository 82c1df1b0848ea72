/- What Check of package shape answers. -/
import Derived.Test.YtdhfpfkcbcgnaaaConf
namespace Go.Proofs.Ytdhfpfkcbcgnaaa
open Go.RowKit

def heapB (c : Cf) : Bool := inB c.r 1 8 && (inB c.o 1 8 && (inB c.s 1 8 && (inB c.d 1 8)))
theorem heapFits_any (c : Cf) (w : World) : Calls Try.prog 39 #[cv c] w fun e w' => e = .returned (.bool (heapB c)) ∧ Below w.heap.size w w' := by
  cases h0 : inB c.r 1 8
  · have eb : heapB c = false := by simp only [heapB, h0]; rfl
    rw [eb]
    clear eb
    have H0' := hide h0
    clear h0
    unfold cv
    go_enter Try.func39, Try.ntmps39
    go_wp2_with fail
    refine (within_any _ _ _ _).mono ?_
    rw [unhide H0']
    rintro e w1 ⟨rfl, rfl⟩
    go_wp2
    go_ret
    exact ⟨rfl, below_new _ _⟩
  ·
    cases h1 : inB c.o 1 8
    · have eb : heapB c = false := by simp only [heapB, h0, h1]; rfl
      rw [eb]
      clear eb
      have H0' := hide h0
      have H1' := hide h1
      clear h0 h1
      unfold cv
      go_enter Try.func39, Try.ntmps39
      go_wp2_with fail
      refine (within_any _ _ _ _).mono ?_
      rw [unhide H0']
      rintro e w1 ⟨rfl, rfl⟩
      go_wp2_with fail
      refine (within_any _ _ _ _).mono ?_
      rw [unhide H1']
      rintro e w1 ⟨rfl, rfl⟩
      go_wp2
      go_ret
      exact ⟨rfl, below_new _ _⟩
    ·
      cases h2 : inB c.s 1 8
      · have eb : heapB c = false := by simp only [heapB, h0, h1, h2]; rfl
        rw [eb]
        clear eb
        have H0' := hide h0
        have H1' := hide h1
        have H2' := hide h2
        clear h0 h1 h2
        unfold cv
        go_enter Try.func39, Try.ntmps39
        go_wp2_with fail
        refine (within_any _ _ _ _).mono ?_
        rw [unhide H0']
        rintro e w1 ⟨rfl, rfl⟩
        go_wp2_with fail
        refine (within_any _ _ _ _).mono ?_
        rw [unhide H1']
        rintro e w1 ⟨rfl, rfl⟩
        go_wp2_with fail
        refine (within_any _ _ _ _).mono ?_
        rw [unhide H2']
        rintro e w1 ⟨rfl, rfl⟩
        go_wp2
        go_ret
        exact ⟨rfl, below_new _ _⟩
      ·
        cases h3 : inB c.d 1 8
        · have eb : heapB c = false := by simp only [heapB, h0, h1, h2, h3]; rfl
          rw [eb]
          clear eb
          have H0' := hide h0
          have H1' := hide h1
          have H2' := hide h2
          have H3' := hide h3
          clear h0 h1 h2 h3
          unfold cv
          go_enter Try.func39, Try.ntmps39
          go_wp2_with fail
          refine (within_any _ _ _ _).mono ?_
          rw [unhide H0']
          rintro e w1 ⟨rfl, rfl⟩
          go_wp2_with fail
          refine (within_any _ _ _ _).mono ?_
          rw [unhide H1']
          rintro e w1 ⟨rfl, rfl⟩
          go_wp2_with fail
          refine (within_any _ _ _ _).mono ?_
          rw [unhide H2']
          rintro e w1 ⟨rfl, rfl⟩
          go_wp2_with fail
          refine (within_any _ _ _ _).mono ?_
          rw [unhide H3']
          rintro e w1 ⟨rfl, rfl⟩
          go_wp2
          go_ret
          exact ⟨rfl, below_new _ _⟩
        ·
          have eb : heapB c = true := by simp only [heapB, h0, h1, h2, h3]; rfl
          rw [eb]
          clear eb
          have H0' := hide h0
          have H1' := hide h1
          have H2' := hide h2
          have H3' := hide h3
          clear h0 h1 h2 h3
          unfold cv
          go_enter Try.func39, Try.ntmps39
          go_wp2_with fail
          refine (within_any _ _ _ _).mono ?_
          rw [unhide H0']
          rintro e w1 ⟨rfl, rfl⟩
          go_wp2_with fail
          refine (within_any _ _ _ _).mono ?_
          rw [unhide H1']
          rintro e w1 ⟨rfl, rfl⟩
          go_wp2_with fail
          refine (within_any _ _ _ _).mono ?_
          rw [unhide H2']
          rintro e w1 ⟨rfl, rfl⟩
          go_wp2_with fail
          refine (within_any _ _ _ _).mono ?_
          rw [unhide H3']
          rintro e w1 ⟨rfl, rfl⟩
          go_wp2
          go_ret
          exact ⟨rfl, below_new _ _⟩

def roomB (c : Cf) : Bool := inB c.t 1 64 && (inB c.l 0 48 && (inB c.g 1 8 && (inB c.k 1 4096 && (inB c.u 1 1000 && (inB c.e 0 64 && (inB c.i 1 10000))))))
theorem roomFits_any (c : Cf) (w : World) : Calls Try.prog 40 #[cv c] w fun e w' => e = .returned (.bool (roomB c)) ∧ Below w.heap.size w w' := by
  cases h0 : inB c.t 1 64
  · have eb : roomB c = false := by simp only [roomB, h0]; rfl
    rw [eb]
    clear eb
    have H0' := hide h0
    clear h0
    unfold cv
    go_enter Try.func40, Try.ntmps40
    go_wp2_with fail
    refine (within_any _ _ _ _).mono ?_
    rw [unhide H0']
    rintro e w1 ⟨rfl, rfl⟩
    go_wp2
    go_ret
    exact ⟨rfl, below_new _ _⟩
  ·
    cases h1 : inB c.l 0 48
    · have eb : roomB c = false := by simp only [roomB, h0, h1]; rfl
      rw [eb]
      clear eb
      have H0' := hide h0
      have H1' := hide h1
      clear h0 h1
      unfold cv
      go_enter Try.func40, Try.ntmps40
      go_wp2_with fail
      refine (within_any _ _ _ _).mono ?_
      rw [unhide H0']
      rintro e w1 ⟨rfl, rfl⟩
      go_wp2_with fail
      refine (within_any _ _ _ _).mono ?_
      rw [unhide H1']
      rintro e w1 ⟨rfl, rfl⟩
      go_wp2
      go_ret
      exact ⟨rfl, below_new _ _⟩
    ·
      cases h2 : inB c.g 1 8
      · have eb : roomB c = false := by simp only [roomB, h0, h1, h2]; rfl
        rw [eb]
        clear eb
        have H0' := hide h0
        have H1' := hide h1
        have H2' := hide h2
        clear h0 h1 h2
        unfold cv
        go_enter Try.func40, Try.ntmps40
        go_wp2_with fail
        refine (within_any _ _ _ _).mono ?_
        rw [unhide H0']
        rintro e w1 ⟨rfl, rfl⟩
        go_wp2_with fail
        refine (within_any _ _ _ _).mono ?_
        rw [unhide H1']
        rintro e w1 ⟨rfl, rfl⟩
        go_wp2_with fail
        refine (within_any _ _ _ _).mono ?_
        rw [unhide H2']
        rintro e w1 ⟨rfl, rfl⟩
        go_wp2
        go_ret
        exact ⟨rfl, below_new _ _⟩
      ·
        cases h3 : inB c.k 1 4096
        · have eb : roomB c = false := by simp only [roomB, h0, h1, h2, h3]; rfl
          rw [eb]
          clear eb
          have H0' := hide h0
          have H1' := hide h1
          have H2' := hide h2
          have H3' := hide h3
          clear h0 h1 h2 h3
          unfold cv
          go_enter Try.func40, Try.ntmps40
          go_wp2_with fail
          refine (within_any _ _ _ _).mono ?_
          rw [unhide H0']
          rintro e w1 ⟨rfl, rfl⟩
          go_wp2_with fail
          refine (within_any _ _ _ _).mono ?_
          rw [unhide H1']
          rintro e w1 ⟨rfl, rfl⟩
          go_wp2_with fail
          refine (within_any _ _ _ _).mono ?_
          rw [unhide H2']
          rintro e w1 ⟨rfl, rfl⟩
          go_wp2_with fail
          refine (within_any _ _ _ _).mono ?_
          rw [unhide H3']
          rintro e w1 ⟨rfl, rfl⟩
          go_wp2
          go_ret
          exact ⟨rfl, below_new _ _⟩
        ·
          cases h4 : inB c.u 1 1000
          · have eb : roomB c = false := by simp only [roomB, h0, h1, h2, h3, h4]; rfl
            rw [eb]
            clear eb
            have H0' := hide h0
            have H1' := hide h1
            have H2' := hide h2
            have H3' := hide h3
            have H4' := hide h4
            clear h0 h1 h2 h3 h4
            unfold cv
            go_enter Try.func40, Try.ntmps40
            go_wp2_with fail
            refine (within_any _ _ _ _).mono ?_
            rw [unhide H0']
            rintro e w1 ⟨rfl, rfl⟩
            go_wp2_with fail
            refine (within_any _ _ _ _).mono ?_
            rw [unhide H1']
            rintro e w1 ⟨rfl, rfl⟩
            go_wp2_with fail
            refine (within_any _ _ _ _).mono ?_
            rw [unhide H2']
            rintro e w1 ⟨rfl, rfl⟩
            go_wp2_with fail
            refine (within_any _ _ _ _).mono ?_
            rw [unhide H3']
            rintro e w1 ⟨rfl, rfl⟩
            go_wp2_with fail
            refine (within_any _ _ _ _).mono ?_
            rw [unhide H4']
            rintro e w1 ⟨rfl, rfl⟩
            go_wp2
            go_ret
            exact ⟨rfl, below_new _ _⟩
          ·
            cases h5 : inB c.e 0 64
            · have eb : roomB c = false := by simp only [roomB, h0, h1, h2, h3, h4, h5]; rfl
              rw [eb]
              clear eb
              have H0' := hide h0
              have H1' := hide h1
              have H2' := hide h2
              have H3' := hide h3
              have H4' := hide h4
              have H5' := hide h5
              clear h0 h1 h2 h3 h4 h5
              unfold cv
              go_enter Try.func40, Try.ntmps40
              go_wp2_with fail
              refine (within_any _ _ _ _).mono ?_
              rw [unhide H0']
              rintro e w1 ⟨rfl, rfl⟩
              go_wp2_with fail
              refine (within_any _ _ _ _).mono ?_
              rw [unhide H1']
              rintro e w1 ⟨rfl, rfl⟩
              go_wp2_with fail
              refine (within_any _ _ _ _).mono ?_
              rw [unhide H2']
              rintro e w1 ⟨rfl, rfl⟩
              go_wp2_with fail
              refine (within_any _ _ _ _).mono ?_
              rw [unhide H3']
              rintro e w1 ⟨rfl, rfl⟩
              go_wp2_with fail
              refine (within_any _ _ _ _).mono ?_
              rw [unhide H4']
              rintro e w1 ⟨rfl, rfl⟩
              go_wp2_with fail
              refine (within_any _ _ _ _).mono ?_
              rw [unhide H5']
              rintro e w1 ⟨rfl, rfl⟩
              go_wp2
              go_ret
              exact ⟨rfl, below_new _ _⟩
            ·
              cases h6 : inB c.i 1 10000
              · have eb : roomB c = false := by simp only [roomB, h0, h1, h2, h3, h4, h5, h6]; rfl
                rw [eb]
                clear eb
                have H0' := hide h0
                have H1' := hide h1
                have H2' := hide h2
                have H3' := hide h3
                have H4' := hide h4
                have H5' := hide h5
                have H6' := hide h6
                clear h0 h1 h2 h3 h4 h5 h6
                unfold cv
                go_enter Try.func40, Try.ntmps40
                go_wp2_with fail
                refine (within_any _ _ _ _).mono ?_
                rw [unhide H0']
                rintro e w1 ⟨rfl, rfl⟩
                go_wp2_with fail
                refine (within_any _ _ _ _).mono ?_
                rw [unhide H1']
                rintro e w1 ⟨rfl, rfl⟩
                go_wp2_with fail
                refine (within_any _ _ _ _).mono ?_
                rw [unhide H2']
                rintro e w1 ⟨rfl, rfl⟩
                go_wp2_with fail
                refine (within_any _ _ _ _).mono ?_
                rw [unhide H3']
                rintro e w1 ⟨rfl, rfl⟩
                go_wp2_with fail
                refine (within_any _ _ _ _).mono ?_
                rw [unhide H4']
                rintro e w1 ⟨rfl, rfl⟩
                go_wp2_with fail
                refine (within_any _ _ _ _).mono ?_
                rw [unhide H5']
                rintro e w1 ⟨rfl, rfl⟩
                go_wp2_with fail
                refine (within_any _ _ _ _).mono ?_
                rw [unhide H6']
                rintro e w1 ⟨rfl, rfl⟩
                go_wp2
                go_ret
                exact ⟨rfl, below_new _ _⟩
              ·
                have eb : roomB c = true := by simp only [roomB, h0, h1, h2, h3, h4, h5, h6]; rfl
                rw [eb]
                clear eb
                have H0' := hide h0
                have H1' := hide h1
                have H2' := hide h2
                have H3' := hide h3
                have H4' := hide h4
                have H5' := hide h5
                have H6' := hide h6
                clear h0 h1 h2 h3 h4 h5 h6
                unfold cv
                go_enter Try.func40, Try.ntmps40
                go_wp2_with fail
                refine (within_any _ _ _ _).mono ?_
                rw [unhide H0']
                rintro e w1 ⟨rfl, rfl⟩
                go_wp2_with fail
                refine (within_any _ _ _ _).mono ?_
                rw [unhide H1']
                rintro e w1 ⟨rfl, rfl⟩
                go_wp2_with fail
                refine (within_any _ _ _ _).mono ?_
                rw [unhide H2']
                rintro e w1 ⟨rfl, rfl⟩
                go_wp2_with fail
                refine (within_any _ _ _ _).mono ?_
                rw [unhide H3']
                rintro e w1 ⟨rfl, rfl⟩
                go_wp2_with fail
                refine (within_any _ _ _ _).mono ?_
                rw [unhide H4']
                rintro e w1 ⟨rfl, rfl⟩
                go_wp2_with fail
                refine (within_any _ _ _ _).mono ?_
                rw [unhide H5']
                rintro e w1 ⟨rfl, rfl⟩
                go_wp2_with fail
                refine (within_any _ _ _ _).mono ?_
                rw [unhide H6']
                rintro e w1 ⟨rfl, rfl⟩
                go_wp2
                go_ret
                exact ⟨rfl, below_new _ _⟩

theorem isPolicy_any (n : Int) (w : World) : Calls Try.prog 41 #[.int .i64 n] w fun e w' => e = .returned (.bool (inB n 0 2)) ∧ w' = w := by
  unfold inB
  by_cases h0 : n = 0
  · subst h0
    go_enter Try.func41, Try.ntmps41
    go_wp2
    go_ret
    exact ⟨rfl, rfl⟩
  · by_cases h1 : n = 1
    · subst h1
      go_enter Try.func41, Try.ntmps41
      go_wp2
      go_ret
      exact ⟨rfl, rfl⟩
    · by_cases h2 : n = 2
      · subst h2
        go_enter Try.func41, Try.ntmps41
        go_wp2
        go_ret
        exact ⟨rfl, rfl⟩
      · have e0 : (n == 0) = false := by simpa using h0
        have e1 : (n == 1) = false := by simpa using h1
        have e2 : (n == 2) = false := by simpa using h2
        have e3 : (decide (0 ≤ n) && decide (n ≤ 2)) = false := by simp; omega
        rw [e3]
        clear e3
        go_enter Try.func41, Try.ntmps41
        go_wp2
        go_ret
        exact ⟨rfl, rfl⟩

/-- May it be? -/
def okB (c : Cf) : Bool := heapB c && (roomB c && inB c.p 0 2)
/-- 0 where it went well, 1 else. -/
def errOf (b : Bool) : Int := if b then 0 else 1
theorem okB_hp {c : Cf} (h : okB c = true) : Hp c := by
  simp only [okB, heapB, Bool.and_eq_true, inB_iff] at h
  obtain ⟨⟨⟨a1, a2⟩, ⟨a3, a4⟩, ⟨a5, a6⟩, ⟨a7, a8⟩⟩, _⟩ := h
  exact ⟨a1, a2, a3, a4, a5, a6, a7, a8⟩

theorem check_any (c : Cf) (w : World) : Calls Try.prog 29 #[cv c] w fun e w' => e = .returned (.int .i64 (errOf (okB c))) ∧ Below w.heap.size w w' := by
  cases h1 : heapB c
  · have eb : okB c = false := by simp only [okB, h1]; rfl
    rw [eb]
    have H1 := hide h1
    clear eb h1
    unfold cv
    go_enter Try.func29, Try.ntmps29
    go_wp2_with fail
    refine (heapFits_any c _).mono ?_
    rw [unhide H1]
    rintro e w1 ⟨rfl, hb⟩
    go_wp2
    go_ret
    exact ⟨rfl, below_call hb⟩
  · cases h2 : roomB c
    · have eb : okB c = false := by simp only [okB, h1, h2]; rfl
      rw [eb]
      have H1 := hide h1
      have H2 := hide h2
      clear eb h1 h2
      unfold cv
      go_enter Try.func29, Try.ntmps29
      go_wp2_with fail
      refine (heapFits_any c _).mono ?_
      rw [unhide H1]
      rintro e w1 ⟨rfl, hb⟩
      have hx := (bx_new c w).next hb
      obtain ⟨a0, a1, a2, a3, a4, a5, a6, a7, a8, a9, a10, a11⟩ := hx.cells
      go_wp2_with fail
      refine (roomFits_any c _).mono ?_
      rw [unhide H2]
      rintro e w2 ⟨rfl, hb2⟩
      go_wp2
      go_ret
      exact ⟨rfl, below_then (below_call hb) hb2⟩
    · have eb : okB c = inB c.p 0 2 := by simp only [okB, h1, h2]; rfl
      rw [eb]
      have H1 := hide h1
      have H2 := hide h2
      clear eb h1 h2
      cases h3 : inB c.p 0 2
      all_goals
        have H3 := hide h3
        clear h3
        unfold cv
        go_enter Try.func29, Try.ntmps29
        go_wp2_with fail
        refine (heapFits_any c _).mono ?_
        rw [unhide H1]
        rintro e w1 ⟨rfl, hb⟩
        have hx := (bx_new c w).next hb
        obtain ⟨a0, a1, a2, a3, a4, a5, a6, a7, a8, a9, a10, a11⟩ := hx.cells
        go_wp2_with fail
        refine (roomFits_any c _).mono ?_
        rw [unhide H2]
        rintro e w2 ⟨rfl, hb2⟩
        obtain ⟨b0, b1, b2, b3, b4, b5, b6, b7, b8, b9, b10, b11⟩ := (hx.next hb2).cells
        go_wp2_with fail
        refine (isPolicy_any c.p _).mono ?_
        rw [unhide H3]
        rintro e w3 ⟨rfl, hw⟩
        subst hw
        go_wp2
        go_ret
        exact ⟨rfl, below_then (below_call hb) hb2⟩
end Go.Proofs.Ytdhfpfkcbcgnaaa
