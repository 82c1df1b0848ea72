/- Rows of numbers and of accesses: held against each other, copied. -/
import Derived.Test.YtdhfpfkcbcgnaaaMach
import Derived.Lib.LazyBuf
namespace Go.Proofs.Ytdhfpfkcbcgnaaa
open Go.RowKit

theorem eq_take {α : Type} [BEq α] [LawfulBEq α] {l m : List α} (z : α) {k : Nat} (h : l.length = m.length) (hk : l.length ≤ k) (hall : ∀ j, j < k → l.getD j z = m.getD j z) : (l == m) = true := by
  rw [beq_iff_eq]
  apply List.ext_getElem h
  intro j h1 h2
  have := hall j (by omega)
  simpa [h1, h2] using this
theorem ne_at {α : Type} [BEq α] [LawfulBEq α] {l m : List α} (z : α) {k : Nat} (h : l.getD k z ≠ m.getD k z) : (l == m) = false := by
  rw [beq_eq_false_iff_ne]
  rintro rfl
  exact h rfl
/-- The slice v holds the accesses l, and lies below B. -/
def As (B : Nat) (w : World) (v : Value) (l : List (Int × Int)) : Prop := ∃ a cap, v = .slice a l.length cap ∧ l.length ≤ maxLen ∧ (l.length = 0 ∨ ∃ b off, a = some ⟨b, off, none⟩ ∧ b < B ∧ ∀ i, i < l.length → w.cell? ⟨b, off + i * 2, none⟩ = some (.int .i64 (l.getD i (0, 0)).1) ∧ w.cell? ⟨b, off + i * 2 + 1, none⟩ = some (.int .i64 (l.getD i (0, 0)).2))
theorem As.later {B : Nat} {w w' : World} {v : Value} {l : List (Int × Int)} (h : As B w v l) (hb : Below B w w') : As B w' v l := by
  obtain ⟨a, cap, e, hm, h⟩ := h
  refine ⟨a, cap, e, hm, h.imp id ?_⟩
  rintro ⟨b, off, e, hlt, hc⟩
  exact ⟨b, off, e, hlt, fun i hi => ⟨(hb.cell hlt).trans (hc i hi).1, (hb.cell hlt).trans (hc i hi).2⟩⟩
theorem As.up {B C : Nat} {w : World} {v : Value} {l : List (Int × Int)} (h : As B w v l) (hB : B ≤ C) : As C w v l := by
  obtain ⟨a, cap, e, hm, h⟩ := h
  refine ⟨a, cap, e, hm, h.imp id ?_⟩
  rintro ⟨b, off, e, hlt, hc⟩
  exact ⟨b, off, e, by omega, hc⟩
theorem As.next {w w' : World} {v : Value} {l : List (Int × Int)} (h : As w.heap.size w v l) (hb : Below w.heap.size w w') : As w'.heap.size w' v l := (h.later hb).up hb.size
theorem pairs_at : ∀ (l : List (Int × Int)) (i : Nat), i < l.length → (pairs l)[i * 2]? = some (.int .i64 (l.getD i (0, 0)).1) ∧ (pairs l)[i * 2 + 1]? = some (.int .i64 (l.getD i (0, 0)).2)
  | [], i, h => absurd h (Nat.not_lt_zero _)
  | p :: r, 0, h => ⟨rfl, rfl⟩
  | p :: r, i + 1, h => by
    have := pairs_at r i (by simpa using h)
    rw [show (i + 1) * 2 = i * 2 + 2 by omega, show i * 2 + 2 + 1 = i * 2 + 1 + 2 by omega]
    simpa [pairs] using this
theorem own_as {w : World} {B : Nat} {v : Value} {l : List (Int × Int)} (h : w.ownsRow B 41 2 v l.length (pairs l)) (hm : l.length ≤ maxLen) : As w.heap.size w v l := by
  rcases h.2 with ⟨rfl, e⟩ | ⟨g, cap, cur, rfl, hB, hg, _⟩
  · exact ⟨none, 0, by rw [e], hm, .inl e⟩
  · refine ⟨_, cap, rfl, hm, .inr ⟨g, 0, rfl, heap_lt hg, fun i hi => ?_⟩⟩
    have := pairs_at l i hi
    have h1 := h.cells rfl _ _ this.1
    have h2 := h.cells rfl _ _ this.2
    rw [addr_add] at h1 h2
    exact ⟨h1, h2⟩
set_option maxRecDepth 100000 in
theorem ints_any (u v : Value) (l m : List Int) (w : World) (hu : Ls w.heap.size w u l) (hv : Ls w.heap.size w v m) :
    Calls Try.prog 14 #[u, v] w fun e w' => e = .returned (.bool (l == m)) ∧ Below w.heap.size w w' := by
  obtain ⟨n, hn⟩ : ∃ n, l.length = n := ⟨_, rfl⟩
  obtain ⟨n', hn'⟩ : ∃ n, m.length = n := ⟨_, rfl⟩
  obtain ⟨a, ca, rfl, h1, h2, _, h3⟩ := ls_len hu
  obtain ⟨b, cb, rfl, g1, g2, _, g3⟩ := ls_len hv
  have hmax : maxLen = 9223372036854775807 := rfl
  rw [hn] at h1 ⊢
  rw [hn'] at g1 ⊢
  have hnl : (n : Int) ≤ 9223372036854775807 := by omega
  replace hn := hide hn
  replace hn' := hide hn'
  replace h3 := hide h3
  replace g3 := hide g3
  clear hu hv
  by_cases hl : n = n'
  · subst hl
    go_enter Try.func14, Try.ntmps14
    go_wp2_with fail
    go_loopw [5] (fun i wr => ∃ k : Nat, k ≤ n ∧ i = .int .i64 k ∧ Below w.heap.size w wr ∧ ∀ j, j < k → l.getD j 0 = m.getD j 0) (fun i _ => n - (RowKit.intOf i).toNat)
    case atStart => exact ⟨0, Nat.zero_le _, rfl, Below.refl _ _, fun j hj => absurd hj (Nat.not_lt_zero _)⟩
    case round =>
      obtain ⟨k, hk, rfl, hb, hall⟩ := hrel
      by_cases hlt : k < n
      · have kd : decide ((k : Int) < (n : Int)) = true := decide_eq_true (by omega)
        have kl : (k : Int) < (n : Int) := by omega
        obtain ⟨b1, o1, rfl, _, c1⟩ := ((unhide h3).later hb).at (i := k) (by have := unhide hn; omega)
        obtain ⟨b2, o2, rfl, _, c2⟩ := ((unhide g3).later hb).at (i := k) (by have := unhide hn'; omega)
        obtain ⟨x, hx⟩ : ∃ x, l.getD k 0 = x := ⟨_, rfl⟩
        obtain ⟨y, hy⟩ : ∃ y, m.getD k 0 = y := ⟨_, rfl⟩
        rw [hx] at c1
        rw [hy] at c2
        replace hb := hide hb
        by_cases e : x = y
        · have eb : (x == y) = true := by simpa using e
          have hall2 : Hid (∀ j, j < k + 1 → l.getD j 0 = m.getD j 0) := hide fun j hj => by
            by_cases h : j < k
            · exact hall j h
            · obtain rfl : j = k := by omega
              rw [hx, hy, e]
          replace hall := hide hall
          subst e
          clear hx hy
          go_wp2_with fail
          go_region
          all_goals
            go_wp2
            go_roundw
            case rel => exact ⟨k + 1, by omega, by go_num, (unhide hb).drew, unhide hall2⟩
            case measure => first | omega | (simp; omega) | (simp [RowKit.intOf]; omega)
        · have eb : (x == y) = false := by simpa using e
          have r : Hid ((l == m) = false) := hide (ne_at 0 (k := k) (by rw [hx, hy]; exact e))
          replace hall := hide hall
          clear hx hy
          go_wp2_with fail
          go_region
          all_goals
            go_wp2
            go_ret
            exact ⟨by rw [unhide r]; rfl, (unhide hb).drew⟩
      · have kd : decide ((k : Int) < (n : Int)) = false := decide_eq_false (by omega)
        have r : Hid ((l == m) = true) := hide (eq_take 0 (k := k) (by rw [unhide hn, unhide hn']) (by have := unhide hn; omega) hall)
        replace hall := hide hall
        replace hb := hide hb
        go_wp2
        go_ret
        exact ⟨by rw [unhide r]; rfl, unhide hb⟩
  · have e1 : ((n : Int) == (n' : Int)) = false := by simp; omega
    have r : Hid ((l == m) = false) := hide (by rw [beq_eq_false_iff_ne]; rintro rfl; exact hl (by rw [← unhide hn, ← unhide hn']))
    go_enter Try.func14, Try.ntmps14
    go_wp2
    go_ret
    exact ⟨by rw [unhide r]; rfl, Below.refl _ _⟩
set_option maxRecDepth 100000 in
theorem eqInts_any (u v : Value) (l m : List Int) (w : World) (hu : Ls w.heap.size w u l) (hv : Ls w.heap.size w v m) :
    Calls Try.prog 27 #[u, v] w fun e w' => e = .returned (.bool (l == m)) ∧ Below w.heap.size w w' := by
  obtain ⟨n, hn⟩ : ∃ n, l.length = n := ⟨_, rfl⟩
  obtain ⟨n', hn'⟩ : ∃ n, m.length = n := ⟨_, rfl⟩
  obtain ⟨a, ca, rfl, h1, h2, _, h3⟩ := ls_len hu
  obtain ⟨b, cb, rfl, g1, g2, _, g3⟩ := ls_len hv
  have hmax : maxLen = 9223372036854775807 := rfl
  rw [hn] at h1 ⊢
  rw [hn'] at g1 ⊢
  have hnl : (n : Int) ≤ 9223372036854775807 := by omega
  replace hn := hide hn
  replace hn' := hide hn'
  replace h3 := hide h3
  replace g3 := hide g3
  clear hu hv
  by_cases hl : n = n'
  · subst hl
    go_enter Try.func27, Try.ntmps27
    go_wp2_with fail
    go_loopw [13] (fun i wr => ∃ k : Nat, k ≤ n ∧ i = .int .i64 k ∧ Below w.heap.size w wr ∧ ∀ j, j < k → l.getD j 0 = m.getD j 0) (fun i _ => n - (RowKit.intOf i).toNat)
    case atStart => exact ⟨0, Nat.zero_le _, rfl, Below.refl _ _, fun j hj => absurd hj (Nat.not_lt_zero _)⟩
    case round =>
      obtain ⟨k, hk, rfl, hb, hall⟩ := hrel
      by_cases hlt : k < n
      · have kd : decide ((k : Int) < (n : Int)) = true := decide_eq_true (by omega)
        have kl : (k : Int) < (n : Int) := by omega
        obtain ⟨b1, o1, rfl, _, c1⟩ := ((unhide h3).later hb).at (i := k) (by have := unhide hn; omega)
        obtain ⟨b2, o2, rfl, _, c2⟩ := ((unhide g3).later hb).at (i := k) (by have := unhide hn'; omega)
        obtain ⟨x, hx⟩ : ∃ x, l.getD k 0 = x := ⟨_, rfl⟩
        obtain ⟨y, hy⟩ : ∃ y, m.getD k 0 = y := ⟨_, rfl⟩
        rw [hx] at c1
        rw [hy] at c2
        replace hb := hide hb
        by_cases e : x = y
        · have eb : (x == y) = true := by simpa using e
          have hall2 : Hid (∀ j, j < k + 1 → l.getD j 0 = m.getD j 0) := hide fun j hj => by
            by_cases h : j < k
            · exact hall j h
            · obtain rfl : j = k := by omega
              rw [hx, hy, e]
          replace hall := hide hall
          subst e
          clear hx hy
          go_wp2_with fail
          go_region
          all_goals
            go_wp2
            go_roundw
            case rel => exact ⟨k + 1, by omega, by go_num, (unhide hb).drew, unhide hall2⟩
            case measure => first | omega | (simp; omega) | (simp [RowKit.intOf]; omega)
        · have eb : (x == y) = false := by simpa using e
          have r : Hid ((l == m) = false) := hide (ne_at 0 (k := k) (by rw [hx, hy]; exact e))
          replace hall := hide hall
          clear hx hy
          go_wp2_with fail
          go_region
          all_goals
            go_wp2
            go_ret
            exact ⟨by rw [unhide r]; rfl, (unhide hb).drew⟩
      · have kd : decide ((k : Int) < (n : Int)) = false := decide_eq_false (by omega)
        have r : Hid ((l == m) = true) := hide (eq_take 0 (k := k) (by rw [unhide hn, unhide hn']) (by have := unhide hn; omega) hall)
        replace hall := hide hall
        replace hb := hide hb
        go_wp2
        go_ret
        exact ⟨by rw [unhide r]; rfl, unhide hb⟩
  · have e1 : ((n : Int) == (n' : Int)) = false := by simp; omega
    have r : Hid ((l == m) = false) := hide (by rw [beq_eq_false_iff_ne]; rintro rfl; exact hl (by rw [← unhide hn, ← unhide hn']))
    go_enter Try.func27, Try.ntmps27
    go_wp2
    go_ret
    exact ⟨by rw [unhide r]; rfl, Below.refl _ _⟩
set_option maxRecDepth 100000 in
theorem eqAcc_any (u v : Value) (l m : List (Int × Int)) (w : World) (hu : As w.heap.size w u l) (hv : As w.heap.size w v m) :
    Calls Try.prog 28 #[u, v] w fun e w' => e = .returned (.bool (l == m)) ∧ Below w.heap.size w w' := by
  obtain ⟨n, hn⟩ : ∃ n, l.length = n := ⟨_, rfl⟩
  obtain ⟨n', hn'⟩ : ∃ n, m.length = n := ⟨_, rfl⟩
  have hu0 := hide hu
  have hv0 := hide hv
  obtain ⟨a, ca, rfl, h1, h3⟩ := hu
  obtain ⟨b, cb, rfl, g1, g3⟩ := hv
  have hmax : maxLen = 9223372036854775807 := rfl
  rw [hn] at h1 ⊢
  rw [hn'] at g1 ⊢
  have hnl : (n : Int) ≤ 9223372036854775807 := by omega
  replace hn := hide hn
  replace hn' := hide hn'
  clear h3 g3
  by_cases hl : n = n'
  · subst hl
    go_enter Try.func28, Try.ntmps28
    go_wp2_with fail
    go_loopw [13] (fun i wr => ∃ k : Nat, k ≤ n ∧ i = .int .i64 k ∧ Below w.heap.size w wr ∧ ∀ j, j < k → l.getD j (0, 0) = m.getD j (0, 0)) (fun i _ => n - (RowKit.intOf i).toNat)
    case atStart => exact ⟨0, Nat.zero_le _, rfl, Below.refl _ _, fun j hj => absurd hj (Nat.not_lt_zero _)⟩
    case round =>
      obtain ⟨k, hk, rfl, hb, hall⟩ := hrel
      by_cases hlt : k < n
      · have kd : decide ((k : Int) < (n : Int)) = true := decide_eq_true (by omega)
        have kl : (k : Int) < (n : Int) := by omega
        obtain ⟨_, _, q1, _, q2⟩ := (unhide hu0).later hb
        cases q1
        obtain ⟨_, _, q3, _, q4⟩ := (unhide hv0).later hb
        cases q3
        rcases q2 with q2 | ⟨b1, o1, rfl, _, q2⟩
        · have := unhide hn; omega
        rcases q4 with q4 | ⟨b2, o2, rfl, _, q4⟩
        · have := unhide hn'; omega
        obtain ⟨c1, c11⟩ := q2 k (by have := unhide hn; omega)
        obtain ⟨c2, c21⟩ := q4 k (by have := unhide hn'; omega)
        clear q2 q4
        obtain ⟨x, hx⟩ : ∃ x, l.getD k (0, 0) = x := ⟨_, rfl⟩
        obtain ⟨y, hy⟩ : ∃ y, m.getD k (0, 0) = y := ⟨_, rfl⟩
        obtain ⟨x, x'⟩ := x
        obtain ⟨y, y'⟩ := y
        rw [hx] at c1 c11
        rw [hy] at c2 c21
        replace hb := hide hb
        by_cases e : (x, x') = (y, y')
        · obtain ⟨rfl, rfl⟩ : x = y ∧ x' = y' := by simpa using e
          have hall2 : Hid (∀ j, j < k + 1 → l.getD j (0, 0) = m.getD j (0, 0)) := hide fun j hj => by
            by_cases h : j < k
            · exact hall j h
            · obtain rfl : j = k := by omega
              rw [hx, hy]
          replace hall := hide hall
          clear hx hy
          go_wp2_with fail
          go_region
          all_goals
            go_wp2
            go_roundw
            case rel => exact ⟨k + 1, by omega, by go_num, (unhide hb).drew, unhide hall2⟩
            case measure => first | omega | (simp; omega) | (simp [RowKit.intOf]; omega)
        · have r : Hid ((l == m) = false) := hide (ne_at (0, 0) (k := k) (by rw [hx, hy]; exact e))
          replace hall := hide hall
          clear hx hy
          by_cases e1 : x = y
          · subst e1
            have e2 : ¬ x' = y' := fun h => e (by rw [h])
            clear e
            go_wp2_with fail
            go_region
            all_goals
              go_wp2
              go_ret
              exact ⟨by rw [unhide r]; rfl, (unhide hb).drew⟩
          · clear e
            go_wp2_with fail
            go_region
            all_goals
              go_wp2
              go_ret
              exact ⟨by rw [unhide r]; rfl, (unhide hb).drew⟩
      · have kd : decide ((k : Int) < (n : Int)) = false := decide_eq_false (by omega)
        have r : Hid ((l == m) = true) := hide (eq_take (0, 0) (k := k) (by rw [unhide hn, unhide hn']) (by have := unhide hn; omega) hall)
        replace hall := hide hall
        replace hb := hide hb
        go_wp2
        go_ret
        exact ⟨by rw [unhide r]; rfl, unhide hb⟩
  · have e1 : ((n : Int) == (n' : Int)) = false := by simp; omega
    have r : Hid ((l == m) = false) := hide (by rw [beq_eq_false_iff_ne]; rintro rfl; exact hl (by rw [← unhide hn, ← unhide hn']))
    go_enter Try.func28, Try.ntmps28
    go_wp2
    go_ret
    exact ⟨by rw [unhide r]; rfl, Below.refl _ _⟩
set_option maxRecDepth 100000 in
theorem copy_any (v : Value) (l : List Int) (w : World) (h : Ls w.heap.size w v l) (hs : l.length ≤ 100000) :
    Calls Try.prog 17 #[v] w fun e w' => ∃ a c, e = .returned (.slice a l.length c) ∧ Below w.heap.size w w' ∧ w'.ownsRow w.heap.size 3 1 (.slice a l.length c) l.length (vals l) := by
  obtain ⟨n, hn⟩ : ∃ n, l.length = n := ⟨_, rfl⟩
  have b1 := below_new w (.cells #[] 3)
  have news := ls_news (h.next b1)
  have own := World.ownsRow_made (base := w.heap.size) (e := 3) (size := 1) w #[] 0 (Nat.le_refl _) (by decide) rfl
  have s1 := b1.size
  obtain ⟨a, ca, rfl, h1, h2, _, _⟩ := ls_len h
  have hmax : maxLen = 9223372036854775807 := rfl
  rw [hn] at news h1 hs ⊢
  replace news := hide news
  replace own := hide own
  replace hn := hide hn
  replace b1 := hide b1
  clear h
  go_enter Try.func17, Try.ntmps17
  go_wp2_with (at_builtin; refine wpList_app elInt _ rfl _ _ rfl w.heap.size _ 0 [] rfl (unhide own) _ n (vals l) rfl (unhide news) (by omega) (by omega) s1 ?_; intro v3 w3 hown3 hgr)
  go_ret
  have g3 := (unhide b1).grown hgr s1 (fun q hq => ((unhide own).lt q hq).1)
  rw [Nat.zero_add] at hown3
  have hown4 : w3.ownsRow w.heap.size 3 1 v3 n (vals l) := hown3
  obtain ⟨a, c, rfl⟩ : ∃ a c, v3 = .slice a n c := by
    rcases hown4.2 with ⟨rfl, rfl⟩ | ⟨g, cap, cur, rfl, _⟩
    · exact ⟨_, _, rfl⟩
    · exact ⟨_, _, rfl⟩
  exact ⟨a, c, rfl, g3, hown4⟩
set_option maxRecDepth 100000 in
theorem clone_any (v : Value) (l : List Int) (w : World) (h : Ls w.heap.size w v l) (hs : l.length ≤ 100000) (h0 : 0 < l.length) :
    Calls Try.prog 19 #[v] w fun e w' => ∃ a c, e = .returned (.slice a l.length c) ∧ Below w.heap.size w w' ∧ w'.ownsRow w.heap.size 3 1 (.slice a l.length c) l.length (vals l) := by
  obtain ⟨n, hn⟩ : ∃ n, l.length = n := ⟨_, rfl⟩
  have b1 := below_new w (.cells #[] 3)
  have news := ls_news (h.next b1)
  have own := World.ownsRow_made (base := w.heap.size) (e := 3) (size := 1) w #[] 0 (Nat.le_refl _) (by decide) rfl
  have s1 := b1.size
  obtain ⟨a, ca, rfl, h1, h2, _, h3⟩ := ls_len h
  obtain ⟨pb, po, rfl, _, _⟩ := h3.at h0
  have hmax : maxLen = 9223372036854775807 := rfl
  rw [hn] at news h1 hs h0 ⊢
  replace news := hide news
  replace own := hide own
  replace hn := hide hn
  replace b1 := hide b1
  clear h h3
  have q24 : ∀ (w : World) (a : Option Addr) (n c : Nat), (binOp .eql 24 (.slice a n c) (.slice none 0 0)).run Try.prog w = .ok (.bool a.isNone) w := fun w a n c => Lib.run_eql_slice_nil (P := Try.prog) w 24 3 a n c 0 0 Try.underlying24
  go_enter Try.func19, Try.ntmps19
  go_wp2_with (at_builtin; refine wpList_app elInt _ rfl _ _ rfl w.heap.size _ 0 [] rfl (unhide own) _ n (vals l) rfl (unhide news) (by omega) (by omega) s1 ?_; intro v3 w3 hown3 hgr)
  go_ret
  have g3 := (unhide b1).grown hgr s1 (fun q hq => ((unhide own).lt q hq).1)
  rw [Nat.zero_add] at hown3
  have hown4 : w3.ownsRow w.heap.size 3 1 v3 n (vals l) := hown3
  obtain ⟨a, c, rfl⟩ : ∃ a c, v3 = .slice a n c := by
    rcases hown4.2 with ⟨rfl, rfl⟩ | ⟨g, cap, cur, rfl, _⟩
    · exact ⟨_, _, rfl⟩
    · exact ⟨_, _, rfl⟩
  exact ⟨a, c, rfl, g3, hown4⟩
/-- A row of one's own, not empty: the block that holds it. -/
theorem own_rb {w : World} {B : Nat} {a : Option Addr} {c : Nat} {l : List Int} (h : w.ownsRow B 3 1 (.slice a l.length c) l.length (vals l)) (h0 : 0 < l.length) : ∃ g, a = some ⟨g, 0, none⟩ ∧ Rb g l w ∧ B ≤ g ∧ l.length ≤ c ∧ c ≤ maxLen := by
  rcases h.2 with ⟨_, e⟩ | ⟨g, cap, cur, e, hB, hg, h1, h2, _, h3⟩
  · omega
  · obtain ⟨rfl, rfl⟩ : a = some ⟨g, 0, none⟩ ∧ c = cap := by injection e with e1 e2 e3; exact ⟨e1, e3⟩
    exact ⟨g, rfl, ⟨cur, hg, by rw [Nat.mul_one] at h3; exact h3⟩, hB, h1, h2⟩
end Go.Proofs.Ytdhfpfkcbcgnaaa
