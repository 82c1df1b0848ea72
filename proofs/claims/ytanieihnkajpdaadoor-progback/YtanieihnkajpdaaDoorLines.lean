/- The walk of ProgLines: it answers true. -/
import Derived.Test.YtanieihnkajpdaaDoorFew
namespace Go.Proofs.YtanieihnkajpdaaDoor
open Go.RowKit

theorem wpList_appG {t e : TypeId} {z : Value} {q y : Nat} (E : El t e z q y) (w : World) {ops : Array Oper} {rest : List Oper} {o : Oper} {a : Act} {Q : Exit → Act → World → Prop} (hw : Region.wanted o (yielded ops a.tmps) = true) (s x : Operand)
    (ho : o.op = .call { callee := .builtin .append, args := #[s, x], argTypes := #[t, t] })
    (base : Nat) (v : Value) (n : Nat) (xs : List Value) (hv : a.eval s = v) (hown : w.ownsRow base e q v n xs) (u : Value) (m : Nat) (cs : List Value) (hu : a.eval x = u) (hx : News w u m q cs)
    (hm : (n + m) * y ≤ 140737488355328) (hm2 : n + m ≤ maxLen) (hbase : base ≤ w.heap.size)
    (h : ∀ v' w', w'.ownsRow base e q v' (n + m) (xs ++ cs) → w.grownBy w' v.ownBlock → wpList Tryd.prog ops Q rest (a.put o.dst v') w') : wpList Tryd.prog ops Q (o :: rest) a w :=
  wpList_step fun K hK => by
    rw [if_pos hw]
    exact wp_app E w s x ho base v n xs hv hown u m cs hu hx hm hm2 hbase fun v' w' h2 h3 => hK _ _ (h v' w' h2 h3)
theorem flat_one : ∀ (qs : List (In × Value)) (w : World), (∀ q ∈ qs, Lo w q.2 q.1.l) → ∀ u ∈ flat qs, u.oneCell' = true
  | [], w, h, u, hu => by cases hu
  | q :: r, w, h, u, hu => by
    rcases List.mem_append.1 (show u ∈ insC q ++ flat r from hu) with h2 | h2
    · obtain ⟨a, c, e, _⟩ := h q (by simp)
      simp only [insC, List.mem_cons, List.not_mem_nil, or_false] at h2
      rcases h2 with rfl | rfl | rfl | rfl | rfl
      · rfl
      · rfl
      · rfl
      · rfl
      · rw [e]; rfl
    · exact flat_one r w (fun q hq => h q (by simp [hq])) u h2
theorem News.next {w w' : World} {x : Value} {m q : Nat} {cs : List Value} (h : News w x m q cs) (hb : Below w.heap.size w w') : News w' x m q cs :=
  ⟨h.1, h.2.1, h.2.2.imp id fun ⟨ad, c, e, hc⟩ => ⟨ad, c, e, fun j u hj => (hb.cell (World.block_lt_of_cell? _ _ (hc j u hj))).trans (hc j u hj)⟩⟩
/-- A program in a row of its own, as what is appended. -/
theorem po_news {w : World} {u : Value} {ps : List In} (h : Po w u ps) : ∃ qs : List (In × Value), qs.map (·.1) = ps ∧ (∀ q ∈ qs, Lo w q.2 q.1.l) ∧ News w u ps.length 5 (flat qs) := by
  obtain ⟨B, qs, e, h, hlo⟩ := h
  refine ⟨qs, e, hlo, h.1, flat_one qs w hlo, ?_⟩
  rcases h.2 with ⟨rfl, h0⟩ | ⟨g, cap, cur, rfl, _⟩
  · exact .inl ⟨rfl, h0⟩
  · exact .inr ⟨_, cap, rfl, fun j u hj => h.cells rfl j u hj⟩

def bothD : Option (List In) → Option (List In) → Option (List In)
  | some p, some q => some (p ++ q)
  | _, _ => none
theorem progD_app : ∀ (xs ys : List (List UInt8)), progD (xs ++ ys) = bothD (progD xs) (progD ys)
  | [], ys => by
    show progD ys = bothD (some []) (progD ys)
    cases progD ys <;> rfl
  | x :: r, ys => by
    show progD (x :: (r ++ ys)) = _
    simp only [progD]
    rw [progD_app r ys]
    cases plD x <;> cases progD r <;> cases progD ys <;> rfl
theorem progD_len : ∀ (l : List (List UInt8)) (p : List In), progD l = some p → p.length = l.length
  | [], p, h => by cases h; rfl
  | s :: r, p, h => by
    have h2 := h
    simp only [progD] at h2
    cases hx : plD s <;> cases hy : progD r <;> rw [hx, hy] at h2 <;> cases h2
    rename_i l
    show l.length + 1 = r.length + 1
    rw [progD_len r l hy]
theorem lines_both {a b : List (List UInt8)} (ha : ∀ s ∈ a, s.length ≤ 100000) (hb : ∀ s ∈ b, s.length ≤ 100000) : ∀ s ∈ a ++ b, s.length ≤ 100000 := fun s hs => by
  rcases List.mem_append.1 hs with h | h
  · exact ha s h
  · exact hb s h

set_option maxRecDepth 100000 in
set_option maxHeartbeats 4000000 in
theorem progLines_walk (a : Option Addr) (n cap : Nat) (ps : List In) (a' : Option Addr) (n' cap' : Nat) (qs : List In) (w : World) (hp : Ps w.heap.size w (.slice a n cap) ps) (fp : ∀ x ∈ ps, Fi x) (hq : Ps w.heap.size w (.slice a' n' cap') qs) (fq : ∀ x ∈ qs, Fi x) (hr : Vr w) :
    Calls Tryd.prog 6 #[.slice a n cap, .slice a' n' cap'] w fun e w' => e = .returned (.bool true) ∧ Below w.heap.size w w' := by
  have hn : n = ps.length := by obtain ⟨_, _, e, _⟩ := hp; cases e; rfl
  have hn' : n' = qs.length := by obtain ⟨_, _, e, _⟩ := hq; cases e; rfl
  replace hn := hide hn
  replace hn' := hide hn'
  go_enter Tryd.func6, Tryd.ntmps6
  go_wp2_with fail
  refine (first_any _ hr).mono ?_
  rintro e w1 ⟨rfl, b1⟩
  have hp1 := hp.next b1
  have hq1 := hq.next b1
  clear hp hq
  have kA := few_any ps _ w1 hp1
  have kB := few_any qs _ w1 hq1
  replace b1 := hide b1
  go_wp2_with fail
  refine kA.mono ?_
  rintro e _ ⟨bA, rfl, hA, rfl⟩
  replace hA := hide hA
  cases bA
  · have kF := first_any _ (hr.next (unhide b1))
    go_wp2_with fail
    refine kF.mono ?_
    rintro e w2 ⟨rfl, b2⟩
    have g2 := hide (below_then (unhide b1) b2)
    clear kF b2
    go_wp2
    go_ret
    exact ⟨rfl, unhide g2⟩
  go_wp2_with fail
  refine kB.mono ?_
  rintro e _ ⟨bB, rfl, hB, rfl⟩
  replace hB := hide hB
  cases bB
  · have kF := first_any _ (hr.next (unhide b1))
    go_wp2_with fail
    refine kF.mono ?_
    rintro e w2 ⟨rfl, b2⟩
    have g2 := hide (below_then (unhide b1) b2)
    clear kF b2
    go_wp2
    go_ret
    exact ⟨rfl, unhide g2⟩
  obtain ⟨lp, sp⟩ := unhide hA (by first | rfl | trivial)
  obtain ⟨lq, sq⟩ := unhide hB (by first | rfl | trivial)
  have Fp : ∀ x ∈ ps, Fine x := fun x hx => (fp x hx).fine (sp x hx)
  have Fq : ∀ x ∈ qs, Fine x := fun x hx => (fq x hx).fine (sq x hx)
  clear fp fq hA hB sp sq kA kB
  have kP := print_any ps _ _ hp1 (by omega) Fp (hr.next (unhide b1))
  replace Fp := hide Fp
  replace Fq := hide Fq
  replace hq1 := hide hq1
  clear hp1
  go_wp2_with fail
  refine kP.mono ?_
  rintro e w2 ⟨u, rfl, hS, b2⟩
  have hq2 := (unhide hq1).next b2
  have g2 := below_then (unhide b1) b2
  have kQ := print_any qs _ _ hq2 (by omega) (unhide Fq) (hr.next g2)
  clear b1 b2 hq2 hq1 kP
  replace hS := hide hS
  replace g2 := hide g2
  go_wp2_with fail
  refine kQ.mono ?_
  rintro e w3 ⟨v, rfl, hT, b3⟩
  have g3 := below_then (unhide g2) b3
  have hS3 := (unhide hS).next b3
  have kX := parse_any _ u w3 hS3 (by rw [List.length_map]; omega) (lines_all _ (unhide Fp)) (hr.next g3)
  obtain ⟨ua, uc, rfl⟩ : ∃ ua uc, u = .slice ua n uc := by obtain ⟨x, y, e, _⟩ := hS3; rw [List.length_map, ← unhide hn] at e; exact ⟨x, y, e⟩
  obtain ⟨va, vc, rfl⟩ : ∃ va vc, v = .slice va n' vc := by obtain ⟨x, y, e, _⟩ := hT; rw [List.length_map, ← unhide hn'] at e; exact ⟨x, y, e⟩
  replace hS3 := hide hS3
  replace hT := hide hT
  replace g3 := hide g3
  clear hS b3 kQ g2
  go_wp2_with fail
  refine kX.mono ?_
  rintro e w4 ⟨xa, xn, xc, rfl, b4, hx⟩
  generalize hcx : (if (progD (ps.map lineOf)).isSome then (0 : Int) else 2) = cx
  replace hcx := hide hcx
  have g4 := below_then (unhide g3) b4
  have hT4 := (unhide hT).next b4
  have hS4 := hide ((unhide hS3).next b4)
  have kY := parse_any _ _ w4 hT4 (by rw [List.length_map]; omega) (lines_all _ (unhide Fq)) (hr.next g4)
  replace hT4 := hide hT4
  replace g4 := hide g4
  replace hx := hide hx
  clear hS3 b4 kX g3 hT
  go_wp2_with fail
  refine kY.mono ?_
  rintro e w5 ⟨ya, yn, yc, rfl, b5, hy⟩
  generalize hcy : (if (progD (qs.map lineOf)).isSome then (0 : Int) else 2) = cy
  replace hcy := hide hcy
  have g5 := hide (below_then (unhide g4) b5)
  have hT5 := hide ((unhide hT4).next b5)
  have hS5 := hide ((unhide hS4).next b5)
  replace hx : Hid (∀ p, progD (ps.map lineOf) = some p → xn = p.length ∧ Po w5 (.slice xa xn xc) p) := hide (fun p hp => ⟨(unhide hx p hp).1, ownP_next (unhide hx p hp).2 b5⟩)
  replace hy := hide hy
  clear b5 kY g4 hT4 hS4
  have bA := below_new w5 (.cells #[] 9)
  have ownA : (w5.alloc (.cells #[] 9)).ownsRow w5.heap.size 9 1 (.slice (some ⟨w5.heap.size, 0, none⟩) 0 0) 0 [] := ⟨rfl, .inr ⟨w5.heap.size, 0, #[], rfl, Nat.le_refl _, heap_alloc_new w5 _, Nat.le_refl _, Nat.zero_le _, rfl, rfl⟩⟩
  have newsA := ss_news ((unhide hS5).next bA)
  rw [List.length_map, ← unhide hn] at newsA
  have sA := bA.size
  have ln : n ≤ 200 := by have := unhide hn; omega
  have ln' : n' ≤ 200 := by have := unhide hn'; omega
  replace bA := hide bA
  clear lp lq
  have hmax : maxLen = 9223372036854775807 := rfl
  have nl := hide (show (List.map lineOf qs).length = n' by rw [List.length_map]; exact (unhide hn').symm)
  go_wp2_with (at_builtin; first
    | (refine wpList_app elStr _ rfl _ _ rfl w5.heap.size _ 0 [] rfl ownA _ n (strs (ps.map lineOf)) rfl newsA (by omega) (by omega) sA ?_; intro v6 w6 own6 gr6; have g6 := hide (Below.grown (unhide bA) gr6 sA (fun q hq => (ownA.lt q hq).1)); have newsB := ss_news (Ss.next (unhide hT5) (unhide g6)); rw [unhide nl] at newsB; have sB := Below.size (unhide g6); rw [Nat.zero_add, List.nil_append] at own6)
    | (refine wpList_app elStr _ rfl _ _ rfl w5.heap.size _ n (strs (ps.map lineOf)) rfl own6 _ n' (strs (qs.map lineOf)) rfl newsB (by omega) (by omega) sB ?_; intro v7 w7 own7 gr7))
  have h7 := (unhide g6).grown gr7 sB (fun q hq => (own6.lt q hq).1)
  have own8 : w7.ownsRow w5.heap.size 9 1 v7 (n + n') (strs (ps.map lineOf ++ qs.map lineOf)) := by unfold strs at own7 ⊢; rw [List.map_append]; exact own7
  have g7 := below_then (unhide g5) h7
  have kZ := parse_any (ps.map lineOf ++ qs.map lineOf) v7 w7 (own_ss own8) (by rw [List.length_append, List.length_map, List.length_map, ← unhide hn, ← unhide hn']; omega) (lines_both (lines_all _ (unhide Fp)) (lines_all _ (unhide Fq))) (hr.next g7)
  replace hx : Hid (∀ p, progD (ps.map lineOf) = some p → xn = p.length ∧ Po w7 (.slice xa xn xc) p) := hide (fun p hp => ⟨(unhide hx p hp).1, ownP_next (unhide hx p hp).2 h7⟩)
  replace hy : Hid (∀ p, progD (qs.map lineOf) = some p → yn = p.length ∧ Po w7 (.slice ya yn yc) p) := hide (fun p hp => ⟨(unhide hy p hp).1, ownP_next (unhide hy p hp).2 h7⟩)
  replace g7 := hide g7
  clear own8 own7 gr7 h7 newsB sB g6 own6 g5 Fp Fq ownA newsA sA bA gr6 hS5 hT5 nl
  go_wp2_with fail
  refine kZ.mono ?_
  rintro e w8 ⟨za, zn, zc, rfl, b8, hz⟩
  rw [progD_app] at hz ⊢
  have g8 := hide (below_then (unhide g7) b8)
  have kF := first_any w8 (hr.next (unhide g8))
  replace hx : Hid (∀ p, progD (ps.map lineOf) = some p → xn = p.length ∧ Po w8 (.slice xa xn xc) p) := hide (fun p hp => ⟨(unhide hx p hp).1, ownP_next (unhide hx p hp).2 b8⟩)
  replace hy : Hid (∀ p, progD (qs.map lineOf) = some p → yn = p.length ∧ Po w8 (.slice ya yn yc) p) := hide (fun p hp => ⟨(unhide hy p hp).1, ownP_next (unhide hy p hp).2 b8⟩)
  have nn : ((n : Int) == (n : Int)) = true := by simp
  clear kZ g7 b8
  cases hX : progD (ps.map lineOf) with
  | none =>
    obtain rfl : 2 = cx := by have := unhide hcx; rw [hX] at this; exact this
    have done : Hid True := hide trivial
    cases hY : progD (qs.map lineOf) with
    | none =>
      obtain rfl : 2 = cy := by have := unhide hcy; rw [hY] at this; exact this
      clear hz hx hy hcx hcy hX hY
      simp only [bothD, Option.isSome_none]
      go_wp2_with fail
      refine kF.mono ?_
      rintro e w9 ⟨rfl, b9⟩
      have g9 := hide (below_then (unhide g8) b9)
      clear kF b9
      go_wp2
      go_ret
      exact ⟨rfl, unhide g9⟩
    | some q =>
      obtain rfl : 0 = cy := by have := unhide hcy; rw [hY] at this; exact this
      clear hz hx hy hcx hcy hX hY
      simp only [bothD, Option.isSome_none]
      go_wp2_with fail
      refine kF.mono ?_
      rintro e w9 ⟨rfl, b9⟩
      have g9 := hide (below_then (unhide g8) b9)
      clear kF b9
      go_wp2
      go_ret
      exact ⟨rfl, unhide g9⟩
  | some p =>
    obtain rfl : 0 = cx := by have := unhide hcx; rw [hX] at this; exact this
    cases hY : progD (qs.map lineOf) with
    | none =>
      obtain rfl : 2 = cy := by have := unhide hcy; rw [hY] at this; exact this
      clear hz hx hy hcx hcy hX hY
      simp only [bothD, Option.isSome_none]
      go_wp2_with fail
      refine kF.mono ?_
      rintro e w9 ⟨rfl, b9⟩
      have g9 := hide (below_then (unhide g8) b9)
      clear kF b9
      go_wp2
      go_ret
      exact ⟨rfl, unhide g9⟩
    | some q =>
      obtain rfl : 0 = cy := by have := unhide hcy; rw [hY] at this; exact this
      rw [hX, hY] at hz
      obtain ⟨rfl, hPz⟩ := hz (p ++ q) rfl
      obtain ⟨ex, hPx⟩ := unhide hx p hX
      obtain ⟨ey, hPy⟩ := unhide hy q hY
      have lx : xn ≤ 200 := by have := progD_len _ _ hX; rw [List.length_map, ← unhide hn] at this; omega
      have ly : yn ≤ 200 := by have := progD_len _ _ hY; rw [List.length_map, ← unhide hn'] at this; omega
      have hz8 := hide hPz
      have hx8 := hide hPx
      have hy8 := hide hPy
      replace ex := hide ex
      replace ey := hide ey
      clear hPz hPx hPy hz hx hy hcx hcy hX hY
      simp only [bothD, Option.isSome_some]
      obtain ⟨zn, hzn⟩ : ∃ zn, (p ++ q).length = zn := ⟨_, rfl⟩
      rw [hzn] at hz8 ⊢
      clear hzn
      go_wp2_with fail
      refine kF.mono ?_
      rintro e w9 ⟨rfl, b9⟩
      have g9 := hide (below_then (unhide g8) b9)
      have hz9 := hide (ownP_next (unhide hz8) b9)
      obtain ⟨qx, qx1, qx2, qx3⟩ := po_news (ownP_next (unhide hx8) b9)
      obtain ⟨qy, qy1, qy2, qy3⟩ := po_news (ownP_next (unhide hy8) b9)
      rw [← unhide ex] at qx3
      rw [← unhide ey] at qy3
      have bA := below_new w9 (.cells #[] 32)
      have newsA := qx3.next bA
      have ownA : (w9.alloc (.cells #[] 32)).ownsRow w9.heap.size 32 5 (.slice (some ⟨w9.heap.size, 0, none⟩) 0 0) 0 [] := ⟨rfl, .inr ⟨w9.heap.size, 0, #[], rfl, Nat.le_refl _, heap_alloc_new w9 _, Nat.le_refl _, Nat.zero_le _, rfl, rfl⟩⟩
      have sA := bA.size
      replace bA := hide bA
      replace qx1 := hide qx1
      replace qx2 := hide qx2
      replace qy1 := hide qy1
      replace qy2 := hide qy2
      replace qy3 := hide qy3
      clear kF b9 hz8 hx8 hy8 g8 qx3
      go_wp2_with (at_builtin; first
        | (refine wpList_appG elIns _ (by rfl) _ _ rfl w9.heap.size _ 0 [] rfl ownA _ xn (flat qx) rfl newsA (by omega) (by omega) sA ?_; intro v10 w10 own10 gr10; have g10 := hide (Below.grown (unhide bA) gr10 sA (fun q hq => (ownA.lt q hq).1)); have newsB := News.next (unhide qy3) (unhide g10); have sB := Below.size (unhide g10); rw [Nat.zero_add, List.nil_append] at own10)
        | (refine wpList_appG elIns _ (by rfl) _ _ rfl w9.heap.size _ xn (flat qx) rfl own10 _ yn (flat qy) rfl newsB (by omega) (by omega) sB ?_; intro v11 w11 own11 gr11))
      have g11 := (unhide g10).grown gr11 sB (fun q hq => (own10.lt q hq).1)
      have hP11 : Po w11 v11 (p ++ q) := by
        refine ⟨w9.heap.size, qx ++ qy, by rw [List.map_append, unhide qx1, unhide qy1], ?_, fun t ht => ?_⟩
        · rw [flat_append, List.length_append, ← unhide ex, ← unhide ey]; exact own11
        · rcases List.mem_append.1 ht with h | h
          · exact (unhide qx2 t h).next g11
          · exact (unhide qy2 t h).next g11
      have kS := same_any (p ++ q) (p ++ q) _ _ w11 (ownP_next (unhide hz9) g11).ps hP11.ps
      rw [(sameL_iff (p ++ q) (p ++ q)).2 rfl] at kS
      have h11 := hide (below_then (unhide g9) g11)
      clear hP11 g11 own11 gr11 own10 gr10 g10 newsB sB ownA newsA sA bA qx1 qx2 qy1 qy2 qy3 hz9 g9
      go_wp2_with fail
      refine kS.mono ?_
      rintro e w12 ⟨rfl, b12⟩
      have g12 := hide (below_then (unhide h11) b12)
      clear kS b12
      go_wp2
      go_ret
      exact ⟨rfl, unhide g12⟩
end Go.Proofs.YtanieihnkajpdaaDoor
