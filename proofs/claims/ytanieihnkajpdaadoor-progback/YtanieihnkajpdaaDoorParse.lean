/- Parse of package prog. -/
import Derived.Test.YtanieihnkajpdaaDoorPline
namespace Go.Proofs.YtanieihnkajpdaaDoor
open Go.RowKit

/-- The cells of an instruction whose L is v. -/
def insC (q : In × Value) : List Value := [.int .i64 q.1.k, .int .i64 q.1.a, .int .i64 q.1.b, .int .i64 q.1.c, q.2]
def flat : List (In × Value) → List Value
  | [] => []
  | q :: r => insC q ++ flat r
theorem flat_append : ∀ (a b : List (In × Value)), flat (a ++ b) = flat a ++ flat b
  | [], b => rfl
  | q :: r, b => by simp [flat, flat_append r b]
theorem flat_len : ∀ (a : List (In × Value)), (flat a).length = a.length * 5
  | [] => rfl
  | q :: r => by simp [flat, flat_len r, insC]; omega
theorem flat_at : ∀ (a : List (In × Value)) (i j : Nat) (q : In × Value), a[i]? = some q → j < 5 → (flat a)[i * 5 + j]? = (insC q)[j]?
  | [], i, j, q, h, _ => by simp at h
  | p :: r, 0, j, q, h, hj => by
    obtain rfl : p = q := by simpa using h
    show (insC p ++ flat r)[0 * 5 + j]? = _
    rw [Nat.zero_mul, Nat.zero_add, List.getElem?_append_left (by simpa [insC] using hj)]
  | p :: r, i + 1, j, q, h, hj => by
    have h' : r[i]? = some q := by simpa using h
    show (insC p ++ flat r)[(i + 1) * 5 + j]? = _
    rw [List.getElem?_append_right (by simp [insC]; omega)]
    have e : (i + 1) * 5 + j - (insC p).length = i * 5 + j := by simp [insC]; omega
    rw [e]
    exact flat_at r i j q h' hj
/-- The program ps lies in a row of its own: u; and so do its numbers. -/
def Po (w : World) (u : Value) (ps : List In) : Prop := ∃ (B : Nat) (qs : List (In × Value)), qs.map (·.1) = ps ∧ w.ownsRow B 32 5 u ps.length (flat qs) ∧ ∀ q ∈ qs, Lo w q.2 q.1.l
theorem Po.ps {w : World} {u : Value} {ps : List In} (h : Po w u ps) : Ps w.heap.size w u ps := by
  obtain ⟨B, qs, rfl, h, hlo⟩ := h
  have hl : (qs.map (·.1)).length = qs.length := by simp
  rcases h.2 with ⟨rfl, h0⟩ | ⟨g, cap, cur, rfl, _, hg, hnc, hcm, _, _⟩
  · exact ⟨none, 0, by rw [h0], by omega, Nat.zero_le _, .inl h0⟩
  · refine ⟨_, cap, rfl, hnc, hcm, .inr ⟨g, 0, rfl, heap_lt hg, fun i hi => ?_⟩⟩
    have hi2 : i < qs.length := by omega
    have eq : (qs.map (·.1)).getD i z0 = qs[i].1 := by simp [hi2]
    rw [eq]
    have cell : ∀ j v, j < 5 → (insC qs[i])[j]? = some v → w.cell? ⟨g, 0 + i * 5 + j, none⟩ = some v := fun j v hj hv => by
      have := h.cells (g := g) rfl (i * 5 + j) v ((flat_at qs i j qs[i] (List.getElem?_eq_getElem hi2) hj).trans hv)
      rw [addr_add, ← Nat.add_assoc] at this
      exact this
    exact ⟨cell 0 _ (by decide) rfl, cell 1 _ (by decide) rfl, cell 2 _ (by decide) rfl, cell 3 _ (by decide) rfl, qs[i].2, cell 4 _ (by decide) rfl, (hlo qs[i] (List.getElem_mem hi2)).ls⟩
theorem ownP_next {w w' : World} {u : Value} {ps : List In} (h : Po w u ps) (hb : Below w.heap.size w w') : Po w' u ps := by
  obtain ⟨B, qs, e, h, hlo⟩ := h
  exact ⟨B, qs, e, own_next h hb, fun q hq => (hlo q hq).next hb⟩
theorem lo_grown {w w' : World} {u v : Value} {l : List Int} {B n : Nat} {xs : List Value} (h : Lo w v l) (ho : w.ownsRow B 32 5 u n xs) (hg : w.grownBy w' u.ownBlock) : Lo w' v l := by
  refine h.keep fun k cur fr hk => ?_
  refine hg.block k (heap_lt hk) (fun e => ?_)
  rcases ho.2 with ⟨rfl, _⟩ | ⟨g, cap, cur2, rfl, _, hg2, _⟩
  · cases e
  · have : g = k := by
      have := e
      simp only [Value.ownBlock] at this
      injection this with this
      exact this.symm
    subst this
    rw [hk] at hg2
    cases hg2
/-- The program that some lines tell. -/
def progD : List (List UInt8) → Option (List In)
  | [] => some []
  | s :: r => match plD s, progD r with
    | some x, some l => some (x :: l)
    | _, _ => none
theorem prog_snoc : ∀ (l : List (List UInt8)) (ns : List In) (s : List UInt8) (n : In), progD l = some ns → plD s = some n → progD (l ++ [s]) = some (ns ++ [n])
  | [], ns, s, n, h, hn => by
    simp only [progD] at h
    injection h with h
    subst h
    simp [progD, hn]
  | t :: r, ns, s, n, h, hn => by
    simp only [progD, List.cons_append] at h ⊢
    cases ht : plD t with
    | none => rw [ht] at h; cases h
    | some m =>
      rw [ht] at h
      cases hr : progD r with
      | none => rw [hr] at h; cases h
      | some l =>
        rw [hr] at h
        simp only at h
        injection h with h
        subst h
        rw [prog_snoc r l s n hr hn]
        rfl
theorem prog_none : ∀ (l : List (List UInt8)) (s : List UInt8), s ∈ l → plD s = none → progD l = none
  | [], s, h, _ => by cases h
  | t :: r, s, h, hn => by
    simp only [progD]
    rcases List.mem_cons.1 h with rfl | h
    · rw [hn]
    · rw [prog_none r s h hn]
      cases plD t <;> rfl
/-- What Parse answers. -/
def Parsed (o : Option (List In)) (w : World) (e : Ending) (w' : World) : Prop :=
  ∃ a n c, e = .returned (.tuple #[.slice a n c, .int .i64 (if o.isSome then 0 else 2)]) ∧ Below w.heap.size w w' ∧ ∀ ps, o = some ps → n = ps.length ∧ Po w' (.slice a n c) ps
set_option maxRecDepth 100000 in
set_option maxHeartbeats 1000000 in
theorem parse_any (ss : List (List UInt8)) (v : Value) (w : World) (hv : Ss w.heap.size w v ss) (hn : ss.length ≤ 100000) (hs : ∀ s ∈ ss, s.length ≤ 100000) (hr : Vr w) :
    Calls Tryd.prog 15 #[v] w (Parsed (progD ss) w) := by
  obtain ⟨n, hnn⟩ : ∃ n, n = ss.length := ⟨_, rfl⟩
  have hv0 := hv
  obtain ⟨a, cap, rfl, h1, h2, _, h3⟩ := hv
  have hmax : maxLen = 9223372036854775807 := rfl
  rw [← hnn] at h1 hn ⊢
  replace hnn := hide hnn
  have hnl : (n : Int) ≤ 9223372036854775807 := by omega
  replace hv0 := hide hv0
  replace h3 := hide h3
  replace hs := hide hs
  replace hr := hide hr
  go_enter Tryd.func15, Tryd.ntmps15
  go_wp2_with (at_make; refine wpList_mk elIns _ rfl _ _ rfl n rfl rfl (by omega) (by omega) ?_; intro w1 hown1 hb1)
  replace hown1 := hide hown1
  replace hb1 := hide hb1
  go_loopw [4, 14] (fun u i wr => ∃ (k : Nat) (qs : List (In × Value)), k ≤ n ∧ i = .int .i64 k ∧ Below w.heap.size w wr ∧ progD (ss.take k) = some (qs.map (·.1)) ∧ wr.ownsRow w.heap.size 32 5 u k (flat qs) ∧ ∀ q ∈ qs, Lo wr q.2 q.1.l) (fun _ i _ => n - (RowKit.intOf i).toNat)
  case atStart => exact ⟨0, [], Nat.zero_le _, rfl, unhide hb1, rfl, unhide hown1, fun q hq => by cases hq⟩
  case round =>
    obtain ⟨k, qs, hk, rfl, hb, hns, hown, hlos⟩ := hrel
    clear hb1 hown1
    by_cases hlt : k < n
    · have kd : decide ((k : Int) < (n : Int)) = true := decide_eq_true (by omega)
      have kl : (k : Int) < (n : Int) := by omega
      have hk2 : k < ss.length := by have := unhide hnn; omega
      obtain ⟨_, _, hv, _, _, _, h3'⟩ := (unhide hv0).later hb
      cases hv
      rcases h3' with h0 | ⟨b, off, rfl, hbB, hc⟩
      · omega
      have hcell := hc k hk2
      obtain ⟨s, hss⟩ : ∃ s, ss.getD k [] = s := ⟨_, rfl⟩
      rw [hss] at hcell
      have hmem : s ∈ ss := by
        rw [← hss]
        have : ss.getD k [] = ss[k] := by simp [hk2]
        rw [this]; exact List.getElem_mem hk2
      have hsl := unhide hs s hmem
      have htk : ss.take (k + 1) = ss.take k ++ [s] := by
        have : ss.getD k [] = ss[k] := by simp [hk2]
        rw [List.take_add_one, List.getElem?_eq_getElem hk2, ← hss, this]; rfl
      have kP := parseLine_any s wr hsl ((unhide hr).next hb)
      replace hc := hide hc
      have hbs := hb.size
      replace hb := hide hb
      replace htk := hide htk
      replace hns := hide hns
      replace hmem := hide hmem
      replace hlos := hide hlos
      go_wp2_with fail
      refine kP.mono ?_
      rintro e w3 ⟨x, vx, rfl, hlo, hb3, hx⟩
      obtain ⟨va, vc, rfl, _⟩ := id hlo
      obtain ⟨vl, hvl⟩ : ∃ vl, x.l.length = vl := ⟨_, rfl⟩
      rw [hvl] at hlo ⊢
      replace hvl := hide hvl
      have own3 := own_next hown hb3
      have g3 := below_then (unhide hb) hb3
      have bB := below_new w3 (.cells #[.int .i64 x.k, .int .i64 x.a, .int .i64 x.b, .int .i64 x.c, .slice va vl vc] 32)
      have gB := below_then g3 bB
      have los3 : ∀ q ∈ qs, Lo w3 q.2 q.1.l := fun q hq => (unhide hlos q hq).next hb3
      cases hp : plD s with
      | none =>
        have hnone := hide (prog_none ss s (unhide hmem) hp)
        replace gB := hide gB
        clear hown own3 g3 bB los3 hlo hb3 hb hx kP hcell
        unfold iv
        go_wp2
        go_ret2
        exact ⟨none, 0, 0, by rw [unhide hnone]; rfl, unhide gB, fun l h => by rw [unhide hnone] at h; cases h⟩
      | some y =>
        have exy : x = y := by
          rcases hx with hx | hx
          · rw [hp] at hx; injection hx with hx; exact hx.symm
          · rw [hp] at hx; cases hx
        subst exy
        have hs2 := hide (prog_snoc _ _ s x (unhide hns) hp)
        have bA := below_new (w3.alloc (.cells #[.int .i64 x.k, .int .i64 x.a, .int .i64 x.b, .int .i64 x.c, .slice va vl vc] 32)) (.cells #[.int .i64 x.k, .int .i64 x.a, .int .i64 x.b, .int .i64 x.c, .slice va vl vc] 32)
        have ownA := own_next (own_next own3 bB) bA
        have gA := hide (below_then gB bA)
        have newsA := news_new (w3.alloc (.cells #[.int .i64 x.k, .int .i64 x.a, .int .i64 x.b, .int .i64 x.c, .slice va vl vc] 32)) (insC (x, .slice va vl vc)) 32 1 5 1 (w3.heap.size + 1) (by simp) rfl (fun q hq => by
          simp only [insC, List.mem_cons, List.not_mem_nil, or_false] at hq
          rcases hq with rfl | rfl | rfl | rfl | rfl <;> rfl)
        have losA : ∀ q ∈ qs ++ [(x, Value.slice va vl vc)], Lo ((w3.alloc (.cells #[.int .i64 x.k, .int .i64 x.a, .int .i64 x.b, .int .i64 x.c, .slice va vl vc] 32)).alloc (.cells #[.int .i64 x.k, .int .i64 x.a, .int .i64 x.b, .int .i64 x.c, .slice va vl vc] 32)) q.2 q.1.l := fun q hq => by
          rcases List.mem_append.1 hq with hq | hq
          · exact ((los3 q hq).next bB).next bA
          · simp at hq; subst hq; exact (hlo.next bB).next bA
        have sA := (unhide gA).size
        replace losA := hide losA
        replace hp := hide hp
        clear hown own3 g3 bB los3 hlo hb3 hb hx kP hcell gB bA
        unfold iv
        go_wp2_with (at_builtin; refine wpList_app elIns _ rfl _ _ rfl w.heap.size _ k (flat qs) rfl ownA _ 1 (insC (x, .slice va vl vc)) rfl newsA (by omega) (by omega) sA ?_; intro v6 w6 hown6 hgr6)
        have g6 := hide ((unhide gA).grown hgr6 sA (fun q hq => (ownA.lt q hq).1))
        have los6 : ∀ q ∈ qs ++ [(x, Value.slice va vl vc)], Lo w6 q.2 q.1.l := fun q hq => lo_grown (unhide losA q hq) ownA hgr6
        have hown7 : w6.ownsRow w.heap.size 32 5 v6 (k + 1) (flat (qs ++ [(x, Value.slice va vl vc)])) := by
          rw [flat_append]
          have : flat [(x, Value.slice va vl vc)] = insC (x, .slice va vl vc) := by simp [flat]
          rw [this]; exact hown6
        replace hown7 := hide hown7
        replace los6 := hide los6
        clear hown6 hgr6 newsA ownA gA losA
        go_wp2
        go_roundw
        case rel => exact ⟨k + 1, qs ++ [(x, Value.slice va vl vc)], by omega, by go_num, unhide g6, by rw [unhide htk, List.map_append]; exact unhide hs2, unhide hown7, unhide los6⟩
        case measure => first | omega | (simp; omega) | (simp [RowKit.intOf]; omega)
    · have kd : decide ((k : Int) < (n : Int)) = false := decide_eq_false (by omega)
      have e1 : ss.take k = ss := List.take_of_length_le (by have := unhide hnn; omega)
      rw [e1] at hns
      have hql : qs.length = k := by
        have := hown.1
        rw [flat_len] at this
        omega
      have hPo : Po wr u4 (qs.map (·.1)) := ⟨w.heap.size, qs, rfl, by rw [List.length_map, hql]; exact hown, hlos⟩
      obtain ⟨ra, rn, rc, re⟩ : ∃ ra rn rc, u4 = .slice ra rn rc := by
        rcases hown.2 with ⟨e, _⟩ | ⟨g, cap, cur, e, _⟩
        · exact ⟨_, _, _, e⟩
        · exact ⟨_, _, _, e⟩
      subst re
      have hrn : rn = k := by
        rcases hown.2 with ⟨e, e2⟩ | ⟨g, cap, cur, e, _⟩
        · injection e with _ e _; omega
        · injection e
      subst hrn
      replace hns := hide hns
      replace hPo := hide hPo
      replace hb := hide hb
      replace hql := hide hql
      clear hown hlos
      go_wp2
      go_ret2
      exact ⟨ra, _, rc, by rw [unhide hns]; rfl, unhide hb, fun l h => by rw [unhide hns] at h; injection h with h; subst h; exact ⟨by rw [List.length_map]; exact (unhide hql).symm, unhide hPo⟩⟩
end Go.Proofs.YtanieihnkajpdaaDoor
