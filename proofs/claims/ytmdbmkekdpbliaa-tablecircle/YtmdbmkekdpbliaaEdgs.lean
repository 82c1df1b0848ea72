/- Edges of a table. -/
import Derived.Test.YtmdbmkekdpbliaaSrte
import Derived.Test.YtmdbmkekdpbliaaDrop
namespace Go.Proofs.Ytmdbmkekdpbliaa
open Go.RowKit

/-- Pairs behind pairs: append of a row that may be nil. -/
theorem app_pr {M M' : Nat} {u v : Value} {l m : List En} {w : World} (ty : TypeId) (hu : Pr 69 M u l w) (hv : Pr 69 M' v m w) (hM : M ≤ w.heap.size) (hl : l.length + m.length ≤ 100000000) :
    ∃ v' w', (Builtin.append_ #[66, 66] ty #[u, v]).run Try.prog w = .ok v' w' ∧ Pr 69 M v' (l ++ m) w' ∧ w.grownBy w' u.ownBlock := by
  obtain ⟨i0, hi, hz0, hz1, hz2⟩ := info_parts inf69
  have up : ∀ v' w', w'.ownsRow M 69 2 v' (l.length + m.length) (pairs l ++ pairs m) → Pr 69 M v' (l ++ m) w' := fun v' w' h => by
    unfold Pr
    rw [List.length_append, pairs_app]
    exact h
  rcases hv.2 with ⟨rfl, h0⟩ | ⟨g, cap, cur, rfl, hB, hg, h2, h3, h4, h5⟩
  · obtain rfl : m = [] := List.eq_nil_of_length_eq_zero h0
    have hr := run_append_owned_none (P := Try.prog) (w := w) M 66 ty 69 i0 2 Try.underlying66 hi u l.length _ hu
    exact ⟨u, w, hr, by rw [List.append_nil]; exact hu, ⟨rfl, rfl, rfl, Nat.le_refl _, fun _ _ _ => rfl⟩⟩
  · have hnews : ∀ j x, (pairs m)[j]? = some x → w.cell? ((⟨g, 0, none⟩ : Addr).add j) = some x := fun j x hj => by
      have hjl : j < m.length * 2 := by have := (List.getElem?_eq_some_iff.1 hj).1; rwa [pairs_len] at this
      rw [Addr.add_lit, Nat.zero_add, ← hj, ← h5, List.getElem?_take_of_lt hjl]
      simp [World.cell?, hg]
    obtain ⟨v', w', hr, o2, o3, _⟩ := run_append_own (P := Try.prog) w M 66 ty 69 i0 _ 2 16 Try.underlying66 hi hz0 hz1 hz2 rfl (by decide) u l.length _ hu ⟨g, 0, none⟩ m.length cap (pairs m) (pairs_len m) hnews (pairs_one m) (by unfold maxLen; omega) (by omega) hM
    exact ⟨v', w', hr, up v' w' o2, o3⟩
theorem wpList_appE {w w' : World} {ops : Array Oper} {rest : List Oper} {o : Oper} {a : Act} {Q : Exit → Act → World → Prop} {u v v' : Value} (hgd : o.guard = none) (s x : Operand)
    (ho : o.op = .call { callee := .builtin .append, args := #[s, x], argTypes := #[66, 66] }) (hs : a.eval s = u) (hx : a.eval x = v) (hr : (Builtin.append_ #[66, 66] o.type #[u, v]).run Try.prog w = .ok v' w')
    (h : wpList Try.prog ops Q rest (a.put o.dst v') w') : wpList Try.prog ops Q (o :: rest) a w :=
  wpList_plain hgd fun K hK => by
    unfold Oper.wp execOp
    simp only [ho, resolve, invoke, builtin, Sem.run_bind, Sem.run_pure, Result.andThen_ok, List.map_toArray, List.map_cons, List.map_nil, hs, hx, hr]
    exact hK _ _ h
/-- The edges of the first m nodes, node by node. -/
def rawE (T : Nat → Lv) : Nat → List En
  | 0 => []
  | m + 1 => rawE T m ++ edgeL (T m).1 (T m).2
theorem rawE_mem {T : Nat → Lv} {p : En} : ∀ n, p ∈ rawE T n ↔ ∃ i, i < n ∧ p ∈ edgeL (T i).1 (T i).2
  | 0 => by simp [rawE]
  | n + 1 => by
    unfold rawE
    rw [List.mem_append, rawE_mem n]
    constructor
    · rintro (⟨i, h1, h2⟩ | h)
      · exact ⟨i, by omega, h2⟩
      · exact ⟨n, by omega, h⟩
    · rintro ⟨i, h1, h2⟩
      rcases (show i < n ∨ i = n by omega) with h | rfl
      · exact .inl ⟨i, h, h2⟩
      · exact .inr h2
/-- All edges: by From, then To. -/
def edgesD (T : Nat → Lv) (n : Nat) : List En := srtE (rawE T n)
variable {B n : Nat} {most : Int} {T : Nat → Lv} {b rb : Nat} {lb : Nat → Nat} {hv qv : Nat → Value}
set_option maxRecDepth 100000 in
set_option maxHeartbeats 4000000 in
theorem edges_t (w : World) (h : Tb B n most T b rb lb hv qv w) (hs : ∀ i, i < n → (T i).1.length + (T i).2.length ≤ 400) (hn : n ≤ 60) :
    Calls Try.prog 37 #[.pointer (some ⟨b, 0, none⟩)] w fun e w' => ∃ v, e = .returned v ∧ Pr 69 w.heap.size v (edgesD T n) w' ∧ Below w.heap.size w w' := by
  have c0 := h.c0
  have HT := hide h
  clear h
  go_enter Try.func37, Try.ntmps37
  go_wp2_with fail
  clear c0
  go_loopw [3, 11] (fun s3 s11 wr => ∃ (t c : Nat) (ag : Option Addr) (cg : Nat), t ≤ n ∧ c ≤ t * 160000 ∧ s3 = .slice ag c cg ∧ s11 = .int .i64 t ∧ Hid ((rawE T t).length = c) ∧ Hid (Pr 69 w.heap.size (.slice ag c cg) (rawE T t) wr) ∧ Hid (Cw w wr) ∧ Hid (Below w.heap.size w wr)) (fun _ s11 _ => n - (intOf s11).toNat)
  case atStart => exact ⟨0, 0, none, 0, Nat.zero_le _, Nat.zero_le _, rfl, rfl, rfl, Pr.nil _ _ _, Cw.refl _, Below.refl _ _⟩
  case round =>
    obtain ⟨t, c, ag, cg, ht, hct, rfl, rfl, hl, P3, k3, b3⟩ := hrel
    by_cases hlt : t < n
    · have T3 := (unhide k3).tb (unhide HT)
      have d1 := T3.at_ hlt
      have L4 := hide (show Ln _ _ _ _ _ from ⟨_, _, (T3.ls.la t hlt).next (below_new wr (.cells #[.pointer (some ⟨lb t, 0, none⟩)] 95))⟩)
      have hsum := hide (hs t hlt)
      have hstep : Hid (rawE T (t + 1) = rawE T t ++ edgeL (T t).1 (T t).2) := rfl
      generalize rawE T t = L0 at hl P3 hstep
      clear T3
      go_wp2_with fail
      refine (edges_r _ (unhide L4) (unhide hsum)).mono ?_
      rintro e w5 ⟨v5, rfl, P5, b5, hle⟩
      have bw := below_then (below_new wr _) b5
      have P4 := (unhide P3).next bw
      obtain ⟨v6, w6, happ, P6, g6⟩ := app_pr 66 P4 P5 (Nat.le_trans (unhide b3).size bw.size) (by have := unhide hl; omega)
      obtain ⟨a6, n6, c6, hn6, rfl⟩ : ∃ a n c, (L0 ++ edgeL (T t).1 (T t).2).length = n ∧ v6 = .slice a n c := by
        obtain ⟨a, c, e⟩ := P6.form
        exact ⟨a, _, c, rfl, e⟩
      have hc6 : n6 ≤ c + 160000 := by rw [← hn6, List.length_append, unhide hl]; omega
      have k6 := hide ((unhide k3).trans ((Cw.of bw).trans (Cw.row P4 g6)))
      have b6 := hide ((below_then (unhide b3) bw).trans (grown_below g6 (Nat.le_trans (unhide b3).size bw.size) (fun j hj => (P4.lt j hj).1)))
      obtain ⟨a5, n5, c5, rfl⟩ : ∃ a n c, v5 = .slice a n c := by
        obtain ⟨a, c, e⟩ := P5.form
        exact ⟨a, _, c, e⟩
      replace P6 := hide P6
      replace hn6 := hide hn6
      clear d1 b5 bw P4 g6 P5 hle
      go_wp2_with (at_builtin; refine wpList_appE rfl (.tmp 15) (.tmp 17) rfl rfl rfl happ ?_; clear happ)
      go_roundw
      case rel => exact ⟨t + 1, n6, a6, c6, by omega, by omega, rfl, by go_num, by rw [unhide hstep]; exact unhide hn6, by rw [unhide hstep]; exact unhide P6, unhide k6, unhide b6⟩
      case measure => simp [intOf]; omega
    · obtain rfl : t = n := by omega
      have C := hide (sortE_any wr (unhide P3) (by have := unhide hl; omega))
      go_wp2_with fail
      refine (unhide C).mono ?_
      rintro e w5 ⟨rfl, P5, g5⟩
      have b5 := hide ((unhide b3).trans (grown_below g5 (unhide b3).size (fun j hj => ((unhide P3).lt j hj).1)))
      replace P5 := hide P5
      clear g5
      go_wp2
      go_ret
      exact ⟨_, rfl, unhide P5, unhide b5⟩
theorem edges_n (w : World) (h : Tn B n most T b w) (hs : ∀ i, i < n → (T i).1.length + (T i).2.length ≤ 400) (hn : n ≤ 60) {l : List En} (hl : edgesD T n = l) :
    Calls Try.prog 37 #[.pointer (some ⟨b, 0, none⟩)] w fun e w' => ∃ v, e = .returned v ∧ Pr 69 w.heap.size v l w' ∧ Below w.heap.size w w' := by
  subst hl
  obtain ⟨rb, lb, hv, qv, t⟩ := h
  exact edges_t w t hs hn
theorem drop_n (w : World) (h : Tn B n most T b w) (hg : Gd n 1000 T) (hn : n ≤ 10000) (who : Int) {r : List Int × (Nat → Lv)} (hr : dropD who T (dn n 0) = r) :
    Calls Try.prog 31 #[.pointer (some ⟨b, 0, none⟩), .int .i64 who] w fun e w' => ∃ gv, e = .returned gv ∧ Is w.heap.size gv r.1 w' ∧ Tn B n most r.2 b w' ∧ Below B w w' := by
  subst hr
  obtain ⟨rb, lb, hv, qv, t⟩ := h
  refine (drop_t w t hg hn who).mono ?_
  rintro e w' ⟨gv, hv', qv', M, h1, h2, h3, h4, h5⟩
  exact ⟨gv, h1, h3.down h2, ⟨_, _, _, _, h4⟩, h5⟩
end Go.Proofs.Ytmdbmkekdpbliaa
