/- Texts of this claim, put together in their order. -/
import Derived.Test.YtdhpahopfmcdkaaGreatBase1
import Derived.Test.YtdhpahopfmcdkaaGreatBase2
import Derived.Test.YtdhpahopfmcdkaaGreatBase3
import Derived.Test.YtdhpahopfmcdkaaGreatBase4
import Derived.Test.YtdhpahopfmcdkaaGreatBase5
import Derived.Test.YtdhpahopfmcdkaaGreatBase6
import Derived.Test.YtdhpahopfmcdkaaGreatBase7
import Derived.Test.YtdhpahopfmcdkaaGreatBase8
import Derived.Test.YtdhpahopfmcdkaaGreatOfPathtwo9
import Derived.Test.YtdhpahopfmcdkaaGreatOfPathtwo10
/- Edges of a table. -/
namespace Go.Proofs.YtdhpahopfmcdkaaGreat
open Go.RowKit

/-- Pairs behind pairs: append of a row that may be nil. -/
theorem app_pr {M M' : Nat} {u v : Value} {l m : List En} {w : World} (ty : TypeId) (hu : Pr 91 M u l w) (hv : Pr 91 M' v m w) (hM : M ≤ w.heap.size) (hl : l.length + m.length ≤ 100000000) :
    ∃ v' w', (Builtin.append_ #[51, 51] ty #[u, v]).run Tryz.prog w = .ok v' w' ∧ Pr 91 M v' (l ++ m) w' ∧ w.grownBy w' u.ownBlock := by
  obtain ⟨i0, hi, hz0, hz1, hz2⟩ := info_parts inf69
  have up : ∀ v' w', w'.ownsRow M 91 2 v' (l.length + m.length) (pairs l ++ pairs m) → Pr 91 M v' (l ++ m) w' := fun v' w' h => by
    unfold Pr
    rw [List.length_append, pairs_app]
    exact h
  rcases hv.2 with ⟨rfl, h0⟩ | ⟨g, cap, cur, rfl, hB, hg, h2, h3, h4, h5⟩
  · obtain rfl : m = [] := List.eq_nil_of_length_eq_zero h0
    have hr := run_append_owned_none (P := Tryz.prog) (w := w) M 51 ty 91 i0 2 Tryz.underlying51 hi u l.length _ hu
    exact ⟨u, w, hr, by rw [List.append_nil]; exact hu, ⟨rfl, rfl, rfl, Nat.le_refl _, fun _ _ _ => rfl⟩⟩
  · have hnews : ∀ j x, (pairs m)[j]? = some x → w.cell? ((⟨g, 0, none⟩ : Addr).add j) = some x := fun j x hj => by
      have hjl : j < m.length * 2 := by have := (List.getElem?_eq_some_iff.1 hj).1; rwa [pairs_len] at this
      rw [Addr.add_lit, Nat.zero_add, ← hj, ← h5, List.getElem?_take_of_lt hjl]
      simp [World.cell?, hg]
    obtain ⟨v', w', hr, o2, o3, _⟩ := run_append_own (P := Tryz.prog) w M 51 ty 91 i0 _ 2 16 Tryz.underlying51 hi hz0 hz1 hz2 rfl (by decide) u l.length _ hu ⟨g, 0, none⟩ m.length cap (pairs m) (pairs_len m) hnews (pairs_one m) (by unfold maxLen; omega) (by omega) hM
    exact ⟨v', w', hr, up v' w' o2, o3⟩
theorem wpList_appE {w w' : World} {ops : Array Oper} {rest : List Oper} {o : Oper} {a : Act} {Q : Exit → Act → World → Prop} {u v v' : Value} (hgd : o.guard = none) (s x : Operand)
    (ho : o.op = .call { callee := .builtin .append, args := #[s, x], argTypes := #[51, 51] }) (hs : a.eval s = u) (hx : a.eval x = v) (hr : (Builtin.append_ #[51, 51] o.type #[u, v]).run Tryz.prog w = .ok v' w')
    (h : wpList Tryz.prog ops Q rest (a.put o.dst v') w') : wpList Tryz.prog ops Q (o :: rest) a w :=
  wpList_plain hgd fun K hK => by
    unfold Oper.wp execOp
    simp only [ho, resolve, invoke, builtin, Sem.run_bind, Sem.run_pure, Result.andThen_ok, List.map_toArray, List.map_cons, List.map_nil, hs, hx, hr]
    exact hK _ _ h
/-- The edges of the first m nodes, node by node. -/
def rawE (T : Nat → Lv) : Nat → List En
  | 0 => []
  | m + 1 => rawE T m ++ edgeL (T m).1 (T m).2
theorem rawE_mem {T : Nat → Lv} {p : En} : ∀ n, p ∈ rawE T n ↔ ∃ i, i < n ∧ p ∈ edgeL (T i).1 (T i).2
  | 0 => by simp [rawE]
  | n + 1 => by
    unfold rawE
    rw [List.mem_append, rawE_mem n]
    constructor
    · rintro (⟨i, h1, h2⟩ | h)
      · exact ⟨i, by omega, h2⟩
      · exact ⟨n, by omega, h⟩
    · rintro ⟨i, h1, h2⟩
      rcases (show i < n ∨ i = n by omega) with h | rfl
      · exact .inl ⟨i, h, h2⟩
      · exact .inr h2
/-- All edges: by From, then To. -/
def edgesD (T : Nat → Lv) (n : Nat) : List En := srtE (rawE T n)
variable {B n : Nat} {most : Int} {T : Nat → Lv} {b rb : Nat} {lb : Nat → Nat} {hv qv : Nat → Value}
set_option maxRecDepth 100000 in
set_option maxHeartbeats 4000000 in
theorem edges_t (w : World) (h : Tb B n most T b rb lb hv qv w) (hs : ∀ i, i < n → (T i).1.length + (T i).2.length ≤ 400) (hn : n ≤ 600) :
    Calls Tryz.prog 21 #[.pointer (some ⟨b, 0, none⟩)] w fun e w' => ∃ v, e = .returned v ∧ Pr 91 w.heap.size v (edgesD T n) w' ∧ Below w.heap.size w w' := by
  have c0 := h.c0
  have HT := hide h
  clear h
  go_enter Tryz.func21, Tryz.ntmps21
  go_wp2_with fail
  clear c0
  go_loopw [3, 11] (fun s3 s11 wr => ∃ (t c : Nat) (ag : Option Addr) (cg : Nat), t ≤ n ∧ c ≤ t * 160000 ∧ s3 = .slice ag c cg ∧ s11 = .int .i64 t ∧ Hid ((rawE T t).length = c) ∧ Hid (Pr 91 w.heap.size (.slice ag c cg) (rawE T t) wr) ∧ Hid (Cw w wr) ∧ Hid (Below w.heap.size w wr)) (fun _ s11 _ => n - (intOf s11).toNat)
  case atStart => exact ⟨0, 0, none, 0, Nat.zero_le _, Nat.zero_le _, rfl, rfl, rfl, Pr.nil _ _ _, Cw.refl _, Below.refl _ _⟩
  case round =>
    obtain ⟨t, c, ag, cg, ht, hct, rfl, rfl, hl, P3, k3, b3⟩ := hrel
    by_cases hlt : t < n
    · have T3 := (unhide k3).tb (unhide HT)
      have d1 := T3.at_ hlt
      have L4 := hide (show Ln _ _ _ _ _ from ⟨_, _, (T3.ls.la t hlt).next (below_new wr (.cells #[.pointer (some ⟨lb t, 0, none⟩)] 62))⟩)
      have hsum := hide (hs t hlt)
      have hstep : Hid (rawE T (t + 1) = rawE T t ++ edgeL (T t).1 (T t).2) := rfl
      generalize rawE T t = L0 at hl P3 hstep
      clear T3
      go_wp2_with fail
      refine (edges_r _ (unhide L4) (unhide hsum)).mono ?_
      rintro e w5 ⟨v5, rfl, P5, b5, hle⟩
      have bw := below_then (below_new wr _) b5
      have P4 := (unhide P3).next bw
      obtain ⟨v6, w6, happ, P6, g6⟩ := app_pr 51 P4 P5 (Nat.le_trans (unhide b3).size bw.size) (by have := unhide hl; omega)
      obtain ⟨a6, n6, c6, hn6, rfl⟩ : ∃ a n c, (L0 ++ edgeL (T t).1 (T t).2).length = n ∧ v6 = .slice a n c := by
        obtain ⟨a, c, e⟩ := P6.form
        exact ⟨a, _, c, rfl, e⟩
      have hc6 : n6 ≤ c + 160000 := by rw [← hn6, List.length_append, unhide hl]; omega
      have k6 := hide ((unhide k3).trans ((Cw.of bw).trans (Cw.row P4 g6)))
      have b6 := hide ((below_then (unhide b3) bw).trans (grown_below g6 (Nat.le_trans (unhide b3).size bw.size) (fun j hj => (P4.lt j hj).1)))
      obtain ⟨a5, n5, c5, rfl⟩ : ∃ a n c, v5 = .slice a n c := by
        obtain ⟨a, c, e⟩ := P5.form
        exact ⟨a, _, c, e⟩
      replace P6 := hide P6
      replace hn6 := hide hn6
      clear d1 b5 bw P4 g6 P5 hle
      go_wp2_with (at_builtin; refine wpList_appE rfl (.tmp 15) (.tmp 17) rfl rfl rfl happ ?_; clear happ)
      go_roundw
      case rel => exact ⟨t + 1, n6, a6, c6, by omega, by omega, rfl, by go_num, by rw [unhide hstep]; exact unhide hn6, by rw [unhide hstep]; exact unhide P6, unhide k6, unhide b6⟩
      case measure => simp [intOf]; omega
    · obtain rfl : t = n := by omega
      have C := hide (sortE_any wr (unhide P3) (by have := unhide hl; omega))
      go_wp2_with fail
      refine (unhide C).mono ?_
      rintro e w5 ⟨rfl, P5, g5⟩
      have b5 := hide ((unhide b3).trans (grown_below g5 (unhide b3).size (fun j hj => ((unhide P3).lt j hj).1)))
      replace P5 := hide P5
      clear g5
      go_wp2
      go_ret
      exact ⟨_, rfl, unhide P5, unhide b5⟩
theorem edges_n (w : World) (h : Tn B n most T b w) (hs : ∀ i, i < n → (T i).1.length + (T i).2.length ≤ 400) (hn : n ≤ 600) {l : List En} (hl : edgesD T n = l) :
    Calls Tryz.prog 21 #[.pointer (some ⟨b, 0, none⟩)] w fun e w' => ∃ v, e = .returned v ∧ Pr 91 w.heap.size v l w' ∧ Below w.heap.size w w' := by
  subst hl
  obtain ⟨rb, lb, hv, qv, t⟩ := h
  exact edges_t w t hs hn
theorem drop_n (w : World) (h : Tn B n most T b w) (hg : Gd n 1000 T) (hn : n ≤ 10000) (who : Int) {r : List Int × (Nat → Lv)} (hr : dropD who T (dn n 0) = r) :
    Calls Tryz.prog 11 #[.pointer (some ⟨b, 0, none⟩), .int .i64 who] w fun e w' => ∃ gv, e = .returned gv ∧ Is w.heap.size gv r.1 w' ∧ Tn B n most r.2 b w' ∧ Below B w w' := by
  subst hr
  obtain ⟨rb, lb, hv, qv, t⟩ := h
  refine (drop_t w t hg hn who).mono ?_
  rintro e w' ⟨gv, hv', qv', M, h1, h2, h3, h4, h5⟩
  exact ⟨gv, h1, h3.down h2, ⟨_, _, _, _, h4⟩, h5.1⟩
theorem drop_k (w : World) (h : Tn B n most T b w) (hg : Gd n 1000 T) (hn : n ≤ 10000) (who : Int) {r : List Int × (Nat → Lv)} (hr : dropD who T (dn n 0) = r) :
    Calls Tryz.prog 11 #[.pointer (some ⟨b, 0, none⟩), .int .i64 who] w fun e w' => ∃ gv, e = .returned gv ∧ Tn B n most r.2 b w' ∧ Below B w w' ∧ Kr w w' := by
  subst hr
  obtain ⟨rb, lb, hv, qv, t⟩ := h
  refine (drop_t w t hg hn who).mono ?_
  rintro e w' ⟨gv, hv', qv', M, h1, h2, h3, h4, h5⟩
  exact ⟨gv, h1, ⟨_, _, _, _, h4⟩, h5⟩
end Go.Proofs.YtdhpahopfmcdkaaGreat

/- Such tables have no edges. -/
namespace Go.Proofs.YtdhpahopfmcdkaaGreat
open Go.RowKit

theorem duo_raw (f g : Nat → Int) : ∀ n, rawE (duo f g) n = []
  | 0 => rfl
  | n + 1 => by
    unfold rawE
    rw [duo_raw f g n]
    rfl
theorem duo_edges (f g : Nat → Int) (n : Nat) : edgesD (duo f g) n = [] := by
  unfold edgesD
  rw [duo_raw]
  unfold srtE
  exact List.mergeSort_nil
end Go.Proofs.YtdhpahopfmcdkaaGreat

/- PathTwo, plainly: two that write. -/
namespace Go.Proofs.YtdhpahopfmcdkaaGreat
open Go.RowKit

def hr3 (i : Nat) : Int := if 1 ≤ i then 2 else 0
def ho3 (i : Nat) : Int := if 2 ≤ i then 2 else 0
def hs3 (i : Nat) : Int := if 3 ≤ i then 5 else 0
/-- What one that writes holds behind i requests. -/
def fW (r o s i : Nat) : Nat → Int := fun j => if j = r then hr3 i else if j = o then ho3 i else if j = s then hs3 i else 0
def n3 (r o s i : Nat) : Nat := if i = 0 then r else if i = 1 then o else s
def mW (i : Nat) : Int := if i = 2 then 5 else 2
theorem fW_0 (r o s : Nat) : fW r o s 0 = zer := by
  funext j; unfold fW zer hr3 ho3 hs3; simp
theorem three_of {i : Nat} (h : i < 3) : i = 0 ∨ i = 1 ∨ i = 2 := by omega
section
variable {r o s : Nat} (h1 : r ≠ o) (h2 : r ≠ s) (h3 : o ≠ s)
include h1 h2 h3
theorem fW_at (i : Nat) : fW r o s i r = hr3 i ∧ fW r o s i o = ho3 i ∧ fW r o s i s = hs3 i := by
  refine ⟨by simp [fW], by simp [fW, h1.symm], by simp [fW, h2.symm, h3.symm]⟩
theorem fW_step {i : Nat} (hi : i < 3) : set1 (fW r o s i) (n3 r o s i) (goal (fW r o s i (n3 r o s i)) (mW i)) = fW r o s (i + 1) := by
  obtain ⟨e1, e2, e3⟩ := fW_at h1 h2 h3 i
  have g1 : goal 0 2 = 2 := by decide +kernel
  have g2 : goal 0 5 = 5 := by decide +kernel
  rcases three_of hi with rfl | rfl | rfl
  · show set1 _ r (goal (fW r o s 0 r) 2) = _
    rw [e1]
    show set1 _ r (goal 0 2) = _
    rw [g1]
    funext j
    unfold set1 fW
    by_cases e : j = r
    · rw [if_pos e, if_pos e]; rfl
    · rw [if_neg e, if_neg e, if_neg e]; rfl
  · show set1 _ o (goal (fW r o s 1 o) 2) = _
    rw [e2]
    show set1 _ o (goal 0 2) = _
    rw [g1]
    funext j
    unfold set1 fW
    by_cases e : j = o
    · rw [if_pos e, if_neg (by rw [e]; exact h1.symm), if_pos e]; rfl
    · rw [if_neg e, if_neg e, if_neg e]; rfl
  · show set1 _ s (goal (fW r o s 2 s) 5) = _
    rw [e3]
    show set1 _ s (goal 0 5) = _
    rw [g2]
    funext j
    unfold set1 fW
    by_cases e : j = s
    · rw [if_pos e, if_neg (by rw [e]; exact h2.symm), if_neg (by rw [e]; exact h3.symm), if_pos e]; rfl
    · rw [if_neg e, if_neg e, if_neg e]; rfl
theorem fW_cnt (n : Nat) : ∀ i, i ≤ 3 → cntN (fW r o s i) n ≤ i
  | 0, _ => by rw [fW_0, cntN_zer]; omega
  | i + 1, hi => by
    have := fW_cnt n i (by omega)
    have e := cntN_set1 (fW r o s i) (n3 r o s i) (goal (fW r o s i (n3 r o s i)) (mW i)) n
    rw [fW_step h1 h2 h3 (by omega)] at e
    omega
end
theorem fW_mz (r o s i j : Nat) : mz (fW r o s i j) := by
  unfold fW hr3 ho3 hs3 mz
  repeat' split
  all_goals omega
theorem mW_md (i : Nat) : md (mW i) := by unfold mW; split <;> exact ⟨by decide, by decide⟩
theorem two_kind : ∀ i : Fin 3, kindK (hr3 i.val) (ho3 i.val) (hs3 i.val) false true = [1, 3, 4].getD i.val 0 := by decide +kernel
variable {c : Cf} {n : Nat} {a b : Int} {r o s r' o' u : Nat}
theorem two_next0 (h : N3 c n a r o s) (he : c.e = 0) {i : Nat} (hi : i < 3) (g : Nat → Int) : nextD c n (duo (fW r o s i) g) 0 a true = (((n3 r o s i : Int), mW i), true) := by
  obtain ⟨e1, e2, e3⟩ := fW_at h.ro h.rs h.os i
  rw [h.next0, esc_zero he, e1, e2, e3, nextK_kind, two_kind ⟨i, hi⟩]
  rcases three_of hi with rfl | rfl | rfl <;> rfl
theorem two_next1 (h : N3 c n b r' o' u) (he : c.e = 0) {i : Nat} (hi : i < 3) (f : Nat → Int) : nextD c n (duo f (fW r' o' u i)) 1 b true = (((n3 r' o' u i : Int), mW i), true) := by
  obtain ⟨e1, e2, e3⟩ := fW_at h.ro h.rs h.os i
  rw [h.next1, esc_zero he, e1, e2, e3, nextK_kind, two_kind ⟨i, hi⟩]
  rcases three_of hi with rfl | rfl | rfl <;> rfl
theorem n3_lt (h : N3 c n a r o s) (i : Nat) : n3 r o s i < n := by
  unfold n3
  split
  · exact h.rn
  · split
    · exact h.on
    · exact h.sn
theorem two_ask0 (h : N3 c n a r o s) {i : Nat} (hi : i < 3) : askT n 100 (duo (fW r o s i) zer) 0 (n3 r o s i : Int) (mW i) = ((1, 0), duo (fW r o s (i + 1)) zer) := by
  have e := duo_ask0 (f := fW r o s i) (g := zer) (m := mW i) (most := 100) (n3_lt h i) (mW_md i) (fW_mz _ _ _ _ _) (show mz 0 from ⟨by decide, by decide⟩) (.inl rfl) (by rw [duo_len, cntN_zer]; have := fW_cnt h.ro h.rs h.os n i (by omega); omega)
  rw [fW_step h.ro h.rs h.os hi] at e
  exact e
/-- The words' nodes of one level are not those of another one. -/
structure Cross (r o s r' o' u : Nat) : Prop where
  ro : r ≠ o'
  rs : r ≠ u
  or' : o ≠ r'
  os : o ≠ u
  sr : s ≠ r'
  so : s ≠ o'
theorem cross_of (hok : okB c = true) (h : N3 c n a r o s) (k : N3 c n b r' o' u) (h0 : 0 ≤ a) (h1 : a < nw c) (k0 : 0 ≤ b) (k1 : b < nw c) : Cross r o s r' o' u := by
  have hp := okB_hp hok
  have := s_in hp h0 h1
  have := o_in hp h0 h1
  have := r_in hp h0 h1
  have := s_in hp k0 k1
  have := o_in hp k0 k1
  have := r_in hp k0 k1
  have := h.hr
  have := h.ho
  have := h.hs
  have := k.hr
  have := k.ho
  have := k.hs
  constructor <;> omega
theorem two_ask1 (h : N3 c n a r o s) (k : N3 c n b r' o' u) (x : Cross r o s r' o' u) {i : Nat} (hi : i < 3) (hw : ¬ (i = 2 ∧ s = u)) :
    askT n 100 (duo (fW r o s 3) (fW r' o' u i)) 1 (n3 r' o' u i : Int) (mW i) = ((1, 0), duo (fW r o s 3) (fW r' o' u (i + 1))) := by
  have hfit : fW r o s 3 (n3 r' o' u i) = 0 ∨ fitsB (goal (fW r' o' u i (n3 r' o' u i)) (mW i)) (fW r o s 3 (n3 r' o' u i)) = true := by
    obtain ⟨e1, e2, e3⟩ := fW_at k.ro k.rs k.os i
    have q : fitsB (goal 0 2) 2 = true := by decide +kernel
    rcases three_of hi with rfl | rfl | rfl
    · show fW r o s 3 r' = 0 ∨ fitsB (goal (fW r' o' u 0 r') 2) (fW r o s 3 r') = true
      rw [e1]
      by_cases e : r' = r
      · right
        have : fW r o s 3 r' = 2 := by unfold fW; rw [if_pos e]; rfl
        rw [this]; exact q
      · left
        unfold fW
        rw [if_neg e, if_neg x.or'.symm, if_neg x.sr.symm]
    · show fW r o s 3 o' = 0 ∨ fitsB (goal (fW r' o' u 1 o') 2) (fW r o s 3 o') = true
      rw [e2]
      by_cases e : o' = o
      · right
        have : fW r o s 3 o' = 2 := by unfold fW; rw [if_neg x.ro.symm, if_pos e]; rfl
        rw [this]; exact q
      · left
        unfold fW
        rw [if_neg x.ro.symm, if_neg e, if_neg x.so.symm]
    · left
      show fW r o s 3 u = 0
      unfold fW
      rw [if_neg x.rs.symm, if_neg x.os.symm, if_neg (fun e => hw ⟨rfl, e.symm⟩)]
  have e := duo_ask1 (f := fW r o s 3) (g := fW r' o' u i) (m := mW i) (most := 100) (n3_lt k i) (mW_md i) (fW_mz _ _ _ _ _) (fW_mz _ _ _ _ _) hfit (by
    rw [duo_len]
    have := fW_cnt h.ro h.rs h.os n 3 (by omega)
    have := fW_cnt k.ro k.rs k.os n i (by omega)
    omega)
  rw [fW_step k.ro k.rs k.os hi] at e
  exact e
/-- The second one waits at the stripe. -/
def tW (f g : Nat → Int) (u : Nat) : Nat → Lv := upd (duo f g) u ([(0, 5)], [(1, 5)])
theorem two_wait (h : N3 c n a r o s) (k : N3 c n b r' o' s) :
    askT n 100 (duo (fW r o s 3) (fW r' o' s 2)) 1 (n3 r' o' s 2 : Int) (mW 2) = ((2, 0), tW (fW r o s 3) (fW r' o' s 2) s) := by
  have e := duo_err (f := fW r o s 3) (g := fW r' o' s 2) (n := n) (most := 100) (who := 1) (m := mW 2) (k := s) k.sn (by decide) (mW_md 2) (by
    rw [duo_len]
    have := fW_cnt h.ro h.rs h.os n 3 (by omega)
    have := fW_cnt k.ro k.rs k.os n 2 (by omega)
    omega)
  show askT n 100 _ 1 (s : Int) (mW 2) = _
  rw [ask_yes e]
  have e2 : (s : Int).toNat = s := rfl
  rw [e2]
  have q1 : fW r o s 3 s = 5 := (fW_at h.ro h.rs h.os 3).2.2
  have q2 : fW r' o' s 2 s = 0 := (fW_at k.ro k.rs k.os 2).2.2
  have q3 : askD 1 (mW 2) (duo (fW r o s 3) (fW r' o' s 2) s).1 (duo (fW r o s 3) (fW r' o' s 2) s).2 = (2, [(0, 5)], [(1, 5)]) := by
    show askD 1 (mW 2) (duoL (fW r o s 3 s) (fW r' o' s 2 s)) [] = _
    rw [q1, q2]
    decide +kernel
  rw [q3]; rfl
theorem tW_few (f g : Nat → Int) (u n : Nat) : Few n 1000 (tW f g u) := few_upd (duo_few f g n) u (by decide) (by decide)
theorem tW_sum (f g : Nat → Int) (u n : Nat) : ∀ i, i < n → (tW f g u i).1.length + (tW f g u i).2.length ≤ 400 := fun i hi => by
  unfold tW
  by_cases e : i = u
  · subst e; rw [upd_same]; decide
  · rw [upd_other _ _ e]; exact duo_sum f g n i hi
theorem tW_raw (f g : Nat → Int) (u : Nat) : ∀ n, (rawE (tW f g u) n).length = if u < n then 1 else 0
  | 0 => rfl
  | n + 1 => by
    unfold rawE
    rw [List.length_append, tW_raw f g u n]
    by_cases e : n = u
    · subst e
      have : (edgeL (tW f g n n).1 (tW f g n n).2).length = 1 := by unfold tW; rw [upd_same]; decide +kernel
      rw [this, if_neg (Nat.lt_irrefl n), if_pos (Nat.lt_succ_self n)]
    · have : (edgeL (tW f g u n).1 (tW f g u n).2).length = 0 := by unfold tW; rw [upd_other _ _ e]; rfl
      rw [this]
      by_cases h : u < n
      · rw [if_pos h, if_pos (by omega)]
      · rw [if_neg h, if_neg (by omega)]
theorem tW_edges (f g : Nat → Int) {u n : Nat} (h : u < n) : (edgesD (tW f g u) n).length = 1 := by
  unfold edgesD
  rw [srtE_len, tW_raw, if_pos h]
end Go.Proofs.YtdhpahopfmcdkaaGreat

/- PathTwo: its walk. -/
namespace Go.Proofs.YtdhpahopfmcdkaaGreat
open Go.RowKit

theorem cf_free {c : Cf} {b : Nat} {w : World} (h : Bx c b w) (k : Nat) : w.frozen? ⟨b, k, none⟩ = false := by
  unfold Bx at h
  simp [World.frozen?, h]
theorem cf_e0 {c : Cf} {b : Nat} {w : World} (h : Bx c b w) : Bx { c with e := 0 } b (w.setCell ⟨b, 9, none⟩ (.int .i64 0)) := by
  unfold Bx at h ⊢
  show (w.heap.modify b _)[b]? = _
  rw [Array.getElem?_modify, if_pos rfl, h]; rfl
/-- The table, behind i requests of the second one. -/
def sW (r o s r' o' u i : Nat) : Nat → Lv := if i = 3 ∧ s = u then tW (fW r o s 3) (fW r' o' u 2) u else duo (fW r o s 3) (fW r' o' u i)
theorem sW_low (r o s r' o' u : Nat) {i : Nat} (h : i < 3) : sW r o s r' o' u i = duo (fW r o s 3) (fW r' o' u i) := by
  unfold sW; rw [if_neg (by omega)]
theorem sW_0 (r o s r' o' u : Nat) : sW r o s r' o' u 0 = duo (fW r o s 3) zer := by
  rw [sW_low _ _ _ _ _ _ (by omega), fW_0]
theorem sW_few (r o s r' o' u i n : Nat) : Few n 1000 (sW r o s r' o' u i) := by
  unfold sW
  split
  · exact tW_few _ _ _ _
  · exact duo_few _ _ _
theorem sW_sum (r o s r' o' u i n : Nat) : ∀ j, j < n → (sW r o s r' o' u i j).1.length + (sW r o s r' o' u i j).2.length ≤ 400 := by
  unfold sW
  split
  · exact tW_sum _ _ _ _
  · exact duo_sum _ _ _
theorem sW_edges (r o s r' o' u : Nat) {n : Nat} (h : u < n) : (edgesD (sW r o s r' o' u 3) n).length = if s = u then 1 else 0 := by
  unfold sW
  by_cases e : s = u
  · rw [if_pos ⟨rfl, e⟩, if_pos e]; exact tW_edges _ _ h
  · rw [if_neg (fun x => e x.2), if_neg e, duo_edges]; rfl
theorem sW_ask {c : Cf} {n : Nat} {a b : Int} {r o s r' o' u : Nat} (h : N3 c n a r o s) (k : N3 c n b r' o' u) (x : Cross r o s r' o' u) {i : Nat} (hi : i < 3) :
    askT n 100 (sW r o s r' o' u i) 1 (n3 r' o' u i : Int) (mW i) = ((if i = 2 ∧ s = u then 2 else 1, 0), sW r o s r' o' u (i + 1)) := by
  rw [sW_low _ _ _ _ _ _ hi]
  by_cases e : i = 2 ∧ s = u
  · obtain ⟨rfl, rfl⟩ := e
    rw [if_pos ⟨rfl, rfl⟩, two_wait h k]
    unfold sW
    rw [if_pos ⟨rfl, rfl⟩]
  · rw [if_neg e, two_ask1 h k x hi e]
    unfold sW
    by_cases e2 : i + 1 = 3 ∧ s = u
    · exact absurd ⟨by omega, e2.2⟩ e
    · rw [if_neg e2]
set_option maxRecDepth 100000 in
set_option maxHeartbeats 20000000 in
theorem two_in (c0 c : Cf) (hc : c = { c0 with e := 0 }) (a a' : Int) (w : World) (hok : okB c = true) (h0 : 0 ≤ a) (h1 : a < nw c) (h0' : 0 ≤ a') (h1' : a' < nw c) :
    Calls Tryz.prog 4 #[cv c0, .int .i64 a, .int .i64 a'] w fun e w' => e = .returned (.bool true) ∧ Below w.heap.size w w' := by
  obtain ⟨n, hn, n1, n2⟩ := nodes_le hok
  obtain ⟨r, o, s, h3⟩ := n3_of hok hn h0 h1
  obtain ⟨r', o', u, h3'⟩ := n3_of hok hn h0' h1'
  have hx3 := cross_of hok h3 h3' h0 h1 h0' h1'
  have he0 : c.e = 0 := by rw [hc]
  have A0 := hide (fun i (hi : i < 3) => two_next0 h3 he0 hi zer)
  have K0 := hide (fun i (hi : i < 3) => two_ask0 h3 hi)
  have A1 : Hid (∀ i, i < 3 → nextD c n (sW r o s r' o' u i) 1 a' true = (((n3 r' o' u i : Int), mW i), true)) := fun i hi => by
    rw [sW_low _ _ _ _ _ _ hi]; exact two_next1 h3' he0 hi _
  have K1 := hide (fun i (hi : i < 3) => sW_ask h3 h3' hx3 hi)
  have HE := hide (sW_edges r o s r' o' u h3'.sn)
  have hx := bx_new c0 w
  have hb := below_new w (.cells #[.int .i64 c0.r, .int .i64 c0.o, .int .i64 c0.s, .int .i64 c0.d, .int .i64 c0.t, .int .i64 c0.l, .int .i64 c0.g, .int .i64 c0.k, .int .i64 c0.u, .int .i64 c0.e, .int .i64 c0.i, .int .i64 c0.p] 23)
  obtain ⟨w1, hw1⟩ : ∃ w1, w1 = w.alloc (.cells #[.int .i64 c0.r, .int .i64 c0.o, .int .i64 c0.s, .int .i64 c0.d, .int .i64 c0.t, .int .i64 c0.l, .int .i64 c0.g, .int .i64 c0.k, .int .i64 c0.u, .int .i64 c0.e, .int .i64 c0.i, .int .i64 c0.p] 23) := ⟨_, rfl⟩
  obtain ⟨q, hq⟩ : ∃ q, q = w.heap.size := ⟨_, rfl⟩
  rw [← hw1, ← hq] at hx
  rw [← hw1] at hb
  replace hb := hide hb
  have HC := hide (fun w' => check_ok hok w')
  have HW := hide (fun w' => words_at hok w')
  have HP := hide (fun w' => h3.path hok h0 h1 w')
  have HP' := hide (fun w' => h3'.path hok h0' h1' w')
  have HN := hide (fun w' => nodes_at hn w')
  have hle : a < nw c := h1
  have hle' : a' < nw c := h1'
  have HK := hide hok
  have k0 : ¬ a < 0 := by omega
  have k1 : ¬ nw c ≤ a := by omega
  have k0' : ¬ a' < 0 := by omega
  have k1' : ¬ nw c ≤ a' := by omega
  have H0 := hide h0
  have H1 := hide h1
  have H0' := hide h0'
  have H1' := hide h1'
  have Hq : Hid (w.heap.size ≤ q) := by show _ ≤ _; rw [hq]; exact Nat.le_refl _
  clear hok hn h3 h3' he0 hx3
  obtain ⟨a0, a1, a2, a3, a4, a5, a6, a7, a8, a9, a10, a11⟩ := hx.cells
  obtain ⟨V, hV⟩ : ∃ V, V = nw c := ⟨_, rfl⟩
  rw [← hV] at HW k1 hle k1' hle'
  replace hV := hide hV
  unfold cv
  go_enter Tryz.func4, Tryz.ntmps4
  go_wp2_with fail
  rw [← hw1, ← hq]
  refine (first10_any w1).mono ?_
  rintro e w2 ⟨rfl, b2⟩
  have x2 := hx.next b2
  have B2 := hide (below_then (unhide hb) b2)
  replace hw1 := hide hw1
  replace hq := hide hq
  clear a0 a1 a2 a3 a4 a5 a6 a7 a8 a9 a10 a11 b2 hx
  obtain ⟨w3, hw3⟩ : ∃ w3, w3 = w2.setCell ⟨q, 9, none⟩ (.int .i64 0) := ⟨_, rfl⟩
  have x3 : Bx c q w3 := by rw [hw3, hc]; exact cf_e0 x2
  have B3 : Hid (Below w.heap.size w w3) := by rw [hw3]; exact (unhide B2).setCell (p := ⟨q, 9, none⟩) (unhide Hq) _
  have f9 := cf_free x2 9
  obtain ⟨a0, a1, a2, a3, a4, a5, a6, a7, a8, a9, a10, a11⟩ := x2.cells
  clear hc
  go_upto_region 4 with fail
  rw [← hw3]
  replace hw3 := hide hw3
  clear a0 a1 a2 a3 a4 a5 a6 a7 a8 a9 a10 a11 f9 x2
  obtain ⟨a0, a1, a2, a3, a4, a5, a6, a7, a8, a9, a10, a11⟩ := x3.cells
  go_wp2_with fail
  refine (unhide HC w3).mono ?_
  rintro e w4 ⟨rfl, b4⟩
  have x4 := x3.next b4
  have B4 := hide (below_then (unhide B3) b4)
  clear a0 a1 a2 a3 a4 a5 a6 a7 a8 a9 a10 a11 b4 x3
  obtain ⟨a0, a1, a2, a3, a4, a5, a6, a7, a8, a9, a10, a11⟩ := x4.cells
  go_wp2_with fail
  refine (unhide HW w4).mono ?_
  rintro e w5 ⟨rfl, b5⟩
  have x5 := x4.next b5
  have B5 := hide (below_then (unhide B4) b5)
  clear a0 a1 a2 a3 a4 a5 a6 a7 a8 a9 a10 a11 b5 x4
  obtain ⟨a0, a1, a2, a3, a4, a5, a6, a7, a8, a9, a10, a11⟩ := x5.cells
  go_wp2_with fail
  refine (unhide HW w5).mono ?_
  rintro e w5' ⟨rfl, b5'⟩
  have x5' := x5.next b5'
  have B5' := hide (below_then (unhide B5) b5')
  clear a0 a1 a2 a3 a4 a5 a6 a7 a8 a9 a10 a11 b5' x5
  obtain ⟨a0, a1, a2, a3, a4, a5, a6, a7, a8, a9, a10, a11⟩ := x5'.cells
  go_wp2_with fail
  refine (unhide HN w5').mono ?_
  rintro e w6' ⟨rfl, b6⟩
  have x6 := x5'.next b6
  have B6 := hide (below_then (unhide B5') b6)
  clear a0 a1 a2 a3 a4 a5 a6 a7 a8 a9 a10 a11 b6 x5'
  go_wp2_with fail
  refine (new_n n 100 w6' n1 (by omega) (by decide) (by decide)).mono ?_
  rintro e w7 ⟨b, rfl, L7, b7⟩
  obtain ⟨B, hB⟩ : ∃ B, B = w6'.heap.size := ⟨_, rfl⟩
  rw [← hB] at L7
  have X7 : Hid (Py c q B n 100 none0 b w w7) := hide ⟨x6.next b7, L7, below_then (unhide B6) b7, by rw [hB]; exact (unhide B6).size⟩
  replace hB := hide hB
  clear x6 b7 L7
  obtain ⟨a0, a1, a2, a3, a4, a5, a6, a7, a8, a9, a10, a11⟩ := (unhide X7).bx.cells
  go_wp2_with fail
  refine (unhide HP w7).mono ?_
  rintro e w8 ⟨rfl, b8⟩
  have X8 := hide ((unhide X7).next b8)
  clear a0 a1 a2 a3 a4 a5 a6 a7 a8 a9 a10 a11 b8
  obtain ⟨a0, a1, a2, a3, a4, a5, a6, a7, a8, a9, a10, a11⟩ := (unhide X8).bx.cells
  go_wp2_with fail
  refine (unhide HP' w8).mono ?_
  rintro e w9 ⟨rfl, b9⟩
  have X9 := hide ((unhide X8).next b9)
  clear a0 a1 a2 a3 a4 a5 a6 a7 a8 a9 a10 a11 b9
  go_wp2_with fail
  go_loopw [17] (fun s17 wr => (s17 = .int .i64 0 ∧ Hid (Py c q B n 100 (duo (fW r o s 0) zer) b w wr)) ∨ (s17 = .int .i64 1 ∧ Hid (Py c q B n 100 (sW r o s r' o' u 0) b w wr)) ∨ (s17 = .int .i64 2 ∧ Hid (Py c q B n 100 (sW r o s r' o' u 3) b w wr))) (fun s17 _ => 2 - (intOf s17).toNat)
  case atStart => exact .inl ⟨rfl, by show Py _ _ _ _ _ _ _ _ _; rw [fW_0, duo_none]; exact unhide X9⟩
  case round =>
    rcases hrel with ⟨rfl, X⟩ | ⟨rfl, X⟩ | ⟨rfl, X⟩
    · go_wp2_with fail
      go_loopw [19] (fun s19 wq => ∃ (i : Nat) (wz : World), wz = wq ∧ i ≤ 3 ∧ s19 = .int .i64 i ∧ Hid (Py c q B n 100 (duo (fW r o s i) zer) b w wz)) (fun s19 _ => 3 - (intOf s19).toNat)
      case atStart => exact ⟨0, _, rfl, by omega, rfl, unhide X⟩
      case round =>
        obtain ⟨i, wq, hwq, hi, rfl, Xk⟩ := hrel
        subst hwq
        by_cases hi3 : i < 3
        · have hi4 : (i : Int) < 3 := by omega
          obtain ⟨y, hy⟩ : ∃ y : Int, y = (n3 r o s i : Int) := ⟨_, rfl⟩
          obtain ⟨z, hz⟩ : ∃ z : Int, z = mW i := ⟨_, rfl⟩
          have hA := unhide A0 i hi3
          have hK := unhide K0 i hi3
          rw [← hy, ← hz] at hA hK
          replace hA := hide hA
          replace hK := hide hK
          clear hy hz
          obtain ⟨a0, a1, a2, a3, a4, a5, a6, a7, a8, a9, a10, a11⟩ := (unhide Xk).bx.cells
          go_wp2_with fail
          refine (next_in c wq (unhide Xk).tn (duo_few _ _ _) 0 a true (unhide HK) (unhide H0) (unhide H1) (unhide hA)).mono ?_
          rintro e w10 ⟨rfl, b10⟩
          obtain ⟨p, hp⟩ : ∃ p, p = w10.heap.size := ⟨_, rfl⟩
          obtain ⟨w11, hw11⟩ : ∃ w11, w11 = w10.alloc (.cells #[.int .i64 y, .int .i64 z] 41) := ⟨_, rfl⟩
          have P11 : w11.heap[p]? = some (.cells #[.int .i64 y, .int .i64 z] 41 (0, 0)) := by rw [hw11, hp]; exact heap_alloc_new w10 _
          have X11 : Hid (Py c q B n 100 (duo (fW r o s i) zer) b w w11) := by rw [hw11]; exact (unhide Xk).next (below_add b10 _)
          obtain ⟨y0, y1, _, _⟩ := lock_cells P11
          clear a0 a1 a2 a3 a4 a5 a6 a7 a8 a9 a10 a11 b10 P11
          unfold nxV
          dsimp only
          go_upto_region 21 with fail
          rw [← hw11, ← hp]
          replace hw11 := hide hw11
          replace hp := hide hp
          go_wp2_with fail
          refine ((unhide X11).ask (duo_few _ _ _) (by omega) (unhide hK)).mono ?_
          rintro e w12 ⟨rfl, X12, b12, s12⟩
          replace X12 := hide X12
          clear b12 s12 y0 y1
          go_wp2
          go_roundw
          case rel => exact ⟨i + 1, _, rfl, by omega, by go_num, unhide X12⟩
          case measure => simp [intOf]; omega
        · obtain rfl : i = 3 := by omega
          have X12 : Hid (Py c q B n 100 (sW r o s r' o' u 0) b w wq) := by show Py _ _ _ _ _ _ _ _ _; rw [sW_0]; exact unhide Xk
          go_wp2
          go_roundw
          case rel => exact .inr (.inl ⟨rfl, unhide X12⟩)
          case measure => simp [intOf]
    · go_wp2_with fail
      go_loopw [19] (fun s19 wq => ∃ (i : Nat) (wz : World), wz = wq ∧ i ≤ 3 ∧ s19 = .int .i64 i ∧ Hid (Py c q B n 100 (sW r o s r' o' u i) b w wz)) (fun s19 _ => 3 - (intOf s19).toNat)
      case atStart => exact ⟨0, _, rfl, by omega, rfl, unhide X⟩
      case round =>
        obtain ⟨i, wq, hwq, hi, rfl, Xk⟩ := hrel
        subst hwq
        by_cases hi3 : i < 3
        · have hi4 : (i : Int) < 3 := by omega
          obtain ⟨y, hy⟩ : ∃ y : Int, y = (n3 r' o' u i : Int) := ⟨_, rfl⟩
          obtain ⟨z, hz⟩ : ∃ z : Int, z = mW i := ⟨_, rfl⟩
          have hA := unhide A1 i hi3
          have hK := unhide K1 i hi3
          rw [← hy, ← hz] at hA hK
          replace hA := hide hA
          clear hy hz
          have ways : (i = 2 ∧ s = u ∧ ((i : Int) == 2) = true ∧ ((s : Int) == (u : Int)) = true) ∨ (¬ (i = 2 ∧ s = u) ∧ ((((i : Int) == 2) = false) ∨ (((i : Int) == 2) = true ∧ ((s : Int) == (u : Int)) = false))) := by
            by_cases e1 : i = 2 <;> by_cases e2 : s = u
            · exact .inl ⟨e1, e2, by simp; omega, by simp; omega⟩
            · exact .inr ⟨fun e => e2 e.2, .inr ⟨by simp; omega, by simp; omega⟩⟩
            · exact .inr ⟨fun e => e1 e.1, .inl (by simp; omega)⟩
            · exact .inr ⟨fun e => e1 e.1, .inl (by simp; omega)⟩
          obtain ⟨a0, a1, a2, a3, a4, a5, a6, a7, a8, a9, a10, a11⟩ := (unhide Xk).bx.cells
          go_wp2_with fail
          refine (next_in c wq (unhide Xk).tn (sW_few _ _ _ _ _ _ _ _) 1 a' true (unhide HK) (unhide H0') (unhide H1') (unhide hA)).mono ?_
          rintro e w10 ⟨rfl, b10⟩
          obtain ⟨p, hp⟩ : ∃ p, p = w10.heap.size := ⟨_, rfl⟩
          obtain ⟨w11, hw11⟩ : ∃ w11, w11 = w10.alloc (.cells #[.int .i64 y, .int .i64 z] 41) := ⟨_, rfl⟩
          have P11 : w11.heap[p]? = some (.cells #[.int .i64 y, .int .i64 z] 41 (0, 0)) := by rw [hw11, hp]; exact heap_alloc_new w10 _
          have X11 : Hid (Py c q B n 100 (sW r o s r' o' u i) b w w11) := by rw [hw11]; exact (unhide Xk).next (below_add b10 _)
          obtain ⟨y0, y1, _, _⟩ := lock_cells P11
          clear a0 a1 a2 a3 a4 a5 a6 a7 a8 a9 a10 a11 b10 P11
          unfold nxV
          dsimp only
          replace ways := hide ways
          go_upto_region 21 with fail
          rw [← hw11, ← hp]
          replace hw11 := hide hw11
          replace hp := hide hp
          rcases unhide ways with ⟨e1, e2, e3, e4⟩ | ⟨e1, e2⟩
          · rw [if_pos ⟨e1, e2⟩] at hK
            replace hK := hide hK
            clear e1 e2 ways
            go_wp2_with fail
            refine ((unhide X11).ask (sW_few _ _ _ _ _ _ _ _) (by omega) (unhide hK)).mono ?_
            rintro e w12 ⟨rfl, X12, b12, s12⟩
            replace X12 := hide X12
            clear b12 s12 y0 y1
            go_wp2
            go_roundw
            case rel => exact ⟨i + 1, _, rfl, by omega, by go_num, unhide X12⟩
            case measure => simp [intOf]; omega
          · rw [if_neg e1] at hK
            replace hK := hide hK
            clear e1 ways
            rcases e2 with e3 | ⟨e3, e4⟩
            all_goals
              go_wp2_with fail
              refine ((unhide X11).ask (sW_few _ _ _ _ _ _ _ _) (by omega) (unhide hK)).mono ?_
              rintro e w12 ⟨rfl, X12, b12, s12⟩
              replace X12 := hide X12
              clear b12 s12 y0 y1
              go_wp2
              go_roundw
              case rel => exact ⟨i + 1, _, rfl, by omega, by go_num, unhide X12⟩
              case measure => simp [intOf]; omega
        · obtain rfl : i = 3 := by omega
          go_wp2
          go_roundw
          case rel => exact .inr (.inr ⟨rfl, unhide Xk⟩)
          case measure => simp [intOf]
    · go_wp2_with fail
      refine (first10_any wr).mono ?_
      rintro e w10 ⟨rfl, b10⟩
      have X10 := hide ((unhide X).next b10)
      clear b10
      obtain ⟨l, hl⟩ : ∃ l, edgesD (sW r o s r' o' u 3) n = l := ⟨_, rfl⟩
      have HL := unhide HE
      rw [hl] at HL
      go_wp2_with fail
      refine (edges_n w10 (unhide X10).tn (sW_sum _ _ _ _ _ _ _ _) n2 hl).mono ?_
      rintro e w11 ⟨v11, rfl, P11, b11⟩
      have X11 := hide ((unhide X10).next b11)
      obtain ⟨a11, c11, rfl⟩ := P11.form
      clear P11 b11 hl
      by_cases e : s = u
      · have e4 : ((s : Int) == (u : Int)) = true := by simp; omega
        rw [if_pos e] at HL
        rw [HL]
        clear HL
        go_wp2
        go_ret
        exact ⟨rfl, (unhide X11).bel⟩
      · have e4 : ((s : Int) == (u : Int)) = false := by simp; omega
        rw [if_neg e] at HL
        rw [HL]
        clear HL e
        go_wp2
        go_ret
        exact ⟨rfl, (unhide X11).bel⟩
end Go.Proofs.YtdhpahopfmcdkaaGreat

/- PathTwo: what goes out at its beginning; its walk, whole. -/
namespace Go.Proofs.YtdhpahopfmcdkaaGreat
open Go.RowKit

set_option maxRecDepth 100000 in
set_option maxHeartbeats 8000000 in
theorem two_out (c0 c : Cf) (hc : c = { c0 with e := 0 }) (a a' : Int) (w : World) (h : okB c = false ∨ (okB c = true ∧ a < 0) ∨ (okB c = true ∧ 0 ≤ a ∧ a' < 0) ∨ (okB c = true ∧ 0 ≤ a ∧ 0 ≤ a' ∧ nw c ≤ a) ∨ (okB c = true ∧ 0 ≤ a ∧ 0 ≤ a' ∧ a < nw c ∧ nw c ≤ a')) :
    Calls Tryz.prog 4 #[cv c0, .int .i64 a, .int .i64 a'] w fun e w' => e = .returned (.bool true) ∧ Below w.heap.size w w' := by
  have hx := bx_new c0 w
  have hb := below_new w (.cells #[.int .i64 c0.r, .int .i64 c0.o, .int .i64 c0.s, .int .i64 c0.d, .int .i64 c0.t, .int .i64 c0.l, .int .i64 c0.g, .int .i64 c0.k, .int .i64 c0.u, .int .i64 c0.e, .int .i64 c0.i, .int .i64 c0.p] 23)
  obtain ⟨w1, hw1⟩ : ∃ w1, w1 = w.alloc (.cells #[.int .i64 c0.r, .int .i64 c0.o, .int .i64 c0.s, .int .i64 c0.d, .int .i64 c0.t, .int .i64 c0.l, .int .i64 c0.g, .int .i64 c0.k, .int .i64 c0.u, .int .i64 c0.e, .int .i64 c0.i, .int .i64 c0.p] 23) := ⟨_, rfl⟩
  obtain ⟨q, hq⟩ : ∃ q, q = w.heap.size := ⟨_, rfl⟩
  rw [← hw1, ← hq] at hx
  rw [← hw1] at hb
  replace hb := hide hb
  have Hq : Hid (w.heap.size ≤ q) := by show _ ≤ _; rw [hq]; exact Nat.le_refl _
  have R := fun w' => rcheck_any c w'
  obtain ⟨ok, hok⟩ : ∃ ok, ok = okB c := ⟨_, rfl⟩
  have HW : Hid (ok = true → ∀ w', Calls Tryz.prog 18 #[cv c] w' fun e w'' => e = .returned (.int .i64 (nw c)) ∧ Below w'.heap.size w' w'') := fun e w' => words_at (by rw [← hok]; exact e) w'
  rw [← hok] at h R
  clear hok
  obtain ⟨V, hV⟩ : ∃ V, V = nw c := ⟨_, rfl⟩
  rw [← hV] at HW h
  replace hV := hide hV
  obtain ⟨a0, a1, a2, a3, a4, a5, a6, a7, a8, a9, a10, a11⟩ := hx.cells
  rcases h with rfl | ⟨rfl, h⟩ | ⟨rfl, h, h2⟩ | ⟨rfl, h, h2, h3⟩ | ⟨rfl, h, h2, h3, h4⟩
  case inr.inr.inr.inl =>
    rw [errOf_t] at R
    replace R := hide R
    have k0 : ¬ a < 0 := by omega
    have k1 : ¬ a' < 0 := by omega
    unfold cv
    go_enter Tryz.func4, Tryz.ntmps4
    go_wp2_with fail
    rw [← hw1, ← hq]
    refine (first10_any w1).mono ?_
    rintro e w2 ⟨rfl, b2⟩
    have z2 := hx.next b2
    have Z2 := hide (below_then (unhide hb) b2)
    replace hw1 := hide hw1
    replace hq := hide hq
    clear a0 a1 a2 a3 a4 a5 a6 a7 a8 a9 a10 a11 b2 hx
    obtain ⟨v2, hv2⟩ : ∃ v2, v2 = w2.setCell ⟨q, 9, none⟩ (.int .i64 0) := ⟨_, rfl⟩
    have x2 : Bx c q v2 := by rw [hv2, hc]; exact cf_e0 z2
    have B2 : Hid (Below w.heap.size w v2) := by rw [hv2]; exact (unhide Z2).setCell (p := ⟨q, 9, none⟩) (unhide Hq) _
    have f9 := cf_free z2 9
    obtain ⟨a0, a1, a2, a3, a4, a5, a6, a7, a8, a9, a10, a11⟩ := z2.cells
    clear hc
    go_upto_region 4 with fail
    rw [← hv2]
    replace hv2 := hide hv2
    clear a0 a1 a2 a3 a4 a5 a6 a7 a8 a9 a10 a11 f9 z2
    obtain ⟨a0, a1, a2, a3, a4, a5, a6, a7, a8, a9, a10, a11⟩ := x2.cells
    go_wp2_with fail
    refine (unhide R v2).mono ?_
    rintro e w3 ⟨rfl, b3⟩
    have x3 := x2.next b3
    have B3 := hide (below_then (unhide B2) b3)
    clear a0 a1 a2 a3 a4 a5 a6 a7 a8 a9 a10 a11 b3 x2
    obtain ⟨a0, a1, a2, a3, a4, a5, a6, a7, a8, a9, a10, a11⟩ := x3.cells
    go_wp2_with fail
    refine (unhide HW trivial w3).mono ?_
    rintro e w4 ⟨rfl, b4⟩
    have B4 := hide (below_then (unhide B3) b4)
    clear a0 a1 a2 a3 a4 a5 a6 a7 a8 a9 a10 a11 b4
    go_wp2_with fail
    refine (first10_any _).mono ?_
    rintro e w5 ⟨rfl, b5⟩
    have B5 := hide (below_then (unhide B4) b5)
    clear b5
    go_wp2
    go_ret
    exact ⟨rfl, unhide B5⟩
  case inr.inr.inr.inr =>
    rw [errOf_t] at R
    replace R := hide R
    have k0 : ¬ a < 0 := by omega
    have k1 : ¬ a' < 0 := by omega
    have k2 : ¬ V ≤ a := by omega
    unfold cv
    go_enter Tryz.func4, Tryz.ntmps4
    go_wp2_with fail
    rw [← hw1, ← hq]
    refine (first10_any w1).mono ?_
    rintro e w2 ⟨rfl, b2⟩
    have z2 := hx.next b2
    have Z2 := hide (below_then (unhide hb) b2)
    replace hw1 := hide hw1
    replace hq := hide hq
    clear a0 a1 a2 a3 a4 a5 a6 a7 a8 a9 a10 a11 b2 hx
    obtain ⟨v2, hv2⟩ : ∃ v2, v2 = w2.setCell ⟨q, 9, none⟩ (.int .i64 0) := ⟨_, rfl⟩
    have x2 : Bx c q v2 := by rw [hv2, hc]; exact cf_e0 z2
    have B2 : Hid (Below w.heap.size w v2) := by rw [hv2]; exact (unhide Z2).setCell (p := ⟨q, 9, none⟩) (unhide Hq) _
    have f9 := cf_free z2 9
    obtain ⟨a0, a1, a2, a3, a4, a5, a6, a7, a8, a9, a10, a11⟩ := z2.cells
    clear hc
    go_upto_region 4 with fail
    rw [← hv2]
    replace hv2 := hide hv2
    clear a0 a1 a2 a3 a4 a5 a6 a7 a8 a9 a10 a11 f9 z2
    obtain ⟨a0, a1, a2, a3, a4, a5, a6, a7, a8, a9, a10, a11⟩ := x2.cells
    go_wp2_with fail
    refine (unhide R v2).mono ?_
    rintro e w3 ⟨rfl, b3⟩
    have x3 := x2.next b3
    have B3 := hide (below_then (unhide B2) b3)
    clear a0 a1 a2 a3 a4 a5 a6 a7 a8 a9 a10 a11 b3 x2
    obtain ⟨a0, a1, a2, a3, a4, a5, a6, a7, a8, a9, a10, a11⟩ := x3.cells
    go_wp2_with fail
    refine (unhide HW trivial w3).mono ?_
    rintro e w4 ⟨rfl, b4⟩
    have x4 := x3.next b4
    have B4 := hide (below_then (unhide B3) b4)
    clear a0 a1 a2 a3 a4 a5 a6 a7 a8 a9 a10 a11 b4 x3
    obtain ⟨a0, a1, a2, a3, a4, a5, a6, a7, a8, a9, a10, a11⟩ := x4.cells
    go_wp2_with fail
    refine (unhide HW trivial w4).mono ?_
    rintro e w4' ⟨rfl, b4'⟩
    have B4' := hide (below_then (unhide B4) b4')
    clear a0 a1 a2 a3 a4 a5 a6 a7 a8 a9 a10 a11 b4'
    go_wp2_with fail
    refine (first10_any _).mono ?_
    rintro e w5 ⟨rfl, b5⟩
    have B5 := hide (below_then (unhide B4') b5)
    clear b5
    go_wp2
    go_ret
    exact ⟨rfl, unhide B5⟩
  all_goals
    simp only [errOf_t, errOf_f] at R
    replace R := hide R
    try (have k0 : ¬ a < 0 := by omega)
    unfold cv
    go_enter Tryz.func4, Tryz.ntmps4
    go_wp2_with fail
    rw [← hw1, ← hq]
    refine (first10_any w1).mono ?_
    rintro e w2 ⟨rfl, b2⟩
    have z2 := hx.next b2
    have Z2 := hide (below_then (unhide hb) b2)
    replace hw1 := hide hw1
    replace hq := hide hq
    clear a0 a1 a2 a3 a4 a5 a6 a7 a8 a9 a10 a11 b2 hx
    obtain ⟨v2, hv2⟩ : ∃ v2, v2 = w2.setCell ⟨q, 9, none⟩ (.int .i64 0) := ⟨_, rfl⟩
    have x2 : Bx c q v2 := by rw [hv2, hc]; exact cf_e0 z2
    have B2 : Hid (Below w.heap.size w v2) := by rw [hv2]; exact (unhide Z2).setCell (p := ⟨q, 9, none⟩) (unhide Hq) _
    have f9 := cf_free z2 9
    obtain ⟨a0, a1, a2, a3, a4, a5, a6, a7, a8, a9, a10, a11⟩ := z2.cells
    clear hc
    go_upto_region 4 with fail
    rw [← hv2]
    replace hv2 := hide hv2
    clear a0 a1 a2 a3 a4 a5 a6 a7 a8 a9 a10 a11 f9 z2
    obtain ⟨a0, a1, a2, a3, a4, a5, a6, a7, a8, a9, a10, a11⟩ := x2.cells
    go_wp2_with fail
    refine (unhide R v2).mono ?_
    rintro e w3 ⟨rfl, b3⟩
    have B3 := hide (below_then (unhide B2) b3)
    clear a0 a1 a2 a3 a4 a5 a6 a7 a8 a9 a10 a11 b3 x2
    go_wp2_with fail
    refine (first10_any _).mono ?_
    rintro e w5 ⟨rfl, b5⟩
    have B5 := hide (below_then (unhide B3) b5)
    clear b5
    go_wp2
    go_ret
    exact ⟨rfl, unhide B5⟩
theorem pathTwo_walk (c0 : Cf) (a a' : Int) (w : World) (_ : (Lit.int .i64 a).wf = true) (_ : (Lit.int .i64 a').wf = true) :
    Calls Tryz.prog 4 #[cv c0, .int .i64 a, .int .i64 a'] w fun e w' => e = .returned (.bool true) ∧ Below w.heap.size w w' := by
  obtain ⟨c, hc⟩ : ∃ c : Cf, c = { c0 with e := 0 } := ⟨_, rfl⟩
  cases hok : okB c
  · exact two_out c0 c hc a a' w (.inl hok)
  · by_cases h : 0 ≤ a ∧ a < nw c ∧ 0 ≤ a' ∧ a' < nw c
    · exact two_in c0 c hc a a' w hok h.1 h.2.1 h.2.2.1 h.2.2.2
    · refine two_out c0 c hc a a' w (.inr ?_)
      by_cases h1 : a < 0
      · exact .inl ⟨hok, h1⟩
      · by_cases h2 : a' < 0
        · exact .inr (.inl ⟨hok, by omega, h2⟩)
        · by_cases h3 : nw c ≤ a
          · exact .inr (.inr (.inl ⟨hok, by omega, by omega, h3⟩))
          · exact .inr (.inr (.inr ⟨hok, by omega, by omega, by omega, by omega⟩))
end Go.Proofs.YtdhpahopfmcdkaaGreat
