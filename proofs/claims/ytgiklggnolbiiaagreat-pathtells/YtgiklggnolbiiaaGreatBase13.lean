/- Texts of this claim, put together in their order. -/
import Derived.Deep.Slices
import Derived.ProofKit
import Derived.Test.YtgiklggnolbiiaaGreatBase1
import Derived.Test.YtgiklggnolbiiaaGreatBase2
import Derived.Test.YtgiklggnolbiiaaGreatBase3
import Derived.Test.YtgiklggnolbiiaaGreatBase4
import Derived.Test.YtgiklggnolbiiaaGreatBase5
import Derived.Test.YtgiklggnolbiiaaGreatBase6
import Derived.Test.YtgiklggnolbiiaaGreatBase7
import Derived.Test.YtgiklggnolbiiaaGreatBase8
import Derived.Test.YtgiklggnolbiiaaGreatBase9
import Derived.Test.YtgiklggnolbiiaaGreatBase10
import Derived.Test.YtgiklggnolbiiaaGreatBase11
import Derived.Test.YtgiklggnolbiiaaGreatBase12
/- The reference's Blocks. -/
namespace Go.Proofs.YtgiklggnolbiiaaGreat
open Go.RowKit
variable {B : Nat} {H Q : List En} {b : Nat} {hv qv : Value}
theorem idx_first {who : Int} {l : List En} {i : Nat} (h2 : l.any (isWho who) = true) (e : idxD (isWho who) l = (i : Int)) : ∀ t, t < i → i < l.length → isWho who (l.getD t (0, 0)) = false := fun t ht hi => by
  have e2 : l.findIdx (isWho who) = i := by
    unfold idxD at e
    rw [h2] at e
    have e3 : ((l.findIdx (isWho who) : Nat) : Int) = (i : Int) := by simpa using e
    exact Int.ofNat.inj e3
  have := List.not_of_lt_findIdx (p := isWho who) (xs := l) (i := t) (by omega)
  simpa [List.getD, show t < l.length by omega] using this
set_option maxRecDepth 100000 in
set_option maxHeartbeats 4000000 in
theorem rblocks_some (w : World) (h : Lr B H Q b hv qv w) (hn : H.length + Q.length < 400) (who m : Int) (i : Nat) (hi : i < Q.length) (hm : lookD who Q = m) (hm0 : (m == 0) = false) (hy : Q.getD i (0, 0) = (who, m)) (hf : ∀ t, t < i → isWho who (Q.getD t (0, 0)) = false) :
    Calls Tryz.prog 54 #[.pointer (some ⟨b, 0, none⟩), .int .i64 who] w fun e w' => ∃ v, e = .returned v ∧ Is w.heap.size v (canon (metD H Q i (who, m))) w' ∧ Below w.heap.size w w' := by
  have HL := hide h
  have hf := hide hf
  have hy := hide hy
  obtain ⟨g, cap, rfl, hBg, rq⟩ : ∃ g cap, qv = .slice (some ⟨g, 0, none⟩) Q.length cap ∧ B ≤ g ∧ Rb g cap Q w := by
    rcases h.qr with ⟨_, e⟩ | h1
    · rw [e] at hi; simp at hi
    · exact h1
  have hqc := hide rq.le
  have RQ := hide rq
  have C0 := hide (rwaits_any w h (by omega) who)
  rw [hm] at C0
  obtain ⟨ah, nh, ch, rfl, hnh⟩ := slice_form' h.hr
  have Hnh := hide hnh
  have hnh9 : nh < 400 := by omega
  clear h rq hm hnh
  go_enter Tryz.func54, Tryz.ntmps54
  go_wp2_with fail
  refine (unhide C0).mono ?_
  rintro e w ⟨rfl, rfl⟩
  clear C0
  go_wp2
  go_loopw [6, 7] (fun s6 s7 wr => ∃ (j : Nat) (ag : Option Addr) (cg : Nat), j ≤ i ∧ s6 = .slice ag j cg ∧ s7 = .int .i64 j ∧ Hid (Is w.heap.size (.slice ag j cg) ((Q.take j).map (·.1)) wr) ∧ Hid (Below w.heap.size w wr)) (fun _ s7 _ => i - (intOf s7).toNat)
  case atStart => exact ⟨0, none, 0, Nat.zero_le _, rfl, rfl, is_nil _ _, Below.refl _ _⟩
  case round =>
    obtain ⟨j, ag, cg, hj, rfl, rfl, G, Bw⟩ := hrel
    have c1 := ((unhide HL).next (unhide Bw)).c1
    have hjq : j < Q.length := by omega
    obtain ⟨x, hx⟩ : ∃ x, x = Q.getD j (0, 0) := ⟨_, rfl⟩
    have r := (unhide RQ).next (unhide Bw)
    have d1 : wr.cell? ⟨g, j * 2, none⟩ = some (.int .i64 x.1) := by rw [hx]; exact r.fst hjq
    have d2 : wr.cell? ⟨g, j * 2 + 1, none⟩ = some (.int .i64 x.2) := by rw [hx]; exact r.snd hjq
    have Hx := hide hx
    clear r
    by_cases hlt : j < i
    · have hne : (x.1 != who) = true := by
        have := unhide hf j hlt
        rw [← hx] at this
        unfold isWho at this
        simpa [bne] using this
      have hl5 : Hid (((Q.take j).map (·.1)).length = j) := by show _ = _; rw [List.length_map, List.length_take]; omega
      have hj9 : j < 10000000 := by omega
      clear hx
      go_wp2_with (at_builtin; refine wpList_push _ rfl (.tmp 35) (.tmp 44) rfl w.heap.size ag j cg _ x.1 _ rfl rfl rfl (unhide hl5) (unhide G) (unhide Bw).size hj9 ?_; intro g5 cap5 w5 a1 a2; replace a1 := hide a1; replace a2 := hide a2)
      go_roundw
      case rel => exact ⟨j + 1, some ⟨g5, 0, none⟩, cap5, by omega, rfl, by go_num, by rw [take_map Q j (by omega), ← unhide Hx]; exact unhide a1, (unhide Bw).trans (grown_below (unhide a2) (unhide Bw).size (fun k hk => ((unhide G).lt k hk).1))⟩
      case measure => simp [intOf]; omega
    · obtain rfl : j = i := by omega
      have hne : (x.1 != who) = false := by rw [hx, unhide hy]; simp
      obtain ⟨M0, hM0⟩ : ∃ M0, M0 = (Q.take j).map (·.1) := ⟨_, rfl⟩
      have HM0 := hide hM0
      have hM9 : Hid (M0.length = j) := by show _ = _; rw [hM0, List.length_map, List.length_take]; omega
      rw [← hM0] at G
      have hj4 : j < 400 := by omega
      clear hM0 hx
      go_wp2
      clear c1 d1 d2
      go_loopw [6, 8] (fun s6 s8 wr => ∃ (t n2 : Nat) (ag : Option Addr) (cg : Nat), t ≤ nh ∧ s6 = .slice ag n2 cg ∧ s8 = .int .i64 t ∧ Hid ((M0 ++ ((H.take t).filter (fun x => hindD x (who, m))).map (·.1)).length = n2) ∧ n2 ≤ j + t ∧ Hid (Is w.heap.size (.slice ag n2 cg) (M0 ++ ((H.take t).filter (fun x => hindD x (who, m))).map (·.1)) wr) ∧ Hid (Below w.heap.size w wr)) (fun _ s8 _ => nh - (intOf s8).toNat)
      case atStart => exact ⟨0, j, ag, cg, Nat.zero_le _, rfl, rfl, by show _ = _; simpa using unhide hM9, by omega, by simpa [Hid] using unhide G, unhide Bw⟩
      case round =>
        obtain ⟨t, n2, ag2, cg2, ht, rfl, rfl, hl2, hn2, G2, B2⟩ := hrel
        have c0 := ((unhide HL).next (unhide B2)).c0
        by_cases hlt2 : t < nh
        · have hlt3 : Hid (t < H.length) := by have := unhide Hnh; show _ < _; omega
          obtain ⟨g2, rfl, r2⟩ : ∃ g2, ah = some ⟨g2, 0, none⟩ ∧ Rb g2 ch H w := by
            rcases (unhide HL).hr with ⟨_, e⟩ | ⟨g', cap', e, _, r⟩
            · have := unhide hlt3; rw [e] at this; simp at this
            · injection e with e1 _ e2
              subst e1 e2
              exact ⟨g', rfl, r⟩
          obtain ⟨y, hy2⟩ : ∃ y, y = H.getD t (0, 0) := ⟨_, rfl⟩
          have r3 := r2.next (unhide B2)
          have d1 : wr.cell? ⟨g2, t * 2, none⟩ = some (.int .i64 y.1) := by rw [hy2]; exact r3.fst (unhide hlt3)
          have d2 : wr.cell? ⟨g2, t * 2 + 1, none⟩ = some (.int .i64 y.2) := by rw [hy2]; exact r3.snd (unhide hlt3)
          have hfs := flt_succ (fun x => hindD x (who, m)) H t (unhide hlt3)
          rw [← hy2] at hfs
          have hdef : hindD y (who, m) = ((y.1 != who) && !fitsB m y.2) := rfl
          replace hy2 := hide hy2
          clear r2 r3
          cases hq : (y.1 != who)
          · have e1 : Hid (((H.take (t + 1)).filter (fun x => hindD x (who, m))).map (·.1) = ((H.take t).filter (fun x => hindD x (who, m))).map (·.1)) := by
              show _ = _
              rw [hfs, if_neg (by rw [hdef, hq]; simp), List.append_nil]
            clear hfs hdef
            go_wp2
            go_roundw
            case rel => exact ⟨t + 1, n2, ag2, cg2, by omega, rfl, by go_num, by rw [unhide e1]; exact hl2, by omega, by rw [unhide e1]; exact unhide G2, unhide B2⟩
            case measure => simp [intOf]; omega
          · cases hfb : fitsB m y.2
            · have e1 : Hid (M0 ++ ((H.take (t + 1)).filter (fun x => hindD x (who, m))).map (·.1) = M0 ++ ((H.take t).filter (fun x => hindD x (who, m))).map (·.1) ++ [y.1]) := by
                show _ = _
                rw [hfs, if_pos (by rw [hdef, hq, hfb]; rfl), List.append_assoc]
              have F := rfits_any m y.2 wr
              rw [hfb] at F
              replace F := hide F
              clear hfs hdef hfb
              go_wp2_with fail
              refine (unhide F).mono ?_
              rintro e w4 ⟨rfl, b4⟩
              have c4 := ((unhide HL).next (below_then (unhide B2) b4)).c0
              have d4 := (b4.cell (p := ⟨g2, t * 2, none⟩) (World.block_lt_of_cell? _ _ d1)).trans d1
              have B4 := hide (below_then (unhide B2) b4)
              have G4 := hide ((unhide G2).next b4)
              clear c0 d1 d2 b4 F
              have hn29 : n2 < 10000000 := by omega
              go_wp2_with (at_builtin; refine wpList_push w4 rfl (.tmp 78) (.tmp 87) rfl w.heap.size ag2 n2 cg2 _ y.1 _ rfl rfl rfl (unhide hl2) (unhide G4) (unhide B4).size hn29 ?_; intro g5 cap5 w7 a1 a2; replace a1 := hide a1; replace a2 := hide a2)
              go_roundw
              case rel => exact ⟨t + 1, n2 + 1, some ⟨g5, 0, none⟩, cap5, by omega, rfl, by go_num, by
                show _ = _
                rw [unhide e1, List.length_append, unhide hl2]; rfl, by omega, by rw [unhide e1]; exact unhide a1, (unhide B4).trans (grown_below (unhide a2) (unhide B4).size (fun k hk => ((unhide G4).lt k hk).1))⟩
              case measure => simp [intOf]; omega
            · have e1 : Hid (((H.take (t + 1)).filter (fun x => hindD x (who, m))).map (·.1) = ((H.take t).filter (fun x => hindD x (who, m))).map (·.1)) := by
                show _ = _
                rw [hfs, if_neg (by rw [hdef, hq, hfb]; simp), List.append_nil]
              have F := rfits_any m y.2 wr
              rw [hfb] at F
              replace F := hide F
              clear hfs hdef hfb
              go_wp2_with fail
              refine (unhide F).mono ?_
              rintro e w4 ⟨rfl, b4⟩
              have B4 := hide (below_then (unhide B2) b4)
              have G4 := hide ((unhide G2).next b4)
              clear c0 d1 d2 b4 F
              go_wp2
              go_roundw
              case rel => exact ⟨t + 1, n2, ag2, cg2, by omega, rfl, by go_num, by rw [unhide e1]; exact hl2, by omega, by rw [unhide e1]; exact unhide G4, unhide B4⟩
              case measure => simp [intOf]; omega
        · obtain rfl : t = nh := by omega
          have e9 : Hid (M0 ++ ((H.take t).filter (fun x => hindD x (who, m))).map (·.1) = metD H Q j (who, m)) := by
            show _ = _
            have eH : H.take t = H := List.take_of_length_le (by have := unhide Hnh; omega)
            unfold metD
            rw [unhide HM0, eH]
          go_wp2_with fail
          refine (rsorted_any _ (unhide G2).rd (by rw [unhide hl2]; omega)).mono ?_
          rintro e w3 ⟨v3, rfl, G3, b3⟩
          rw [unhide e9] at G3
          have PE := hide (G3.down (unhide B2).size)
          have B3 := hide (below_then (unhide B2) b3)
          clear G3 b3
          go_wp2
          go_ret
          exact ⟨_, rfl, unhide PE, unhide B3⟩
set_option maxRecDepth 100000 in
theorem rblocks_any (w : World) (h : Lr B H Q b hv qv w) (hm : ∀ x ∈ Q, md x.2) (hn : H.length + Q.length < 400) (who : Int) :
    Calls Tryz.prog 54 #[.pointer (some ⟨b, 0, none⟩), .int .i64 who] w fun e w' => ∃ v, e = .returned v ∧ Is w.heap.size v (blocksD who H Q) w' ∧ Below w.heap.size w w' := by
  unfold blocksD
  rcases look_idx (k := who) (l := Q) with ⟨h0, e⟩ | ⟨i, hi, ha, e, e1, e2⟩
  · rw [e]
    show Calls Tryz.prog 54 _ w fun e w' => ∃ v, e = .returned v ∧ Is w.heap.size v [] w' ∧ Below w.heap.size w w'
    have C0 := hide (rwaits_any w h (by omega) who)
    rw [look_no h0] at C0
    clear h e
    go_enter Tryz.func54, Tryz.ntmps54
    go_wp2_with fail
    refine (unhide C0).mono ?_
    rintro e w ⟨rfl, rfl⟩
    go_wp2
    go_ret
    exact ⟨_, rfl, is_nil _ _, Below.refl _ _⟩
  · rw [e]
    have hy : Q.getD i (0, 0) = (who, lookD who Q) := Prod.ext e1 e2
    have hne : lookD who Q ≠ 0 := fun e3 => by rw [(look_zero hm).1 e3] at ha; cases ha
    show Calls Tryz.prog 54 _ w fun e w' => ∃ v, e = .returned v ∧ Is w.heap.size v (Lib.compact (sortI (metD H Q i (Q.getD i (0, 0))))) w' ∧ Below w.heap.size w w'
    rw [hy]
    exact rblocks_some w h hn who _ i hi rfl (beq_eq_false_iff_ne.2 hne) hy (fun t ht => idx_first ha e t ht hi)
end Go.Proofs.YtgiklggnolbiiaaGreat

/- Slices of structs whose fields are all whole numbers: how one that came in lies in memory. -/
namespace Go.Proofs.YtgiklggnolbiiaaGreat
open Go.RowKit Go.Deep

/-- The type e is a struct of N fields, each one cell, each a whole number of 64 bits. -/
def plainInts (P : Program) (e : TypeId) (N : Nat) : Bool :=
  match P.underlying e with
  | some (.struct fs) => (fs.size == N) && ((P.cellsOf e == N) && (List.range N).all fun i =>
      match fs[i]? with
      | some f => (f.offset == i) && ((P.cellsOf f.type == 1) && match P.underlying f.type with
          | some (.int .i64) => true
          | _ => false)
      | none => false)
  | _ => false
theorem plainInts_out {P : Program} {e : TypeId} {N : Nat} (h : plainInts P e N = true) : ∃ fs : Array Field, P.underlying e = some (.struct fs) ∧ fs.size = N ∧ P.cellsOf e = N ∧
    ∀ (i : Nat) (f : Field), fs[i]? = some f → f.offset = i ∧ P.cellsOf f.type = 1 ∧ P.underlying f.type = some (.int .i64) := by
  unfold plainInts at h
  split at h
  · rename_i fs hfs
    simp only [Bool.and_eq_true, beq_iff_eq, List.all_eq_true, List.mem_range] at h
    obtain ⟨h1, h2, h3⟩ := h
    refine ⟨fs, hfs, h1, h2, fun i f hf => ?_⟩
    have hi : i < N := by
      rw [← h1]
      obtain ⟨hlt, _⟩ := Array.getElem?_eq_some_iff.1 hf
      exact hlt
    have h4 := h3 i hi
    rw [hf] at h4
    simp only [Bool.and_eq_true, beq_iff_eq] at h4
    obtain ⟨h5, h6, h7⟩ := h4
    refine ⟨h5, h6, ?_⟩
    split at h7
    · assumption
    · cases h7
  · cases h

section
variable {H : Type} {enc : TypeId × Value → H} {P : Program} {w : World} {base : Nat} {spare : Nat → Bool} {held : Bool}
theorem open_structs {t e : TypeId} {N fuel : Nat} {cs : List Value} {x : DataW H × List MemPlace} (ht : P.underlying t = some (.slice e)) (hp : plainInts P e N = true)
    (h : DataW.trod enc P w base spare held fuel t cs = some x) :
    cs = [.slice none 0 0] ∨
    ∃ (a : Addr) (len cap : Nat) (Z : Nat → Nat → Int), cs = [.slice (some a) len cap] ∧ len ≤ cap ∧ cap ≤ maxLen ∧
      ∀ i, i < len → ∀ j, j < N → w.cell? (a.add (i * N + j)) = some (.int .i64 (Z i j)) ∧ (Lit.int .i64 (Z i j)).wf = true := by
  obtain ⟨fs, he, hN, ce, hall⟩ := plainInts_out hp
  rcases open_slice ht h with h0 | ⟨a, len, cap, m, n, D, Pl, rfl, hb, hl, hm, hmm, rfl, hx⟩
  · exact Or.inl h0.1
  right
  have hlm : len ≤ m := by rw [hmm]; split <;> omega
  have each : ∀ i, i < len → ∃ q : Nat → Int, ∀ j, j < N → w.cell? (a.add (i * N + j)) = some (.int .i64 (q j)) ∧ (Lit.int .i64 (q j)).wf = true := by
    intro i hi
    obtain ⟨cs', h1, h2⟩ := hx i (by omega)
    rw [ce] at h1
    obtain ⟨_, hlen, hcell⟩ := World.cells?_some h1
    obtain ⟨xs, k, hk, hxy, _, hxl, hf⟩ := DataW.trod_struct he h2
    refine choose_lt (p := fun j z => w.cell? (a.add (i * N + j)) = some (.int .i64 z) ∧ (Lit.int .i64 z).wf = true) ?_
    intro j hj
    have hj' : j < fs.size := by omega
    obtain ⟨o1, o2, o3⟩ := hall j fs[j] (Array.getElem?_eq_getElem hj')
    have g := hf j fs[j] (Array.getElem?_eq_getElem hj')
    rw [o1, o2] at g
    have e1 := hcell j (by omega)
    rw [add_add] at e1
    have hjc : j < cs'.length := by omega
    rw [List.drop_eq_getElem_cons hjc, List.take_succ_cons, List.take_zero, List.getElem?_eq_getElem (by omega)] at g
    obtain ⟨z, hz, _, hw⟩ := DataW.trod_int o3 g
    refine ⟨z, ?_, hw⟩
    rw [e1, List.getElem?_eq_getElem hjc]
    simpa using hz
  obtain ⟨q, hq⟩ := choose_lt each
  exact ⟨a, len, cap, q, rfl, hl, hm, hq⟩
end

/-- A slice of structs of N numbers that came in: element i's field j is Z i j. -/
def IsRecs (N : Nat) (w : World) (a : Option Addr) (len cap : Nat) (Z : Nat → Nat → Int) : Prop :=
  (a = none ∧ len = 0 ∧ cap = 0) ∨
  ∃ x, a = some x ∧ len ≤ cap ∧ cap ≤ maxLen ∧ ∀ i, i < len → ∀ j, j < N → w.cell? (x.add (i * N + j)) = some (.int .i64 (Z i j)) ∧ (Lit.int .i64 (Z i j)).wf = true
/-- .. as it lies below B. -/
def RecsB (N B : Nat) (w : World) (a : Option Addr) (len : Nat) (Z : Nat → Nat → Int) : Prop :=
  len = 0 ∨ ∃ b off, a = some ⟨b, off, none⟩ ∧ b < B ∧ ∀ i, i < len → ∀ j, j < N → w.cell? ⟨b, off + i * N + j, none⟩ = some (.int .i64 (Z i j))
theorem isRecs_low {N : Nat} {w : World} {a : Option Addr} {len cap : Nat} {Z : Nat → Nat → Int} (hN : 0 < N) (h : IsRecs N w a len cap Z) :
    RecsB N w.heap.size w a len Z ∧ len ≤ cap ∧ cap ≤ maxLen ∧ ∀ i, i < len → ∀ j, j < N → (Lit.int .i64 (Z i j)).wf = true := by
  rcases h with ⟨rfl, rfl, rfl⟩ | ⟨x, rfl, hl, hm, hc⟩
  · exact ⟨.inl rfl, Nat.le_refl _, Nat.zero_le _, fun i hi => absurd hi (Nat.not_lt_zero _)⟩
  · refine ⟨?_, hl, hm, fun i hi j hj => (hc i hi j hj).2⟩
    by_cases h0 : len = 0
    · exact .inl h0
    · obtain ⟨b, off, spot⟩ := x
      have h1 := (hc 0 (by omega) 0 hN).1
      have hspot : spot = none := by simpa [Addr.add] using World.cell?_spot h1
      subst hspot
      have hbl : b < w.heap.size := by
        simp [Addr.add, World.cell?] at h1
        by_cases hb : b < w.heap.size
        · exact hb
        · simp [Array.getElem?_eq_none (show w.heap.size ≤ b by omega)] at h1
      refine .inr ⟨b, off, rfl, hbl, fun i hi j hj => ?_⟩
      have h2 := (hc i hi j hj).1
      have e : Addr.add ⟨b, off, none⟩ (i * N + j) = ⟨b, off + i * N + j, none⟩ := by
        rw [Nat.add_assoc]
        generalize i * N + j = q
        by_cases h : q = 0 <;> simp [Addr.add, h]
      rwa [e] at h2
theorem RecsB.later {N B : Nat} {w w' : World} {a : Option Addr} {len : Nat} {Z : Nat → Nat → Int} (h : RecsB N B w a len Z) (hb : Below B w w') : RecsB N B w' a len Z := by
  rcases h with h0 | ⟨b, off, rfl, hlt, hc⟩
  · exact .inl h0
  · exact .inr ⟨b, off, rfl, hlt, fun i hi j hj => (hb.cell hlt).trans (hc i hi j hj)⟩
theorem RecsB.at {N B : Nat} {w : World} {a : Option Addr} {len : Nat} {Z : Nat → Nat → Int} (h : RecsB N B w a len Z) {i : Nat} (hi : i < len) :
    ∃ b off, a = some ⟨b, off, none⟩ ∧ b < B ∧ ∀ j, j < N → w.cell? ⟨b, off + i * N + j, none⟩ = some (.int .i64 (Z i j)) := by
  rcases h with h0 | ⟨b, off, rfl, hlt, hc⟩
  · omega
  · exact ⟨b, off, rfl, hlt, hc i hi⟩
end Go.Proofs.YtgiklggnolbiiaaGreat

/- LanePlays: the program's lane and the reference's beside each other. -/
namespace Go.Proofs.YtgiklggnolbiiaaGreat
open Go.RowKit
variable {N : Nat} {H Q H' Q' : List En} {b b2 : Nat} {hv qv hv2 qv2 hv' qv' : Value} {w w' : World}
theorem La.tys (h : La N H Q b hv qv w) {p : Nat} {cur : Array Value} {t : TypeId} (hp : w.heap[p]? = some (.cells cur t (0, 0))) (h1 : t ≠ 96) (h2 : t ≠ 92) : p ≠ b ∧ hv.ownBlock ≠ some p ∧ qv.ownBlock ≠ some p := by
  refine ⟨fun e => ?_, fun e => ?_, fun e => ?_⟩
  · rw [e, h.blk] at hp; injection hp with hp; injection hp with _ hp; exact h1 hp.symm
  · obtain ⟨c2, h3⟩ := h.hr.ty p e
    rw [h3] at hp; injection hp with hp; injection hp with _ hp; exact h2 hp.symm
  · obtain ⟨c2, h3⟩ := h.qr.ty p e
    rw [h3] at hp; injection hp with hp; injection hp with _ hp; exact h2 hp.symm
theorem Lr.tys (h : Lr N H Q b hv qv w) {p : Nat} {cur : Array Value} {t : TypeId} (hp : w.heap[p]? = some (.cells cur t (0, 0))) (h1 : t ≠ 61) (h2 : t ≠ 92) : p ≠ b ∧ hv.ownBlock ≠ some p ∧ qv.ownBlock ≠ some p := by
  refine ⟨fun e => ?_, fun e => ?_, fun e => ?_⟩
  · rw [e, h.blk] at hp; injection hp with hp; injection hp with _ hp; exact h1 hp.symm
  · obtain ⟨c2, h3⟩ := h.hr.ty p e
    rw [h3] at hp; injection hp with hp; injection hp with _ hp; exact h2 hp.symm
  · obtain ⟨c2, h3⟩ := h.qr.ty p e
    rw [h3] at hp; injection hp with hp; injection hp with _ hp; exact h2 hp.symm
/-- What lies in another block than a lane's stays. -/
theorem La.stays (h : La N H Q b hv qv w) (M : Mv b hv qv hv' qv' w w') {p : Nat} {cur : Array Value} {t : TypeId} (hp : w.heap[p]? = some (.cells cur t (0, 0))) (h1 : t ≠ 96) (h2 : t ≠ 92) : w'.heap[p]? = some (.cells cur t (0, 0)) := by
  obtain ⟨a1, a2, a3⟩ := h.tys hp h1 h2
  exact (M.block p (heap_lt hp) a1 a2 a3).trans hp
theorem Lr.stays (h : Lr N H Q b hv qv w) (M : Mv b hv qv hv' qv' w w') {p : Nat} {cur : Array Value} {t : TypeId} (hp : w.heap[p]? = some (.cells cur t (0, 0))) (h1 : t ≠ 61) (h2 : t ≠ 92) : w'.heap[p]? = some (.cells cur t (0, 0)) := by
  obtain ⟨a1, a2, a3⟩ := h.tys hp h1 h2
  exact (M.block p (heap_lt hp) a1 a2 a3).trans hp
/-- Four rows that lie apart, two and two. -/
structure Ap (hv qv hv2 qv2 : Value) : Prop where
  hh : Dq hv hv2
  hq : Dq hv qv2
  qh : Dq qv hv2
  qq : Dq qv qv2
theorem Ap.comm (h : Ap hv qv hv2 qv2) : Ap hv2 qv2 hv qv := ⟨h.hh.comm, h.qh.comm, h.hq.comm, h.qq.comm⟩
theorem dq_at {u v u' : Value} {n : Nat} (h : Dq u v) (ha : At u u' n) (hv : ∀ k, v.ownBlock = some k → k < n) : Dq u' v := fun k h1 h2 => by
  rcases ha k h1 with e | e
  · exact h k e h2
  · have := hv k h2; omega
/-- The program's lane is turned: the reference's stays. -/
theorem Lr.acrossA {H2 Q2 : List En} (l : Lr N H2 Q2 b2 hv2 qv2 w) (h : La N H Q b hv qv w) (ap : Ap hv qv hv2 qv2) (M : Mv b hv qv hv' qv' w w') : Lr N H2 Q2 b2 hv2 qv2 w' ∧ Ap hv' qv' hv2 qv2 := by
  have far : ∀ k, hv.ownBlock ≠ some k → qv.ownBlock ≠ some k → k < w.heap.size → (∃ cur, w.heap[k]? = some (.cells cur 92 (0, 0))) → w'.heap[k]? = w.heap[k]? := fun k h1 h2 hk ⟨cur, hc⟩ => M.block k hk (fun e => by rw [e, h.blk] at hc; cases hc) h1 h2
  refine ⟨⟨h.stays M l.blk (by decide) (by decide), l.hr.keep fun k hk => far k (fun e => ap.hh k e hk) (fun e => ap.qh k e hk) (l.hr.lt k hk).2 (l.hr.ty k hk), l.qr.keep fun k hk => far k (fun e => ap.hq k e hk) (fun e => ap.qq k e hk) (l.qr.lt k hk).2 (l.qr.ty k hk), l.bB⟩, ?_⟩
  exact ⟨dq_at ap.hh M.ha fun k hk => (l.hr.lt k hk).2, dq_at ap.hq M.ha fun k hk => (l.qr.lt k hk).2, dq_at ap.qh M.qa fun k hk => (l.hr.lt k hk).2, dq_at ap.qq M.qa fun k hk => (l.qr.lt k hk).2⟩
/-- The reference's lane is turned: the program's stays. -/
theorem La.acrossR {H2 Q2 : List En} (l : La N H2 Q2 b2 hv2 qv2 w) (h : Lr N H Q b hv qv w) (ap : Ap hv qv hv2 qv2) (M : Mv b hv qv hv' qv' w w') : La N H2 Q2 b2 hv2 qv2 w' ∧ Ap hv' qv' hv2 qv2 := by
  have far : ∀ k, hv.ownBlock ≠ some k → qv.ownBlock ≠ some k → k < w.heap.size → (∃ cur, w.heap[k]? = some (.cells cur 92 (0, 0))) → w'.heap[k]? = w.heap[k]? := fun k h1 h2 hk ⟨cur, hc⟩ => M.block k hk (fun e => by rw [e, h.blk] at hc; cases hc) h1 h2
  refine ⟨⟨h.stays M l.blk (by decide) (by decide), l.hr.keep fun k hk => far k (fun e => ap.hh k e hk) (fun e => ap.qh k e hk) (l.hr.lt k hk).2 (l.hr.ty k hk), l.qr.keep fun k hk => far k (fun e => ap.hq k e hk) (fun e => ap.qq k e hk) (l.qr.lt k hk).2 (l.qr.ty k hk), l.dq, l.bB, l.srt⟩, ?_⟩
  exact ⟨dq_at ap.hh M.ha fun k hk => (l.hr.lt k hk).2, dq_at ap.hq M.ha fun k hk => (l.qr.lt k hk).2, dq_at ap.qh M.qa fun k hk => (l.hr.lt k hk).2, dq_at ap.qq M.qa fun k hk => (l.qr.lt k hk).2⟩
theorem Mv.belowr (h : Mv b hv qv hv' qv' w w') (l : Lr N H Q b hv qv w) : Below N w w' :=
  ⟨h.os, h.tape, h.output, h.size, fun k hk => h.block k (Nat.lt_of_lt_of_le hk l.low) (fun e => by have := l.bB; omega) (fun e => by have := (l.hr.lt k e).1; omega) (fun e => by have := (l.qr.lt k e).1; omega)⟩
/-- Both lanes, with the same entries. -/
structure Bo (N : Nat) (H Q : List En) (b : Nat) (hv qv : Value) (b2 : Nat) (hv2 qv2 : Value) (w : World) : Prop where
  la : La N H Q b hv qv w
  lr : Lr N H Q b2 hv2 qv2 w
  d2 : Dq hv2 qv2
  ap : Ap hv qv hv2 qv2
theorem Bo.next (h : Bo N H Q b hv qv b2 hv2 qv2 w) (k : Below w.heap.size w w') : Bo N H Q b hv qv b2 hv2 qv2 w' := ⟨h.la.next k, h.lr.next k, h.d2, h.ap⟩
theorem bo_new (h : La N [] [] b (.slice none 0 0) (.slice none 0 0) w) : Bo N [] [] b (.slice none 0 0) (.slice none 0 0) w.heap.size (.slice none 0 0) (.slice none 0 0) (w.alloc (.cells #[.slice none 0 0, .slice none 0 0] 61)) := by
  have no : ∀ v : Value, Dq (.slice none 0 0) v := fun v k hk => by cases hk
  exact ⟨h.next (below_new _ _), ⟨heap_alloc_new _ _, .inl ⟨rfl, rfl⟩, .inl ⟨rfl, rfl⟩, h.low⟩, no _, ⟨no _, no _, no _, no _⟩⟩
/-- As long as n steps went. -/
structure Pl (H Q : List En) (n : Nat) : Prop where
  fine : Fine H Q
  sum : H.length + Q.length ≤ n
theorem pl_ask {n : Nat} (who m : Int) (hs : Srt H) (h : Pl H Q n) : Pl (askD who m H Q).2.1 (askD who m H Q).2.2 (n + 1) := ⟨(ask_fine who m hs h.fine).1, by have := (ask_ok who m hs h.fine.ok).2.1; have := h.sum; omega⟩
theorem pl_leave {n : Nat} (who : Int) (hs : Srt H) (h : Pl H Q n) : Pl (leaveD who H Q).2.1 (leaveD who H Q).2.2 n := ⟨(leave_fine who hs h.fine).1, by have := (leave_ok who hs h.fine.ok).2.1; have := h.sum; omega⟩
end Go.Proofs.YtgiklggnolbiiaaGreat
