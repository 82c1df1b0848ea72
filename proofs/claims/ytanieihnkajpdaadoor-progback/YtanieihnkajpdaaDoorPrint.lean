/- Print of package prog. -/
import Derived.Test.YtanieihnkajpdaaDoorNamed
import Derived.Test.YtanieihnkajpdaaDoorWord
namespace Go.Proofs.YtanieihnkajpdaaDoor
open Go.RowKit

/-- The cells that hold texts. -/
def strs (ss : List (List UInt8)) : List Value := ss.map fun s => Value.string ⟨s.toArray⟩
theorem strs_one (ss : List (List UInt8)) : ∀ u ∈ strs ss, u.oneCell' = true := by
  intro u hu
  unfold strs at hu
  obtain ⟨n, _, rfl⟩ := List.mem_map.1 hu
  rfl
/-- The slice v holds the texts ss, below B. -/
def Ss (B : Nat) (w : World) (v : Value) (ss : List (List UInt8)) : Prop :=
  ∃ a cap, v = .slice a ss.length cap ∧ ss.length ≤ cap ∧ cap ≤ maxLen ∧ (a = none → cap = 0) ∧ (ss.length = 0 ∨ ∃ b off, a = some ⟨b, off, none⟩ ∧ b < B ∧ ∀ i, i < ss.length → w.cell? ⟨b, off + i, none⟩ = some (.string ⟨(ss.getD i []).toArray⟩))
theorem Ss.later {B : Nat} {w w' : World} {v : Value} {ss : List (List UInt8)} (h : Ss B w v ss) (hb : Below B w w') : Ss B w' v ss := by
  obtain ⟨a, cap, h1, h2, h3, h5, h4⟩ := h
  refine ⟨a, cap, h1, h2, h3, h5, ?_⟩
  rcases h4 with h0 | ⟨b, off, e, hlt, hc⟩
  · exact .inl h0
  · exact .inr ⟨b, off, e, hlt, fun i hi => (hb.cell hlt).trans (hc i hi)⟩
theorem Ss.up {B C : Nat} {w : World} {v : Value} {ss : List (List UInt8)} (h : Ss B w v ss) (hB : B ≤ C) : Ss C w v ss := by
  obtain ⟨a, cap, h1, h2, h3, h5, h4⟩ := h
  refine ⟨a, cap, h1, h2, h3, h5, ?_⟩
  rcases h4 with h0 | ⟨b, off, e, hlt, hc⟩
  · exact .inl h0
  · exact .inr ⟨b, off, e, by omega, hc⟩
theorem Ss.next {w w' : World} {v : Value} {ss : List (List UInt8)} (h : Ss w.heap.size w v ss) (hb : Below w.heap.size w w') : Ss w'.heap.size w' v ss := (h.later hb).up hb.size
theorem own_ss {w : World} {base : Nat} {v : Value} {n : Nat} {ss : List (List UInt8)} (h : w.ownsRow base 9 1 v n (strs ss)) : Ss w.heap.size w v ss := by
  have hl : ss.length = n := by simpa [strs] using h.1
  subst hl
  rcases h.2 with ⟨rfl, h0⟩ | ⟨g, cap, cur, rfl, _, hg, hnc, hcm, _, _⟩
  · exact ⟨none, 0, by rw [h0], by omega, Nat.zero_le _, fun _ => rfl, .inl h0⟩
  · refine ⟨_, cap, rfl, hnc, hcm, (fun h => by cases h), .inr ⟨g, 0, rfl, heap_lt hg, fun i hi => ?_⟩⟩
    have := h.cells (g := g) rfl i (.string ⟨(ss.getD i []).toArray⟩) (by
      unfold strs
      rw [List.getElem?_map, List.getElem?_eq_getElem (by omega)]; simp [List.getD, hi])
    rwa [addr_add] at this
theorem ss_news {B : Nat} {w : World} {v : Value} {ss : List (List UInt8)} (h : Ss B w v ss) : News w v ss.length 1 (strs ss) := by
  obtain ⟨a, cap, rfl, h1, h2, h4, h3⟩ := h
  refine ⟨by simp [strs], strs_one ss, ?_⟩
  cases a with
  | none =>
    have e3 := h4 rfl
    have e2 : ss.length = 0 := by omega
    exact .inl ⟨by rw [e2, e3], e2⟩
  | some ad =>
    refine .inr ⟨ad, cap, rfl, fun j u hj => ?_⟩
    unfold strs at hj
    rw [List.getElem?_map] at hj
    have hjl : j < ss.length := by
      rcases Nat.lt_or_ge j ss.length with hh | hh
      · exact hh
      · rw [List.getElem?_eq_none (by omega)] at hj; simp at hj
    rw [List.getElem?_eq_getElem hjl] at hj
    obtain rfl : Value.string ⟨ss[j].toArray⟩ = u := by simpa using hj
    rcases h3 with h0 | ⟨b, off, e5, _, hc⟩
    · omega
    · obtain rfl : ad = ⟨b, off, none⟩ := by simpa using e5
      rw [addr_add, hc j hjl]
      simp [hjl]

/-- The line of an instruction. -/
def lineOf (x : In) : List UInt8 := lineD (wordD x.k) (namedD x)
/-- Its numbers are whole numbers of 64 bits, and it is not great. -/
structure Fine (x : In) : Prop where
  k : I64 x.k
  a : I64 x.a
  b : I64 x.b
  c : I64 x.c
  l : ∀ n ∈ x.l, I64 n
  s : x.l.length ≤ 100
theorem fine_named {x : In} (h : Fine x) : (∀ n ∈ namedD x, I64 n) ∧ (namedD x).length ≤ 1000 := by
  unfold namedD
  split
  · exact ⟨fun n hn => by simp at hn; rcases hn with rfl | rfl | rfl; exact h.a; exact h.b; exact h.c, by simp⟩
  split
  · exact ⟨fun n hn => by simp at hn; rcases hn with rfl | rfl; exact h.a; exact h.b, by simp⟩
  split
  · exact ⟨fun n hn => by simp at hn; rcases hn with rfl | rfl | hn; exact h.a; exact h.b; exact h.l n hn, by have := h.s; simp; omega⟩
  · exact ⟨fun n hn => by simp at hn, by simp⟩
theorem word_len (k : Int) : (wordD k).length ≤ 1000 := by
  unfold wordD
  repeat (split; simp)
  simp
theorem map_snoc {ps : List In} {k : Nat} (h : k < ps.length) : (ps.take (k + 1)).map lineOf = (ps.take k).map lineOf ++ [lineOf (ps.getD k z0)] := by
  have e : ps.getD k z0 = ps[k] := by simp [h]
  rw [List.take_add_one, List.getElem?_eq_getElem h, e]
  simp only [Option.toList, List.map_append, List.map_cons, List.map_nil]
set_option maxRecDepth 100000 in
set_option maxHeartbeats 2000000 in
theorem print_any (ps : List In) (v : Value) (w : World) (hp : Ps w.heap.size w v ps) (hn : ps.length ≤ 500) (hf : ∀ x ∈ ps, Fine x) (hr : Vr w) :
    Calls Tryd.prog 14 #[v] w fun e w' => ∃ u, e = .returned u ∧ Ss w'.heap.size w' u (ps.map lineOf) ∧ Below w.heap.size w w' := by
  obtain ⟨n, hnn⟩ : ∃ n, n = ps.length := ⟨_, rfl⟩
  have hp0 := hp
  obtain ⟨a, cap, rfl, h1, h2, h3⟩ := hp
  have hmax : maxLen = 9223372036854775807 := rfl
  rw [← hnn] at h1 hn ⊢
  replace hnn := hide hnn
  have hnl : (n : Int) ≤ 9223372036854775807 := by omega
  replace hp0 := hide hp0
  replace h3 := hide h3
  replace hf := hide hf
  replace hr := hide hr
  go_enter Tryd.func14, Tryd.ntmps14
  go_wp2_with (at_make; refine wpList_mk elStr _ rfl _ _ rfl n rfl rfl (by omega) (by omega) ?_; intro w1 hown1 hb1)
  replace hown1 := hide hown1
  replace hb1 := hide hb1
  go_loopw [3, 11] (fun u i wr => ∃ k : Nat, k ≤ n ∧ i = .int .i64 k ∧ Below w.heap.size w wr ∧ wr.ownsRow w.heap.size 9 1 u k (strs ((ps.take k).map lineOf))) (fun _ i _ => n - (RowKit.intOf i).toNat)
  case atStart => exact ⟨0, Nat.zero_le _, rfl, unhide hb1, unhide hown1⟩
  case round =>
    obtain ⟨k, hk, rfl, hb, hown⟩ := hrel
    clear hb1 hown1
    by_cases hlt : k < n
    · have kd : decide ((k : Int) < (n : Int)) = true := decide_eq_true (by omega)
      have kl : (k : Int) < (n : Int) := by omega
      obtain ⟨_, _, hv, _, _, h3'⟩ := (unhide hp0).later hb
      cases hv
      rcases h3' with h0 | ⟨b, off, rfl, hbB, hc⟩
      · have := unhide hnn; omega
      have hI := hc k (by have := unhide hnn; omega)
      obtain ⟨x, hxx⟩ : ∃ x, ps.getD k z0 = x := ⟨_, rfl⟩
      rw [hxx] at hI
      obtain ⟨c0, c1, c2, c3, u0, c4, hu⟩ := hI
      obtain ⟨ua, ul, uc, rfl⟩ : ∃ ua ul uc, u0 = .slice ua ul uc := by obtain ⟨ua, ul, uc, e, _⟩ := hu; exact ⟨ua, ul, uc, e⟩
      have hk2 : k < ps.length := by have := unhide hnn; omega
      have hfx : Fine x := by
        rw [← hxx]
        have : ps.getD k z0 = ps[k] := by simp [hk2]
        rw [this]
        exact unhide hf _ (List.getElem_mem hk2)
      have hms := map_snoc (ps := ps) (k := k) hk2
      rw [hxx] at hms
      have b0 := below_new wr (.cells #[.int .i64 x.k, .int .i64 x.a, .int .i64 x.b, .int .i64 x.c, .slice ua ul uc] 32)
      have b2 := below_then hb b0
      have hix := ix_new x (.slice ua ul uc) wr
      obtain ⟨z0, z1, z2, z3, z4⟩ := hix.cells
      have hown2 := own_next hown b0.drew
      have hlx : Ls (wr.alloc (.cells #[.int .i64 x.k, .int .i64 x.a, .int .i64 x.b, .int .i64 x.c, .slice ua ul uc] 32)).drew.heap.size (wr.alloc (.cells #[.int .i64 x.k, .int .i64 x.a, .int .i64 x.b, .int .i64 x.c, .slice ua ul uc] 32)).drew (.slice ua ul uc) x.l := (hu.up hb.size).next b0.drew
      have kN := named_any x (.slice ua ul uc) (wr.alloc (.cells #[.int .i64 x.k, .int .i64 x.a, .int .i64 x.b, .int .i64 x.c, .slice ua ul uc] 32)).drew hlx (by have := hfx.s; omega)
      unfold iv at kN
      have vr2 : Vr (wr.alloc (.cells #[.int .i64 x.k, .int .i64 x.a, .int .i64 x.b, .int .i64 x.c, .slice ua ul uc] 32)).drew := (unhide hr).next b2.drew
      have fn := fine_named hfx
      have lv : ∀ g, Value.ownBlock u3 = some g → g < wr.heap.size := fun g hg => (hown.lt g hg).2
      have nov : some wr.heap.size ≠ Value.ownBlock u3 := fun hg => by have := lv _ hg.symm; omega
      have one1 : ∀ t : ByteArray, ∀ u ∈ [Value.string t], u.oneCell' = true := fun t u hu => by simp at hu; subst hu; rfl
      have m16 : (k + 1) * 16 ≤ 140737488355328 := by omega
      have mm : k + 1 ≤ maxLen := by omega
      have own1 : ∀ (W : World) (xs : List Value), W.ownsRow w.heap.size 9 1 u3 k xs → ∀ q, Value.ownBlock u3 = some q → w.heap.size ≤ q := fun W xs h q hq => (h.lt q hq).1
      have b2d := b2.drew
      have hixd := hide hix.drew
      replace hix := hide hix
      replace hown2 := hide hown2
      replace b2d := hide b2d
      replace vr2 := hide vr2
      replace fn := hide fn
      replace nov := hide nov
      replace hms := hide hms
      replace hc := hide hc
      replace hu := hide hu
      clear b0 b2 hlx lv hfx hown
      replace hb := hide hb
      go_wp2_with fail
      go_region_held3 (fun wz => wz.cell? ⟨wr.heap.size, 0, none⟩ = some (.int .i64 x.k) ∧ wz.cell? ⟨wr.heap.size, 1, none⟩ = some (.int .i64 x.a) ∧ wz.cell? ⟨wr.heap.size, 2, none⟩ = some (.int .i64 x.b) ∧ wz.cell? ⟨wr.heap.size, 3, none⟩ = some (.int .i64 x.c) ∧ wz.cell? ⟨wr.heap.size, 4, none⟩ = some (.slice ua ul uc)) (first | exact ⟨z0, z1, z2, z3, z4⟩ | exact ⟨y0, y1, y2, y3, y4⟩ | exact ⟨q0, q1, q2, q3, q4⟩ | exact ⟨m0, m1, m2, m3, m4⟩ | exact ⟨g0, g1, g2, g3, g4⟩)
        (first
          | (go_at_call 25; with_reducible refine Calls.mono (word_any x.k _) ?_; rintro e _ ⟨rfl, rfl⟩)
          | (go_at_call 26; with_reducible refine Calls.mono kN ?_; rintro e wN ⟨lu, rfl, hlu, hbN⟩; have gN := hide (below_then (unhide b2d) hbN); have vrN := hide ((unhide vr2).next hbN); have ownN := hide (own_next (unhide hown2) hbN); have ixN := hide ((unhide hixd).next hbN); obtain ⟨y0, y1, y2, y3, y4⟩ := (unhide ixN).cells)
          | (go_at_call 24; with_reducible refine Calls.mono (line_any (wordD x.k) (namedD x) lu wN hlu (word_len _) (unhide fn).2 (unhide fn).1 (unhide vrN)) ?_; rintro e wL ⟨rfl, hbL⟩; have ixL := hide ((unhide ixN).next hbL); obtain ⟨q0, q1, q2, q3, q4⟩ := (unhide ixL).cells; have bA := below_new wL (.cells #[.string ⟨(lineD (wordD x.k) (namedD x)).toArray⟩] 9); have ixM := hide ((unhide ixL).next bA); obtain ⟨m0, m1, m2, m3, m4⟩ := (unhide ixM).cells; have ownA := own_next (own_next (unhide ownN) hbL) bA; have gA := hide (below_then (below_then (unhide gN) hbL) bA); have newsA := news_new wL [.string ⟨(lineD (wordD x.k) (namedD x)).toArray⟩] 9 1 1 1 wL.heap.size rfl rfl (one1 _); have sA := (unhide gA).size)
          | (refine step_app elStr _ (by rfl) (.tmp 15) (.tmp 22) (by rfl) w.heap.size _ k _ (by rfl) ownA _ 1 _ (by rfl) newsA m16 mm sA ?_; intro v6 w6 hown6 hgr6; have gB := hide ((unhide gA).grown hgr6 sA (own1 _ _ ownA)); have ixG := (hgr6.block wr.heap.size (unhide ixM).lt (unhide nov)).trans (unhide ixM); obtain ⟨g0, g1, g2, g3, g4⟩ := Ix.cells ixG))
      have hown7 : w6.ownsRow w.heap.size 9 1 v6 (k + 1) (strs ((ps.take (k + 1)).map lineOf)) := by
        rw [unhide hms]; unfold strs at hown6 ⊢; rw [List.map_append]; exact hown6
      replace hown7 := hide hown7
      clear hown6 hgr6 newsA ownA hlu hbN hbL bA
      go_wp2
      go_roundw
      case rel => exact ⟨k + 1, by omega, by go_num, unhide gB, unhide hown7⟩
      case measure => first | omega | (simp; omega) | (simp [RowKit.intOf]; omega)
    · have kd : decide ((k : Int) < (n : Int)) = false := decide_eq_false (by omega)
      have e1 : ps.take k = ps := List.take_of_length_le (by have := unhide hnn; omega)
      rw [e1] at hown
      have fl := hide (own_ss hown)
      replace hb := hide hb
      clear hown
      go_wp2
      go_ret
      exact ⟨_, rfl, unhide fl, unhide hb⟩
end Go.Proofs.YtanieihnkajpdaaDoor
