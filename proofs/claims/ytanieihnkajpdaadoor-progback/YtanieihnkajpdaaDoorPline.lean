/- parseLine of package prog. -/
import Derived.Test.YtanieihnkajpdaaDoorParts
import Derived.Test.YtanieihnkajpdaaDoorFill
namespace Go.Proofs.YtanieihnkajpdaaDoor
open Go.RowKit
open Go.Lib (splitB splitB_data splitB_all countB split splitK count)

theorem parts_len (l : List UInt8) : (partsD l).length = count l [32] + 1 := by
  have h := splitB_all ⟨#[32]⟩ (by decide) 0 (countB ⟨l.toArray⟩ ⟨#[32]⟩) ⟨l.toArray⟩ rfl
  have e := splitB_data ⟨#[32]⟩ 0 (countB ⟨l.toArray⟩ ⟨#[32]⟩) ⟨l.toArray⟩
  have e2 : (splitB ⟨#[32]⟩ 0 (countB ⟨l.toArray⟩ ⟨#[32]⟩) ⟨l.toArray⟩).length = (partsD l).length := by
    have : ((splitB ⟨#[32]⟩ 0 (countB ⟨l.toArray⟩ ⟨#[32]⟩) ⟨l.toArray⟩).map (·.data.toList)).length = (partsD l).length := by rw [e]; rfl
    simpa using this
  rw [← e2, h]
theorem splitK_short : ∀ (k : Nat) (s : List UInt8), ∀ p ∈ splitK [32] 0 k s, p.length ≤ s.length
  | 0, s, p, h => by
    simp only [splitK, List.mem_singleton] at h
    subst h; exact Nat.le_refl _
  | k + 1, s, p, h => by
    simp only [splitK] at h
    split at h
    · simp only [List.mem_singleton] at h
      subst h; exact Nat.le_refl _
    · rcases List.mem_cons.1 h with rfl | h
      · simp; omega
      · have := splitK_short k _ p h
        simp only [List.length_drop] at this
        omega
theorem parts_short (l : List UInt8) : ∀ p ∈ partsD l, p.length ≤ l.length := splitK_short _ l
/-- strings.Split at a space. -/
theorem split_any (l : List UInt8) (w : World) (hl : l.length ≤ 100000) (hr : Vr w) :
    Calls Tryd.prog 39 #[.string ⟨l.toArray⟩, .string ⟨#[32]⟩] w fun e w' => ∃ g n, e = .returned (.slice (some ⟨g, 0, none⟩) n n) ∧ n = (partsD l).length ∧ w.heap.size ≤ g ∧ Below w.heap.size w w' ∧ ∀ i, i < n → w'.cell? ⟨g, i, none⟩ = some (.string ⟨((partsD l).getD i []).toArray⟩) := by
  obtain ⟨m, hm⟩ := hr.mx
  refine (Tryd.strings_Split ⟨l.toArray⟩ ⟨#[32]⟩ m w (by rw [bytes_size]; omega) hm (by decide)).mono ?_
  rintro e w' ⟨rfl, rfl⟩
  have hc : countB ⟨l.toArray⟩ ⟨#[32]⟩ + 1 = (partsD l).length := (parts_len l).symm
  rw [hc]
  refine ⟨_, _, rfl, rfl, Nat.le_refl _, below_new w _, fun i hi => ?_⟩
  have hh := heap_alloc_new w (.cells ((splitB ⟨#[32]⟩ 0 (countB ⟨l.toArray⟩ ⟨#[32]⟩) ⟨l.toArray⟩).map Value.string).toArray 9)
  unfold World.cell?
  rw [hh]
  have e := splitB_data ⟨#[32]⟩ 0 (countB ⟨l.toArray⟩ ⟨#[32]⟩) ⟨l.toArray⟩
  have e1 : (splitB ⟨#[32]⟩ 0 (countB ⟨l.toArray⟩ ⟨#[32]⟩) ⟨l.toArray⟩).map (·.data.toList) = partsD l := e
  have hlen : i < (splitB ⟨#[32]⟩ 0 (countB ⟨l.toArray⟩ ⟨#[32]⟩) ⟨l.toArray⟩).length := by
    have := congrArg List.length e1
    simp only [List.length_map] at this
    omega
  have e2 : (partsD l).getD i [] = ((splitB ⟨#[32]⟩ 0 (countB ⟨l.toArray⟩ ⟨#[32]⟩) ⟨l.toArray⟩)[i]).data.toList := by
    rw [← e1]
    simp [hlen]
  rw [e2]
  simp [hlen]
set_option maxRecDepth 100000 in
set_option maxHeartbeats 2000000 in
theorem parseLine_any (l : List UInt8) (w : World) (hl : l.length ≤ 100000) (hr : Vr w) :
    Calls Tryd.prog 27 #[.string ⟨l.toArray⟩] w (Filled (plD l) w) := by
  have hmax : maxLen = 9223372036854775807 := rfl
  have b0 := below_new w (.cells #[.int .i64 0, .int .i64 0, .int .i64 0, .int .i64 0, .slice none 0 0] 32)
  have vr0 := hr.next b0
  have ix0 := ix_new z0 (.slice none 0 0) w
  obtain ⟨f, r, hfr⟩ : ∃ f r, partsD l = f :: r := by
    have := parts_len l
    cases h : partsD l with
    | nil => rw [h] at this; simp at this
    | cons f r => exact ⟨f, r, rfl⟩
  replace ix0 := hide ix0
  replace b0 := hide b0
  go_enter Tryd.func27, Tryd.ntmps27
  go_wp2_with fail
  refine (split_any l _ hl vr0).mono ?_
  rintro e w2 ⟨g, n, rfl, hn, hg, hb2, hc⟩
  have ix2 : Ix z0 (.slice none 0 0) w.heap.size w2 := (unhide ix0).next hb2
  have b2 := hide (below_then (unhide b0) hb2)
  have vr2 := hide (vr0.next hb2)
  have lg : g < w2.heap.size := by
    have h0 := hc 0 (by rw [hn, hfr]; simp)
    by_cases hh : g < w2.heap.size
    · exact hh
    · simp [World.cell?, Array.getElem?_eq_none (show w2.heap.size ≤ g by omega)] at h0
  have hml : (partsD l).length ≤ 100001 := by
    have h1 := parts_len l
    have h2 : count l [32] ≤ l.length := by rw [Lib.count_one]; exact List.count_le_length
    omega
  obtain ⟨m, hm⟩ : ∃ m, m = r.length := ⟨_, rfl⟩
  have hnm : n = m + 1 := by rw [hn, hfr, hm]; rfl
  have hmb : m ≤ 100000 := by rw [hfr] at hml; simp at hml; omega
  subst hnm
  replace ix2 := hide ix2
  replace hc := hide hc
  replace hfr := hide hfr
  replace hm := hide hm
  clear hn hb2 vr0 hml hg
  by_cases hm0 : m = 0
  · subst hm0
    have er : r = [] := List.length_eq_zero_iff.1 (unhide hm).symm
    subst er
    have hSs : Ss w2.heap.size w2 (.slice (some ⟨g, 0, none⟩) 0 0) [] := ⟨_, 0, rfl, Nat.le_refl _, Nat.zero_le _, (fun e => by cases e), .inl rfl⟩
    have kN := parseNumbers_any [] _ w2 hSs (by simp) (fun q hq => by cases hq) (unhide vr2)
    go_wp2_with fail
    refine kN.mono ?_
    rintro e w3 ⟨na, nn, nc, rfl, hb3, hns⟩
    have ix3 := (unhide ix2).next hb3
    have g3 := hide (below_then (unhide b2) hb3)
    have cell0 := (hb3.cell lg).trans (unhide hc 0 (by omega))
    rw [show (partsD l).getD 0 [] = f by rw [unhide hfr]; rfl] at cell0
    have f0 := ix3.frozen 0
    have f1 := ix3.frozen 1
    have f2 := ix3.frozen 2
    have f3 := ix3.frozen 3
    have f4 := ix3.frozen 4
    obtain ⟨m0, m1, m2, m3, m4⟩ := ix3.cells
    cases hN : numsD [] with
    | none =>
      have r0 : Hid (plD l = none) := hide (by unfold plD; rw [unhide hfr]; simp only; rw [hN])
      have bF := hide (five_below w w3 w.heap.size w.heap.size (Nat.le_refl _) (unhide g3) (.int .i64 0) (.int .i64 0) (.int .i64 0) (.int .i64 0) (.slice none 0 0))
      replace ix3 := hide ix3
      clear hb3 kN hns hSs
      go_wp2
      (try simp only [Exit.inBlock, Exit.then]); refine bodyPost_ret (v := .tuple #[.agg #[.int .i64 0, .int .i64 0, .int .i64 0, .int .i64 0, .slice none 0 0], .bool false]) ?_ rfl ⟨z0, .slice none 0 0, by rw [unhide r0]; rfl, lo_nil _, unhide bF, .inr (unhide r0)⟩
      rw [results_cell_tmp rfl]
      go_simp
    | some ns =>
      have r0 : Hid (plD l = fillD (kindD f) ns) := hide (by unfold plD; rw [unhide hfr]; simp only; rw [hN])
      have hLs := hns ns hN
      have nl : ns.length ≤ 100000 := by have := nums_len _ ns hN; simp at this; rw [this]; simp
      have kF := filled_any (kindD f) ns _ w3 hLs nl
      replace hLs := hide hLs
      replace ix3 := hide ix3
      replace hb3 := hide hb3
      clear kN hns hSs m0 m1 m2 m3 m4 f0 f1 f2 f3 f4
      go_wp2_with fail
      refine (kindOf_any f _).mono ?_
      rintro e _ ⟨rfl, rfl⟩
      go_wp2_with fail
      refine kF.mono ?_
      rintro e w4 ⟨x, v, rfl, hlo, hb4, hx⟩
      obtain ⟨va, vc, rfl, _⟩ := id hlo
      obtain ⟨vl, hvl⟩ : ∃ vl, x.l.length = vl := ⟨_, rfl⟩
      rw [hvl] at hlo ⊢
      replace hvl := hide hvl
      have ix4 := (unhide ix3).next hb4
      have f0 := ix4.frozen 0
      have f1 := ix4.frozen 1
      have f2 := ix4.frozen 2
      have f3 := ix4.frozen 3
      have f4 := ix4.frozen 4
      obtain ⟨m0, m1, m2, m3, m4⟩ := ix4.cells
      have bF := hide (five_below w w4 w.heap.size w.heap.size (Nat.le_refl _) (below_then (unhide g3) hb4) (.int .i64 x.k) (.int .i64 x.a) (.int .i64 x.b) (.int .i64 x.c) (.slice va vl vc))
      have lF := hide (five_lo ix4 (.int .i64 x.k) (.int .i64 x.a) (.int .i64 x.b) (.int .i64 x.c) (.slice va vl vc) hlo)
      obtain ⟨ok, hok⟩ : ∃ ok, (fillD (kindD f) ns).isSome = ok := ⟨_, rfl⟩
      rw [hok]
      replace hok := hide hok
      replace hx := hide hx
      replace ix4 := hide ix4
      clear hlo hb4 kF cell0
      unfold iv
      go_wp2
      (try simp only [Exit.inBlock, Exit.then]); refine bodyPost_ret (v := .tuple #[.agg #[.int .i64 x.k, .int .i64 x.a, .int .i64 x.b, .int .i64 x.c, .slice va vl vc], .bool ok]) ?_ rfl ⟨x, .slice va vl vc, by rw [unhide r0, unhide hok]; rfl, unhide lF, unhide bF, by rw [unhide r0]; exact unhide hx⟩
      rw [results_cell_tmp rfl]
      go_simp
  · have h1m : ¬ m + 1 = 1 := by omega
    have i1 : (1 : Int) ≤ (m : Int) + 1 := by omega
    have i2 : ((m + 1 : Nat) : Int) = (m : Int) + 1 := by omega
    have i3 : (0 : Int) < (m : Int) + 1 := by omega
    have hSs : Ss w2.heap.size w2 (.slice (some ⟨g, 1, none⟩) m m) r := by
      refine ⟨_, m, by rw [unhide hm], by rw [unhide hm]; exact Nat.le_refl _, by omega, (fun e => by cases e), .inr ⟨g, 1, rfl, lg, fun i hi => ?_⟩⟩
      have := unhide hc (1 + i) (by have := unhide hm; omega)
      rw [this]
      simp [unhide hfr, Nat.add_comm 1 i]
    have kN := parseNumbers_any r _ w2 hSs (by have := unhide hm; omega) (fun q hq => Nat.le_trans (parts_short l q (by rw [unhide hfr]; exact List.mem_cons_of_mem _ hq)) hl) (unhide vr2)
    go_wp2_with fail
    refine kN.mono ?_
    rintro e w3 ⟨na, nn, nc, rfl, hb3, hns⟩
    have ix3 := (unhide ix2).next hb3
    have g3 := hide (below_then (unhide b2) hb3)
    have cell0 := (hb3.cell lg).trans (unhide hc 0 (by omega))
    rw [show (partsD l).getD 0 [] = f by rw [unhide hfr]; rfl] at cell0
    have f0 := ix3.frozen 0
    have f1 := ix3.frozen 1
    have f2 := ix3.frozen 2
    have f3 := ix3.frozen 3
    have f4 := ix3.frozen 4
    obtain ⟨m0, m1, m2, m3, m4⟩ := ix3.cells
    cases hN : numsD r with
    | none =>
      have r0 : Hid (plD l = none) := hide (by unfold plD; rw [unhide hfr]; simp only; rw [hN])
      have bF := hide (five_below w w3 w.heap.size w.heap.size (Nat.le_refl _) (unhide g3) (.int .i64 0) (.int .i64 0) (.int .i64 0) (.int .i64 0) (.slice none 0 0))
      replace ix3 := hide ix3
      clear hb3 kN hns hSs
      go_wp2
      (try simp only [Exit.inBlock, Exit.then]); refine bodyPost_ret (v := .tuple #[.agg #[.int .i64 0, .int .i64 0, .int .i64 0, .int .i64 0, .slice none 0 0], .bool false]) ?_ rfl ⟨z0, .slice none 0 0, by rw [unhide r0]; rfl, lo_nil _, unhide bF, .inr (unhide r0)⟩
      rw [results_cell_tmp rfl]
      go_simp
    | some ns =>
      have r0 : Hid (plD l = fillD (kindD f) ns) := hide (by unfold plD; rw [unhide hfr]; simp only; rw [hN])
      have hLs := hns ns hN
      have nl : ns.length ≤ 100000 := by have := nums_len _ ns hN; have := unhide hm; omega
      have kF := filled_any (kindD f) ns _ w3 hLs nl
      replace hLs := hide hLs
      replace ix3 := hide ix3
      replace hb3 := hide hb3
      clear kN hns hSs m0 m1 m2 m3 m4 f0 f1 f2 f3 f4
      go_wp2_with fail
      refine (kindOf_any f _).mono ?_
      rintro e _ ⟨rfl, rfl⟩
      go_wp2_with fail
      refine kF.mono ?_
      rintro e w4 ⟨x, v, rfl, hlo, hb4, hx⟩
      obtain ⟨va, vc, rfl, _⟩ := id hlo
      obtain ⟨vl, hvl⟩ : ∃ vl, x.l.length = vl := ⟨_, rfl⟩
      rw [hvl] at hlo ⊢
      replace hvl := hide hvl
      have ix4 := (unhide ix3).next hb4
      have f0 := ix4.frozen 0
      have f1 := ix4.frozen 1
      have f2 := ix4.frozen 2
      have f3 := ix4.frozen 3
      have f4 := ix4.frozen 4
      obtain ⟨m0, m1, m2, m3, m4⟩ := ix4.cells
      have bF := hide (five_below w w4 w.heap.size w.heap.size (Nat.le_refl _) (below_then (unhide g3) hb4) (.int .i64 x.k) (.int .i64 x.a) (.int .i64 x.b) (.int .i64 x.c) (.slice va vl vc))
      have lF := hide (five_lo ix4 (.int .i64 x.k) (.int .i64 x.a) (.int .i64 x.b) (.int .i64 x.c) (.slice va vl vc) hlo)
      obtain ⟨ok, hok⟩ : ∃ ok, (fillD (kindD f) ns).isSome = ok := ⟨_, rfl⟩
      rw [hok]
      replace hok := hide hok
      replace hx := hide hx
      replace ix4 := hide ix4
      clear hlo hb4 kF cell0
      unfold iv
      go_wp2
      (try simp only [Exit.inBlock, Exit.then]); refine bodyPost_ret (v := .tuple #[.agg #[.int .i64 x.k, .int .i64 x.a, .int .i64 x.b, .int .i64 x.c, .slice va vl vc], .bool ok]) ?_ rfl ⟨x, .slice va vl vc, by rw [unhide r0, unhide hok]; rfl, unhide lF, unhide bF, by rw [unhide r0]; exact unhide hx⟩
      rw [results_cell_tmp rfl]
      go_simp
end Go.Proofs.YtanieihnkajpdaaDoor
