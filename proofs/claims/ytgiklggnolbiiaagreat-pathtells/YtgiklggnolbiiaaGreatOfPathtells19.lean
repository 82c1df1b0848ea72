/- Texts of this claim, put together in their order. -/
import Derived.Test.YtgiklggnolbiiaaGreatBase1
import Derived.Test.YtgiklggnolbiiaaGreatBase2
import Derived.Test.YtgiklggnolbiiaaGreatBase3
import Derived.Test.YtgiklggnolbiiaaGreatBase4
import Derived.Test.YtgiklggnolbiiaaGreatBase5
import Derived.Test.YtgiklggnolbiiaaGreatBase6
import Derived.Test.YtgiklggnolbiiaaGreatBase7
import Derived.Test.YtgiklggnolbiiaaGreatBase8
import Derived.Test.YtgiklggnolbiiaaGreatBase9
import Derived.Test.YtgiklggnolbiiaaGreatBase10
import Derived.Test.YtgiklggnolbiiaaGreatBase11
import Derived.Test.YtgiklggnolbiiaaGreatBase12
import Derived.Test.YtgiklggnolbiiaaGreatBase13
import Derived.Test.YtgiklggnolbiiaaGreatBase14
import Derived.Test.YtgiklggnolbiiaaGreatBase15
import Derived.Test.YtgiklggnolbiiaaGreatBase16
import Derived.Test.YtgiklggnolbiiaaGreatBase17
import Derived.Test.YtgiklggnolbiiaaGreatOfPathtells18
/- Package path: what its leaves answer. -/
namespace Go.Proofs.YtgiklggnolbiiaaGreat
open Go.RowKit
variable {B n : Nat} {most : Int} {T : Nat → Lv} {b : Nat}

set_option maxRecDepth 100000 in
theorem holds_n2 (w : World) (h : Tn B n most T b w) (hf : Few n 1000 T) (who node : Int) {r : Int} (hr : holdT n T who node = r) :
    Calls Tryz.prog 15 #[.pointer (some ⟨b, 0, none⟩), .int .i64 who, .int .i64 node] w fun e w' => e = .returned (.int .i64 r) ∧ Below w.heap.size w w' := by
  unfold holdT at hr
  cases hk : (decide (0 ≤ node) && decide (node < n))
  · rw [hk, if_neg (by decide)] at hr
    subst hr
    obtain ⟨rb, lb, hv, qv, t⟩ := h
    have K := known_t w t node
    rw [hk] at K
    replace K := hide K
    clear hk t
    go_enter Tryz.func15, Tryz.ntmps15
    go_wp2_with fail
    refine (unhide K).mono ?_
    rintro e w1 ⟨rfl, rfl⟩
    go_wp2
    go_ret
    exact ⟨rfl, Below.refl _ _⟩
  · rw [hk, if_pos rfl] at hr
    have : 0 ≤ node ∧ node < n := by simpa using hk
    exact holds_n w h hf who node this.1 this.2 hr
set_option maxRecDepth 100000 in
theorem wanted_any (write : Bool) (w : World) : Calls Tryz.prog 62 #[.bool write] w fun e w' => e = .returned (.int .i64 (wantD write)) ∧ w' = w := by
  cases write
  all_goals
    go_enter Tryz.func62, Tryz.ntmps62
    go_wp2
    go_ret
    exact ⟨rfl, rfl⟩
theorem intent_want (write : Bool) (w : World) : Calls Tryz.prog 63 #[.int .i64 (wantD write)] w fun e w' => e = .returned (.int .i64 (inD write)) ∧ w' = w := by
  have e : intentD (wantD write) = inD write := by cases write <;> decide
  rw [← e]
  exact intent_any _ w
theorem tn_c0 {w : World} (h : Tn B n most T b w) : ∃ rb, w.cell? ⟨b, 0, none⟩ = some (.slice (some ⟨rb, 0, none⟩) n n) := by
  obtain ⟨rb, lb, hv, qv, t⟩ := h
  exact ⟨rb, t.c0⟩
set_option maxRecDepth 100000 in
theorem covers_p (w : World) (h : Tn B n most T b w) (hf : Few n 1000 T) (who node want : Int) {r : Bool} (hr : coversB (holdT n T who node) want = r) :
    Calls Tryz.prog 64 #[.pointer (some ⟨b, 0, none⟩), .int .i64 who, .int .i64 node, .int .i64 want] w fun e w' => e = .returned (.bool r) ∧ Below w.heap.size w w' := by
  subst hr
  have H := hide h
  clear h
  go_enter Tryz.func64, Tryz.ntmps64
  go_wp2_with fail
  refine (holds_n2 w (unhide H) hf who node rfl).mono ?_
  rintro e w1 ⟨rfl, b1⟩
  replace b1 := hide b1
  go_wp2_with fail
  refine (covers_any _ want w1).mono ?_
  rintro e w2 ⟨rfl, b2⟩
  replace b2 := hide (below_then (unhide b1) b2)
  go_wp2
  go_ret
  exact ⟨rfl, unhide b2⟩
set_option maxRecDepth 100000 in
theorem whole_p (w : World) (h : Tn B n most T b w) (hf : Few n 1000 T) (who node : Int) (write : Bool) {r : Bool} (hr : wholeB write (holdT n T who node) = r) :
    Calls Tryz.prog 65 #[.pointer (some ⟨b, 0, none⟩), .int .i64 who, .int .i64 node, .bool write] w fun e w' => e = .returned (.bool r) ∧ Below w.heap.size w w' := by
  subst hr
  have H := hide h
  clear h
  cases write
  · show Calls _ _ _ _ fun e w' => e = .returned (.bool (readsB (holdT n T who node))) ∧ _
    go_enter Tryz.func65, Tryz.ntmps65
    go_wp2_with fail
    refine (holds_n2 w (unhide H) hf who node rfl).mono ?_
    rintro e w1 ⟨rfl, b1⟩
    replace b1 := hide b1
    go_wp2_with fail
    refine (reads_any _ w1).mono ?_
    rintro e w2 ⟨rfl, b2⟩
    replace b2 := hide (below_then (unhide b1) b2)
    go_wp2
    go_ret
    exact ⟨rfl, unhide b2⟩
  · show Calls _ _ _ _ fun e w' => e = .returned (.bool (writesB (holdT n T who node))) ∧ _
    go_enter Tryz.func65, Tryz.ntmps65
    go_wp2_with fail
    refine (holds_n2 w (unhide H) hf who node rfl).mono ?_
    rintro e w1 ⟨rfl, b1⟩
    replace b1 := hide b1
    go_wp2_with fail
    refine (writes_any _ w1).mono ?_
    rintro e w2 ⟨rfl, b2⟩
    replace b2 := hide (below_then (unhide b1) b2)
    go_wp2
    go_ret
    exact ⟨rfl, unhide b2⟩
theorem fst_in {c : Cf} (hp : Hp c) {o : Int} (h0 : c.r ≤ o) (h1 : o < c.r + no c) : 0 ≤ (o - c.r) * c.s ∧ (o - c.r) * c.s + c.s ≤ ns c := by
  have g := hp.s1
  constructor
  · exact Int.mul_nonneg (by omega) (by omega)
  · have : (o - c.r + 1) * c.s ≤ no c * c.s := Int.mul_le_mul_of_nonneg_right (by omega) (by omega)
    have e : (o - c.r + 1) * c.s = (o - c.r) * c.s + c.s := by rw [Int.add_mul, Int.one_mul]
    unfold ns
    omega
set_option maxRecDepth 100000 in
theorem pfst_any (c : Cf) (o : Int) (w : World) (hp : Hp c) (h0 : c.r ≤ o) (h1 : o < c.r + no c) : Calls Tryz.prog 73 #[cv c, .int .i64 o] w fun e w' => e = .returned (.int .i64 (fstS c o)) ∧ Below w.heap.size w w' := by
  obtain ⟨q0, q1⟩ := fst_in hp h0 h1
  obtain ⟨n1, n2⟩ := no_in hp
  obtain ⟨s1, s2⟩ := ns_in hp
  have r1 := hp.r1
  have r8 := hp.r8
  have z1 := hp.s1
  have e1 : wrap64 (c.r * c.o) = no c := wrap_in (by unfold no at n1; omega) (by unfold no at n2; omega)
  have e2 : wrap64 (c.r + no c) = c.r + no c := wrap_in (by omega) (by omega)
  have e3 : wrap64 (o - c.r) = o - c.r := wrap_in (by omega) (by omega)
  have e4 : wrap64 ((o - c.r) * c.s) = (o - c.r) * c.s := wrap_in (by omega) (by omega)
  have e5 : wrap64 (c.r + no c + (o - c.r) * c.s) = c.r + no c + (o - c.r) * c.s := wrap_in (by omega) (by omega)
  have E : Hid (wrap64 (wrap64 (c.r + wrap64 (c.r * c.o)) + wrap64 (wrap64 (o - c.r) * c.s)) = fstS c o) := by
    show _ = _
    rw [e1, e2, e3, e4, e5]; rfl
  clear q0 q1 n1 n2 s1 s2 r1 r8 z1 e1 e2 e3 e4 e5 h0 h1
  unfold cv
  go_enter Tryz.func73, Tryz.ntmps73
  go_wp2
  go_ret
  exact ⟨ret_int (unhide E), below_new _ _⟩
set_option maxRecDepth 100000 in
set_option maxHeartbeats 2000000 in
theorem stripes_p (c : Cf) (w : World) (h : Tn B n most T b w) (hf : Few n 1000 T) (who o : Int) {r : Nat} (hr : strD c n T who o = r) :
    Calls Tryz.prog 32 #[cv c, .pointer (some ⟨b, 0, none⟩), .int .i64 who, .int .i64 o] w fun e w' => e = .returned (.int .i64 (r : Nat)) ∧ Below w.heap.size w w' := by
  subst hr
  have H := hide h
  clear h
  by_cases hl : levelD c o = 1
  · have eD : strD c n T who o = strK n T who (fstS c o) c.s.toNat := by unfold strD; rw [if_pos hl]
    rw [eD]
    have hw : c.r ≤ o ∧ o < c.r + no c ∧ okB c = true := by
      rcases level_ways c o with ⟨e, _⟩ | ⟨_, _, hk, ⟨e, _⟩ | ⟨_, h1, h2⟩ | ⟨e, _⟩⟩
      · omega
      · omega
      · exact ⟨h1, h2, hk⟩
      · omega
    obtain ⟨o1, o2, hok⟩ := hw
    have hp := okB_hp hok
    have HP := hide hp
    obtain ⟨q0, q1⟩ := fst_in hp o1 o2
    obtain ⟨n1, n2⟩ := no_in hp
    obtain ⟨s1, s2⟩ := ns_in hp
    have r1 := hp.r1
    have r8 := hp.r8
    have z1 := hp.s1
    have f1 : 0 ≤ fstS c o := by unfold fstS; omega
    have f2 : fstS c o ≤ 10000 := by unfold fstS; omega
    have hk8 : c.s ≤ 8 := hp.s8
    obtain ⟨k, hk⟩ : ∃ k : Nat, c.s = (k : Int) := ⟨c.s.toNat, by omega⟩
    have hkn : c.s.toNat = k := by omega
    rw [hkn]
    have F := hide (fun (w0 : World) => pfst_any c o w0 hp o1 o2)
    obtain ⟨f, hfe⟩ : ∃ f, f = fstS c o := ⟨_, rfl⟩
    rw [← hfe] at F f1 f2 ⊢
    have hk9 : k ≤ 8 := by omega
    have hx0 := bx_new c w
    obtain ⟨w0, hw0⟩ : ∃ w0, w0 = w.alloc (.cells #[.int .i64 c.r, .int .i64 c.o, .int .i64 c.s, .int .i64 c.d, .int .i64 c.t, .int .i64 c.l, .int .i64 c.g, .int .i64 c.k, .int .i64 c.u, .int .i64 c.e, .int .i64 c.i, .int .i64 c.p] 68) := ⟨_, rfl⟩
    have b0 : Below w.heap.size w w0 := by rw [hw0]; exact below_new w _
    rw [← hw0] at hx0
    replace b0 := hide b0
    have L := level_any c o w0
    rw [hl] at L
    replace L := hide L
    clear q0 q1 n1 n2 s1 s2 r1 r8 z1 hp o1 o2 hok hl hfe eD hkn
    obtain ⟨a0, a1, a2, a3, a4, a5, a6, a7, a8, a9, a10, a11⟩ := hx0.cells
    replace hk := hide hk
    unfold cv
    go_enter Tryz.func32, Tryz.ntmps32
    go_wp2_with fail
    rw [← hw0]
    replace hw0 := hide hw0
    refine (unhide L).mono ?_
    rintro e w1 ⟨rfl, b1⟩
    have hx1 := hx0.next b1
    have B1 := hide (below_then (unhide b0) b1)
    clear a0 a1 a2 a3 a4 a5 a6 a7 a8 a9 a10 a11 b1
    obtain ⟨a0, a1, a2, a3, a4, a5, a6, a7, a8, a9, a10, a11⟩ := hx1.cells
    go_wp2_with fail
    refine (unhide F w1).mono ?_
    rintro e w2 ⟨rfl, b2⟩
    have hx2 := hx1.next b2
    have B2 := hide (below_then (unhide B1) b2)
    clear a0 a1 a2 a3 a4 a5 a6 a7 a8 a9 a10 a11 b2
    obtain ⟨a0, a1, a2, a3, a4, a5, a6, a7, a8, a9, a10, a11⟩ := hx2.cells
    rw [unhide hk] at a2
    clear hx0 hx1 hx2
    go_wp2_with fail
    clear a0 a1 a2 a3 a4 a5 a6 a7 a8 a9 a10 a11
    go_loopw [9, 21] (fun s9 s21 wr => ∃ t : Nat, t ≤ k ∧ s9 = .int .i64 (strK n T who f t : Nat) ∧ s21 = .int .i64 t ∧ Hid (Below w.heap.size w wr)) (fun _ s21 _ => k - (intOf s21).toNat)
    case atStart => exact ⟨0, Nat.zero_le _, rfl, rfl, unhide B2⟩
    case round =>
      obtain ⟨t, ht, rfl, rfl, b3⟩ := hrel
      by_cases hlt : t < k
      · have hle := strK_le n T who f t
        have hst : Hid (strK n T who f (t + 1) = strK n T who f t + (if holdT n T who (f + t) = 0 then 0 else 1)) := rfl
        generalize strK n T who f t = m at hle hst ⊢
        obtain ⟨v, hv⟩ : ∃ v, v = holdT n T who (f + t) := ⟨_, rfl⟩
        rw [← hv] at hst
        replace hv := hide hv
        have q1 : wrap64 (f + t) = f + t := by unfold wrap64; omega
        have q2 : IntKind.i64.wrap (f + t) = f + t := by rw [IntKind.wrap_i64]; omega
        go_wp2_with fail
        try rw [q1]
        try rw [q2]
        refine (holds_n2 _ ((unhide H).next (unhide b3)) hf who (f + t) (unhide hv).symm).mono ?_
        rintro e w4 ⟨rfl, b4⟩
        replace b4 := hide (below_then (unhide b3) b4)
        clear q1 q2
        by_cases hv0 : v = 0
        · have e0 : (v != 0) = false := by simp [hv0]
          have hst2 : Hid (strK n T who f (t + 1) = m) := by show _ = _; rw [unhide hst, if_pos hv0]; rfl
          clear hv0
          go_wp2
          go_roundw
          case rel => exact ⟨t + 1, by omega, by rw [unhide hst2], by go_num, unhide b4⟩
          case measure => simp [intOf]; omega
        · have e0 : (v != 0) = true := by simp [hv0]
          have hst2 : Hid (strK n T who f (t + 1) = m + 1) := by show _ = _; rw [unhide hst, if_neg hv0]
          clear hv0
          go_wp2
          go_roundw
          case rel => exact ⟨t + 1, by omega, by rw [unhide hst2]; go_num, by go_num, unhide b4⟩
          case measure => simp [intOf]; omega
      · obtain rfl : t = k := by omega
        go_wp2
        go_ret
        exact ⟨rfl, unhide b3⟩
  · have e0 : strD c n T who o = 0 := by unfold strD; rw [if_neg hl]
    rw [e0]
    have L := hide (fun w0 : World => level_any c o w0)
    generalize levelD c o = l at L hl
    have hl2 : (l != 1) = true := by simpa using hl
    clear hl e0
    unfold cv
    go_enter Tryz.func32, Tryz.ntmps32
    go_wp2_with fail
    refine (unhide L _).mono ?_
    rintro e w1 ⟨rfl, b1⟩
    replace b1 := hide (below_call b1)
    go_wp2
    go_ret
    exact ⟨rfl, unhide b1⟩
set_option maxRecDepth 100000 in
theorem esc_p (c : Cf) (w : World) (h : Tn B n most T b w) (hf : Few n 1000 T) (who o : Int) {r : Bool} (hr : escB c n T who o = r) :
    Calls Tryz.prog 66 #[cv c, .pointer (some ⟨b, 0, none⟩), .int .i64 who, .int .i64 o] w fun e w' => e = .returned (.bool r) ∧ Below w.heap.size w w' := by
  subst hr
  unfold escB
  have H := hide h
  clear h
  obtain ⟨m, hm⟩ : ∃ m, m = strD c n T who o := ⟨_, rfl⟩
  rw [← hm]
  have hx := bx_new c w
  obtain ⟨w0, hw0⟩ : ∃ w0, w0 = w.alloc (.cells #[.int .i64 c.r, .int .i64 c.o, .int .i64 c.s, .int .i64 c.d, .int .i64 c.t, .int .i64 c.l, .int .i64 c.g, .int .i64 c.k, .int .i64 c.u, .int .i64 c.e, .int .i64 c.i, .int .i64 c.p] 68) := ⟨_, rfl⟩
  have b0 : Below w.heap.size w w0 := by rw [hw0]; exact below_new w _
  replace b0 := hide b0
  by_cases he : 0 < c.e
  · have hd : decide (0 < c.e) = true := decide_eq_true he
    rw [hd]
    have S := stripes_p c w0.drew ((unhide H).next (unhide b0)).drew hf who o hm.symm
    unfold cv at S
    rw [hw0] at S
    replace S := hide S
    replace hm := hide hm
    cases hq : decide (c.e ≤ (m : Int))
    all_goals
      have hge : decide ((m : Int) ≥ c.e) = _ := hq
      unfold cv
      go_enter Tryz.func66, Tryz.ntmps66
      go_wp2_with fail
      go_region_held3 (fun wz => wz.cell? ⟨w.heap.size, 0, none⟩ = some (.int .i64 c.r) ∧ wz.cell? ⟨w.heap.size, 1, none⟩ = some (.int .i64 c.o) ∧ wz.cell? ⟨w.heap.size, 2, none⟩ = some (.int .i64 c.s) ∧ wz.cell? ⟨w.heap.size, 3, none⟩ = some (.int .i64 c.d) ∧ wz.cell? ⟨w.heap.size, 4, none⟩ = some (.int .i64 c.t) ∧ wz.cell? ⟨w.heap.size, 5, none⟩ = some (.int .i64 c.l) ∧ wz.cell? ⟨w.heap.size, 6, none⟩ = some (.int .i64 c.g) ∧ wz.cell? ⟨w.heap.size, 7, none⟩ = some (.int .i64 c.k) ∧ wz.cell? ⟨w.heap.size, 8, none⟩ = some (.int .i64 c.u) ∧ wz.cell? ⟨w.heap.size, 9, none⟩ = some (.int .i64 c.e) ∧ wz.cell? ⟨w.heap.size, 10, none⟩ = some (.int .i64 c.i) ∧ wz.cell? ⟨w.heap.size, 11, none⟩ = some (.int .i64 c.p)) (first | exact hx.drew.cells | exact hx1.cells)
        (first
          | (go_at_call 32; (with_reducible refine Calls.mono (unhide S) ?_); rintro e w1 ⟨rfl, hb⟩; have hx1 := hx.drew.next hb; have hbb := hide (below_drew hb)))
      go_wp2
      go_ret
      exact ⟨rfl, unhide hbb⟩
  · have hd : decide (0 < c.e) = false := decide_eq_false he
    rw [hd]
    have hg : decide (c.e > 0) = false := hd
    have hne : Nonempty (Wd c w.heap.size w) := ⟨⟨_, hx, below_new w _⟩⟩
    have q9 : ∀ x : Wd c w.heap.size w, x.w.cell? ⟨w.heap.size, 9, none⟩ = some (.int .i64 c.e) := Wd.cells.2.2.2.2.2.2.2.2.2.1
    clear hw0 hm b0
    unfold cv
    go_enter Tryz.func66, Tryz.ntmps66
    go_wp2_with fail
    refine wp_region_wd hx (below_new w _) (by kernel_rfl) (by kernel_rfl) ?_
    try simp only [List.append]
    repeat (go_big_quiet_step (fail))
    refine wpQuiet_nil ?_
    intro w6 hw'
    have b6 : Hid (Below w.heap.size w w6) := by
      obtain ⟨x, hx⟩ := hw'
      rw [hx]
      exact x.bel
    clear hw' q9 hne hx
    go_wp2
    go_ret
    exact ⟨rfl, unhide b6⟩
end Go.Proofs.YtgiklggnolbiiaaGreat

/- Package mode, by definition: Covers, Intent, Reads, Writes. -/
namespace Go.Proofs.YtgiklggnolbiiaaGreat
open Go.RowKit

set_option maxRecDepth 100000 in
theorem rcovers_any (h t : Int) (w : World) : Calls Tryz.prog 69 #[.int .i64 h, .int .i64 t] w fun e w' => e = .returned (.bool (coversB h t)) ∧ Below w.heap.size w w' := by
  cases hh : knownB h
  · have E := hide (show coversB h t = false by
      cases hc : coversB h t
      · rfl
      · rw [covers_known hc] at hh; exact hh)
    have K := hide hh
    clear hh
    go_enter Tryz.func69, Tryz.ntmps69
    go_wp2_with fail
    refine (mode_any h _).mono ?_
    rw [unhide K]
    rintro e w' ⟨rfl, rfl⟩
    go_wp2
    go_ret
    exact ⟨ret_bool (unhide E).symm, Below.refl _ _⟩
  have K' := hide hh
  clear hh
  cases hk : knownB t
  · have E := hide (show coversB h t = false by simp [coversB, hk])
    have K := hide hk
    clear hk
    go_enter Tryz.func69, Tryz.ntmps69
    go_wp2_with fail
    refine (mode_any h _).mono ?_
    rw [unhide K']
    rintro e w' ⟨rfl, rfl⟩
    go_wp2_with fail
    refine (mode_any t _).mono ?_
    rw [unhide K]
    rintro e w' ⟨rfl, rfl⟩
    go_wp2
    go_ret
    exact ⟨ret_bool (unhide E).symm, Below.refl _ _⟩
  · have E := hide (show coversB h t = (supL [h, t] == h) by simp [coversB, hk, supL_two])
    have K := hide hk
    clear hk
    go_enter Tryz.func69, Tryz.ntmps69
    go_wp2_with fail
    refine (mode_any h _).mono ?_
    rw [unhide K']
    rintro e w' ⟨rfl, rfl⟩
    go_wp2_with fail
    refine (mode_any t _).mono ?_
    rw [unhide K]
    rintro e w' ⟨rfl, rfl⟩
    go_wp2_with fail
    refine (rsup_any _ _ _ [h, t] _ (seg2 _ h t) (by decide)).mono ?_
    rintro e w' ⟨rfl, rfl⟩
    go_wp2
    go_ret
    exact ⟨ret_bool (unhide E).symm, below_new _ _⟩
set_option maxRecDepth 100000 in
theorem rintent_any (m : Int) (w : World) : Calls Tryz.prog 68 #[.int .i64 m] w fun e w' => e = .returned (.int .i64 (intentD m)) ∧ w' = w := by
  rcases Bool.eq_false_or_eq_true (m == 1) with h1 | h1
  · have E := hide (show intentD m = 1 by simp only [intentD, h1]; rfl)
    go_enter Tryz.func68, Tryz.ntmps68
    go_wp2
    go_ret
    exact ⟨ret_int (unhide E).symm, rfl⟩
  rcases Bool.eq_false_or_eq_true (m == 3) with h3 | h3
  · have E := hide (show intentD m = 1 by simp only [intentD, h1, h3]; rfl)
    go_enter Tryz.func68, Tryz.ntmps68
    go_wp2
    go_ret
    exact ⟨ret_int (unhide E).symm, rfl⟩
  rcases Bool.eq_false_or_eq_true (m == 2) with h2 | h2
  · have E := hide (show intentD m = 2 by simp only [intentD, h1, h3, h2]; rfl)
    go_enter Tryz.func68, Tryz.ntmps68
    go_wp2
    go_ret
    exact ⟨ret_int (unhide E).symm, rfl⟩
  rcases Bool.eq_false_or_eq_true (m == 4) with h4 | h4
  · have E := hide (show intentD m = 2 by simp only [intentD, h1, h3, h2, h4]; rfl)
    go_enter Tryz.func68, Tryz.ntmps68
    go_wp2
    go_ret
    exact ⟨ret_int (unhide E).symm, rfl⟩
  rcases Bool.eq_false_or_eq_true (m == 5) with h5 | h5
  · have E := hide (show intentD m = 2 by simp only [intentD, h1, h3, h2, h4, h5]; rfl)
    go_enter Tryz.func68, Tryz.ntmps68
    go_wp2
    go_ret
    exact ⟨ret_int (unhide E).symm, rfl⟩
  have E := hide (show intentD m = 0 by simp only [intentD, h1, h3, h2, h4, h5]; rfl)
  go_enter Tryz.func68, Tryz.ntmps68
  go_wp2
  go_ret
  exact ⟨ret_int (unhide E).symm, rfl⟩
set_option maxRecDepth 100000 in
theorem rreads_any (m : Int) (w : World) : Calls Tryz.prog 70 #[.int .i64 m] w fun e w' => e = .returned (.bool (readsB m)) ∧ w' = w := by
  unfold readsB
  by_cases h1 : 3 ≤ m <;> by_cases h2 : m ≤ 5
  all_goals
    go_enter Tryz.func70, Tryz.ntmps70
    go_wp2
    go_ret
    exact ⟨by simp [h1, h2], rfl⟩
set_option maxRecDepth 100000 in
theorem rwrites_any (m : Int) (w : World) : Calls Tryz.prog 71 #[.int .i64 m] w fun e w' => e = .returned (.bool (writesB m)) ∧ w' = w := by
  go_enter Tryz.func71, Tryz.ntmps71
  go_wp2
  go_ret
  exact ⟨rfl, rfl⟩
end Go.Proofs.YtgiklggnolbiiaaGreat

/- The stripes of an object among what who holds, plainly. -/
namespace Go.Proofs.YtgiklggnolbiiaaGreat
open Go.RowKit
variable {n : Nat} {T : Nat → Lv}

theorem holdN_T (n : Nat) (T : Nat → Lv) (who node : Int) : holdN n T who node = holdT n T who node := by
  unfold holdN holdT
  by_cases h : 0 ≤ node ∧ node < n
  · rw [if_pos h, if_pos (by simpa using h)]
  · rw [if_neg h, if_neg (by simpa using h)]
/-- Is the node k a stripe of the object o? -/
def ofB (c : Cf) (o k : Int) : Bool := (levelD c k == 2) && (parentD c k == o)
/-- How many of l are stripes of o. -/
def cntL (c : Cf) (o : Int) (l : List En) : Nat := (l.filter fun p => ofB c o p.1).length
theorem cnt_take (c : Cf) (o : Int) (l : List En) (i : Nat) (hi : i < l.length) : cntL c o (l.take (i + 1)) = cntL c o (l.take i) + (if ofB c o (l.getD i (0, 0)).1 then 1 else 0) := by
  unfold cntL
  rw [List.take_succ_eq_append_getElem hi, List.filter_append, List.length_append]
  have e : l.getD i (0, 0) = l[i] := by simp [List.getD, hi]
  rw [e]
  cases h : ofB c o l[i].1 <;> simp [h]
theorem cnt_le (c : Cf) (o : Int) (l : List En) : cntL c o l ≤ l.length := List.length_filter_le _ _
theorem cnt_held (c : Cf) (o who : Int) (m : Nat) : cntL c o (heldD who T (m + 1)) = cntL c o (heldD who T m) + (if lookD who (T m).1 ≠ 0 ∧ ofB c o (m : Int) = true then 1 else 0) := by
  show cntL c o (if lookD who (T m).1 = 0 then heldD who T m else heldD who T m ++ [((m : Int), lookD who (T m).1)]) = _
  by_cases h : lookD who (T m).1 = 0
  · rw [if_pos h, if_neg (by rintro ⟨h1, _⟩; exact h1 h)]; rfl
  · rw [if_neg h]
    unfold cntL
    rw [List.filter_append, List.length_append]
    cases h2 : ofB c o (m : Int)
    · rw [if_neg (by rintro ⟨_, h3⟩; cases h3)]
      simp [h2]
    · rw [if_pos ⟨h, rfl⟩]
      simp [h2]
/-- Which nodes are stripes of o. -/
theorem of_iff {c : Cf} (hok : okB c = true) {o k : Int} (h0 : 0 ≤ k) (h1 : k < nodesD c) : ofB c o k = true ↔ levelD c o = 1 ∧ fstS c o ≤ k ∧ k < fstS c o + c.s := by
  have hp := okB_hp hok
  have hno := no_in hp
  have hns := ns_in hp
  have hnd := nodes_ok hok
  have hs1 := hp.s1
  have hr1 := hp.r1
  unfold ofB fstS
  by_cases hk : k < c.r + no c
  · have hl : levelD c k ≠ 2 := by
      by_cases h2 : k < c.r
      · rw [level_0 h0 h1 h2]; decide
      · rw [level_1 h0 h1 (by omega) hk]; decide
    constructor
    · intro h
      rw [Bool.and_eq_true, beq_iff_eq] at h
      exact absurd h.1 hl
    · rintro ⟨h2, h3, _⟩
      exfalso
      rcases level_ways c o with ⟨e, _⟩ | ⟨_, _, _, ⟨e, _⟩ | ⟨_, ho1, ho2⟩ | ⟨e, _⟩⟩
      · omega
      · omega
      · have : 0 ≤ (o - c.r) * c.s := Int.mul_nonneg (by omega) (by omega)
        omega
      · omega
  · have hl := level_2 h0 h1 (by omega) (by omega : c.r + no c ≤ k)
    obtain ⟨j, hj⟩ : ∃ j, j = k - (c.r + no c) := ⟨_, rfl⟩
    have hpar : parentD c k = c.r + j / c.s := by
      have e : k = c.r + no c + j := by omega
      rw [e]
      exact parent_s hok (by omega) (by omega)
    have hjn : j < no c * c.s := by
      have : ns c = no c * c.s := rfl
      omega
    have hq := div_in (a := j) (n := no c) (m := c.s) (by omega) hjn hs1
    rw [hl, hpar]
    have key : c.r + j / c.s = o ↔ (o - c.r) * c.s ≤ j ∧ j < (o - c.r) * c.s + c.s := by
      constructor
      · rintro rfl
        have e : c.r + j / c.s - c.r = j / c.s := by omega
        rw [e]
        have h3 := Int.mul_ediv_add_emod j c.s
        have h4 := Int.emod_nonneg j (show c.s ≠ 0 by omega)
        have h5 := Int.emod_lt_of_pos j (show 0 < c.s by omega)
        have h6 : j / c.s * c.s = c.s * (j / c.s) := Int.mul_comm _ _
        omega
      · rintro ⟨h3, h4⟩
        have h5 : (o - c.r) ≤ j / c.s := (Int.le_ediv_iff_mul_le (by omega)).2 h3
        have h6 : j / c.s < (o - c.r) + 1 := (Int.ediv_lt_iff_lt_mul (by omega)).2 (by rw [Int.add_mul, Int.one_mul]; exact h4)
        omega
    constructor
    · intro h
      rw [Bool.and_eq_true, beq_iff_eq, beq_iff_eq] at h
      obtain ⟨h3, h4⟩ := key.1 h.2
      have ho1 : c.r ≤ o := by omega
      have ho2 : o < c.r + no c := by omega
      exact ⟨level_1 (by omega) (by omega) ho1 ho2, by omega, by omega⟩
    · rintro ⟨_, h3, h4⟩
      rw [Bool.and_eq_true, beq_iff_eq, beq_iff_eq]
      exact ⟨rfl, key.2 ⟨by omega, by omega⟩⟩
/-- The count over all that is held is the count over the object's stripes. -/
theorem cnt_str (c : Cf) (who o : Int) (hn : (n : Int) = max (nodesD c) 1) : cntL c o (heldD who T n) = strD c n T who o := by
  unfold strD
  by_cases hok : okB c = true
  · have hp := okB_hp hok
    have hno := no_in hp
    have hns := ns_in hp
    have hnd := nodes_ok hok
    have hs1 := hp.s1
    have hr1 := hp.r1
    have hn2 : (n : Int) = nodesD c := by omega
    by_cases hlo : levelD c o = 1
    · rw [if_pos hlo]
      have ho : c.r ≤ o ∧ o < c.r + no c := by
        rcases level_ways c o with ⟨e, _⟩ | ⟨_, _, _, ⟨e, _⟩ | ⟨_, ho1, ho2⟩ | ⟨e, _⟩⟩
        · omega
        · omega
        · exact ⟨ho1, ho2⟩
        · omega
      have hf := fst_in hp ho.1 ho.2
      obtain ⟨f, hfe⟩ : ∃ f : Nat, fstS c o = (f : Int) := ⟨(fstS c o).toNat, by unfold fstS; omega⟩
      have hfs : f + c.s.toNat ≤ n := by
        have : fstS c o = c.r + no c + (o - c.r) * c.s := rfl
        omega
      have key : ∀ m, m ≤ n → cntL c o (heldD who T m) = strK n T who (f : Int) (min (m - f) c.s.toNat) := fun m => by
        induction m with
        | zero => intro _; rw [show min (0 - f) c.s.toNat = 0 by omega]; rfl
        | succ m ih =>
          intro hm
          rw [cnt_held, ih (by omega)]
          have hof := of_iff hok (o := o) (k := (m : Int)) (by omega) (by omega)
          rw [hfe] at hof
          by_cases hin : f ≤ m ∧ m < f + c.s.toNat
          · have e1 : min (m - f) c.s.toNat = m - f := by omega
            have e2 : min (m + 1 - f) c.s.toNat = (m - f) + 1 := by omega
            rw [e1, e2]
            show _ = strK n T who (f : Int) (m - f) + (if holdT n T who ((f : Int) + ((m - f : Nat) : Int)) = 0 then 0 else 1)
            rw [show (f : Int) + ((m - f : Nat) : Int) = (m : Int) by omega, holdT_in (show m < n by omega)]
            have hof2 : ofB c o (m : Int) = true := hof.2 ⟨hlo, by omega, by omega⟩
            by_cases h9 : lookD who (T m).1 = 0
            · rw [if_neg (by rintro ⟨h, _⟩; exact h h9), if_pos h9]
            · rw [if_pos ⟨h9, hof2⟩, if_neg h9]
          · have e1 : min (m + 1 - f) c.s.toNat = min (m - f) c.s.toNat := by omega
            rw [e1, if_neg, Nat.add_zero]
            rintro ⟨_, h⟩
            have := hof.1 h
            omega
      rw [key n (Nat.le_refl _), hfe, show min (n - f) c.s.toNat = c.s.toNat by omega]
    · rw [if_neg hlo]
      have key : ∀ m, m ≤ n → cntL c o (heldD who T m) = 0 := fun m => by
        induction m with
        | zero => intro _; rfl
        | succ m ih =>
          intro hm
          rw [cnt_held, ih (by omega), if_neg]
          rintro ⟨_, h⟩
          exact hlo ((of_iff hok (o := o) (k := (m : Int)) (by omega) (by omega)).1 h).1
      exact key n (Nat.le_refl _)
  · have hnz : nodesD c = 0 := by unfold nodesD; rw [if_neg hok]
    have lm : ∀ k, levelD c k = -1 := fun k => level_m (by omega)
    rw [lm o, if_neg (by decide)]
    have key : ∀ m, cntL c o (heldD who T m) = 0 := fun m => by
      induction m with
      | zero => rfl
      | succ m ih =>
        rw [cnt_held, ih, if_neg]
        rintro ⟨_, h⟩
        unfold ofB at h
        rw [lm] at h
        cases h
    exact key n
end Go.Proofs.YtgiklggnolbiiaaGreat

/- Ways of the reference's Check in which a part that is not the heap's is out of its bounds. -/
namespace Go.Proofs.YtgiklggnolbiiaaGreat
open Go.RowKit

set_option maxHeartbeats 2000000 in
set_option maxRecDepth 100000 in
theorem rcheck_lo0 (c : Cf) (w : World) (h : Hp c) (u : c.t < 1) : Calls Tryz.prog 58 #[cv c] w fun e w' => e = .returned (.int .i64 (errOf (okB c))) ∧ Below w.heap.size w w' := by
  have h1 := h.r1
  have h2 := h.r8
  have h3 := h.o1
  have h4 := h.o8
  have h5 := h.s1
  have h6 := h.s8
  have h7 := h.d1
  have h8 := h.d8
  have EB : Hid (errOf (okB c) = 1) := by
    have e0 : inB c.t 1 64 = false := inB_no.2 (by omega)
    have eb : okB c = false := by simp [okB, heapB, roomB, e0]
    rw [eb]; rfl
  clear h
  unfold cv
  go_enter Tryz.func58, Tryz.ntmps58
  go_wp2
  go_loop [4] (fun i => ∃ k : Int, i = .int .i64 k ∧ (k = 0 ∨ k = 1 ∨ k = 2 ∨ k = 3 ∨ k = 4)) (fun i => (4 - intOf i).toNat)
  case atStart => exact ⟨0, rfl, .inl rfl⟩
  case round =>
    obtain ⟨k, rfl, hk⟩ := hrel
    rcases hk with rfl | rfl | rfl | rfl | rfl
    · go_wp2
      go_round
      case rel => exact ⟨1, rfl, by omega⟩
      case measure => simp [intOf]
    · go_wp2
      go_round
      case rel => exact ⟨2, rfl, by omega⟩
      case measure => simp [intOf]
    · go_wp2
      go_round
      case rel => exact ⟨3, rfl, by omega⟩
      case measure => simp [intOf]
    · go_wp2
      go_round
      case rel => exact ⟨4, rfl, by omega⟩
      case measure => simp [intOf]
    · clear h1 h2 h3 h4 h5 h6 h7 h8
      go_wp2
      go_ret
      exact ⟨ret_int (unhide EB).symm, (below_new _ _).alloc (by simp) _⟩

set_option maxHeartbeats 2000000 in
set_option maxRecDepth 100000 in
theorem rcheck_hi0 (c : Cf) (w : World) (h : Hp c) (t0 : 1 ≤ c.t) (u : 64 < c.t) : Calls Tryz.prog 58 #[cv c] w fun e w' => e = .returned (.int .i64 (errOf (okB c))) ∧ Below w.heap.size w w' := by
  have h1 := h.r1
  have h2 := h.r8
  have h3 := h.o1
  have h4 := h.o8
  have h5 := h.s1
  have h6 := h.s8
  have h7 := h.d1
  have h8 := h.d8
  have EB : Hid (errOf (okB c) = 1) := by
    have e0 : inB c.t 1 64 = false := inB_no.2 (by omega)
    have eb : okB c = false := by simp [okB, heapB, roomB, e0]
    rw [eb]; rfl
  clear h
  unfold cv
  go_enter Tryz.func58, Tryz.ntmps58
  go_wp2
  go_loop [4] (fun i => ∃ k : Int, i = .int .i64 k ∧ (k = 0 ∨ k = 1 ∨ k = 2 ∨ k = 3 ∨ k = 4)) (fun i => (4 - intOf i).toNat)
  case atStart => exact ⟨0, rfl, .inl rfl⟩
  case round =>
    obtain ⟨k, rfl, hk⟩ := hrel
    rcases hk with rfl | rfl | rfl | rfl | rfl
    · go_wp2
      go_round
      case rel => exact ⟨1, rfl, by omega⟩
      case measure => simp [intOf]
    · go_wp2
      go_round
      case rel => exact ⟨2, rfl, by omega⟩
      case measure => simp [intOf]
    · go_wp2
      go_round
      case rel => exact ⟨3, rfl, by omega⟩
      case measure => simp [intOf]
    · go_wp2
      go_round
      case rel => exact ⟨4, rfl, by omega⟩
      case measure => simp [intOf]
    · clear h1 h2 h3 h4 h5 h6 h7 h8
      go_wp2
      go_ret
      exact ⟨ret_int (unhide EB).symm, (below_new _ _).alloc (by simp) _⟩

set_option maxHeartbeats 2000000 in
set_option maxRecDepth 100000 in
theorem rcheck_lo1 (c : Cf) (w : World) (h : Hp c) (t0 : 1 ≤ c.t) (z0 : c.t ≤ 64) (u : c.l < 0) : Calls Tryz.prog 58 #[cv c] w fun e w' => e = .returned (.int .i64 (errOf (okB c))) ∧ Below w.heap.size w w' := by
  have h1 := h.r1
  have h2 := h.r8
  have h3 := h.o1
  have h4 := h.o8
  have h5 := h.s1
  have h6 := h.s8
  have h7 := h.d1
  have h8 := h.d8
  have EB : Hid (errOf (okB c) = 1) := by
    have e0 : inB c.l 0 48 = false := inB_no.2 (by omega)
    have eb : okB c = false := by simp [okB, heapB, roomB, e0]
    rw [eb]; rfl
  clear h
  unfold cv
  go_enter Tryz.func58, Tryz.ntmps58
  go_wp2
  go_loop [4] (fun i => ∃ k : Int, i = .int .i64 k ∧ (k = 0 ∨ k = 1 ∨ k = 2 ∨ k = 3 ∨ k = 4)) (fun i => (4 - intOf i).toNat)
  case atStart => exact ⟨0, rfl, .inl rfl⟩
  case round =>
    obtain ⟨k, rfl, hk⟩ := hrel
    rcases hk with rfl | rfl | rfl | rfl | rfl
    · go_wp2
      go_round
      case rel => exact ⟨1, rfl, by omega⟩
      case measure => simp [intOf]
    · go_wp2
      go_round
      case rel => exact ⟨2, rfl, by omega⟩
      case measure => simp [intOf]
    · go_wp2
      go_round
      case rel => exact ⟨3, rfl, by omega⟩
      case measure => simp [intOf]
    · go_wp2
      go_round
      case rel => exact ⟨4, rfl, by omega⟩
      case measure => simp [intOf]
    · clear h1 h2 h3 h4 h5 h6 h7 h8
      go_wp2
      go_ret
      exact ⟨ret_int (unhide EB).symm, (below_new _ _).alloc (by simp) _⟩

set_option maxHeartbeats 2000000 in
set_option maxRecDepth 100000 in
theorem rcheck_hi1 (c : Cf) (w : World) (h : Hp c) (t0 : 1 ≤ c.t) (z0 : c.t ≤ 64) (t1 : 0 ≤ c.l) (u : 48 < c.l) : Calls Tryz.prog 58 #[cv c] w fun e w' => e = .returned (.int .i64 (errOf (okB c))) ∧ Below w.heap.size w w' := by
  have h1 := h.r1
  have h2 := h.r8
  have h3 := h.o1
  have h4 := h.o8
  have h5 := h.s1
  have h6 := h.s8
  have h7 := h.d1
  have h8 := h.d8
  have EB : Hid (errOf (okB c) = 1) := by
    have e0 : inB c.l 0 48 = false := inB_no.2 (by omega)
    have eb : okB c = false := by simp [okB, heapB, roomB, e0]
    rw [eb]; rfl
  clear h
  unfold cv
  go_enter Tryz.func58, Tryz.ntmps58
  go_wp2
  go_loop [4] (fun i => ∃ k : Int, i = .int .i64 k ∧ (k = 0 ∨ k = 1 ∨ k = 2 ∨ k = 3 ∨ k = 4)) (fun i => (4 - intOf i).toNat)
  case atStart => exact ⟨0, rfl, .inl rfl⟩
  case round =>
    obtain ⟨k, rfl, hk⟩ := hrel
    rcases hk with rfl | rfl | rfl | rfl | rfl
    · go_wp2
      go_round
      case rel => exact ⟨1, rfl, by omega⟩
      case measure => simp [intOf]
    · go_wp2
      go_round
      case rel => exact ⟨2, rfl, by omega⟩
      case measure => simp [intOf]
    · go_wp2
      go_round
      case rel => exact ⟨3, rfl, by omega⟩
      case measure => simp [intOf]
    · go_wp2
      go_round
      case rel => exact ⟨4, rfl, by omega⟩
      case measure => simp [intOf]
    · clear h1 h2 h3 h4 h5 h6 h7 h8
      go_wp2
      go_ret
      exact ⟨ret_int (unhide EB).symm, (below_new _ _).alloc (by simp) _⟩

end Go.Proofs.YtgiklggnolbiiaaGreat

/- Ways of the reference's Check in which a part that is not the heap's is out of its bounds. -/
namespace Go.Proofs.YtgiklggnolbiiaaGreat
open Go.RowKit

set_option maxHeartbeats 2000000 in
set_option maxRecDepth 100000 in
theorem rcheck_lo2 (c : Cf) (w : World) (h : Hp c) (t0 : 1 ≤ c.t) (z0 : c.t ≤ 64) (t1 : 0 ≤ c.l) (z1 : c.l ≤ 48) (u : c.g < 1) : Calls Tryz.prog 58 #[cv c] w fun e w' => e = .returned (.int .i64 (errOf (okB c))) ∧ Below w.heap.size w w' := by
  have h1 := h.r1
  have h2 := h.r8
  have h3 := h.o1
  have h4 := h.o8
  have h5 := h.s1
  have h6 := h.s8
  have h7 := h.d1
  have h8 := h.d8
  have EB : Hid (errOf (okB c) = 1) := by
    have e0 : inB c.g 1 8 = false := inB_no.2 (by omega)
    have eb : okB c = false := by simp [okB, heapB, roomB, e0]
    rw [eb]; rfl
  clear h
  unfold cv
  go_enter Tryz.func58, Tryz.ntmps58
  go_wp2
  go_loop [4] (fun i => ∃ k : Int, i = .int .i64 k ∧ (k = 0 ∨ k = 1 ∨ k = 2 ∨ k = 3 ∨ k = 4)) (fun i => (4 - intOf i).toNat)
  case atStart => exact ⟨0, rfl, .inl rfl⟩
  case round =>
    obtain ⟨k, rfl, hk⟩ := hrel
    rcases hk with rfl | rfl | rfl | rfl | rfl
    · go_wp2
      go_round
      case rel => exact ⟨1, rfl, by omega⟩
      case measure => simp [intOf]
    · go_wp2
      go_round
      case rel => exact ⟨2, rfl, by omega⟩
      case measure => simp [intOf]
    · go_wp2
      go_round
      case rel => exact ⟨3, rfl, by omega⟩
      case measure => simp [intOf]
    · go_wp2
      go_round
      case rel => exact ⟨4, rfl, by omega⟩
      case measure => simp [intOf]
    · clear h1 h2 h3 h4 h5 h6 h7 h8
      go_wp2
      go_ret
      exact ⟨ret_int (unhide EB).symm, (below_new _ _).alloc (by simp) _⟩

set_option maxHeartbeats 2000000 in
set_option maxRecDepth 100000 in
theorem rcheck_hi2 (c : Cf) (w : World) (h : Hp c) (t0 : 1 ≤ c.t) (z0 : c.t ≤ 64) (t1 : 0 ≤ c.l) (z1 : c.l ≤ 48) (t2 : 1 ≤ c.g) (u : 8 < c.g) : Calls Tryz.prog 58 #[cv c] w fun e w' => e = .returned (.int .i64 (errOf (okB c))) ∧ Below w.heap.size w w' := by
  have h1 := h.r1
  have h2 := h.r8
  have h3 := h.o1
  have h4 := h.o8
  have h5 := h.s1
  have h6 := h.s8
  have h7 := h.d1
  have h8 := h.d8
  have EB : Hid (errOf (okB c) = 1) := by
    have e0 : inB c.g 1 8 = false := inB_no.2 (by omega)
    have eb : okB c = false := by simp [okB, heapB, roomB, e0]
    rw [eb]; rfl
  clear h
  unfold cv
  go_enter Tryz.func58, Tryz.ntmps58
  go_wp2
  go_loop [4] (fun i => ∃ k : Int, i = .int .i64 k ∧ (k = 0 ∨ k = 1 ∨ k = 2 ∨ k = 3 ∨ k = 4)) (fun i => (4 - intOf i).toNat)
  case atStart => exact ⟨0, rfl, .inl rfl⟩
  case round =>
    obtain ⟨k, rfl, hk⟩ := hrel
    rcases hk with rfl | rfl | rfl | rfl | rfl
    · go_wp2
      go_round
      case rel => exact ⟨1, rfl, by omega⟩
      case measure => simp [intOf]
    · go_wp2
      go_round
      case rel => exact ⟨2, rfl, by omega⟩
      case measure => simp [intOf]
    · go_wp2
      go_round
      case rel => exact ⟨3, rfl, by omega⟩
      case measure => simp [intOf]
    · go_wp2
      go_round
      case rel => exact ⟨4, rfl, by omega⟩
      case measure => simp [intOf]
    · clear h1 h2 h3 h4 h5 h6 h7 h8
      go_wp2
      go_ret
      exact ⟨ret_int (unhide EB).symm, (below_new _ _).alloc (by simp) _⟩

set_option maxHeartbeats 2000000 in
set_option maxRecDepth 100000 in
theorem rcheck_lo3 (c : Cf) (w : World) (h : Hp c) (t0 : 1 ≤ c.t) (z0 : c.t ≤ 64) (t1 : 0 ≤ c.l) (z1 : c.l ≤ 48) (t2 : 1 ≤ c.g) (z2 : c.g ≤ 8) (u : c.k < 1) : Calls Tryz.prog 58 #[cv c] w fun e w' => e = .returned (.int .i64 (errOf (okB c))) ∧ Below w.heap.size w w' := by
  have h1 := h.r1
  have h2 := h.r8
  have h3 := h.o1
  have h4 := h.o8
  have h5 := h.s1
  have h6 := h.s8
  have h7 := h.d1
  have h8 := h.d8
  have EB : Hid (errOf (okB c) = 1) := by
    have e0 : inB c.k 1 4096 = false := inB_no.2 (by omega)
    have eb : okB c = false := by simp [okB, heapB, roomB, e0]
    rw [eb]; rfl
  clear h
  unfold cv
  go_enter Tryz.func58, Tryz.ntmps58
  go_wp2
  go_loop [4] (fun i => ∃ k : Int, i = .int .i64 k ∧ (k = 0 ∨ k = 1 ∨ k = 2 ∨ k = 3 ∨ k = 4)) (fun i => (4 - intOf i).toNat)
  case atStart => exact ⟨0, rfl, .inl rfl⟩
  case round =>
    obtain ⟨k, rfl, hk⟩ := hrel
    rcases hk with rfl | rfl | rfl | rfl | rfl
    · go_wp2
      go_round
      case rel => exact ⟨1, rfl, by omega⟩
      case measure => simp [intOf]
    · go_wp2
      go_round
      case rel => exact ⟨2, rfl, by omega⟩
      case measure => simp [intOf]
    · go_wp2
      go_round
      case rel => exact ⟨3, rfl, by omega⟩
      case measure => simp [intOf]
    · go_wp2
      go_round
      case rel => exact ⟨4, rfl, by omega⟩
      case measure => simp [intOf]
    · clear h1 h2 h3 h4 h5 h6 h7 h8
      go_wp2
      go_ret
      exact ⟨ret_int (unhide EB).symm, (below_new _ _).alloc (by simp) _⟩

set_option maxHeartbeats 2000000 in
set_option maxRecDepth 100000 in
theorem rcheck_hi3 (c : Cf) (w : World) (h : Hp c) (t0 : 1 ≤ c.t) (z0 : c.t ≤ 64) (t1 : 0 ≤ c.l) (z1 : c.l ≤ 48) (t2 : 1 ≤ c.g) (z2 : c.g ≤ 8) (t3 : 1 ≤ c.k) (u : 4096 < c.k) : Calls Tryz.prog 58 #[cv c] w fun e w' => e = .returned (.int .i64 (errOf (okB c))) ∧ Below w.heap.size w w' := by
  have h1 := h.r1
  have h2 := h.r8
  have h3 := h.o1
  have h4 := h.o8
  have h5 := h.s1
  have h6 := h.s8
  have h7 := h.d1
  have h8 := h.d8
  have EB : Hid (errOf (okB c) = 1) := by
    have e0 : inB c.k 1 4096 = false := inB_no.2 (by omega)
    have eb : okB c = false := by simp [okB, heapB, roomB, e0]
    rw [eb]; rfl
  clear h
  unfold cv
  go_enter Tryz.func58, Tryz.ntmps58
  go_wp2
  go_loop [4] (fun i => ∃ k : Int, i = .int .i64 k ∧ (k = 0 ∨ k = 1 ∨ k = 2 ∨ k = 3 ∨ k = 4)) (fun i => (4 - intOf i).toNat)
  case atStart => exact ⟨0, rfl, .inl rfl⟩
  case round =>
    obtain ⟨k, rfl, hk⟩ := hrel
    rcases hk with rfl | rfl | rfl | rfl | rfl
    · go_wp2
      go_round
      case rel => exact ⟨1, rfl, by omega⟩
      case measure => simp [intOf]
    · go_wp2
      go_round
      case rel => exact ⟨2, rfl, by omega⟩
      case measure => simp [intOf]
    · go_wp2
      go_round
      case rel => exact ⟨3, rfl, by omega⟩
      case measure => simp [intOf]
    · go_wp2
      go_round
      case rel => exact ⟨4, rfl, by omega⟩
      case measure => simp [intOf]
    · clear h1 h2 h3 h4 h5 h6 h7 h8
      go_wp2
      go_ret
      exact ⟨ret_int (unhide EB).symm, (below_new _ _).alloc (by simp) _⟩

end Go.Proofs.YtgiklggnolbiiaaGreat

/- Ways of the reference's Check in which a part that is not the heap's is out of its bounds. -/
namespace Go.Proofs.YtgiklggnolbiiaaGreat
open Go.RowKit

set_option maxHeartbeats 2000000 in
set_option maxRecDepth 100000 in
theorem rcheck_lo4 (c : Cf) (w : World) (h : Hp c) (t0 : 1 ≤ c.t) (z0 : c.t ≤ 64) (t1 : 0 ≤ c.l) (z1 : c.l ≤ 48) (t2 : 1 ≤ c.g) (z2 : c.g ≤ 8) (t3 : 1 ≤ c.k) (z3 : c.k ≤ 4096) (u : c.u < 1) : Calls Tryz.prog 58 #[cv c] w fun e w' => e = .returned (.int .i64 (errOf (okB c))) ∧ Below w.heap.size w w' := by
  have h1 := h.r1
  have h2 := h.r8
  have h3 := h.o1
  have h4 := h.o8
  have h5 := h.s1
  have h6 := h.s8
  have h7 := h.d1
  have h8 := h.d8
  have EB : Hid (errOf (okB c) = 1) := by
    have e0 : inB c.u 1 1000 = false := inB_no.2 (by omega)
    have eb : okB c = false := by simp [okB, heapB, roomB, e0]
    rw [eb]; rfl
  clear h
  unfold cv
  go_enter Tryz.func58, Tryz.ntmps58
  go_wp2
  go_loop [4] (fun i => ∃ k : Int, i = .int .i64 k ∧ (k = 0 ∨ k = 1 ∨ k = 2 ∨ k = 3 ∨ k = 4)) (fun i => (4 - intOf i).toNat)
  case atStart => exact ⟨0, rfl, .inl rfl⟩
  case round =>
    obtain ⟨k, rfl, hk⟩ := hrel
    rcases hk with rfl | rfl | rfl | rfl | rfl
    · go_wp2
      go_round
      case rel => exact ⟨1, rfl, by omega⟩
      case measure => simp [intOf]
    · go_wp2
      go_round
      case rel => exact ⟨2, rfl, by omega⟩
      case measure => simp [intOf]
    · go_wp2
      go_round
      case rel => exact ⟨3, rfl, by omega⟩
      case measure => simp [intOf]
    · go_wp2
      go_round
      case rel => exact ⟨4, rfl, by omega⟩
      case measure => simp [intOf]
    · clear h1 h2 h3 h4 h5 h6 h7 h8
      go_wp2
      go_ret
      exact ⟨ret_int (unhide EB).symm, (below_new _ _).alloc (by simp) _⟩

set_option maxHeartbeats 2000000 in
set_option maxRecDepth 100000 in
theorem rcheck_hi4 (c : Cf) (w : World) (h : Hp c) (t0 : 1 ≤ c.t) (z0 : c.t ≤ 64) (t1 : 0 ≤ c.l) (z1 : c.l ≤ 48) (t2 : 1 ≤ c.g) (z2 : c.g ≤ 8) (t3 : 1 ≤ c.k) (z3 : c.k ≤ 4096) (t4 : 1 ≤ c.u) (u : 1000 < c.u) : Calls Tryz.prog 58 #[cv c] w fun e w' => e = .returned (.int .i64 (errOf (okB c))) ∧ Below w.heap.size w w' := by
  have h1 := h.r1
  have h2 := h.r8
  have h3 := h.o1
  have h4 := h.o8
  have h5 := h.s1
  have h6 := h.s8
  have h7 := h.d1
  have h8 := h.d8
  have EB : Hid (errOf (okB c) = 1) := by
    have e0 : inB c.u 1 1000 = false := inB_no.2 (by omega)
    have eb : okB c = false := by simp [okB, heapB, roomB, e0]
    rw [eb]; rfl
  clear h
  unfold cv
  go_enter Tryz.func58, Tryz.ntmps58
  go_wp2
  go_loop [4] (fun i => ∃ k : Int, i = .int .i64 k ∧ (k = 0 ∨ k = 1 ∨ k = 2 ∨ k = 3 ∨ k = 4)) (fun i => (4 - intOf i).toNat)
  case atStart => exact ⟨0, rfl, .inl rfl⟩
  case round =>
    obtain ⟨k, rfl, hk⟩ := hrel
    rcases hk with rfl | rfl | rfl | rfl | rfl
    · go_wp2
      go_round
      case rel => exact ⟨1, rfl, by omega⟩
      case measure => simp [intOf]
    · go_wp2
      go_round
      case rel => exact ⟨2, rfl, by omega⟩
      case measure => simp [intOf]
    · go_wp2
      go_round
      case rel => exact ⟨3, rfl, by omega⟩
      case measure => simp [intOf]
    · go_wp2
      go_round
      case rel => exact ⟨4, rfl, by omega⟩
      case measure => simp [intOf]
    · clear h1 h2 h3 h4 h5 h6 h7 h8
      go_wp2
      go_ret
      exact ⟨ret_int (unhide EB).symm, (below_new _ _).alloc (by simp) _⟩

set_option maxHeartbeats 2000000 in
set_option maxRecDepth 100000 in
theorem rcheck_lo5 (c : Cf) (w : World) (h : Hp c) (t0 : 1 ≤ c.t) (z0 : c.t ≤ 64) (t1 : 0 ≤ c.l) (z1 : c.l ≤ 48) (t2 : 1 ≤ c.g) (z2 : c.g ≤ 8) (t3 : 1 ≤ c.k) (z3 : c.k ≤ 4096) (t4 : 1 ≤ c.u) (z4 : c.u ≤ 1000) (u : c.e < 0) : Calls Tryz.prog 58 #[cv c] w fun e w' => e = .returned (.int .i64 (errOf (okB c))) ∧ Below w.heap.size w w' := by
  have h1 := h.r1
  have h2 := h.r8
  have h3 := h.o1
  have h4 := h.o8
  have h5 := h.s1
  have h6 := h.s8
  have h7 := h.d1
  have h8 := h.d8
  have EB : Hid (errOf (okB c) = 1) := by
    have e0 : inB c.e 0 64 = false := inB_no.2 (by omega)
    have eb : okB c = false := by simp [okB, heapB, roomB, e0]
    rw [eb]; rfl
  clear h
  unfold cv
  go_enter Tryz.func58, Tryz.ntmps58
  go_wp2
  go_loop [4] (fun i => ∃ k : Int, i = .int .i64 k ∧ (k = 0 ∨ k = 1 ∨ k = 2 ∨ k = 3 ∨ k = 4)) (fun i => (4 - intOf i).toNat)
  case atStart => exact ⟨0, rfl, .inl rfl⟩
  case round =>
    obtain ⟨k, rfl, hk⟩ := hrel
    rcases hk with rfl | rfl | rfl | rfl | rfl
    · go_wp2
      go_round
      case rel => exact ⟨1, rfl, by omega⟩
      case measure => simp [intOf]
    · go_wp2
      go_round
      case rel => exact ⟨2, rfl, by omega⟩
      case measure => simp [intOf]
    · go_wp2
      go_round
      case rel => exact ⟨3, rfl, by omega⟩
      case measure => simp [intOf]
    · go_wp2
      go_round
      case rel => exact ⟨4, rfl, by omega⟩
      case measure => simp [intOf]
    · clear h1 h2 h3 h4 h5 h6 h7 h8
      go_wp2
      go_ret
      exact ⟨ret_int (unhide EB).symm, (below_new _ _).alloc (by simp) _⟩

set_option maxHeartbeats 2000000 in
set_option maxRecDepth 100000 in
theorem rcheck_hi5 (c : Cf) (w : World) (h : Hp c) (t0 : 1 ≤ c.t) (z0 : c.t ≤ 64) (t1 : 0 ≤ c.l) (z1 : c.l ≤ 48) (t2 : 1 ≤ c.g) (z2 : c.g ≤ 8) (t3 : 1 ≤ c.k) (z3 : c.k ≤ 4096) (t4 : 1 ≤ c.u) (z4 : c.u ≤ 1000) (t5 : 0 ≤ c.e) (u : 64 < c.e) : Calls Tryz.prog 58 #[cv c] w fun e w' => e = .returned (.int .i64 (errOf (okB c))) ∧ Below w.heap.size w w' := by
  have h1 := h.r1
  have h2 := h.r8
  have h3 := h.o1
  have h4 := h.o8
  have h5 := h.s1
  have h6 := h.s8
  have h7 := h.d1
  have h8 := h.d8
  have EB : Hid (errOf (okB c) = 1) := by
    have e0 : inB c.e 0 64 = false := inB_no.2 (by omega)
    have eb : okB c = false := by simp [okB, heapB, roomB, e0]
    rw [eb]; rfl
  clear h
  unfold cv
  go_enter Tryz.func58, Tryz.ntmps58
  go_wp2
  go_loop [4] (fun i => ∃ k : Int, i = .int .i64 k ∧ (k = 0 ∨ k = 1 ∨ k = 2 ∨ k = 3 ∨ k = 4)) (fun i => (4 - intOf i).toNat)
  case atStart => exact ⟨0, rfl, .inl rfl⟩
  case round =>
    obtain ⟨k, rfl, hk⟩ := hrel
    rcases hk with rfl | rfl | rfl | rfl | rfl
    · go_wp2
      go_round
      case rel => exact ⟨1, rfl, by omega⟩
      case measure => simp [intOf]
    · go_wp2
      go_round
      case rel => exact ⟨2, rfl, by omega⟩
      case measure => simp [intOf]
    · go_wp2
      go_round
      case rel => exact ⟨3, rfl, by omega⟩
      case measure => simp [intOf]
    · go_wp2
      go_round
      case rel => exact ⟨4, rfl, by omega⟩
      case measure => simp [intOf]
    · clear h1 h2 h3 h4 h5 h6 h7 h8
      go_wp2
      go_ret
      exact ⟨ret_int (unhide EB).symm, (below_new _ _).alloc (by simp) _⟩

end Go.Proofs.YtgiklggnolbiiaaGreat

/- Ways of the reference's Check in which a part that is not the heap's is out of its bounds. -/
namespace Go.Proofs.YtgiklggnolbiiaaGreat
open Go.RowKit

set_option maxHeartbeats 2000000 in
set_option maxRecDepth 100000 in
theorem rcheck_lo6 (c : Cf) (w : World) (h : Hp c) (t0 : 1 ≤ c.t) (z0 : c.t ≤ 64) (t1 : 0 ≤ c.l) (z1 : c.l ≤ 48) (t2 : 1 ≤ c.g) (z2 : c.g ≤ 8) (t3 : 1 ≤ c.k) (z3 : c.k ≤ 4096) (t4 : 1 ≤ c.u) (z4 : c.u ≤ 1000) (t5 : 0 ≤ c.e) (z5 : c.e ≤ 64) (u : c.i < 1) : Calls Tryz.prog 58 #[cv c] w fun e w' => e = .returned (.int .i64 (errOf (okB c))) ∧ Below w.heap.size w w' := by
  have h1 := h.r1
  have h2 := h.r8
  have h3 := h.o1
  have h4 := h.o8
  have h5 := h.s1
  have h6 := h.s8
  have h7 := h.d1
  have h8 := h.d8
  have EB : Hid (errOf (okB c) = 1) := by
    have e0 : inB c.i 1 10000 = false := inB_no.2 (by omega)
    have eb : okB c = false := by simp [okB, heapB, roomB, e0]
    rw [eb]; rfl
  clear h
  unfold cv
  go_enter Tryz.func58, Tryz.ntmps58
  go_wp2
  go_loop [4] (fun i => ∃ k : Int, i = .int .i64 k ∧ (k = 0 ∨ k = 1 ∨ k = 2 ∨ k = 3 ∨ k = 4)) (fun i => (4 - intOf i).toNat)
  case atStart => exact ⟨0, rfl, .inl rfl⟩
  case round =>
    obtain ⟨k, rfl, hk⟩ := hrel
    rcases hk with rfl | rfl | rfl | rfl | rfl
    · go_wp2
      go_round
      case rel => exact ⟨1, rfl, by omega⟩
      case measure => simp [intOf]
    · go_wp2
      go_round
      case rel => exact ⟨2, rfl, by omega⟩
      case measure => simp [intOf]
    · go_wp2
      go_round
      case rel => exact ⟨3, rfl, by omega⟩
      case measure => simp [intOf]
    · go_wp2
      go_round
      case rel => exact ⟨4, rfl, by omega⟩
      case measure => simp [intOf]
    · clear h1 h2 h3 h4 h5 h6 h7 h8
      go_wp2
      go_ret
      exact ⟨ret_int (unhide EB).symm, (below_new _ _).alloc (by simp) _⟩

set_option maxHeartbeats 2000000 in
set_option maxRecDepth 100000 in
theorem rcheck_hi6 (c : Cf) (w : World) (h : Hp c) (t0 : 1 ≤ c.t) (z0 : c.t ≤ 64) (t1 : 0 ≤ c.l) (z1 : c.l ≤ 48) (t2 : 1 ≤ c.g) (z2 : c.g ≤ 8) (t3 : 1 ≤ c.k) (z3 : c.k ≤ 4096) (t4 : 1 ≤ c.u) (z4 : c.u ≤ 1000) (t5 : 0 ≤ c.e) (z5 : c.e ≤ 64) (t6 : 1 ≤ c.i) (u : 10000 < c.i) : Calls Tryz.prog 58 #[cv c] w fun e w' => e = .returned (.int .i64 (errOf (okB c))) ∧ Below w.heap.size w w' := by
  have h1 := h.r1
  have h2 := h.r8
  have h3 := h.o1
  have h4 := h.o8
  have h5 := h.s1
  have h6 := h.s8
  have h7 := h.d1
  have h8 := h.d8
  have EB : Hid (errOf (okB c) = 1) := by
    have e0 : inB c.i 1 10000 = false := inB_no.2 (by omega)
    have eb : okB c = false := by simp [okB, heapB, roomB, e0]
    rw [eb]; rfl
  clear h
  unfold cv
  go_enter Tryz.func58, Tryz.ntmps58
  go_wp2
  go_loop [4] (fun i => ∃ k : Int, i = .int .i64 k ∧ (k = 0 ∨ k = 1 ∨ k = 2 ∨ k = 3 ∨ k = 4)) (fun i => (4 - intOf i).toNat)
  case atStart => exact ⟨0, rfl, .inl rfl⟩
  case round =>
    obtain ⟨k, rfl, hk⟩ := hrel
    rcases hk with rfl | rfl | rfl | rfl | rfl
    · go_wp2
      go_round
      case rel => exact ⟨1, rfl, by omega⟩
      case measure => simp [intOf]
    · go_wp2
      go_round
      case rel => exact ⟨2, rfl, by omega⟩
      case measure => simp [intOf]
    · go_wp2
      go_round
      case rel => exact ⟨3, rfl, by omega⟩
      case measure => simp [intOf]
    · go_wp2
      go_round
      case rel => exact ⟨4, rfl, by omega⟩
      case measure => simp [intOf]
    · clear h1 h2 h3 h4 h5 h6 h7 h8
      go_wp2
      go_ret
      exact ⟨ret_int (unhide EB).symm, (below_new _ _).alloc (by simp) _⟩

set_option maxHeartbeats 2000000 in
set_option maxRecDepth 100000 in
theorem rcheck_lo7 (c : Cf) (w : World) (h : Hp c) (t0 : 1 ≤ c.t) (z0 : c.t ≤ 64) (t1 : 0 ≤ c.l) (z1 : c.l ≤ 48) (t2 : 1 ≤ c.g) (z2 : c.g ≤ 8) (t3 : 1 ≤ c.k) (z3 : c.k ≤ 4096) (t4 : 1 ≤ c.u) (z4 : c.u ≤ 1000) (t5 : 0 ≤ c.e) (z5 : c.e ≤ 64) (t6 : 1 ≤ c.i) (z6 : c.i ≤ 10000) (u : c.p < 0) : Calls Tryz.prog 58 #[cv c] w fun e w' => e = .returned (.int .i64 (errOf (okB c))) ∧ Below w.heap.size w w' := by
  have h1 := h.r1
  have h2 := h.r8
  have h3 := h.o1
  have h4 := h.o8
  have h5 := h.s1
  have h6 := h.s8
  have h7 := h.d1
  have h8 := h.d8
  have EB : Hid (errOf (okB c) = 1) := by
    have e0 : inB c.p 0 2 = false := inB_no.2 (by omega)
    have eb : okB c = false := by simp [okB, heapB, roomB, e0]
    rw [eb]; rfl
  clear h
  unfold cv
  go_enter Tryz.func58, Tryz.ntmps58
  go_wp2
  go_loop [4] (fun i => ∃ k : Int, i = .int .i64 k ∧ (k = 0 ∨ k = 1 ∨ k = 2 ∨ k = 3 ∨ k = 4)) (fun i => (4 - intOf i).toNat)
  case atStart => exact ⟨0, rfl, .inl rfl⟩
  case round =>
    obtain ⟨k, rfl, hk⟩ := hrel
    rcases hk with rfl | rfl | rfl | rfl | rfl
    · go_wp2
      go_round
      case rel => exact ⟨1, rfl, by omega⟩
      case measure => simp [intOf]
    · go_wp2
      go_round
      case rel => exact ⟨2, rfl, by omega⟩
      case measure => simp [intOf]
    · go_wp2
      go_round
      case rel => exact ⟨3, rfl, by omega⟩
      case measure => simp [intOf]
    · go_wp2
      go_round
      case rel => exact ⟨4, rfl, by omega⟩
      case measure => simp [intOf]
    · clear h1 h2 h3 h4 h5 h6 h7 h8
      go_wp2
      go_ret
      exact ⟨ret_int (unhide EB).symm, (below_new _ _).alloc (by simp) _⟩

set_option maxHeartbeats 2000000 in
set_option maxRecDepth 100000 in
theorem rcheck_hi7 (c : Cf) (w : World) (h : Hp c) (t0 : 1 ≤ c.t) (z0 : c.t ≤ 64) (t1 : 0 ≤ c.l) (z1 : c.l ≤ 48) (t2 : 1 ≤ c.g) (z2 : c.g ≤ 8) (t3 : 1 ≤ c.k) (z3 : c.k ≤ 4096) (t4 : 1 ≤ c.u) (z4 : c.u ≤ 1000) (t5 : 0 ≤ c.e) (z5 : c.e ≤ 64) (t6 : 1 ≤ c.i) (z6 : c.i ≤ 10000) (t7 : 0 ≤ c.p) (u : 2 < c.p) : Calls Tryz.prog 58 #[cv c] w fun e w' => e = .returned (.int .i64 (errOf (okB c))) ∧ Below w.heap.size w w' := by
  have h1 := h.r1
  have h2 := h.r8
  have h3 := h.o1
  have h4 := h.o8
  have h5 := h.s1
  have h6 := h.s8
  have h7 := h.d1
  have h8 := h.d8
  have EB : Hid (errOf (okB c) = 1) := by
    have e0 : inB c.p 0 2 = false := inB_no.2 (by omega)
    have eb : okB c = false := by simp [okB, heapB, roomB, e0]
    rw [eb]; rfl
  clear h
  unfold cv
  go_enter Tryz.func58, Tryz.ntmps58
  go_wp2
  go_loop [4] (fun i => ∃ k : Int, i = .int .i64 k ∧ (k = 0 ∨ k = 1 ∨ k = 2 ∨ k = 3 ∨ k = 4)) (fun i => (4 - intOf i).toNat)
  case atStart => exact ⟨0, rfl, .inl rfl⟩
  case round =>
    obtain ⟨k, rfl, hk⟩ := hrel
    rcases hk with rfl | rfl | rfl | rfl | rfl
    · go_wp2
      go_round
      case rel => exact ⟨1, rfl, by omega⟩
      case measure => simp [intOf]
    · go_wp2
      go_round
      case rel => exact ⟨2, rfl, by omega⟩
      case measure => simp [intOf]
    · go_wp2
      go_round
      case rel => exact ⟨3, rfl, by omega⟩
      case measure => simp [intOf]
    · go_wp2
      go_round
      case rel => exact ⟨4, rfl, by omega⟩
      case measure => simp [intOf]
    · clear h1 h2 h3 h4 h5 h6 h7 h8
      go_wp2
      go_ret
      exact ⟨ret_int (unhide EB).symm, (below_new _ _).alloc (by simp) _⟩

end Go.Proofs.YtgiklggnolbiiaaGreat

/- What Check of the reference answers. -/
namespace Go.Proofs.YtgiklggnolbiiaaGreat
open Go.RowKit

theorem ok_iff {c : Cf} : okB c = true ↔ (1 ≤ c.r ∧ c.r ≤ 8) ∧ (1 ≤ c.o ∧ c.o ≤ 8) ∧ (1 ≤ c.s ∧ c.s ≤ 8) ∧ (1 ≤ c.d ∧ c.d ≤ 8) ∧ (1 ≤ c.t ∧ c.t ≤ 64) ∧ (0 ≤ c.l ∧ c.l ≤ 48) ∧ (1 ≤ c.g ∧ c.g ≤ 8) ∧ (1 ≤ c.k ∧ c.k ≤ 4096) ∧ (1 ≤ c.u ∧ c.u ≤ 1000) ∧ (0 ≤ c.e ∧ c.e ≤ 64) ∧ (1 ≤ c.i ∧ c.i ≤ 10000) ∧ (0 ≤ c.p ∧ c.p ≤ 2) := by
  simp only [okB, heapB, roomB, Bool.and_eq_true, inB_iff]
  omega

set_option maxHeartbeats 2000000 in
set_option maxRecDepth 100000 in
theorem rcheck_ok (c : Cf) (w : World) (h : Hp c) (t0 : 1 ≤ c.t) (z0 : c.t ≤ 64) (t1 : 0 ≤ c.l) (z1 : c.l ≤ 48) (t2 : 1 ≤ c.g) (z2 : c.g ≤ 8) (t3 : 1 ≤ c.k) (z3 : c.k ≤ 4096) (t4 : 1 ≤ c.u) (z4 : c.u ≤ 1000) (t5 : 0 ≤ c.e) (z5 : c.e ≤ 64) (t6 : 1 ≤ c.i) (z6 : c.i ≤ 10000) (t7 : 0 ≤ c.p) (z7 : c.p ≤ 2) : Calls Tryz.prog 58 #[cv c] w fun e w' => e = .returned (.int .i64 (errOf (okB c))) ∧ Below w.heap.size w w' := by
  have h1 := h.r1
  have h2 := h.r8
  have h3 := h.o1
  have h4 := h.o8
  have h5 := h.s1
  have h6 := h.s8
  have h7 := h.d1
  have h8 := h.d8
  have EB : Hid (errOf (okB c) = 0) := by
    have e0 : okB c = true := by
      simp only [okB, heapB, roomB, Bool.and_eq_true, inB_iff]
      omega
    rw [e0]; rfl
  clear h
  unfold cv
  go_enter Tryz.func58, Tryz.ntmps58
  go_wp2
  go_loop [4] (fun i => ∃ k : Int, i = .int .i64 k ∧ (k = 0 ∨ k = 1 ∨ k = 2 ∨ k = 3 ∨ k = 4)) (fun i => (4 - intOf i).toNat)
  case atStart => exact ⟨0, rfl, .inl rfl⟩
  case round =>
    obtain ⟨k, rfl, hk⟩ := hrel
    rcases hk with rfl | rfl | rfl | rfl | rfl
    · go_wp2
      go_round
      case rel => exact ⟨1, rfl, by omega⟩
      case measure => simp [intOf]
    · go_wp2
      go_round
      case rel => exact ⟨2, rfl, by omega⟩
      case measure => simp [intOf]
    · go_wp2
      go_round
      case rel => exact ⟨3, rfl, by omega⟩
      case measure => simp [intOf]
    · go_wp2
      go_round
      case rel => exact ⟨4, rfl, by omega⟩
      case measure => simp [intOf]
    · clear h1 h2 h3 h4 h5 h6 h7 h8
      go_wp2
      go_ret
      exact ⟨ret_int (unhide EB).symm, (below_new _ _).alloc (by simp) _⟩

set_option maxHeartbeats 2000000 in
set_option maxRecDepth 100000 in
theorem rcheck_heap (c : Cf) (w : World) (h : ¬ Hp c) : Calls Tryz.prog 58 #[cv c] w fun e w' => e = .returned (.int .i64 (errOf (okB c))) ∧ Below w.heap.size w w' := by
  have EB : Hid (errOf (okB c) = 1) := by
    have eb : okB c = false := by
      cases e : okB c
      · rfl
      · exact absurd (okB_hp e) h
    rw [eb]; rfl
  have h' := hide h
  clear h
  unfold cv
  go_enter Tryz.func58, Tryz.ntmps58
  go_wp2
  go_loop [4] (fun i => ∃ k : Int, i = .int .i64 k ∧ (k = 0 ∨ (k = 1 ∧ 1 ≤ c.r ∧ c.r ≤ 8) ∨ (k = 2 ∧ 1 ≤ c.r ∧ c.r ≤ 8 ∧ 1 ≤ c.o ∧ c.o ≤ 8) ∨ (k = 3 ∧ 1 ≤ c.r ∧ c.r ≤ 8 ∧ 1 ≤ c.o ∧ c.o ≤ 8 ∧ 1 ≤ c.s ∧ c.s ≤ 8) ∨ (k = 4 ∧ 1 ≤ c.r ∧ c.r ≤ 8 ∧ 1 ≤ c.o ∧ c.o ≤ 8 ∧ 1 ≤ c.s ∧ c.s ≤ 8 ∧ 1 ≤ c.d ∧ c.d ≤ 8))) (fun i => (4 - intOf i).toNat)
  case atStart => exact ⟨0, rfl, .inl rfl⟩
  case round =>
    obtain ⟨k, rfl, hk⟩ := hrel
    rcases hk with rfl | ⟨rfl, p0, q0⟩ | ⟨rfl, p0, q0, p1, q1⟩ | ⟨rfl, p0, q0, p1, q1, p2, q2⟩ | ⟨rfl, p0, q0, p1, q1, p2, q2, p3, q3⟩
    · by_cases u : c.r < 1
      · go_wp2
        go_ret
        exact ⟨ret_int (unhide EB).symm, (below_new _ _).alloc (by simp) _⟩
      · have u1 : 1 ≤ c.r := by omega
        by_cases v : 8 < c.r
        · go_wp2
          go_ret
          exact ⟨ret_int (unhide EB).symm, (below_new _ _).alloc (by simp) _⟩
        · have v1 : c.r ≤ 8 := by omega
          go_wp2
          go_round
          case rel => exact ⟨1, rfl, .inr (.inl ⟨rfl, u1, v1⟩)⟩
          case measure => simp [intOf]
    · by_cases u : c.o < 1
      · go_wp2
        go_ret
        exact ⟨ret_int (unhide EB).symm, (below_new _ _).alloc (by simp) _⟩
      · have u1 : 1 ≤ c.o := by omega
        by_cases v : 8 < c.o
        · go_wp2
          go_ret
          exact ⟨ret_int (unhide EB).symm, (below_new _ _).alloc (by simp) _⟩
        · have v1 : c.o ≤ 8 := by omega
          go_wp2
          go_round
          case rel => exact ⟨2, rfl, .inr (.inr (.inl ⟨rfl, p0, q0, u1, v1⟩))⟩
          case measure => simp [intOf]
    · by_cases u : c.s < 1
      · go_wp2
        go_ret
        exact ⟨ret_int (unhide EB).symm, (below_new _ _).alloc (by simp) _⟩
      · have u1 : 1 ≤ c.s := by omega
        by_cases v : 8 < c.s
        · go_wp2
          go_ret
          exact ⟨ret_int (unhide EB).symm, (below_new _ _).alloc (by simp) _⟩
        · have v1 : c.s ≤ 8 := by omega
          go_wp2
          go_round
          case rel => exact ⟨3, rfl, .inr (.inr (.inr (.inl ⟨rfl, p0, q0, p1, q1, u1, v1⟩)))⟩
          case measure => simp [intOf]
    · by_cases u : c.d < 1
      · go_wp2
        go_ret
        exact ⟨ret_int (unhide EB).symm, (below_new _ _).alloc (by simp) _⟩
      · have u1 : 1 ≤ c.d := by omega
        by_cases v : 8 < c.d
        · go_wp2
          go_ret
          exact ⟨ret_int (unhide EB).symm, (below_new _ _).alloc (by simp) _⟩
        · have v1 : c.d ≤ 8 := by omega
          go_wp2
          go_round
          case rel => exact ⟨4, rfl, .inr (.inr (.inr (.inr (⟨rfl, p0, q0, p1, q1, p2, q2, u1, v1⟩))))⟩
          case measure => simp [intOf]
    · exact absurd ⟨p0, q0, p1, q1, p2, q2, p3, q3⟩ (unhide h')

theorem rcheck_any (c : Cf) (w : World) : Calls Tryz.prog 58 #[cv c] w fun e w' => e = .returned (.int .i64 (errOf (okB c))) ∧ Below w.heap.size w w' := by
  by_cases h : Hp c
  · by_cases u : c.t < 1
    · exact rcheck_lo0 c w h  u
    · have t0 : 1 ≤ c.t := by omega
      by_cases u' : 64 < c.t
      · exact rcheck_hi0 c w h  t0 u'
      · have z0 : c.t ≤ 64 := by omega
        clear u u'
        by_cases u : c.l < 0
        · exact rcheck_lo1 c w h t0 z0 u
        · have t1 : 0 ≤ c.l := by omega
          by_cases u' : 48 < c.l
          · exact rcheck_hi1 c w h t0 z0 t1 u'
          · have z1 : c.l ≤ 48 := by omega
            clear u u'
            by_cases u : c.g < 1
            · exact rcheck_lo2 c w h t0 z0 t1 z1 u
            · have t2 : 1 ≤ c.g := by omega
              by_cases u' : 8 < c.g
              · exact rcheck_hi2 c w h t0 z0 t1 z1 t2 u'
              · have z2 : c.g ≤ 8 := by omega
                clear u u'
                by_cases u : c.k < 1
                · exact rcheck_lo3 c w h t0 z0 t1 z1 t2 z2 u
                · have t3 : 1 ≤ c.k := by omega
                  by_cases u' : 4096 < c.k
                  · exact rcheck_hi3 c w h t0 z0 t1 z1 t2 z2 t3 u'
                  · have z3 : c.k ≤ 4096 := by omega
                    clear u u'
                    by_cases u : c.u < 1
                    · exact rcheck_lo4 c w h t0 z0 t1 z1 t2 z2 t3 z3 u
                    · have t4 : 1 ≤ c.u := by omega
                      by_cases u' : 1000 < c.u
                      · exact rcheck_hi4 c w h t0 z0 t1 z1 t2 z2 t3 z3 t4 u'
                      · have z4 : c.u ≤ 1000 := by omega
                        clear u u'
                        by_cases u : c.e < 0
                        · exact rcheck_lo5 c w h t0 z0 t1 z1 t2 z2 t3 z3 t4 z4 u
                        · have t5 : 0 ≤ c.e := by omega
                          by_cases u' : 64 < c.e
                          · exact rcheck_hi5 c w h t0 z0 t1 z1 t2 z2 t3 z3 t4 z4 t5 u'
                          · have z5 : c.e ≤ 64 := by omega
                            clear u u'
                            by_cases u : c.i < 1
                            · exact rcheck_lo6 c w h t0 z0 t1 z1 t2 z2 t3 z3 t4 z4 t5 z5 u
                            · have t6 : 1 ≤ c.i := by omega
                              by_cases u' : 10000 < c.i
                              · exact rcheck_hi6 c w h t0 z0 t1 z1 t2 z2 t3 z3 t4 z4 t5 z5 t6 u'
                              · have z6 : c.i ≤ 10000 := by omega
                                clear u u'
                                by_cases u : c.p < 0
                                · exact rcheck_lo7 c w h t0 z0 t1 z1 t2 z2 t3 z3 t4 z4 t5 z5 t6 z6 u
                                · have t7 : 0 ≤ c.p := by omega
                                  by_cases u' : 2 < c.p
                                  · exact rcheck_hi7 c w h t0 z0 t1 z1 t2 z2 t3 z3 t4 z4 t5 z5 t6 z6 t7 u'
                                  · have z7 : c.p ≤ 2 := by omega
                                    clear u u'
                                    exact rcheck_ok c w h t0 z0 t1 z1 t2 z2 t3 z3 t4 z4 t5 z5 t6 z6 t7 z7
  · exact rcheck_heap c w h

end Go.Proofs.YtgiklggnolbiiaaGreat
