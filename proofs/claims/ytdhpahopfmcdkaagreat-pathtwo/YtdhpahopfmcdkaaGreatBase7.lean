/- Texts of this claim, put together in their order. -/
import Derived.Test.YtdhpahopfmcdkaaGreatBase1
import Derived.Test.YtdhpahopfmcdkaaGreatBase2
import Derived.Test.YtdhpahopfmcdkaaGreatBase3
import Derived.Test.YtdhpahopfmcdkaaGreatBase4
import Derived.Test.YtdhpahopfmcdkaaGreatBase5
import Derived.Test.YtdhpahopfmcdkaaGreatBase6
/- Package path: what its leaves answer. -/
namespace Go.Proofs.YtdhpahopfmcdkaaGreat
open Go.RowKit
variable {B n : Nat} {most : Int} {T : Nat → Lv} {b : Nat}

set_option maxRecDepth 100000 in
theorem holds_n2 (w : World) (h : Tn B n most T b w) (hf : Few n 1000 T) (who node : Int) {r : Int} (hr : holdT n T who node = r) :
    Calls Tryz.prog 50 #[.pointer (some ⟨b, 0, none⟩), .int .i64 who, .int .i64 node] w fun e w' => e = .returned (.int .i64 r) ∧ Below w.heap.size w w' := by
  unfold holdT at hr
  cases hk : (decide (0 ≤ node) && decide (node < n))
  · rw [hk, if_neg (by decide)] at hr
    subst hr
    obtain ⟨rb, lb, hv, qv, t⟩ := h
    have K := known_t w t node
    rw [hk] at K
    replace K := hide K
    clear hk t
    go_enter Tryz.func50, Tryz.ntmps50
    go_wp2_with fail
    refine (unhide K).mono ?_
    rintro e w1 ⟨rfl, rfl⟩
    go_wp2
    go_ret
    exact ⟨rfl, Below.refl _ _⟩
  · rw [hk, if_pos rfl] at hr
    have : 0 ≤ node ∧ node < n := by simpa using hk
    exact holds_n w h hf who node this.1 this.2 hr
set_option maxRecDepth 100000 in
theorem wanted_any (write : Bool) (w : World) : Calls Tryz.prog 37 #[.bool write] w fun e w' => e = .returned (.int .i64 (wantD write)) ∧ w' = w := by
  cases write
  all_goals
    go_enter Tryz.func37, Tryz.ntmps37
    go_wp2
    go_ret
    exact ⟨rfl, rfl⟩
theorem intent_want (write : Bool) (w : World) : Calls Tryz.prog 38 #[.int .i64 (wantD write)] w fun e w' => e = .returned (.int .i64 (inD write)) ∧ w' = w := by
  have e : intentD (wantD write) = inD write := by cases write <;> decide
  rw [← e]
  exact intent_any _ w
theorem tn_c0 {w : World} (h : Tn B n most T b w) : ∃ rb, w.cell? ⟨b, 0, none⟩ = some (.slice (some ⟨rb, 0, none⟩) n n) := by
  obtain ⟨rb, lb, hv, qv, t⟩ := h
  exact ⟨rb, t.c0⟩
set_option maxRecDepth 100000 in
theorem covers_p (w : World) (h : Tn B n most T b w) (hf : Few n 1000 T) (who node want : Int) {r : Bool} (hr : coversB (holdT n T who node) want = r) :
    Calls Tryz.prog 39 #[.pointer (some ⟨b, 0, none⟩), .int .i64 who, .int .i64 node, .int .i64 want] w fun e w' => e = .returned (.bool r) ∧ Below w.heap.size w w' := by
  subst hr
  have H := hide h
  clear h
  go_enter Tryz.func39, Tryz.ntmps39
  go_wp2_with fail
  refine (holds_n2 w (unhide H) hf who node rfl).mono ?_
  rintro e w1 ⟨rfl, b1⟩
  replace b1 := hide b1
  go_wp2_with fail
  refine (covers_any _ want w1).mono ?_
  rintro e w2 ⟨rfl, b2⟩
  replace b2 := hide (below_then (unhide b1) b2)
  go_wp2
  go_ret
  exact ⟨rfl, unhide b2⟩
set_option maxRecDepth 100000 in
theorem whole_p (w : World) (h : Tn B n most T b w) (hf : Few n 1000 T) (who node : Int) (write : Bool) {r : Bool} (hr : wholeB write (holdT n T who node) = r) :
    Calls Tryz.prog 40 #[.pointer (some ⟨b, 0, none⟩), .int .i64 who, .int .i64 node, .bool write] w fun e w' => e = .returned (.bool r) ∧ Below w.heap.size w w' := by
  subst hr
  have H := hide h
  clear h
  cases write
  · show Calls _ _ _ _ fun e w' => e = .returned (.bool (readsB (holdT n T who node))) ∧ _
    go_enter Tryz.func40, Tryz.ntmps40
    go_wp2_with fail
    refine (holds_n2 w (unhide H) hf who node rfl).mono ?_
    rintro e w1 ⟨rfl, b1⟩
    replace b1 := hide b1
    go_wp2_with fail
    refine (reads_any _ w1).mono ?_
    rintro e w2 ⟨rfl, b2⟩
    replace b2 := hide (below_then (unhide b1) b2)
    go_wp2
    go_ret
    exact ⟨rfl, unhide b2⟩
  · show Calls _ _ _ _ fun e w' => e = .returned (.bool (writesB (holdT n T who node))) ∧ _
    go_enter Tryz.func40, Tryz.ntmps40
    go_wp2_with fail
    refine (holds_n2 w (unhide H) hf who node rfl).mono ?_
    rintro e w1 ⟨rfl, b1⟩
    replace b1 := hide b1
    go_wp2_with fail
    refine (writes_any _ w1).mono ?_
    rintro e w2 ⟨rfl, b2⟩
    replace b2 := hide (below_then (unhide b1) b2)
    go_wp2
    go_ret
    exact ⟨rfl, unhide b2⟩
theorem fst_in {c : Cf} (hp : Hp c) {o : Int} (h0 : c.r ≤ o) (h1 : o < c.r + no c) : 0 ≤ (o - c.r) * c.s ∧ (o - c.r) * c.s + c.s ≤ ns c := by
  have g := hp.s1
  constructor
  · exact Int.mul_nonneg (by omega) (by omega)
  · have : (o - c.r + 1) * c.s ≤ no c * c.s := Int.mul_le_mul_of_nonneg_right (by omega) (by omega)
    have e : (o - c.r + 1) * c.s = (o - c.r) * c.s + c.s := by rw [Int.add_mul, Int.one_mul]
    unfold ns
    omega
set_option maxRecDepth 100000 in
theorem pfst_any (c : Cf) (o : Int) (w : World) (hp : Hp c) (h0 : c.r ≤ o) (h1 : o < c.r + no c) : Calls Tryz.prog 49 #[cv c, .int .i64 o] w fun e w' => e = .returned (.int .i64 (fstS c o)) ∧ Below w.heap.size w w' := by
  obtain ⟨q0, q1⟩ := fst_in hp h0 h1
  obtain ⟨n1, n2⟩ := no_in hp
  obtain ⟨s1, s2⟩ := ns_in hp
  have r1 := hp.r1
  have r8 := hp.r8
  have z1 := hp.s1
  have e1 : wrap64 (c.r * c.o) = no c := wrap_in (by unfold no at n1; omega) (by unfold no at n2; omega)
  have e2 : wrap64 (c.r + no c) = c.r + no c := wrap_in (by omega) (by omega)
  have e3 : wrap64 (o - c.r) = o - c.r := wrap_in (by omega) (by omega)
  have e4 : wrap64 ((o - c.r) * c.s) = (o - c.r) * c.s := wrap_in (by omega) (by omega)
  have e5 : wrap64 (c.r + no c + (o - c.r) * c.s) = c.r + no c + (o - c.r) * c.s := wrap_in (by omega) (by omega)
  have E : Hid (wrap64 (wrap64 (c.r + wrap64 (c.r * c.o)) + wrap64 (wrap64 (o - c.r) * c.s)) = fstS c o) := by
    show _ = _
    rw [e1, e2, e3, e4, e5]; rfl
  clear q0 q1 n1 n2 s1 s2 r1 r8 z1 e1 e2 e3 e4 e5 h0 h1
  unfold cv
  go_enter Tryz.func49, Tryz.ntmps49
  go_wp2
  go_ret
  exact ⟨ret_int (unhide E), below_new _ _⟩
set_option maxRecDepth 100000 in
set_option maxHeartbeats 2000000 in
theorem stripes_p (c : Cf) (w : World) (h : Tn B n most T b w) (hf : Few n 1000 T) (who o : Int) {r : Nat} (hr : strD c n T who o = r) :
    Calls Tryz.prog 15 #[cv c, .pointer (some ⟨b, 0, none⟩), .int .i64 who, .int .i64 o] w fun e w' => e = .returned (.int .i64 (r : Nat)) ∧ Below w.heap.size w w' := by
  subst hr
  have H := hide h
  clear h
  by_cases hl : levelD c o = 1
  · have eD : strD c n T who o = strK n T who (fstS c o) c.s.toNat := by unfold strD; rw [if_pos hl]
    rw [eD]
    have hw : c.r ≤ o ∧ o < c.r + no c ∧ okB c = true := by
      rcases level_ways c o with ⟨e, _⟩ | ⟨_, _, hk, ⟨e, _⟩ | ⟨_, h1, h2⟩ | ⟨e, _⟩⟩
      · omega
      · omega
      · exact ⟨h1, h2, hk⟩
      · omega
    obtain ⟨o1, o2, hok⟩ := hw
    have hp := okB_hp hok
    have HP := hide hp
    obtain ⟨q0, q1⟩ := fst_in hp o1 o2
    obtain ⟨n1, n2⟩ := no_in hp
    obtain ⟨s1, s2⟩ := ns_in hp
    have r1 := hp.r1
    have r8 := hp.r8
    have z1 := hp.s1
    have f1 : 0 ≤ fstS c o := by unfold fstS; omega
    have f2 : fstS c o ≤ 10000 := by unfold fstS; omega
    have hk8 : c.s ≤ 8 := hp.s8
    obtain ⟨k, hk⟩ : ∃ k : Nat, c.s = (k : Int) := ⟨c.s.toNat, by omega⟩
    have hkn : c.s.toNat = k := by omega
    rw [hkn]
    have F := hide (fun (w0 : World) => pfst_any c o w0 hp o1 o2)
    obtain ⟨f, hfe⟩ : ∃ f, f = fstS c o := ⟨_, rfl⟩
    rw [← hfe] at F f1 f2 ⊢
    have hk9 : k ≤ 8 := by omega
    have hx0 := bx_new c w
    obtain ⟨w0, hw0⟩ : ∃ w0, w0 = w.alloc (.cells #[.int .i64 c.r, .int .i64 c.o, .int .i64 c.s, .int .i64 c.d, .int .i64 c.t, .int .i64 c.l, .int .i64 c.g, .int .i64 c.k, .int .i64 c.u, .int .i64 c.e, .int .i64 c.i, .int .i64 c.p] 23) := ⟨_, rfl⟩
    have b0 : Below w.heap.size w w0 := by rw [hw0]; exact below_new w _
    rw [← hw0] at hx0
    replace b0 := hide b0
    have L := level_any c o w0
    rw [hl] at L
    replace L := hide L
    clear q0 q1 n1 n2 s1 s2 r1 r8 z1 hp o1 o2 hok hl hfe eD hkn
    obtain ⟨a0, a1, a2, a3, a4, a5, a6, a7, a8, a9, a10, a11⟩ := hx0.cells
    replace hk := hide hk
    unfold cv
    go_enter Tryz.func15, Tryz.ntmps15
    go_wp2_with fail
    rw [← hw0]
    replace hw0 := hide hw0
    refine (unhide L).mono ?_
    rintro e w1 ⟨rfl, b1⟩
    have hx1 := hx0.next b1
    have B1 := hide (below_then (unhide b0) b1)
    clear a0 a1 a2 a3 a4 a5 a6 a7 a8 a9 a10 a11 b1
    obtain ⟨a0, a1, a2, a3, a4, a5, a6, a7, a8, a9, a10, a11⟩ := hx1.cells
    go_wp2_with fail
    refine (unhide F w1).mono ?_
    rintro e w2 ⟨rfl, b2⟩
    have hx2 := hx1.next b2
    have B2 := hide (below_then (unhide B1) b2)
    clear a0 a1 a2 a3 a4 a5 a6 a7 a8 a9 a10 a11 b2
    obtain ⟨a0, a1, a2, a3, a4, a5, a6, a7, a8, a9, a10, a11⟩ := hx2.cells
    rw [unhide hk] at a2
    clear hx0 hx1 hx2
    go_wp2_with fail
    clear a0 a1 a2 a3 a4 a5 a6 a7 a8 a9 a10 a11
    go_loopw [9, 21] (fun s9 s21 wr => ∃ t : Nat, t ≤ k ∧ s9 = .int .i64 (strK n T who f t : Nat) ∧ s21 = .int .i64 t ∧ Hid (Below w.heap.size w wr)) (fun _ s21 _ => k - (intOf s21).toNat)
    case atStart => exact ⟨0, Nat.zero_le _, rfl, rfl, unhide B2⟩
    case round =>
      obtain ⟨t, ht, rfl, rfl, b3⟩ := hrel
      by_cases hlt : t < k
      · have hle := strK_le n T who f t
        have hst : Hid (strK n T who f (t + 1) = strK n T who f t + (if holdT n T who (f + t) = 0 then 0 else 1)) := rfl
        generalize strK n T who f t = m at hle hst ⊢
        obtain ⟨v, hv⟩ : ∃ v, v = holdT n T who (f + t) := ⟨_, rfl⟩
        rw [← hv] at hst
        replace hv := hide hv
        have q1 : wrap64 (f + t) = f + t := by unfold wrap64; omega
        have q2 : IntKind.i64.wrap (f + t) = f + t := by rw [IntKind.wrap_i64]; omega
        go_wp2_with fail
        try rw [q1]
        try rw [q2]
        refine (holds_n2 _ ((unhide H).next (unhide b3)) hf who (f + t) (unhide hv).symm).mono ?_
        rintro e w4 ⟨rfl, b4⟩
        replace b4 := hide (below_then (unhide b3) b4)
        clear q1 q2
        by_cases hv0 : v = 0
        · have e0 : (v != 0) = false := by simp [hv0]
          have hst2 : Hid (strK n T who f (t + 1) = m) := by show _ = _; rw [unhide hst, if_pos hv0]; rfl
          clear hv0
          go_wp2
          go_roundw
          case rel => exact ⟨t + 1, by omega, by rw [unhide hst2], by go_num, unhide b4⟩
          case measure => simp [intOf]; omega
        · have e0 : (v != 0) = true := by simp [hv0]
          have hst2 : Hid (strK n T who f (t + 1) = m + 1) := by show _ = _; rw [unhide hst, if_neg hv0]
          clear hv0
          go_wp2
          go_roundw
          case rel => exact ⟨t + 1, by omega, by rw [unhide hst2]; go_num, by go_num, unhide b4⟩
          case measure => simp [intOf]; omega
      · obtain rfl : t = k := by omega
        go_wp2
        go_ret
        exact ⟨rfl, unhide b3⟩
  · have e0 : strD c n T who o = 0 := by unfold strD; rw [if_neg hl]
    rw [e0]
    have L := hide (fun w0 : World => level_any c o w0)
    generalize levelD c o = l at L hl
    have hl2 : (l != 1) = true := by simpa using hl
    clear hl e0
    unfold cv
    go_enter Tryz.func15, Tryz.ntmps15
    go_wp2_with fail
    refine (unhide L _).mono ?_
    rintro e w1 ⟨rfl, b1⟩
    replace b1 := hide (below_call b1)
    go_wp2
    go_ret
    exact ⟨rfl, unhide b1⟩
set_option maxRecDepth 100000 in
theorem esc_p (c : Cf) (w : World) (h : Tn B n most T b w) (hf : Few n 1000 T) (who o : Int) {r : Bool} (hr : escB c n T who o = r) :
    Calls Tryz.prog 41 #[cv c, .pointer (some ⟨b, 0, none⟩), .int .i64 who, .int .i64 o] w fun e w' => e = .returned (.bool r) ∧ Below w.heap.size w w' := by
  subst hr
  unfold escB
  have H := hide h
  clear h
  obtain ⟨m, hm⟩ : ∃ m, m = strD c n T who o := ⟨_, rfl⟩
  rw [← hm]
  have hx := bx_new c w
  obtain ⟨w0, hw0⟩ : ∃ w0, w0 = w.alloc (.cells #[.int .i64 c.r, .int .i64 c.o, .int .i64 c.s, .int .i64 c.d, .int .i64 c.t, .int .i64 c.l, .int .i64 c.g, .int .i64 c.k, .int .i64 c.u, .int .i64 c.e, .int .i64 c.i, .int .i64 c.p] 23) := ⟨_, rfl⟩
  have b0 : Below w.heap.size w w0 := by rw [hw0]; exact below_new w _
  replace b0 := hide b0
  by_cases he : 0 < c.e
  · have hd : decide (0 < c.e) = true := decide_eq_true he
    rw [hd]
    have S := stripes_p c w0.drew ((unhide H).next (unhide b0)).drew hf who o hm.symm
    unfold cv at S
    rw [hw0] at S
    replace S := hide S
    replace hm := hide hm
    cases hq : decide (c.e ≤ (m : Int))
    all_goals
      have hge : decide ((m : Int) ≥ c.e) = _ := hq
      unfold cv
      go_enter Tryz.func41, Tryz.ntmps41
      go_wp2_with fail
      go_region_held3 (fun wz => wz.cell? ⟨w.heap.size, 0, none⟩ = some (.int .i64 c.r) ∧ wz.cell? ⟨w.heap.size, 1, none⟩ = some (.int .i64 c.o) ∧ wz.cell? ⟨w.heap.size, 2, none⟩ = some (.int .i64 c.s) ∧ wz.cell? ⟨w.heap.size, 3, none⟩ = some (.int .i64 c.d) ∧ wz.cell? ⟨w.heap.size, 4, none⟩ = some (.int .i64 c.t) ∧ wz.cell? ⟨w.heap.size, 5, none⟩ = some (.int .i64 c.l) ∧ wz.cell? ⟨w.heap.size, 6, none⟩ = some (.int .i64 c.g) ∧ wz.cell? ⟨w.heap.size, 7, none⟩ = some (.int .i64 c.k) ∧ wz.cell? ⟨w.heap.size, 8, none⟩ = some (.int .i64 c.u) ∧ wz.cell? ⟨w.heap.size, 9, none⟩ = some (.int .i64 c.e) ∧ wz.cell? ⟨w.heap.size, 10, none⟩ = some (.int .i64 c.i) ∧ wz.cell? ⟨w.heap.size, 11, none⟩ = some (.int .i64 c.p)) (first | exact hx.drew.cells | exact hx1.cells)
        (first
          | (go_at_call 15; (with_reducible refine Calls.mono (unhide S) ?_); rintro e w1 ⟨rfl, hb⟩; have hx1 := hx.drew.next hb; have hbb := hide (below_drew hb)))
      go_wp2
      go_ret
      exact ⟨rfl, unhide hbb⟩
  · have hd : decide (0 < c.e) = false := decide_eq_false he
    rw [hd]
    have hg : decide (c.e > 0) = false := hd
    have hne : Nonempty (Wd c w.heap.size w) := ⟨⟨_, hx, below_new w _⟩⟩
    have q9 : ∀ x : Wd c w.heap.size w, x.w.cell? ⟨w.heap.size, 9, none⟩ = some (.int .i64 c.e) := Wd.cells.2.2.2.2.2.2.2.2.2.1
    clear hw0 hm b0
    unfold cv
    go_enter Tryz.func41, Tryz.ntmps41
    go_wp2_with fail
    refine wp_region_wd hx (below_new w _) (by kernel_rfl) (by kernel_rfl) ?_
    try simp only [List.append]
    repeat (go_big_quiet_step (fail))
    refine wpQuiet_nil ?_
    intro w6 hw'
    have b6 : Hid (Below w.heap.size w w6) := by
      obtain ⟨x, hx⟩ := hw'
      rw [hx]
      exact x.bel
    clear hw' q9 hne hx
    go_wp2
    go_ret
    exact ⟨rfl, unhide b6⟩
end Go.Proofs.YtdhpahopfmcdkaaGreat

/- Next of package path; able. -/
namespace Go.Proofs.YtdhpahopfmcdkaaGreat
open Go.RowKit
variable {B n : Nat} {most : Int} {T : Nat → Lv} {b : Nat}

theorem results_cell_two {fn : Func} {p u v : Tmp} {ty : TypeId} (h : fn.results = #[.cell p ty, .tmp u, .tmp v]) (tmps : Array Value) (P : Program) (w : World) :
    (results fn tmps).run P w =
      ((asAddr (tmps.getD p undef)).run P w).andThen fun a w₁ => ((loadVar ty a).run P w₁).andThen fun x w₂ => .ok (.tuple #[x, tmps.getD u undef, tmps.getD v undef]) w₂ := by
  simp only [results, h]
  simp [Sem.run_bind, Result.andThen]
/-- What Next walks over: the configuration's box, the answer's block, the table. -/
structure Nx (c : Cf) (q p B n : Nat) (most : Int) (T : Nat → Lv) (b : Nat) (w0 w : World) : Prop where
  bx : Bx c q w
  pl : w.heap[p]? = some (.cells #[.int .i64 0, .int .i64 0] 41 (0, 0))
  tn : Tn B n most T b w
  bel : Below w0.heap.size w0 w
theorem Nx.next {c : Cf} {q p : Nat} {w0 w w' : World} (h : Nx c q p B n most T b w0 w) (k : Below w.heap.size w w') : Nx c q p B n most T b w0 w' :=
  ⟨h.bx.next k, (k.block p (heap_lt h.pl)).trans h.pl, h.tn.next k, below_then h.bel k⟩
/-- The answer of Next. -/
def nxV (x : (Int × Int) × Bool) (e : Int) : Value := .tuple #[.agg #[.int .i64 x.1.1, .int .i64 x.1.2], .bool x.2, .int .i64 e]
theorem set2_below {w0 w : World} {p : Nat} (h : Below w0.heap.size w0 w) (hp : w0.heap.size ≤ p) (u v : Value) : Below w0.heap.size w0 ((w.setCell ⟨p, 0, none⟩ u).setCell ⟨p, 1, none⟩ v) :=
  (h.setCell (p := ⟨p, 0, none⟩) hp u).setCell (p := ⟨p, 1, none⟩) hp v
set_option maxRecDepth 100000 in
set_option maxHeartbeats 8000000 in
theorem next_in (c : Cf) (w : World) (h : Tn B n most T b w) (hf : Few n 1000 T) (who a : Int) (write : Bool) (hok : okB c = true) (h0 : 0 ≤ a) (h1 : a < nw c) {x : (Int × Int) × Bool} (hx : nextD c n T who a write = x) :
    Calls Tryz.prog 13 #[cv c, .pointer (some ⟨b, 0, none⟩), .int .i64 who, .int .i64 a, .bool write] w fun e w' => e = .returned (nxV x 0) ∧ Below w.heap.size w w' := by
  unfold nextD at hx
  obtain ⟨r, hr⟩ : ∃ r, r = rD c a := ⟨_, rfl⟩
  obtain ⟨o, ho⟩ : ∃ o, o = c.r + oD c a := ⟨_, rfl⟩
  obtain ⟨s, hs⟩ : ∃ s, s = c.r + no c + sD c a := ⟨_, rfl⟩
  rw [← hr, ← ho, ← hs] at hx
  have P := hide (fun w0 : World => path_ok c a w0 hok h0 h1)
  rw [← hr, ← ho, ← hs] at P
  obtain ⟨N, hN⟩ : ∃ N, N = w.heap.size := ⟨_, rfl⟩
  obtain ⟨w1, hw1⟩ : ∃ w1, w1 = (w.alloc (.cells #[.int .i64 c.r, .int .i64 c.o, .int .i64 c.s, .int .i64 c.d, .int .i64 c.t, .int .i64 c.l, .int .i64 c.g, .int .i64 c.k, .int .i64 c.u, .int .i64 c.e, .int .i64 c.i, .int .i64 c.p] 23)).alloc (.cells #[.int .i64 0, .int .i64 0] 41) := ⟨_, rfl⟩
  have X1 : Nx c N (N + 1) B n most T b w w1 := by
    have b0 := below_new w (.cells #[.int .i64 c.r, .int .i64 c.o, .int .i64 c.s, .int .i64 c.d, .int .i64 c.t, .int .i64 c.l, .int .i64 c.g, .int .i64 c.k, .int .i64 c.u, .int .i64 c.e, .int .i64 c.i, .int .i64 c.p] 23)
    have b1 := below_new (w.alloc (.cells #[.int .i64 c.r, .int .i64 c.o, .int .i64 c.s, .int .i64 c.d, .int .i64 c.t, .int .i64 c.l, .int .i64 c.g, .int .i64 c.k, .int .i64 c.u, .int .i64 c.e, .int .i64 c.i, .int .i64 c.p] 23)) (.cells #[.int .i64 0, .int .i64 0] 41)
    rw [hw1, hN]
    refine ⟨(bx_new c w).next b1, ?_, (h.next b0).next b1, below_then b0 b1⟩
    have := heap_alloc_new (w.alloc (.cells #[.int .i64 c.r, .int .i64 c.o, .int .i64 c.s, .int .i64 c.d, .int .i64 c.t, .int .i64 c.l, .int .i64 c.g, .int .i64 c.k, .int .i64 c.u, .int .i64 c.e, .int .i64 c.i, .int .i64 c.p] 23)) (.cells #[.int .i64 0, .int .i64 0] 41)
    rw [World.size_alloc] at this
    exact this
  obtain ⟨a0, a1, a2, a3, a4, a5, a6, a7, a8, a9, a10, a11⟩ := X1.bx.cells
  have hNw : Hid (w.heap.size ≤ N + 1) := by show _ ≤ _; omega
  replace X1 := hide X1
  have HT := hide h
  clear h hr ho hs hok h0 h1
  unfold cv
  go_enter Tryz.func13, Tryz.ntmps13
  go_wp2_with fail
  rw [← hN, ← hw1]
  replace hw1 := hide hw1
  replace hN := hide hN
  refine (unhide P w1).mono ?_
  rintro e w2 ⟨rfl, b2⟩
  have X2 := hide ((unhide X1).next b2)
  clear a0 a1 a2 a3 a4 a5 a6 a7 a8 a9 a10 a11 b2
  go_wp2_with fail
  refine (wanted_any write _).mono ?_
  rintro e w3 ⟨rfl, rfl⟩
  go_wp2_with fail
  refine (intent_want write _).mono ?_
  rintro e w2 ⟨rfl, rfl⟩
  unfold nextK at hx
  cases k1 : coversB (holdT n T who r) (inD write)
  · rw [if_pos k1] at hx
    subst hx
    have K1 := hide k1
    clear k1
    go_wp2_with fail
    refine (covers_p w2 (unhide X2).tn hf who r (inD write) (unhide K1)).mono ?_
    rintro e w4 ⟨rfl, b4⟩
    have X4 := hide ((unhide X2).next b4)
    obtain ⟨y0, y1, y2, y3⟩ := lock_cells (unhide X4).pl
    have BE := hide (set2_below (unhide X4).bel (unhide hNw) (.int .i64 r) (.int .i64 (inD write)))
    clear b4
    go_wp2
    refine bodyPost_ret (v := nxV ((r, inD write), true) 0) ?_ rfl ⟨rfl, unhide BE⟩
    rw [results_cell_two rfl]
    unfold nxV
    go_simp
  rw [if_neg (by rw [k1]; decide)] at hx
  have K1 := hide k1
  clear k1
  go_wp2_with fail
  refine (covers_p w2 (unhide X2).tn hf who r (inD write) (unhide K1)).mono ?_
  rintro e w4 ⟨rfl, b4⟩
  have X4 := hide ((unhide X2).next b4)
  clear b4
  cases k2 : wholeB write (holdT n T who o)
  · rw [if_neg (by rw [k2]; decide)] at hx
    have K2 := hide k2
    clear k2
    go_wp2_with fail
    refine (whole_p w4 (unhide X4).tn hf who o write (unhide K2)).mono ?_
    rintro e w5 ⟨rfl, b5⟩
    have X5 := hide ((unhide X4).next b5)
    clear b5
    cases k3 : coversB (holdT n T who s) (wantD write)
    · cases k4 : escB c n T who o
      · rw [k3, k4, if_neg (by decide)] at hx
        replace hx := hide hx
        have K3 := hide k3
        have K4 := hide k4
        clear k3 k4
        go_wp2_with fail
        refine (covers_p w5 (unhide X5).tn hf who s (wantD write) (unhide K3)).mono ?_
        rintro e w6 ⟨rfl, b6⟩
        have X6 := hide ((unhide X5).next b6)
        clear b6
        obtain ⟨a0, a1, a2, a3, a4, a5, a6, a7, a8, a9, a10, a11⟩ := (unhide X6).bx.cells
        go_wp2_with fail
        refine (esc_p c w6 (unhide X6).tn hf who o (unhide K4)).mono ?_
        rintro e w7 ⟨rfl, b7⟩
        have X7 := hide ((unhide X6).next b7)
        clear b7 a0 a1 a2 a3 a4 a5 a6 a7 a8 a9 a10 a11
        cases k5 : coversB (holdT n T who o) (inD write)
        · replace hx := unhide hx
          rw [if_pos k5] at hx
          subst hx
          have K5 := hide k5
          clear k5
          go_wp2_with fail
          refine (covers_p w7 (unhide X7).tn hf who o (inD write) (unhide K5)).mono ?_
          rintro e w8 ⟨rfl, b8⟩
          have X8 := hide ((unhide X7).next b8)
          obtain ⟨y0, y1, y2, y3⟩ := lock_cells (unhide X8).pl
          have BE := hide (set2_below (unhide X8).bel (unhide hNw) (.int .i64 o) (.int .i64 (inD write)))
          clear b8
          go_wp2
          refine bodyPost_ret (v := nxV ((o, inD write), true) 0) ?_ rfl ⟨rfl, unhide BE⟩
          rw [results_cell_two rfl]
          unfold nxV
          go_simp
        · replace hx := unhide hx
          rw [k5, if_neg (by decide), if_pos trivial] at hx
          subst hx
          have K5 := hide k5
          clear k5
          go_wp2_with fail
          refine (covers_p w7 (unhide X7).tn hf who o (inD write) (unhide K5)).mono ?_
          rintro e w8 ⟨rfl, b8⟩
          have X8 := hide ((unhide X7).next b8)
          obtain ⟨y0, y1, y2, y3⟩ := lock_cells (unhide X8).pl
          have BE := hide (set2_below (unhide X8).bel (unhide hNw) (.int .i64 s) (.int .i64 (wantD write)))
          clear b8
          go_wp2
          refine bodyPost_ret (v := nxV ((s, wantD write), true) 0) ?_ rfl ⟨rfl, unhide BE⟩
          rw [results_cell_two rfl]
          unfold nxV
          go_simp
      · rw [k3, k4, if_pos ⟨rfl, rfl⟩] at hx
        subst hx
        have K3 := hide k3
        have K4 := hide k4
        clear k3 k4
        go_wp2_with fail
        refine (covers_p w5 (unhide X5).tn hf who s (wantD write) (unhide K3)).mono ?_
        rintro e w6 ⟨rfl, b6⟩
        have X6 := hide ((unhide X5).next b6)
        clear b6
        obtain ⟨a0, a1, a2, a3, a4, a5, a6, a7, a8, a9, a10, a11⟩ := (unhide X6).bx.cells
        go_wp2_with fail
        refine (esc_p c w6 (unhide X6).tn hf who o (unhide K4)).mono ?_
        rintro e w7 ⟨rfl, b7⟩
        have X7 := hide ((unhide X6).next b7)
        obtain ⟨y0, y1, y2, y3⟩ := lock_cells (unhide X7).pl
        have BE := hide (set2_below (unhide X7).bel (unhide hNw) (.int .i64 o) (.int .i64 (wantD write)))
        clear b7 a0 a1 a2 a3 a4 a5 a6 a7 a8 a9 a10 a11
        go_wp2
        refine bodyPost_ret (v := nxV ((o, wantD write), true) 0) ?_ rfl ⟨rfl, unhide BE⟩
        rw [results_cell_two rfl]
        unfold nxV
        go_simp
    · rw [if_neg (by rw [k3]; exact fun e => absurd e.1 (by decide))] at hx
      replace hx := hide hx
      have K3 := hide k3
      clear k3
      go_wp2_with fail
      refine (covers_p w5 (unhide X5).tn hf who s (wantD write) (unhide K3)).mono ?_
      rintro e w6 ⟨rfl, b6⟩
      have X6 := hide ((unhide X5).next b6)
      clear b6
      cases k5 : coversB (holdT n T who o) (inD write)
      · replace hx := unhide hx
        rw [if_pos k5] at hx
        subst hx
        have K5 := hide k5
        clear k5
        go_wp2_with fail
        refine (covers_p w6 (unhide X6).tn hf who o (inD write) (unhide K5)).mono ?_
        rintro e w8 ⟨rfl, b8⟩
        have X8 := hide ((unhide X6).next b8)
        obtain ⟨y0, y1, y2, y3⟩ := lock_cells (unhide X8).pl
        have BE := hide (set2_below (unhide X8).bel (unhide hNw) (.int .i64 o) (.int .i64 (inD write)))
        clear b8
        go_wp2
        refine bodyPost_ret (v := nxV ((o, inD write), true) 0) ?_ rfl ⟨rfl, unhide BE⟩
        rw [results_cell_two rfl]
        unfold nxV
        go_simp
      · replace hx := unhide hx
        rw [k5, if_neg (by decide), if_neg (by rw [unhide K3]; decide)] at hx
        subst hx
        have K5 := hide k5
        clear k5
        go_wp2_with fail
        refine (covers_p w6 (unhide X6).tn hf who o (inD write) (unhide K5)).mono ?_
        rintro e w8 ⟨rfl, b8⟩
        have X8 := hide ((unhide X6).next b8)
        obtain ⟨y0, y1, y2, y3⟩ := lock_cells (unhide X8).pl
        have BE := hide (set2_below (unhide X8).bel (unhide hNw) (.int .i64 0) (.int .i64 0))
        clear b8
        go_wp2
        refine bodyPost_ret (v := nxV ((0, 0), false) 0) ?_ rfl ⟨rfl, unhide BE⟩
        rw [results_cell_two rfl]
        unfold nxV
        go_simp
  · rw [if_pos k2] at hx
    subst hx
    have K2 := hide k2
    clear k2
    go_wp2_with fail
    refine (whole_p w4 (unhide X4).tn hf who o write (unhide K2)).mono ?_
    rintro e w5 ⟨rfl, b5⟩
    have X5 := hide ((unhide X4).next b5)
    obtain ⟨y0, y1, y2, y3⟩ := lock_cells (unhide X5).pl
    have BE := hide (set2_below (unhide X5).bel (unhide hNw) (.int .i64 0) (.int .i64 0))
    clear b5
    go_wp2
    refine bodyPost_ret (v := nxV ((0, 0), false) 0) ?_ rfl ⟨rfl, unhide BE⟩
    rw [results_cell_two rfl]
    unfold nxV
    go_simp
end Go.Proofs.YtdhpahopfmcdkaaGreat

/- Ways of the reference's Check in which a part that is not the heap's is out of its bounds. -/
namespace Go.Proofs.YtdhpahopfmcdkaaGreat
open Go.RowKit

set_option maxHeartbeats 2000000 in
set_option maxRecDepth 100000 in
theorem rcheck_lo0 (c : Cf) (w : World) (h : Hp c) (u : c.t < 1) : Calls Tryz.prog 17 #[cv c] w fun e w' => e = .returned (.int .i64 (errOf (okB c))) ∧ Below w.heap.size w w' := by
  have h1 := h.r1
  have h2 := h.r8
  have h3 := h.o1
  have h4 := h.o8
  have h5 := h.s1
  have h6 := h.s8
  have h7 := h.d1
  have h8 := h.d8
  have EB : Hid (errOf (okB c) = 1) := by
    have e0 : inB c.t 1 64 = false := inB_no.2 (by omega)
    have eb : okB c = false := by simp [okB, heapB, roomB, e0]
    rw [eb]; rfl
  clear h
  unfold cv
  go_enter Tryz.func17, Tryz.ntmps17
  go_wp2
  go_loop [4] (fun i => ∃ k : Int, i = .int .i64 k ∧ (k = 0 ∨ k = 1 ∨ k = 2 ∨ k = 3 ∨ k = 4)) (fun i => (4 - intOf i).toNat)
  case atStart => exact ⟨0, rfl, .inl rfl⟩
  case round =>
    obtain ⟨k, rfl, hk⟩ := hrel
    rcases hk with rfl | rfl | rfl | rfl | rfl
    · go_wp2
      go_round
      case rel => exact ⟨1, rfl, by omega⟩
      case measure => simp [intOf]
    · go_wp2
      go_round
      case rel => exact ⟨2, rfl, by omega⟩
      case measure => simp [intOf]
    · go_wp2
      go_round
      case rel => exact ⟨3, rfl, by omega⟩
      case measure => simp [intOf]
    · go_wp2
      go_round
      case rel => exact ⟨4, rfl, by omega⟩
      case measure => simp [intOf]
    · clear h1 h2 h3 h4 h5 h6 h7 h8
      go_wp2
      go_ret
      exact ⟨ret_int (unhide EB).symm, (below_new _ _).alloc (by simp) _⟩

set_option maxHeartbeats 2000000 in
set_option maxRecDepth 100000 in
theorem rcheck_hi0 (c : Cf) (w : World) (h : Hp c) (t0 : 1 ≤ c.t) (u : 64 < c.t) : Calls Tryz.prog 17 #[cv c] w fun e w' => e = .returned (.int .i64 (errOf (okB c))) ∧ Below w.heap.size w w' := by
  have h1 := h.r1
  have h2 := h.r8
  have h3 := h.o1
  have h4 := h.o8
  have h5 := h.s1
  have h6 := h.s8
  have h7 := h.d1
  have h8 := h.d8
  have EB : Hid (errOf (okB c) = 1) := by
    have e0 : inB c.t 1 64 = false := inB_no.2 (by omega)
    have eb : okB c = false := by simp [okB, heapB, roomB, e0]
    rw [eb]; rfl
  clear h
  unfold cv
  go_enter Tryz.func17, Tryz.ntmps17
  go_wp2
  go_loop [4] (fun i => ∃ k : Int, i = .int .i64 k ∧ (k = 0 ∨ k = 1 ∨ k = 2 ∨ k = 3 ∨ k = 4)) (fun i => (4 - intOf i).toNat)
  case atStart => exact ⟨0, rfl, .inl rfl⟩
  case round =>
    obtain ⟨k, rfl, hk⟩ := hrel
    rcases hk with rfl | rfl | rfl | rfl | rfl
    · go_wp2
      go_round
      case rel => exact ⟨1, rfl, by omega⟩
      case measure => simp [intOf]
    · go_wp2
      go_round
      case rel => exact ⟨2, rfl, by omega⟩
      case measure => simp [intOf]
    · go_wp2
      go_round
      case rel => exact ⟨3, rfl, by omega⟩
      case measure => simp [intOf]
    · go_wp2
      go_round
      case rel => exact ⟨4, rfl, by omega⟩
      case measure => simp [intOf]
    · clear h1 h2 h3 h4 h5 h6 h7 h8
      go_wp2
      go_ret
      exact ⟨ret_int (unhide EB).symm, (below_new _ _).alloc (by simp) _⟩

set_option maxHeartbeats 2000000 in
set_option maxRecDepth 100000 in
theorem rcheck_lo1 (c : Cf) (w : World) (h : Hp c) (t0 : 1 ≤ c.t) (z0 : c.t ≤ 64) (u : c.l < 0) : Calls Tryz.prog 17 #[cv c] w fun e w' => e = .returned (.int .i64 (errOf (okB c))) ∧ Below w.heap.size w w' := by
  have h1 := h.r1
  have h2 := h.r8
  have h3 := h.o1
  have h4 := h.o8
  have h5 := h.s1
  have h6 := h.s8
  have h7 := h.d1
  have h8 := h.d8
  have EB : Hid (errOf (okB c) = 1) := by
    have e0 : inB c.l 0 48 = false := inB_no.2 (by omega)
    have eb : okB c = false := by simp [okB, heapB, roomB, e0]
    rw [eb]; rfl
  clear h
  unfold cv
  go_enter Tryz.func17, Tryz.ntmps17
  go_wp2
  go_loop [4] (fun i => ∃ k : Int, i = .int .i64 k ∧ (k = 0 ∨ k = 1 ∨ k = 2 ∨ k = 3 ∨ k = 4)) (fun i => (4 - intOf i).toNat)
  case atStart => exact ⟨0, rfl, .inl rfl⟩
  case round =>
    obtain ⟨k, rfl, hk⟩ := hrel
    rcases hk with rfl | rfl | rfl | rfl | rfl
    · go_wp2
      go_round
      case rel => exact ⟨1, rfl, by omega⟩
      case measure => simp [intOf]
    · go_wp2
      go_round
      case rel => exact ⟨2, rfl, by omega⟩
      case measure => simp [intOf]
    · go_wp2
      go_round
      case rel => exact ⟨3, rfl, by omega⟩
      case measure => simp [intOf]
    · go_wp2
      go_round
      case rel => exact ⟨4, rfl, by omega⟩
      case measure => simp [intOf]
    · clear h1 h2 h3 h4 h5 h6 h7 h8
      go_wp2
      go_ret
      exact ⟨ret_int (unhide EB).symm, (below_new _ _).alloc (by simp) _⟩

set_option maxHeartbeats 2000000 in
set_option maxRecDepth 100000 in
theorem rcheck_hi1 (c : Cf) (w : World) (h : Hp c) (t0 : 1 ≤ c.t) (z0 : c.t ≤ 64) (t1 : 0 ≤ c.l) (u : 48 < c.l) : Calls Tryz.prog 17 #[cv c] w fun e w' => e = .returned (.int .i64 (errOf (okB c))) ∧ Below w.heap.size w w' := by
  have h1 := h.r1
  have h2 := h.r8
  have h3 := h.o1
  have h4 := h.o8
  have h5 := h.s1
  have h6 := h.s8
  have h7 := h.d1
  have h8 := h.d8
  have EB : Hid (errOf (okB c) = 1) := by
    have e0 : inB c.l 0 48 = false := inB_no.2 (by omega)
    have eb : okB c = false := by simp [okB, heapB, roomB, e0]
    rw [eb]; rfl
  clear h
  unfold cv
  go_enter Tryz.func17, Tryz.ntmps17
  go_wp2
  go_loop [4] (fun i => ∃ k : Int, i = .int .i64 k ∧ (k = 0 ∨ k = 1 ∨ k = 2 ∨ k = 3 ∨ k = 4)) (fun i => (4 - intOf i).toNat)
  case atStart => exact ⟨0, rfl, .inl rfl⟩
  case round =>
    obtain ⟨k, rfl, hk⟩ := hrel
    rcases hk with rfl | rfl | rfl | rfl | rfl
    · go_wp2
      go_round
      case rel => exact ⟨1, rfl, by omega⟩
      case measure => simp [intOf]
    · go_wp2
      go_round
      case rel => exact ⟨2, rfl, by omega⟩
      case measure => simp [intOf]
    · go_wp2
      go_round
      case rel => exact ⟨3, rfl, by omega⟩
      case measure => simp [intOf]
    · go_wp2
      go_round
      case rel => exact ⟨4, rfl, by omega⟩
      case measure => simp [intOf]
    · clear h1 h2 h3 h4 h5 h6 h7 h8
      go_wp2
      go_ret
      exact ⟨ret_int (unhide EB).symm, (below_new _ _).alloc (by simp) _⟩

end Go.Proofs.YtdhpahopfmcdkaaGreat

/- Ways of the reference's Check in which a part that is not the heap's is out of its bounds. -/
namespace Go.Proofs.YtdhpahopfmcdkaaGreat
open Go.RowKit

set_option maxHeartbeats 2000000 in
set_option maxRecDepth 100000 in
theorem rcheck_lo2 (c : Cf) (w : World) (h : Hp c) (t0 : 1 ≤ c.t) (z0 : c.t ≤ 64) (t1 : 0 ≤ c.l) (z1 : c.l ≤ 48) (u : c.g < 1) : Calls Tryz.prog 17 #[cv c] w fun e w' => e = .returned (.int .i64 (errOf (okB c))) ∧ Below w.heap.size w w' := by
  have h1 := h.r1
  have h2 := h.r8
  have h3 := h.o1
  have h4 := h.o8
  have h5 := h.s1
  have h6 := h.s8
  have h7 := h.d1
  have h8 := h.d8
  have EB : Hid (errOf (okB c) = 1) := by
    have e0 : inB c.g 1 8 = false := inB_no.2 (by omega)
    have eb : okB c = false := by simp [okB, heapB, roomB, e0]
    rw [eb]; rfl
  clear h
  unfold cv
  go_enter Tryz.func17, Tryz.ntmps17
  go_wp2
  go_loop [4] (fun i => ∃ k : Int, i = .int .i64 k ∧ (k = 0 ∨ k = 1 ∨ k = 2 ∨ k = 3 ∨ k = 4)) (fun i => (4 - intOf i).toNat)
  case atStart => exact ⟨0, rfl, .inl rfl⟩
  case round =>
    obtain ⟨k, rfl, hk⟩ := hrel
    rcases hk with rfl | rfl | rfl | rfl | rfl
    · go_wp2
      go_round
      case rel => exact ⟨1, rfl, by omega⟩
      case measure => simp [intOf]
    · go_wp2
      go_round
      case rel => exact ⟨2, rfl, by omega⟩
      case measure => simp [intOf]
    · go_wp2
      go_round
      case rel => exact ⟨3, rfl, by omega⟩
      case measure => simp [intOf]
    · go_wp2
      go_round
      case rel => exact ⟨4, rfl, by omega⟩
      case measure => simp [intOf]
    · clear h1 h2 h3 h4 h5 h6 h7 h8
      go_wp2
      go_ret
      exact ⟨ret_int (unhide EB).symm, (below_new _ _).alloc (by simp) _⟩

set_option maxHeartbeats 2000000 in
set_option maxRecDepth 100000 in
theorem rcheck_hi2 (c : Cf) (w : World) (h : Hp c) (t0 : 1 ≤ c.t) (z0 : c.t ≤ 64) (t1 : 0 ≤ c.l) (z1 : c.l ≤ 48) (t2 : 1 ≤ c.g) (u : 8 < c.g) : Calls Tryz.prog 17 #[cv c] w fun e w' => e = .returned (.int .i64 (errOf (okB c))) ∧ Below w.heap.size w w' := by
  have h1 := h.r1
  have h2 := h.r8
  have h3 := h.o1
  have h4 := h.o8
  have h5 := h.s1
  have h6 := h.s8
  have h7 := h.d1
  have h8 := h.d8
  have EB : Hid (errOf (okB c) = 1) := by
    have e0 : inB c.g 1 8 = false := inB_no.2 (by omega)
    have eb : okB c = false := by simp [okB, heapB, roomB, e0]
    rw [eb]; rfl
  clear h
  unfold cv
  go_enter Tryz.func17, Tryz.ntmps17
  go_wp2
  go_loop [4] (fun i => ∃ k : Int, i = .int .i64 k ∧ (k = 0 ∨ k = 1 ∨ k = 2 ∨ k = 3 ∨ k = 4)) (fun i => (4 - intOf i).toNat)
  case atStart => exact ⟨0, rfl, .inl rfl⟩
  case round =>
    obtain ⟨k, rfl, hk⟩ := hrel
    rcases hk with rfl | rfl | rfl | rfl | rfl
    · go_wp2
      go_round
      case rel => exact ⟨1, rfl, by omega⟩
      case measure => simp [intOf]
    · go_wp2
      go_round
      case rel => exact ⟨2, rfl, by omega⟩
      case measure => simp [intOf]
    · go_wp2
      go_round
      case rel => exact ⟨3, rfl, by omega⟩
      case measure => simp [intOf]
    · go_wp2
      go_round
      case rel => exact ⟨4, rfl, by omega⟩
      case measure => simp [intOf]
    · clear h1 h2 h3 h4 h5 h6 h7 h8
      go_wp2
      go_ret
      exact ⟨ret_int (unhide EB).symm, (below_new _ _).alloc (by simp) _⟩

set_option maxHeartbeats 2000000 in
set_option maxRecDepth 100000 in
theorem rcheck_lo3 (c : Cf) (w : World) (h : Hp c) (t0 : 1 ≤ c.t) (z0 : c.t ≤ 64) (t1 : 0 ≤ c.l) (z1 : c.l ≤ 48) (t2 : 1 ≤ c.g) (z2 : c.g ≤ 8) (u : c.k < 1) : Calls Tryz.prog 17 #[cv c] w fun e w' => e = .returned (.int .i64 (errOf (okB c))) ∧ Below w.heap.size w w' := by
  have h1 := h.r1
  have h2 := h.r8
  have h3 := h.o1
  have h4 := h.o8
  have h5 := h.s1
  have h6 := h.s8
  have h7 := h.d1
  have h8 := h.d8
  have EB : Hid (errOf (okB c) = 1) := by
    have e0 : inB c.k 1 4096 = false := inB_no.2 (by omega)
    have eb : okB c = false := by simp [okB, heapB, roomB, e0]
    rw [eb]; rfl
  clear h
  unfold cv
  go_enter Tryz.func17, Tryz.ntmps17
  go_wp2
  go_loop [4] (fun i => ∃ k : Int, i = .int .i64 k ∧ (k = 0 ∨ k = 1 ∨ k = 2 ∨ k = 3 ∨ k = 4)) (fun i => (4 - intOf i).toNat)
  case atStart => exact ⟨0, rfl, .inl rfl⟩
  case round =>
    obtain ⟨k, rfl, hk⟩ := hrel
    rcases hk with rfl | rfl | rfl | rfl | rfl
    · go_wp2
      go_round
      case rel => exact ⟨1, rfl, by omega⟩
      case measure => simp [intOf]
    · go_wp2
      go_round
      case rel => exact ⟨2, rfl, by omega⟩
      case measure => simp [intOf]
    · go_wp2
      go_round
      case rel => exact ⟨3, rfl, by omega⟩
      case measure => simp [intOf]
    · go_wp2
      go_round
      case rel => exact ⟨4, rfl, by omega⟩
      case measure => simp [intOf]
    · clear h1 h2 h3 h4 h5 h6 h7 h8
      go_wp2
      go_ret
      exact ⟨ret_int (unhide EB).symm, (below_new _ _).alloc (by simp) _⟩

set_option maxHeartbeats 2000000 in
set_option maxRecDepth 100000 in
theorem rcheck_hi3 (c : Cf) (w : World) (h : Hp c) (t0 : 1 ≤ c.t) (z0 : c.t ≤ 64) (t1 : 0 ≤ c.l) (z1 : c.l ≤ 48) (t2 : 1 ≤ c.g) (z2 : c.g ≤ 8) (t3 : 1 ≤ c.k) (u : 4096 < c.k) : Calls Tryz.prog 17 #[cv c] w fun e w' => e = .returned (.int .i64 (errOf (okB c))) ∧ Below w.heap.size w w' := by
  have h1 := h.r1
  have h2 := h.r8
  have h3 := h.o1
  have h4 := h.o8
  have h5 := h.s1
  have h6 := h.s8
  have h7 := h.d1
  have h8 := h.d8
  have EB : Hid (errOf (okB c) = 1) := by
    have e0 : inB c.k 1 4096 = false := inB_no.2 (by omega)
    have eb : okB c = false := by simp [okB, heapB, roomB, e0]
    rw [eb]; rfl
  clear h
  unfold cv
  go_enter Tryz.func17, Tryz.ntmps17
  go_wp2
  go_loop [4] (fun i => ∃ k : Int, i = .int .i64 k ∧ (k = 0 ∨ k = 1 ∨ k = 2 ∨ k = 3 ∨ k = 4)) (fun i => (4 - intOf i).toNat)
  case atStart => exact ⟨0, rfl, .inl rfl⟩
  case round =>
    obtain ⟨k, rfl, hk⟩ := hrel
    rcases hk with rfl | rfl | rfl | rfl | rfl
    · go_wp2
      go_round
      case rel => exact ⟨1, rfl, by omega⟩
      case measure => simp [intOf]
    · go_wp2
      go_round
      case rel => exact ⟨2, rfl, by omega⟩
      case measure => simp [intOf]
    · go_wp2
      go_round
      case rel => exact ⟨3, rfl, by omega⟩
      case measure => simp [intOf]
    · go_wp2
      go_round
      case rel => exact ⟨4, rfl, by omega⟩
      case measure => simp [intOf]
    · clear h1 h2 h3 h4 h5 h6 h7 h8
      go_wp2
      go_ret
      exact ⟨ret_int (unhide EB).symm, (below_new _ _).alloc (by simp) _⟩

end Go.Proofs.YtdhpahopfmcdkaaGreat

/- Ways of the reference's Check in which a part that is not the heap's is out of its bounds. -/
namespace Go.Proofs.YtdhpahopfmcdkaaGreat
open Go.RowKit

set_option maxHeartbeats 2000000 in
set_option maxRecDepth 100000 in
theorem rcheck_lo4 (c : Cf) (w : World) (h : Hp c) (t0 : 1 ≤ c.t) (z0 : c.t ≤ 64) (t1 : 0 ≤ c.l) (z1 : c.l ≤ 48) (t2 : 1 ≤ c.g) (z2 : c.g ≤ 8) (t3 : 1 ≤ c.k) (z3 : c.k ≤ 4096) (u : c.u < 1) : Calls Tryz.prog 17 #[cv c] w fun e w' => e = .returned (.int .i64 (errOf (okB c))) ∧ Below w.heap.size w w' := by
  have h1 := h.r1
  have h2 := h.r8
  have h3 := h.o1
  have h4 := h.o8
  have h5 := h.s1
  have h6 := h.s8
  have h7 := h.d1
  have h8 := h.d8
  have EB : Hid (errOf (okB c) = 1) := by
    have e0 : inB c.u 1 1000 = false := inB_no.2 (by omega)
    have eb : okB c = false := by simp [okB, heapB, roomB, e0]
    rw [eb]; rfl
  clear h
  unfold cv
  go_enter Tryz.func17, Tryz.ntmps17
  go_wp2
  go_loop [4] (fun i => ∃ k : Int, i = .int .i64 k ∧ (k = 0 ∨ k = 1 ∨ k = 2 ∨ k = 3 ∨ k = 4)) (fun i => (4 - intOf i).toNat)
  case atStart => exact ⟨0, rfl, .inl rfl⟩
  case round =>
    obtain ⟨k, rfl, hk⟩ := hrel
    rcases hk with rfl | rfl | rfl | rfl | rfl
    · go_wp2
      go_round
      case rel => exact ⟨1, rfl, by omega⟩
      case measure => simp [intOf]
    · go_wp2
      go_round
      case rel => exact ⟨2, rfl, by omega⟩
      case measure => simp [intOf]
    · go_wp2
      go_round
      case rel => exact ⟨3, rfl, by omega⟩
      case measure => simp [intOf]
    · go_wp2
      go_round
      case rel => exact ⟨4, rfl, by omega⟩
      case measure => simp [intOf]
    · clear h1 h2 h3 h4 h5 h6 h7 h8
      go_wp2
      go_ret
      exact ⟨ret_int (unhide EB).symm, (below_new _ _).alloc (by simp) _⟩

set_option maxHeartbeats 2000000 in
set_option maxRecDepth 100000 in
theorem rcheck_hi4 (c : Cf) (w : World) (h : Hp c) (t0 : 1 ≤ c.t) (z0 : c.t ≤ 64) (t1 : 0 ≤ c.l) (z1 : c.l ≤ 48) (t2 : 1 ≤ c.g) (z2 : c.g ≤ 8) (t3 : 1 ≤ c.k) (z3 : c.k ≤ 4096) (t4 : 1 ≤ c.u) (u : 1000 < c.u) : Calls Tryz.prog 17 #[cv c] w fun e w' => e = .returned (.int .i64 (errOf (okB c))) ∧ Below w.heap.size w w' := by
  have h1 := h.r1
  have h2 := h.r8
  have h3 := h.o1
  have h4 := h.o8
  have h5 := h.s1
  have h6 := h.s8
  have h7 := h.d1
  have h8 := h.d8
  have EB : Hid (errOf (okB c) = 1) := by
    have e0 : inB c.u 1 1000 = false := inB_no.2 (by omega)
    have eb : okB c = false := by simp [okB, heapB, roomB, e0]
    rw [eb]; rfl
  clear h
  unfold cv
  go_enter Tryz.func17, Tryz.ntmps17
  go_wp2
  go_loop [4] (fun i => ∃ k : Int, i = .int .i64 k ∧ (k = 0 ∨ k = 1 ∨ k = 2 ∨ k = 3 ∨ k = 4)) (fun i => (4 - intOf i).toNat)
  case atStart => exact ⟨0, rfl, .inl rfl⟩
  case round =>
    obtain ⟨k, rfl, hk⟩ := hrel
    rcases hk with rfl | rfl | rfl | rfl | rfl
    · go_wp2
      go_round
      case rel => exact ⟨1, rfl, by omega⟩
      case measure => simp [intOf]
    · go_wp2
      go_round
      case rel => exact ⟨2, rfl, by omega⟩
      case measure => simp [intOf]
    · go_wp2
      go_round
      case rel => exact ⟨3, rfl, by omega⟩
      case measure => simp [intOf]
    · go_wp2
      go_round
      case rel => exact ⟨4, rfl, by omega⟩
      case measure => simp [intOf]
    · clear h1 h2 h3 h4 h5 h6 h7 h8
      go_wp2
      go_ret
      exact ⟨ret_int (unhide EB).symm, (below_new _ _).alloc (by simp) _⟩

set_option maxHeartbeats 2000000 in
set_option maxRecDepth 100000 in
theorem rcheck_lo5 (c : Cf) (w : World) (h : Hp c) (t0 : 1 ≤ c.t) (z0 : c.t ≤ 64) (t1 : 0 ≤ c.l) (z1 : c.l ≤ 48) (t2 : 1 ≤ c.g) (z2 : c.g ≤ 8) (t3 : 1 ≤ c.k) (z3 : c.k ≤ 4096) (t4 : 1 ≤ c.u) (z4 : c.u ≤ 1000) (u : c.e < 0) : Calls Tryz.prog 17 #[cv c] w fun e w' => e = .returned (.int .i64 (errOf (okB c))) ∧ Below w.heap.size w w' := by
  have h1 := h.r1
  have h2 := h.r8
  have h3 := h.o1
  have h4 := h.o8
  have h5 := h.s1
  have h6 := h.s8
  have h7 := h.d1
  have h8 := h.d8
  have EB : Hid (errOf (okB c) = 1) := by
    have e0 : inB c.e 0 64 = false := inB_no.2 (by omega)
    have eb : okB c = false := by simp [okB, heapB, roomB, e0]
    rw [eb]; rfl
  clear h
  unfold cv
  go_enter Tryz.func17, Tryz.ntmps17
  go_wp2
  go_loop [4] (fun i => ∃ k : Int, i = .int .i64 k ∧ (k = 0 ∨ k = 1 ∨ k = 2 ∨ k = 3 ∨ k = 4)) (fun i => (4 - intOf i).toNat)
  case atStart => exact ⟨0, rfl, .inl rfl⟩
  case round =>
    obtain ⟨k, rfl, hk⟩ := hrel
    rcases hk with rfl | rfl | rfl | rfl | rfl
    · go_wp2
      go_round
      case rel => exact ⟨1, rfl, by omega⟩
      case measure => simp [intOf]
    · go_wp2
      go_round
      case rel => exact ⟨2, rfl, by omega⟩
      case measure => simp [intOf]
    · go_wp2
      go_round
      case rel => exact ⟨3, rfl, by omega⟩
      case measure => simp [intOf]
    · go_wp2
      go_round
      case rel => exact ⟨4, rfl, by omega⟩
      case measure => simp [intOf]
    · clear h1 h2 h3 h4 h5 h6 h7 h8
      go_wp2
      go_ret
      exact ⟨ret_int (unhide EB).symm, (below_new _ _).alloc (by simp) _⟩

set_option maxHeartbeats 2000000 in
set_option maxRecDepth 100000 in
theorem rcheck_hi5 (c : Cf) (w : World) (h : Hp c) (t0 : 1 ≤ c.t) (z0 : c.t ≤ 64) (t1 : 0 ≤ c.l) (z1 : c.l ≤ 48) (t2 : 1 ≤ c.g) (z2 : c.g ≤ 8) (t3 : 1 ≤ c.k) (z3 : c.k ≤ 4096) (t4 : 1 ≤ c.u) (z4 : c.u ≤ 1000) (t5 : 0 ≤ c.e) (u : 64 < c.e) : Calls Tryz.prog 17 #[cv c] w fun e w' => e = .returned (.int .i64 (errOf (okB c))) ∧ Below w.heap.size w w' := by
  have h1 := h.r1
  have h2 := h.r8
  have h3 := h.o1
  have h4 := h.o8
  have h5 := h.s1
  have h6 := h.s8
  have h7 := h.d1
  have h8 := h.d8
  have EB : Hid (errOf (okB c) = 1) := by
    have e0 : inB c.e 0 64 = false := inB_no.2 (by omega)
    have eb : okB c = false := by simp [okB, heapB, roomB, e0]
    rw [eb]; rfl
  clear h
  unfold cv
  go_enter Tryz.func17, Tryz.ntmps17
  go_wp2
  go_loop [4] (fun i => ∃ k : Int, i = .int .i64 k ∧ (k = 0 ∨ k = 1 ∨ k = 2 ∨ k = 3 ∨ k = 4)) (fun i => (4 - intOf i).toNat)
  case atStart => exact ⟨0, rfl, .inl rfl⟩
  case round =>
    obtain ⟨k, rfl, hk⟩ := hrel
    rcases hk with rfl | rfl | rfl | rfl | rfl
    · go_wp2
      go_round
      case rel => exact ⟨1, rfl, by omega⟩
      case measure => simp [intOf]
    · go_wp2
      go_round
      case rel => exact ⟨2, rfl, by omega⟩
      case measure => simp [intOf]
    · go_wp2
      go_round
      case rel => exact ⟨3, rfl, by omega⟩
      case measure => simp [intOf]
    · go_wp2
      go_round
      case rel => exact ⟨4, rfl, by omega⟩
      case measure => simp [intOf]
    · clear h1 h2 h3 h4 h5 h6 h7 h8
      go_wp2
      go_ret
      exact ⟨ret_int (unhide EB).symm, (below_new _ _).alloc (by simp) _⟩

end Go.Proofs.YtdhpahopfmcdkaaGreat

/- Ways of the reference's Check in which a part that is not the heap's is out of its bounds. -/
namespace Go.Proofs.YtdhpahopfmcdkaaGreat
open Go.RowKit

set_option maxHeartbeats 2000000 in
set_option maxRecDepth 100000 in
theorem rcheck_lo6 (c : Cf) (w : World) (h : Hp c) (t0 : 1 ≤ c.t) (z0 : c.t ≤ 64) (t1 : 0 ≤ c.l) (z1 : c.l ≤ 48) (t2 : 1 ≤ c.g) (z2 : c.g ≤ 8) (t3 : 1 ≤ c.k) (z3 : c.k ≤ 4096) (t4 : 1 ≤ c.u) (z4 : c.u ≤ 1000) (t5 : 0 ≤ c.e) (z5 : c.e ≤ 64) (u : c.i < 1) : Calls Tryz.prog 17 #[cv c] w fun e w' => e = .returned (.int .i64 (errOf (okB c))) ∧ Below w.heap.size w w' := by
  have h1 := h.r1
  have h2 := h.r8
  have h3 := h.o1
  have h4 := h.o8
  have h5 := h.s1
  have h6 := h.s8
  have h7 := h.d1
  have h8 := h.d8
  have EB : Hid (errOf (okB c) = 1) := by
    have e0 : inB c.i 1 10000 = false := inB_no.2 (by omega)
    have eb : okB c = false := by simp [okB, heapB, roomB, e0]
    rw [eb]; rfl
  clear h
  unfold cv
  go_enter Tryz.func17, Tryz.ntmps17
  go_wp2
  go_loop [4] (fun i => ∃ k : Int, i = .int .i64 k ∧ (k = 0 ∨ k = 1 ∨ k = 2 ∨ k = 3 ∨ k = 4)) (fun i => (4 - intOf i).toNat)
  case atStart => exact ⟨0, rfl, .inl rfl⟩
  case round =>
    obtain ⟨k, rfl, hk⟩ := hrel
    rcases hk with rfl | rfl | rfl | rfl | rfl
    · go_wp2
      go_round
      case rel => exact ⟨1, rfl, by omega⟩
      case measure => simp [intOf]
    · go_wp2
      go_round
      case rel => exact ⟨2, rfl, by omega⟩
      case measure => simp [intOf]
    · go_wp2
      go_round
      case rel => exact ⟨3, rfl, by omega⟩
      case measure => simp [intOf]
    · go_wp2
      go_round
      case rel => exact ⟨4, rfl, by omega⟩
      case measure => simp [intOf]
    · clear h1 h2 h3 h4 h5 h6 h7 h8
      go_wp2
      go_ret
      exact ⟨ret_int (unhide EB).symm, (below_new _ _).alloc (by simp) _⟩

set_option maxHeartbeats 2000000 in
set_option maxRecDepth 100000 in
theorem rcheck_hi6 (c : Cf) (w : World) (h : Hp c) (t0 : 1 ≤ c.t) (z0 : c.t ≤ 64) (t1 : 0 ≤ c.l) (z1 : c.l ≤ 48) (t2 : 1 ≤ c.g) (z2 : c.g ≤ 8) (t3 : 1 ≤ c.k) (z3 : c.k ≤ 4096) (t4 : 1 ≤ c.u) (z4 : c.u ≤ 1000) (t5 : 0 ≤ c.e) (z5 : c.e ≤ 64) (t6 : 1 ≤ c.i) (u : 10000 < c.i) : Calls Tryz.prog 17 #[cv c] w fun e w' => e = .returned (.int .i64 (errOf (okB c))) ∧ Below w.heap.size w w' := by
  have h1 := h.r1
  have h2 := h.r8
  have h3 := h.o1
  have h4 := h.o8
  have h5 := h.s1
  have h6 := h.s8
  have h7 := h.d1
  have h8 := h.d8
  have EB : Hid (errOf (okB c) = 1) := by
    have e0 : inB c.i 1 10000 = false := inB_no.2 (by omega)
    have eb : okB c = false := by simp [okB, heapB, roomB, e0]
    rw [eb]; rfl
  clear h
  unfold cv
  go_enter Tryz.func17, Tryz.ntmps17
  go_wp2
  go_loop [4] (fun i => ∃ k : Int, i = .int .i64 k ∧ (k = 0 ∨ k = 1 ∨ k = 2 ∨ k = 3 ∨ k = 4)) (fun i => (4 - intOf i).toNat)
  case atStart => exact ⟨0, rfl, .inl rfl⟩
  case round =>
    obtain ⟨k, rfl, hk⟩ := hrel
    rcases hk with rfl | rfl | rfl | rfl | rfl
    · go_wp2
      go_round
      case rel => exact ⟨1, rfl, by omega⟩
      case measure => simp [intOf]
    · go_wp2
      go_round
      case rel => exact ⟨2, rfl, by omega⟩
      case measure => simp [intOf]
    · go_wp2
      go_round
      case rel => exact ⟨3, rfl, by omega⟩
      case measure => simp [intOf]
    · go_wp2
      go_round
      case rel => exact ⟨4, rfl, by omega⟩
      case measure => simp [intOf]
    · clear h1 h2 h3 h4 h5 h6 h7 h8
      go_wp2
      go_ret
      exact ⟨ret_int (unhide EB).symm, (below_new _ _).alloc (by simp) _⟩

set_option maxHeartbeats 2000000 in
set_option maxRecDepth 100000 in
theorem rcheck_lo7 (c : Cf) (w : World) (h : Hp c) (t0 : 1 ≤ c.t) (z0 : c.t ≤ 64) (t1 : 0 ≤ c.l) (z1 : c.l ≤ 48) (t2 : 1 ≤ c.g) (z2 : c.g ≤ 8) (t3 : 1 ≤ c.k) (z3 : c.k ≤ 4096) (t4 : 1 ≤ c.u) (z4 : c.u ≤ 1000) (t5 : 0 ≤ c.e) (z5 : c.e ≤ 64) (t6 : 1 ≤ c.i) (z6 : c.i ≤ 10000) (u : c.p < 0) : Calls Tryz.prog 17 #[cv c] w fun e w' => e = .returned (.int .i64 (errOf (okB c))) ∧ Below w.heap.size w w' := by
  have h1 := h.r1
  have h2 := h.r8
  have h3 := h.o1
  have h4 := h.o8
  have h5 := h.s1
  have h6 := h.s8
  have h7 := h.d1
  have h8 := h.d8
  have EB : Hid (errOf (okB c) = 1) := by
    have e0 : inB c.p 0 2 = false := inB_no.2 (by omega)
    have eb : okB c = false := by simp [okB, heapB, roomB, e0]
    rw [eb]; rfl
  clear h
  unfold cv
  go_enter Tryz.func17, Tryz.ntmps17
  go_wp2
  go_loop [4] (fun i => ∃ k : Int, i = .int .i64 k ∧ (k = 0 ∨ k = 1 ∨ k = 2 ∨ k = 3 ∨ k = 4)) (fun i => (4 - intOf i).toNat)
  case atStart => exact ⟨0, rfl, .inl rfl⟩
  case round =>
    obtain ⟨k, rfl, hk⟩ := hrel
    rcases hk with rfl | rfl | rfl | rfl | rfl
    · go_wp2
      go_round
      case rel => exact ⟨1, rfl, by omega⟩
      case measure => simp [intOf]
    · go_wp2
      go_round
      case rel => exact ⟨2, rfl, by omega⟩
      case measure => simp [intOf]
    · go_wp2
      go_round
      case rel => exact ⟨3, rfl, by omega⟩
      case measure => simp [intOf]
    · go_wp2
      go_round
      case rel => exact ⟨4, rfl, by omega⟩
      case measure => simp [intOf]
    · clear h1 h2 h3 h4 h5 h6 h7 h8
      go_wp2
      go_ret
      exact ⟨ret_int (unhide EB).symm, (below_new _ _).alloc (by simp) _⟩

set_option maxHeartbeats 2000000 in
set_option maxRecDepth 100000 in
theorem rcheck_hi7 (c : Cf) (w : World) (h : Hp c) (t0 : 1 ≤ c.t) (z0 : c.t ≤ 64) (t1 : 0 ≤ c.l) (z1 : c.l ≤ 48) (t2 : 1 ≤ c.g) (z2 : c.g ≤ 8) (t3 : 1 ≤ c.k) (z3 : c.k ≤ 4096) (t4 : 1 ≤ c.u) (z4 : c.u ≤ 1000) (t5 : 0 ≤ c.e) (z5 : c.e ≤ 64) (t6 : 1 ≤ c.i) (z6 : c.i ≤ 10000) (t7 : 0 ≤ c.p) (u : 2 < c.p) : Calls Tryz.prog 17 #[cv c] w fun e w' => e = .returned (.int .i64 (errOf (okB c))) ∧ Below w.heap.size w w' := by
  have h1 := h.r1
  have h2 := h.r8
  have h3 := h.o1
  have h4 := h.o8
  have h5 := h.s1
  have h6 := h.s8
  have h7 := h.d1
  have h8 := h.d8
  have EB : Hid (errOf (okB c) = 1) := by
    have e0 : inB c.p 0 2 = false := inB_no.2 (by omega)
    have eb : okB c = false := by simp [okB, heapB, roomB, e0]
    rw [eb]; rfl
  clear h
  unfold cv
  go_enter Tryz.func17, Tryz.ntmps17
  go_wp2
  go_loop [4] (fun i => ∃ k : Int, i = .int .i64 k ∧ (k = 0 ∨ k = 1 ∨ k = 2 ∨ k = 3 ∨ k = 4)) (fun i => (4 - intOf i).toNat)
  case atStart => exact ⟨0, rfl, .inl rfl⟩
  case round =>
    obtain ⟨k, rfl, hk⟩ := hrel
    rcases hk with rfl | rfl | rfl | rfl | rfl
    · go_wp2
      go_round
      case rel => exact ⟨1, rfl, by omega⟩
      case measure => simp [intOf]
    · go_wp2
      go_round
      case rel => exact ⟨2, rfl, by omega⟩
      case measure => simp [intOf]
    · go_wp2
      go_round
      case rel => exact ⟨3, rfl, by omega⟩
      case measure => simp [intOf]
    · go_wp2
      go_round
      case rel => exact ⟨4, rfl, by omega⟩
      case measure => simp [intOf]
    · clear h1 h2 h3 h4 h5 h6 h7 h8
      go_wp2
      go_ret
      exact ⟨ret_int (unhide EB).symm, (below_new _ _).alloc (by simp) _⟩

end Go.Proofs.YtdhpahopfmcdkaaGreat

/- What Check of the reference answers. -/
namespace Go.Proofs.YtdhpahopfmcdkaaGreat
open Go.RowKit

theorem ok_iff {c : Cf} : okB c = true ↔ (1 ≤ c.r ∧ c.r ≤ 8) ∧ (1 ≤ c.o ∧ c.o ≤ 8) ∧ (1 ≤ c.s ∧ c.s ≤ 8) ∧ (1 ≤ c.d ∧ c.d ≤ 8) ∧ (1 ≤ c.t ∧ c.t ≤ 64) ∧ (0 ≤ c.l ∧ c.l ≤ 48) ∧ (1 ≤ c.g ∧ c.g ≤ 8) ∧ (1 ≤ c.k ∧ c.k ≤ 4096) ∧ (1 ≤ c.u ∧ c.u ≤ 1000) ∧ (0 ≤ c.e ∧ c.e ≤ 64) ∧ (1 ≤ c.i ∧ c.i ≤ 10000) ∧ (0 ≤ c.p ∧ c.p ≤ 2) := by
  simp only [okB, heapB, roomB, Bool.and_eq_true, inB_iff]
  omega

set_option maxHeartbeats 2000000 in
set_option maxRecDepth 100000 in
theorem rcheck_ok (c : Cf) (w : World) (h : Hp c) (t0 : 1 ≤ c.t) (z0 : c.t ≤ 64) (t1 : 0 ≤ c.l) (z1 : c.l ≤ 48) (t2 : 1 ≤ c.g) (z2 : c.g ≤ 8) (t3 : 1 ≤ c.k) (z3 : c.k ≤ 4096) (t4 : 1 ≤ c.u) (z4 : c.u ≤ 1000) (t5 : 0 ≤ c.e) (z5 : c.e ≤ 64) (t6 : 1 ≤ c.i) (z6 : c.i ≤ 10000) (t7 : 0 ≤ c.p) (z7 : c.p ≤ 2) : Calls Tryz.prog 17 #[cv c] w fun e w' => e = .returned (.int .i64 (errOf (okB c))) ∧ Below w.heap.size w w' := by
  have h1 := h.r1
  have h2 := h.r8
  have h3 := h.o1
  have h4 := h.o8
  have h5 := h.s1
  have h6 := h.s8
  have h7 := h.d1
  have h8 := h.d8
  have EB : Hid (errOf (okB c) = 0) := by
    have e0 : okB c = true := by
      simp only [okB, heapB, roomB, Bool.and_eq_true, inB_iff]
      omega
    rw [e0]; rfl
  clear h
  unfold cv
  go_enter Tryz.func17, Tryz.ntmps17
  go_wp2
  go_loop [4] (fun i => ∃ k : Int, i = .int .i64 k ∧ (k = 0 ∨ k = 1 ∨ k = 2 ∨ k = 3 ∨ k = 4)) (fun i => (4 - intOf i).toNat)
  case atStart => exact ⟨0, rfl, .inl rfl⟩
  case round =>
    obtain ⟨k, rfl, hk⟩ := hrel
    rcases hk with rfl | rfl | rfl | rfl | rfl
    · go_wp2
      go_round
      case rel => exact ⟨1, rfl, by omega⟩
      case measure => simp [intOf]
    · go_wp2
      go_round
      case rel => exact ⟨2, rfl, by omega⟩
      case measure => simp [intOf]
    · go_wp2
      go_round
      case rel => exact ⟨3, rfl, by omega⟩
      case measure => simp [intOf]
    · go_wp2
      go_round
      case rel => exact ⟨4, rfl, by omega⟩
      case measure => simp [intOf]
    · clear h1 h2 h3 h4 h5 h6 h7 h8
      go_wp2
      go_ret
      exact ⟨ret_int (unhide EB).symm, (below_new _ _).alloc (by simp) _⟩

set_option maxHeartbeats 2000000 in
set_option maxRecDepth 100000 in
theorem rcheck_heap (c : Cf) (w : World) (h : ¬ Hp c) : Calls Tryz.prog 17 #[cv c] w fun e w' => e = .returned (.int .i64 (errOf (okB c))) ∧ Below w.heap.size w w' := by
  have EB : Hid (errOf (okB c) = 1) := by
    have eb : okB c = false := by
      cases e : okB c
      · rfl
      · exact absurd (okB_hp e) h
    rw [eb]; rfl
  have h' := hide h
  clear h
  unfold cv
  go_enter Tryz.func17, Tryz.ntmps17
  go_wp2
  go_loop [4] (fun i => ∃ k : Int, i = .int .i64 k ∧ (k = 0 ∨ (k = 1 ∧ 1 ≤ c.r ∧ c.r ≤ 8) ∨ (k = 2 ∧ 1 ≤ c.r ∧ c.r ≤ 8 ∧ 1 ≤ c.o ∧ c.o ≤ 8) ∨ (k = 3 ∧ 1 ≤ c.r ∧ c.r ≤ 8 ∧ 1 ≤ c.o ∧ c.o ≤ 8 ∧ 1 ≤ c.s ∧ c.s ≤ 8) ∨ (k = 4 ∧ 1 ≤ c.r ∧ c.r ≤ 8 ∧ 1 ≤ c.o ∧ c.o ≤ 8 ∧ 1 ≤ c.s ∧ c.s ≤ 8 ∧ 1 ≤ c.d ∧ c.d ≤ 8))) (fun i => (4 - intOf i).toNat)
  case atStart => exact ⟨0, rfl, .inl rfl⟩
  case round =>
    obtain ⟨k, rfl, hk⟩ := hrel
    rcases hk with rfl | ⟨rfl, p0, q0⟩ | ⟨rfl, p0, q0, p1, q1⟩ | ⟨rfl, p0, q0, p1, q1, p2, q2⟩ | ⟨rfl, p0, q0, p1, q1, p2, q2, p3, q3⟩
    · by_cases u : c.r < 1
      · go_wp2
        go_ret
        exact ⟨ret_int (unhide EB).symm, (below_new _ _).alloc (by simp) _⟩
      · have u1 : 1 ≤ c.r := by omega
        by_cases v : 8 < c.r
        · go_wp2
          go_ret
          exact ⟨ret_int (unhide EB).symm, (below_new _ _).alloc (by simp) _⟩
        · have v1 : c.r ≤ 8 := by omega
          go_wp2
          go_round
          case rel => exact ⟨1, rfl, .inr (.inl ⟨rfl, u1, v1⟩)⟩
          case measure => simp [intOf]
    · by_cases u : c.o < 1
      · go_wp2
        go_ret
        exact ⟨ret_int (unhide EB).symm, (below_new _ _).alloc (by simp) _⟩
      · have u1 : 1 ≤ c.o := by omega
        by_cases v : 8 < c.o
        · go_wp2
          go_ret
          exact ⟨ret_int (unhide EB).symm, (below_new _ _).alloc (by simp) _⟩
        · have v1 : c.o ≤ 8 := by omega
          go_wp2
          go_round
          case rel => exact ⟨2, rfl, .inr (.inr (.inl ⟨rfl, p0, q0, u1, v1⟩))⟩
          case measure => simp [intOf]
    · by_cases u : c.s < 1
      · go_wp2
        go_ret
        exact ⟨ret_int (unhide EB).symm, (below_new _ _).alloc (by simp) _⟩
      · have u1 : 1 ≤ c.s := by omega
        by_cases v : 8 < c.s
        · go_wp2
          go_ret
          exact ⟨ret_int (unhide EB).symm, (below_new _ _).alloc (by simp) _⟩
        · have v1 : c.s ≤ 8 := by omega
          go_wp2
          go_round
          case rel => exact ⟨3, rfl, .inr (.inr (.inr (.inl ⟨rfl, p0, q0, p1, q1, u1, v1⟩)))⟩
          case measure => simp [intOf]
    · by_cases u : c.d < 1
      · go_wp2
        go_ret
        exact ⟨ret_int (unhide EB).symm, (below_new _ _).alloc (by simp) _⟩
      · have u1 : 1 ≤ c.d := by omega
        by_cases v : 8 < c.d
        · go_wp2
          go_ret
          exact ⟨ret_int (unhide EB).symm, (below_new _ _).alloc (by simp) _⟩
        · have v1 : c.d ≤ 8 := by omega
          go_wp2
          go_round
          case rel => exact ⟨4, rfl, .inr (.inr (.inr (.inr (⟨rfl, p0, q0, p1, q1, p2, q2, u1, v1⟩))))⟩
          case measure => simp [intOf]
    · exact absurd ⟨p0, q0, p1, q1, p2, q2, p3, q3⟩ (unhide h')

theorem rcheck_any (c : Cf) (w : World) : Calls Tryz.prog 17 #[cv c] w fun e w' => e = .returned (.int .i64 (errOf (okB c))) ∧ Below w.heap.size w w' := by
  by_cases h : Hp c
  · by_cases u : c.t < 1
    · exact rcheck_lo0 c w h  u
    · have t0 : 1 ≤ c.t := by omega
      by_cases u' : 64 < c.t
      · exact rcheck_hi0 c w h  t0 u'
      · have z0 : c.t ≤ 64 := by omega
        clear u u'
        by_cases u : c.l < 0
        · exact rcheck_lo1 c w h t0 z0 u
        · have t1 : 0 ≤ c.l := by omega
          by_cases u' : 48 < c.l
          · exact rcheck_hi1 c w h t0 z0 t1 u'
          · have z1 : c.l ≤ 48 := by omega
            clear u u'
            by_cases u : c.g < 1
            · exact rcheck_lo2 c w h t0 z0 t1 z1 u
            · have t2 : 1 ≤ c.g := by omega
              by_cases u' : 8 < c.g
              · exact rcheck_hi2 c w h t0 z0 t1 z1 t2 u'
              · have z2 : c.g ≤ 8 := by omega
                clear u u'
                by_cases u : c.k < 1
                · exact rcheck_lo3 c w h t0 z0 t1 z1 t2 z2 u
                · have t3 : 1 ≤ c.k := by omega
                  by_cases u' : 4096 < c.k
                  · exact rcheck_hi3 c w h t0 z0 t1 z1 t2 z2 t3 u'
                  · have z3 : c.k ≤ 4096 := by omega
                    clear u u'
                    by_cases u : c.u < 1
                    · exact rcheck_lo4 c w h t0 z0 t1 z1 t2 z2 t3 z3 u
                    · have t4 : 1 ≤ c.u := by omega
                      by_cases u' : 1000 < c.u
                      · exact rcheck_hi4 c w h t0 z0 t1 z1 t2 z2 t3 z3 t4 u'
                      · have z4 : c.u ≤ 1000 := by omega
                        clear u u'
                        by_cases u : c.e < 0
                        · exact rcheck_lo5 c w h t0 z0 t1 z1 t2 z2 t3 z3 t4 z4 u
                        · have t5 : 0 ≤ c.e := by omega
                          by_cases u' : 64 < c.e
                          · exact rcheck_hi5 c w h t0 z0 t1 z1 t2 z2 t3 z3 t4 z4 t5 u'
                          · have z5 : c.e ≤ 64 := by omega
                            clear u u'
                            by_cases u : c.i < 1
                            · exact rcheck_lo6 c w h t0 z0 t1 z1 t2 z2 t3 z3 t4 z4 t5 z5 u
                            · have t6 : 1 ≤ c.i := by omega
                              by_cases u' : 10000 < c.i
                              · exact rcheck_hi6 c w h t0 z0 t1 z1 t2 z2 t3 z3 t4 z4 t5 z5 t6 u'
                              · have z6 : c.i ≤ 10000 := by omega
                                clear u u'
                                by_cases u : c.p < 0
                                · exact rcheck_lo7 c w h t0 z0 t1 z1 t2 z2 t3 z3 t4 z4 t5 z5 t6 z6 u
                                · have t7 : 0 ≤ c.p := by omega
                                  by_cases u' : 2 < c.p
                                  · exact rcheck_hi7 c w h t0 z0 t1 z1 t2 z2 t3 z3 t4 z4 t5 z5 t6 z6 t7 u'
                                  · have z7 : c.p ≤ 2 := by omega
                                    clear u u'
                                    exact rcheck_ok c w h t0 z0 t1 z1 t2 z2 t3 z3 t4 z4 t5 z5 t6 z6 t7 z7
  · exact rcheck_heap c w h

end Go.Proofs.YtdhpahopfmcdkaaGreat

/- What the reference's Words, Nodes, Size, Level, Parent, Latch, Path answer: the same as the code's. -/
namespace Go.Proofs.YtdhpahopfmcdkaaGreat
open Go.RowKit

set_option maxRecDepth 100000 in
theorem rstripes_any (c : Cf) (w : World) (h : Hp c) : Calls Tryz.prog 23 #[cv c] w fun e w' => e = .returned (.int .i64 (ns c)) ∧ Below w.heap.size w w' := by
  have e1 : IntKind.i64.wrap (no c * c.s) = ns c := kin (by have := ns_in h; unfold ns at this; omega) (by have := ns_in h; unfold ns at this; omega)
  unfold cv
  go_enter Tryz.func23, Tryz.ntmps23
  go_wp2_with fail
  have hx := bx_new c w
  have hl := below_new w (.cells #[.int .i64 c.r, .int .i64 c.o, .int .i64 c.s, .int .i64 c.d, .int .i64 c.t, .int .i64 c.l, .int .i64 c.g, .int .i64 c.k, .int .i64 c.u, .int .i64 c.e, .int .i64 c.i, .int .i64 c.p] 23)
  go_region_held3 (fun wz => wz.cell? ⟨w.heap.size, 0, none⟩ = some (.int .i64 c.r) ∧ wz.cell? ⟨w.heap.size, 1, none⟩ = some (.int .i64 c.o) ∧ wz.cell? ⟨w.heap.size, 2, none⟩ = some (.int .i64 c.s) ∧ wz.cell? ⟨w.heap.size, 3, none⟩ = some (.int .i64 c.d) ∧ wz.cell? ⟨w.heap.size, 4, none⟩ = some (.int .i64 c.t) ∧ wz.cell? ⟨w.heap.size, 5, none⟩ = some (.int .i64 c.l) ∧ wz.cell? ⟨w.heap.size, 6, none⟩ = some (.int .i64 c.g) ∧ wz.cell? ⟨w.heap.size, 7, none⟩ = some (.int .i64 c.k) ∧ wz.cell? ⟨w.heap.size, 8, none⟩ = some (.int .i64 c.u) ∧ wz.cell? ⟨w.heap.size, 9, none⟩ = some (.int .i64 c.e) ∧ wz.cell? ⟨w.heap.size, 10, none⟩ = some (.int .i64 c.i) ∧ wz.cell? ⟨w.heap.size, 11, none⟩ = some (.int .i64 c.p)) (first | exact hx3.cells | exact hx2.cells | exact hx1.cells | exact hx.drew.cells)
    (first
      | (go_at_call 22; refine (robjects_any c _ h).mono ?_; rintro e wz ⟨rfl, hbz⟩; first | (have hx3 := hx2.next hbz; have hl3 := below_then hl2 hbz) | (have hx2 := hx1.next hbz; have hl2 := below_then hl1 hbz) | (have hx1 := hx.drew.next hbz; have hl1 := below_then hl.drew hbz)))
  go_wp2
  go_ret
  exact ⟨rfl, hl1⟩

set_option maxRecDepth 100000 in
theorem rwords_any (c : Cf) (w : World) : Calls Tryz.prog 18 #[cv c] w fun e w' => e = .returned (.int .i64 (wordsD c)) ∧ Below w.heap.size w w' := by
  cases h : okB c
  · have eb : wordsD c = 0 := by simp [wordsD, h]
    rw [eb]
    have H := hide h
    clear eb h
    unfold cv
    go_enter Tryz.func18, Tryz.ntmps18
    go_wp2_with fail
    refine (rcheck_any c _).mono ?_
    rw [unhide H, errOf_f]
    rintro e w1 ⟨rfl, hb⟩
    go_wp2
    go_ret
    exact ⟨rfl, below_call hb⟩
  · have eb : wordsD c = nw c := by simp [wordsD, h]
    rw [eb]
    have hp := okB_hp h
    have H := hide h
    clear eb h
    have e1 : IntKind.i64.wrap (ns c * c.d) = nw c := kin (by have := nw_in hp; unfold nw at this; omega) (by have := nw_in hp; unfold nw at this; omega)
    unfold cv
    go_enter Tryz.func18, Tryz.ntmps18
    go_wp2_with fail
    refine (rcheck_any c _).mono ?_
    rw [unhide H, errOf_t]
    rintro e w1 ⟨rfl, hb⟩
    have hx := (bx_new c w).next hb
    have hl := below_call hb
    obtain ⟨a0, a1, a2, a3, a4, a5, a6, a7, a8, a9, a10, a11⟩ := hx.cells
    go_wp2_with fail
    go_region_held3 (fun wz => wz.cell? ⟨w.heap.size, 0, none⟩ = some (.int .i64 c.r) ∧ wz.cell? ⟨w.heap.size, 1, none⟩ = some (.int .i64 c.o) ∧ wz.cell? ⟨w.heap.size, 2, none⟩ = some (.int .i64 c.s) ∧ wz.cell? ⟨w.heap.size, 3, none⟩ = some (.int .i64 c.d) ∧ wz.cell? ⟨w.heap.size, 4, none⟩ = some (.int .i64 c.t) ∧ wz.cell? ⟨w.heap.size, 5, none⟩ = some (.int .i64 c.l) ∧ wz.cell? ⟨w.heap.size, 6, none⟩ = some (.int .i64 c.g) ∧ wz.cell? ⟨w.heap.size, 7, none⟩ = some (.int .i64 c.k) ∧ wz.cell? ⟨w.heap.size, 8, none⟩ = some (.int .i64 c.u) ∧ wz.cell? ⟨w.heap.size, 9, none⟩ = some (.int .i64 c.e) ∧ wz.cell? ⟨w.heap.size, 10, none⟩ = some (.int .i64 c.i) ∧ wz.cell? ⟨w.heap.size, 11, none⟩ = some (.int .i64 c.p)) (first | exact hx3.cells | exact hx2.cells | exact hx1.cells | exact hx.drew.cells)
      (first
        | (go_at_call 23; refine (rstripes_any c _ hp).mono ?_; rintro e wz ⟨rfl, hbz⟩; first | (have hx3 := hx2.next hbz; have hl3 := below_then hl2 hbz) | (have hx2 := hx1.next hbz; have hl2 := below_then hl1 hbz) | (have hx1 := hx.drew.next hbz; have hl1 := below_then hl.drew hbz)))
    all_goals
      go_wp2
      go_ret
      exact ⟨by first | rfl | exact ret_int (by simp only [IntKind.wrap_i64]; omega), hl1⟩

theorem rwords_ok (c : Cf) (w : World) (h : okB c = true) : Calls Tryz.prog 18 #[cv c] w fun e w' => e = .returned (.int .i64 (nw c)) ∧ Below w.heap.size w w' := by
  have := rwords_any c w
  simp only [wordsD, h, if_true] at this
  exact this

end Go.Proofs.YtdhpahopfmcdkaaGreat
