/- The walk of LatchTurn: it answers true. -/
import Derived.Test.YtlhmpkeljagihaaEnv
namespace Go.Proofs.Ytlhmpkeljagihaa
open Go.RowKit

/-- Two Writes of two that read, step by step by turns. -/
def duo (c : Cf) (m : Mm) : Nat → LS × LS × Mm
  | 0 => (newL 3 c 2 0 true 1, newL 3 c 2 1 true 1, m)
  | k + 1 => (itL 1 (duo c m k).1 (duo c m k).2.2, itL 1 (duo c m k).2.1 (itM 1 (duo c m k).1 (duo c m k).2.2), itM 1 (duo c m k).2.1 (itM 1 (duo c m k).1 (duo c m k).2.2))
def tR (c : Cf) (t : Int) : LS := newL 0 c 2 t false 0
def tE (c : Cf) (t : Int) : LS := newL 6 c 2 t false 0
def tF (c : Cf) : LS := newL 7 c 2 0 false 0
def tm1 (c : Cf) : Mm := itM 20 (tR c 0) m0
def tm2 (c : Cf) : Mm := itM 20 (tR c 1) (tm1 c)
def tA (c : Cf) : LS := (duo c (tm2 c) 15).1
def tB (c : Cf) : LS := (duo c (tm2 c) 15).2.1
def tm3 (c : Cf) : Mm := (duo c (tm2 c) 15).2.2
/-- With cancel. -/
def tA4 (c : Cf) : LS := itL 1 (cancelL (tA c)) (tm3 c)
def tm4 (c : Cf) : Mm := itM 1 (cancelL (tA c)) (tm3 c)
def tm5 (c : Cf) : Mm := itM 20 (tE c 0) (tm4 c)
def tm6 (c : Cf) : Mm := itM 20 (tE c 1) (tm5 c)
/-- Without. -/
def um4 (c : Cf) : Mm := itM 20 (tE c 1) (tm3 c)
def uA (c : Cf) : LS := itL 15 (tA c) (um4 c)
def um5 (c : Cf) : Mm := itM 15 (tA c) (um4 c)
def um6 (c : Cf) : Mm := itM 20 (tF c) (um5 c)
structure Turn (c : Cf) : Prop where
  cells : cellsD c = ((9 : Nat) : Int)
  g0 : gotB 20 (tR c 0) m0 = true
  g1 : gotB 20 (tR c 1) (tm1 c) = true
  a : decide (8 ≤ (tA c).p) = false
  b : decide (8 ≤ (tB c).p) = true
  b9 : ((tB c).p == 9) = false
  c8 : decide (8 ≤ (tA4 c).p) = true
  c9 : ((tA4 c).p == 9) = false
  c0 : gotB 20 (tE c 0) (tm4 c) = true
  c1 : gotB 20 (tE c 1) (tm5 c) = true
  cz : ∀ i, i < 9 → (tm6 c).f i = 0
  u1 : gotB 20 (tE c 1) (tm3 c) = true
  u9 : ((uA c).p == 9) = true
  u0 : gotB 20 (tF c) (um5 c) = true
  uz : ∀ i, i < 9 → (um6 c).f i = 0
theorem turn_facts (s : Int) (h0 : 0 ≤ s) (h2 : s ≤ 2) : Turn (oneC 2 s) := by
  have hs : s = 0 ∨ s = 1 ∨ s = 2 := by omega
  rcases hs with rfl | rfl | rfl
  all_goals exact ⟨by decide +kernel, by decide +kernel, by decide +kernel, by decide +kernel, by decide +kernel, by decide +kernel, by decide +kernel, by decide +kernel, by decide +kernel, by decide +kernel, by decide +kernel, by decide +kernel, by decide +kernel, by decide +kernel, by decide +kernel⟩
theorem duo_ok {c : Cf} {n : Nat} (hn : cellsD c = n) (m : Mm) (k : Nat) : Ok n (duo c m k).1 ∧ Ok n (duo c m k).2.1 := by
  induction k with
  | zero => exact ⟨ok_new hn 3 2 0 true 1 (by decide) (by decide) (by decide), ok_new hn 3 2 1 true 1 (by decide) (by decide) (by decide)⟩
  | succ k ih => exact ⟨it_ok ih.1 1, it_ok ih.2 1⟩

set_option maxRecDepth 100000 in
set_option maxHeartbeats 4000000 in
theorem turn_gen (s : Int) (cancel : Bool) (w : World) (h0 : 0 ≤ s) (h2 : s ≤ 2) (c : Cf) (m1 m2 m3 m4 m5 m6 u4 u5 u6 : Mm) (A B' A4 U : LS) (D : Nat → LS × LS × Mm) (hcE : c = oneC 2 s)
    (hn : cellsD c = ((9 : Nat) : Int)) (e1 : itM 20 (newL 0 c 2 0 false 0) m0 = m1) (g0 : gotB 20 (newL 0 c 2 0 false 0) m0 = true) (e2 : itM 20 (newL 0 c 2 1 false 0) m1 = m2) (g1 : gotB 20 (newL 0 c 2 1 false 0) m1 = true)
    (D0 : D 0 = (newL 3 c 2 0 true 1, newL 3 c 2 1 true 1, m2)) (D1 : ∀ k, D (k + 1) = (itL 1 (D k).1 (D k).2.2, itL 1 (D k).2.1 (itM 1 (D k).1 (D k).2.2), itM 1 (D k).2.1 (itM 1 (D k).1 (D k).2.2))) (Dok : ∀ k, Ok 9 (D k).1 ∧ Ok 9 (D k).2.1) (DE : D 15 = (A, B', m3))
    (fa : decide (8 ≤ A.p) = false) (fb : decide (8 ≤ B'.p) = true) (fb9 : (B'.p == 9) = false)
    (e4 : itL 1 (cancelL A) m3 = A4) (e4' : itM 1 (cancelL A) m3 = m4) (c8 : decide (8 ≤ A4.p) = true) (c9 : (A4.p == 9) = false)
    (e5 : itM 20 (newL 6 c 2 0 false 0) m4 = m5) (c0 : gotB 20 (newL 6 c 2 0 false 0) m4 = true) (e6 : itM 20 (newL 6 c 2 1 false 0) m5 = m6) (c1 : gotB 20 (newL 6 c 2 1 false 0) m5 = true) (cz : ∀ i, i < 9 → m6.f i = 0)
    (e7 : itM 20 (newL 6 c 2 1 false 0) m3 = u4) (u1 : gotB 20 (newL 6 c 2 1 false 0) m3 = true) (e8 : itL 15 A u4 = U) (e8' : itM 15 A u4 = u5) (u9 : (U.p == 9) = true)
    (e9 : itM 20 (newL 7 c 2 0 false 0) u5 = u6) (u0 : gotB 20 (newL 7 c 2 0 false 0) u5 = true) (uz : ∀ i, i < 9 → u6.f i = 0) :
    Calls Try.prog 6 #[.int .i64 s, .bool cancel] w fun e w' => e = .returned (.bool true) ∧ Below w.heap.size w w' := by
  have E1 := hide e1
  clear e1
  have G0 := hide g0
  clear g0
  have E2 := hide e2
  clear e2
  have G1 := hide g1
  clear g1
  have FA := hide fa
  clear fa
  have FB := hide fb
  clear fb
  have FB9 := hide fb9
  clear fb9
  have E4 := hide e4
  clear e4
  have E4' := hide e4'
  clear e4'
  have C8 := hide c8
  clear c8
  have C9 := hide c9
  clear c9
  have E5 := hide e5
  clear e5
  have C0 := hide c0
  clear c0
  have E6 := hide e6
  clear e6
  have C1 := hide c1
  clear c1
  have CZ := hide cz
  clear cz
  have E7 := hide e7
  clear e7
  have U1 := hide u1
  clear u1
  have E8 := hide e8
  clear e8
  have E8' := hide e8'
  clear e8'
  have U9 := hide u9
  clear u9
  have E9 := hide e9
  clear e9
  have U0 := hide u0
  clear u0
  have UZ := hide uz
  clear uz
  have D0 := hide D0
  clear D0
  have D1 := hide D1
  clear D1
  have DE := hide DE
  clear DE
  have hn6 : (9 : Nat) ≤ 65536 := by decide
  have d0 : decide (s < 0) = false := decide_eq_false (by omega)
  have d1 : decide (2 < s) = false := decide_eq_false (by omega)
  clear h0 h2
  go_enter Try.func6, Try.ntmps6
  go_wp2_with fail
  refine (first_any _).mono ?_
  rintro e w1 ⟨rfl, hb1⟩
  go_wp2_with fail
  refine (one_any 2 s _).mono ?_
  rw [← hcE]
  have hcE' := hide hcE
  clear hcE
  rintro e w2 ⟨rfl, hb2⟩
  have hb2' := below_then hb1 hb2
  clear hb1 hb2
  unfold cv
  go_wp2_with fail
  have hx := bx_new c w2
  refine (cells_any c _).mono ?_
  rw [hn]
  rintro e w3 ⟨rfl, hb3⟩
  have hx3 := hx.next hb3
  have lB : w.heap.size ≤ w2.heap.size := hb2'.size
  have hb3' := below_then hb2' (below_call hb3)
  clear hb2' hb3 hx
  generalize w2.heap.size = B at hx3 lB ⊢
  go_wp2_with fail
  refine (new_any 9 _ hn6).mono ?_
  rintro e w4 ⟨cb, r, rfl, hcb, hr, hc, hb4⟩
  have hE : Env w c B cb r 9 m0 w4 := ⟨hx3.next hb4, hc, below_then hb3' hb4, lB, Nat.le_trans hb3'.size hcb, Nat.le_trans hb3'.size hr, by have := hx3.lt; omega, by have := hx3.lt; omega⟩
  clear hx3 hc hb3' hb4 hcb hr
  obtain ⟨x0, x1, x2, x3, x4, x5, x6, x7, x8, x9, x10, x11⟩ := hE.x.cells
  go_wp2_with fail
  refine (env_made (read_any c 2 0 _) hE).mono ?_
  rintro e _ ⟨bp, rfl, op, hsp, hp, hE1, hb1⟩
  clear x0 x1 x2 x3 x4 x5 x6 x7 x8 x9 x10 x11 hsp hb1 hE
  have hE := hE1
  clear hE1
  go_wp2_with fail
  refine (env_through hE hp op (ok_new hn 0 2 0 false 0 (by decide) (by decide) (by decide))).mono ?_
  rw [unhide G0]
  rintro e _ ⟨rfl, hp1, hE1, ht1⟩
  clear hp
  have hp := hp1
  clear hp1
  clear ht1 hE
  have hE := hE1
  clear hE1
  clear hp op
  rw [unhide E1] at hE
  obtain ⟨x0, x1, x2, x3, x4, x5, x6, x7, x8, x9, x10, x11⟩ := hE.x.cells
  go_wp2_with fail
  refine (env_made (read_any c 2 1 _) hE).mono ?_
  rintro e _ ⟨bq, rfl, oq, hsq, hq, hE1, hb1⟩
  clear x0 x1 x2 x3 x4 x5 x6 x7 x8 x9 x10 x11 hsq hb1 hE
  have hE := hE1
  clear hE1
  go_wp2_with fail
  refine (env_through hE hq oq (ok_new hn 0 2 1 false 0 (by decide) (by decide) (by decide))).mono ?_
  rw [unhide G1]
  rintro e _ ⟨rfl, hq1, hE1, ht1⟩
  clear hq
  have hq := hq1
  clear hq1
  clear ht1 hE
  have hE := hE1
  clear hE1
  clear hq oq
  rw [unhide E2] at hE
  go_wp2_with fail
  have kA := env_made (write_any c 2 0 true _) hE.drew
  unfold cv at kA
  go_region_held3 (fun wz => wz.cell? ⟨B, 0, none⟩ = some (.int .i64 c.r) ∧ wz.cell? ⟨B, 1, none⟩ = some (.int .i64 c.o) ∧ wz.cell? ⟨B, 2, none⟩ = some (.int .i64 c.s) ∧ wz.cell? ⟨B, 3, none⟩ = some (.int .i64 c.d) ∧ wz.cell? ⟨B, 4, none⟩ = some (.int .i64 c.t) ∧ wz.cell? ⟨B, 5, none⟩ = some (.int .i64 c.l) ∧ wz.cell? ⟨B, 6, none⟩ = some (.int .i64 c.g) ∧ wz.cell? ⟨B, 7, none⟩ = some (.int .i64 c.k) ∧ wz.cell? ⟨B, 8, none⟩ = some (.int .i64 c.u) ∧ wz.cell? ⟨B, 9, none⟩ = some (.int .i64 c.e) ∧ wz.cell? ⟨B, 10, none⟩ = some (.int .i64 c.i) ∧ wz.cell? ⟨B, 11, none⟩ = some (.int .i64 c.p)) (first | exact hE.drew.x.cells | exact hE1.x.cells | exact hE2.x.cells)
    (first
      | (go_at_call 31; with_reducible refine Calls.mono kA ?_; rintro e wA ⟨ba, rfl, oa, hsa, ha, hE1, hb1⟩; have kB := env_made (write_any c 2 1 true _) hE1; unfold cv at kB)
      | (go_at_call 31; with_reducible refine Calls.mono kB ?_; rintro e wB ⟨bb, rfl, ob, hsb, hb, hE2, hb2⟩))
  have nab : ba ≠ bb := by have := ha.lt; omega
  replace ha := ha.next hb2
  clear kA kB hE hE1 hsa hsb hb1 hb2
  have hE := hE2
  clear hE2
  have hE' := hide hE
  have ha' := hide ha
  have hb' := hide hb
  clear hE ha hb
  go_wp2_with fail
  go_loopw [10] (fun i wr => ∃ k : Nat, k ≤ 15 ∧ i = .int .i64 k ∧ Lat wr ba (D k).1 ∧ Lat wr bb (D k).2.1 ∧ Env w c B cb r 9 (D k).2.2 wr) (fun i _ => 15 - (intOf i).toNat)
  case atStart => exact ⟨0, by omega, rfl, by rw [unhide D0]; exact unhide ha', by rw [unhide D0]; exact unhide hb', by rw [unhide D0]; exact unhide hE'⟩
  case round =>
    obtain ⟨k, hk, rfl, ha, hb, hE⟩ := hrel
    clear ha' hb' hE'
    by_cases hlt : k < 15
    · have hq := hlt
      go_wp2_with fail
      refine (env_step hE ha oa (Dok k).1).mono ?_
      rintro e _ ⟨rfl, ha1, hE1, ht1⟩
      clear ha
      have ha := ha1
      clear ha1
      replace hb := hb.stays3 ht1 (fun e => nab e.symm) ob.n1 ob.n2
      clear ht1 hE
      have hE := hE1
      clear hE1
      go_wp2_with fail
      refine (env_step hE hb ob (Dok k).2).mono ?_
      rintro e _ ⟨rfl, hb1, hE1, ht1⟩
      clear hb
      have hb := hb1
      clear hb1
      replace ha := ha.stays3 ht1 nab oa.n1 oa.n2
      clear ht1 hE
      have hE := hE1
      clear hE1
      go_wp2
      go_roundw
      case rel => exact ⟨k + 1, by omega, by go_num, by rw [unhide D1]; exact ha, by rw [unhide D1]; exact hb, by rw [unhide D1]; exact hE⟩
      case measure => simp [intOf]; omega
    · obtain rfl : k = 15 := by omega
      rw [unhide DE] at ha hb hE
      have Aok : Ok 9 A := by have := (Dok 15).1; rwa [unhide DE] at this
      simp only [] at ha hb hE
      go_wp2_with fail
      refine (done_any ba _ _ ha).mono ?_
      rw [unhide FA]
      rintro e _ ⟨rfl, rfl⟩
      go_wp2_with fail
      refine (done_any bb _ _ hb).mono ?_
      rw [unhide FB]
      rintro e _ ⟨rfl, rfl⟩
      go_wp2_with fail
      refine (got_any bb _ _ hb).mono ?_
      rw [unhide FB9]
      rintro e _ ⟨rfl, rfl⟩
      rcases cancel
      · have dummy := nab
        obtain ⟨x0, x1, x2, x3, x4, x5, x6, x7, x8, x9, x10, x11⟩ := hE.x.cells
        go_wp2_with fail
        refine (env_made (endRead_any c 2 1 _) hE).mono ?_
        rintro e _ ⟨be, rfl, oe, hse, he, hE1, hb1⟩
        have nae : ba ≠ be := by have := ha.lt; omega
        replace ha := ha.next hb1
        have nbe : bb ≠ be := by have := hb.lt; omega
        replace hb := hb.next hb1
        clear x0 x1 x2 x3 x4 x5 x6 x7 x8 x9 x10 x11 hse hb1 hE
        have hE := hE1
        clear hE1
        go_wp2_with fail
        refine (env_through hE he oe (ok_new hn 6 2 1 false 0 (by decide) (by decide) (by decide))).mono ?_
        rw [unhide U1]
        rintro e _ ⟨rfl, he1, hE1, ht1⟩
        clear he
        have he := he1
        clear he1
        replace ha := ha.stays3 ht1 nae oa.n1 oa.n2
        replace hb := hb.stays3 ht1 nbe ob.n1 ob.n2
        clear ht1 hE
        have hE := hE1
        clear hE1
        clear he oe
        rw [unhide E7] at hE
        have hE' := hide hE
        have ha' := hide ha
        clear hE ha hb
        go_wp2_with fail
        go_loopw [11] (fun i wr => ∃ k : Nat, k ≤ 15 ∧ i = .int .i64 k ∧ Lat wr ba (itL k A u4) ∧ Env w c B cb r 9 (itM k A u4) wr) (fun i _ => 15 - (intOf i).toNat)
        case atStart => exact ⟨0, by omega, rfl, unhide ha', unhide hE'⟩
        case round =>
          obtain ⟨k, hk, rfl, ha, hE⟩ := hrel
          clear ha' hE'
          by_cases hlt : k < 15
          · have hq := hlt
            go_wp2_with fail
            refine (env_step hE ha oa (it_ok Aok k)).mono ?_
            rintro e _ ⟨rfl, ha1, hE1, ht1⟩
            clear ha
            have ha := ha1
            clear ha1
            clear ht1 hE
            have hE := hE1
            clear hE1
            go_wp2
            go_roundw
            case rel => exact ⟨k + 1, by omega, by go_num, ha, hE⟩
            case measure => simp [intOf]; omega
          · obtain rfl : k = 15 := by omega
            rw [unhide E8] at ha
            rw [unhide E8'] at hE
            go_wp2_with fail
            refine (first_any _).mono ?_
            rintro e _ ⟨rfl, hb1⟩
            replace ha := ha.next hb1
            have hE1 := hE.next hb1
            clear hb1 hE
            have hE := hE1
            clear hE1
            go_wp2_with fail
            refine (got_any ba _ _ ha).mono ?_
            rw [unhide U9]
            rintro e _ ⟨rfl, rfl⟩
            obtain ⟨x0, x1, x2, x3, x4, x5, x6, x7, x8, x9, x10, x11⟩ := hE.x.cells
            go_wp2_with fail
            refine (env_made (endWrite_any c 2 0 _) hE).mono ?_
            rintro e _ ⟨bf, rfl, of, hsf, hf, hE1, hb1⟩
            have naf : ba ≠ bf := by have := ha.lt; omega
            replace ha := ha.next hb1
            clear x0 x1 x2 x3 x4 x5 x6 x7 x8 x9 x10 x11 hsf hb1 hE
            have hE := hE1
            clear hE1
            go_wp2_with fail
            refine (env_through hE hf of (ok_new hn 7 2 0 false 0 (by decide) (by decide) (by decide))).mono ?_
            rw [unhide U0]
            rintro e _ ⟨rfl, hf1, hE1, ht1⟩
            clear hf
            have hf := hf1
            clear hf1
            replace ha := ha.stays3 ht1 naf oa.n1 oa.n2
            clear ht1 hE
            have hE := hE1
            clear hE1
            clear hf of
            obtain ⟨x0, x1, x2, x3, x4, x5, x6, x7, x8, x9, x10, x11⟩ := hE.x.cells
            go_wp2_with fail
            refine (clean_true c cb r 9 _ _ _ hn (by rw [unhide E9] at hE; exact hE.s) (unhide UZ)).mono ?_
            rintro e _ ⟨rfl, hb9⟩
            have hB := below_then hE.b hb9
            go_wp2
            go_ret
            exact ⟨rfl, hB⟩
      · have dummy := nab
        go_wp2_with fail
        refine (cancel_any ba _ _ ha).mono ?_
        rintro e _ ⟨rfl, ha1, ht1⟩
        have hE1 := hE.one oa ht1
        replace hb := hb.stays ht1 (fun e => nab e.symm) (fun e => nab e.symm)
        clear ha hE ht1
        have ha := ha1
        have hE := hE1
        clear ha1 hE1
        go_wp2_with fail
        refine (first_any _).mono ?_
        rintro e _ ⟨rfl, hb1⟩
        replace ha := ha.next hb1
        replace hb := hb.next hb1
        have hE1 := hE.next hb1
        clear hb1 hE
        have hE := hE1
        clear hE1
        go_wp2_with fail
        refine (env_step hE ha oa (cancel_ok Aok)).mono ?_
        rw [unhide E4, unhide C8]
        rintro e _ ⟨rfl, ha1, hE1, ht1⟩
        clear ha
        have ha := ha1
        clear ha1
        replace hb := hb.stays3 ht1 (fun e => nab e.symm) ob.n1 ob.n2
        clear ht1 hE
        have hE := hE1
        clear hE1
        rw [unhide E4'] at hE
        go_wp2_with fail
        refine (got_any ba _ _ ha).mono ?_
        rw [unhide C9]
        rintro e _ ⟨rfl, rfl⟩
        clear ha hb
        obtain ⟨x0, x1, x2, x3, x4, x5, x6, x7, x8, x9, x10, x11⟩ := hE.x.cells
        go_wp2_with fail
        refine (env_made (endRead_any c 2 0 _) hE).mono ?_
        rintro e _ ⟨be, rfl, oe, hse, he, hE1, hb1⟩
        clear x0 x1 x2 x3 x4 x5 x6 x7 x8 x9 x10 x11 hse hb1 hE
        have hE := hE1
        clear hE1
        go_wp2_with fail
        refine (env_through hE he oe (ok_new hn 6 2 0 false 0 (by decide) (by decide) (by decide))).mono ?_
        rw [unhide C0]
        rintro e _ ⟨rfl, he1, hE1, ht1⟩
        clear he
        have he := he1
        clear he1
        clear ht1 hE
        have hE := hE1
        clear hE1
        clear he oe
        rw [unhide E5] at hE
        obtain ⟨x0, x1, x2, x3, x4, x5, x6, x7, x8, x9, x10, x11⟩ := hE.x.cells
        go_wp2_with fail
        refine (env_made (endRead_any c 2 1 _) hE).mono ?_
        rintro e _ ⟨bf, rfl, of, hsf, hf, hE1, hb1⟩
        clear x0 x1 x2 x3 x4 x5 x6 x7 x8 x9 x10 x11 hsf hb1 hE
        have hE := hE1
        clear hE1
        go_wp2_with fail
        refine (env_through hE hf of (ok_new hn 6 2 1 false 0 (by decide) (by decide) (by decide))).mono ?_
        rw [unhide C1]
        rintro e _ ⟨rfl, hf1, hE1, ht1⟩
        clear hf
        have hf := hf1
        clear hf1
        clear ht1 hE
        have hE := hE1
        clear hE1
        clear hf of
        obtain ⟨x0, x1, x2, x3, x4, x5, x6, x7, x8, x9, x10, x11⟩ := hE.x.cells
        go_wp2_with fail
        refine (clean_true c cb r 9 _ _ _ hn (by rw [unhide E6] at hE; exact hE.s) (unhide CZ)).mono ?_
        rintro e _ ⟨rfl, hb9⟩
        have hB := below_then hE.b hb9
        go_wp2
        go_ret
        exact ⟨rfl, hB⟩

theorem turn_in (s : Int) (cancel : Bool) (w : World) (h0 : 0 ≤ s) (h2 : s ≤ 2) :
    Calls Try.prog 6 #[.int .i64 s, .bool cancel] w fun e w' => e = .returned (.bool true) ∧ Below w.heap.size w w' := by
  have F := turn_facts s h0 h2
  exact turn_gen s cancel w h0 h2 (oneC 2 s) (tm1 _) (tm2 _) (tm3 _) (tm4 _) (tm5 _) (tm6 _) (um4 _) (um5 _) (um6 _) (tA _) (tB _) (tA4 _) (uA _) (duo (oneC 2 s) (tm2 _)) rfl F.cells rfl F.g0 rfl F.g1 rfl (fun _ => rfl) (duo_ok F.cells _) rfl F.a F.b F.b9 rfl rfl F.c8 F.c9 rfl F.c0 rfl F.c1 F.cz rfl F.u1 rfl rfl F.u9 rfl F.u0 F.uz
end Go.Proofs.Ytlhmpkeljagihaa
