/- The walk of LatchSteps: it answers true. -/
import Derived.Test.YtlhmpkeljagihaaEnv
import Derived.Deep.Cut
namespace Go.Proofs.Ytlhmpkeljagihaa
open Go.RowKit

/-- The five programs of LatchSteps; how many steps each takes; the words ahead of each; all steps till then. -/
def spN (c : Cf) (t : Int) : Nat → LS
  | 0 => newL 0 c 2 t false 0
  | 1 => newL 3 c 2 t true 1
  | 2 => newL 7 c 2 t false 0
  | 3 => newL 0 c 2 t false 0
  | _ => newL 6 c 2 t false 0
def spW : Nat → Nat
  | 0 => 2
  | 1 => 9
  | 2 => 1
  | 3 => 2
  | _ => 1
def spM (c : Cf) (t : Int) : Nat → Mm
  | 0 => m0
  | i + 1 => itM (spW i) (spN c t i) (spM c t i)
def spT : Nat → Nat
  | 0 => 0
  | i + 1 => spT i + spW i
def spG (c : Cf) (t : Int) : Prop :=
  cellsD c = ((9 : Nat) : Int) ∧ (∀ i, i < 5 → (∀ k, k < spW i → decide (8 ≤ (itL k (spN c t i) (spM c t i)).p) = false ∧ decide (8 ≤ (itL (k + 1) (spN c t i) (spM c t i)).p) = decide (k + 1 = spW i)) ∧ ((itL (spW i) (spN c t i) (spM c t i)).p == 9) = true ∧ (itL (spW i) (spN c t i) (spM c t i)).st = (spW i : Int) ∧ (spM c t (i + 1)).c = (spT (i + 1) : Int)) ∧ ∀ i, i < 9 → (spM c t 5).f i = 0
theorem spG_all : ∀ s : Fin 5, ∀ t : Fin 4, spG (oneC 4 (s.val : Int)) (t.val : Int) := by unfold spG; decide +kernel
theorem sp_facts (s t : Int) (h0 : 0 ≤ s) (h1 : s ≤ 4) (t0 : 0 ≤ t) (t1 : t ≤ 3) : spG (oneC 4 s) t := by
  obtain ⟨s, rfl⟩ := Int.eq_ofNat_of_zero_le h0
  obtain ⟨t, rfl⟩ := Int.eq_ofNat_of_zero_le t0
  exact spG_all ⟨s, by omega⟩ ⟨t, by omega⟩
theorem sp_ok {c : Cf} {t : Int} {n : Nat} (hn : cellsD c = n) (i : Nat) : Ok n (spN c t i) := by
  unfold spN
  split <;> exact ok_new hn _ _ _ _ _ (by decide) (by decide) (by decide)
theorem row5 (w : World) (v0 v1 v2 v3 v4 : Value) (t : TypeId) (f : Nat → Value) (h0 : v0 = f 0) (h1 : v1 = f 1) (h2 : v2 = f 2) (h3 : v3 = f 3) (h4 : v4 = f 4) : (w.alloc (.cells #[v0, v1, v2, v3, v4] t)).rowIs w.heap.size t 5 f := by
  subst h0 h1 h2 h3 h4
  refine World.rowIs_alloc w #[f 0, f 1, f 2, f 3, f 4] t f ?_
  intro i hi
  have hi' : i < 5 := hi
  have : i = 0 ∨ i = 1 ∨ i = 2 ∨ i = 3 ∨ i = 4 := by omega
  rcases this with rfl | rfl | rfl | rfl | rfl <;> rfl

/-- Five latches that lie side by side, from the i-th on as N says. -/
structure Five (W : World) (B cb r : Nat) (bs : Nat → Nat) (N : Nat → LS) (w : World) : Prop where
  own : ∀ q, q < 5 → Own W B cb r (bs q)
  inj : ∀ q p, q < 5 → p < 5 → q ≠ p → bs q ≠ bs p
  lat : ∀ q, q < 5 → Lat w (bs q) (N q)
theorem Five.lt {W : World} {B cb r : Nat} {bs : Nat → Nat} {N : Nat → LS} {w : World} (h : Five W B cb r bs N w) (q : Nat) (hq : q < 5) : bs q < w.heap.size := (h.lat q hq).lt
theorem Five.next {W : World} {B cb r : Nat} {bs : Nat → Nat} {N : Nat → LS} {w w' : World} (h : Five W B cb r bs N w) (hb : Below w.heap.size w w') : Five W B cb r bs N w' :=
  ⟨h.own, h.inj, fun q hq => (h.lat q hq).next hb⟩
theorem five_lt {q : Nat} (h : q < 5) : q = 0 ∨ q = 1 ∨ q = 2 ∨ q = 3 ∨ q = 4 := by omega
theorem five_mk {W : World} {B cb r : Nat} {bs : Nat → Nat} {N : Nat → LS} {w : World} (o0 : Own W B cb r (bs 0)) (o1 : Own W B cb r (bs 1)) (o2 : Own W B cb r (bs 2)) (o3 : Own W B cb r (bs 3)) (o4 : Own W B cb r (bs 4))
    (l0 : Lat w (bs 0) (N 0)) (l1 : Lat w (bs 1) (N 1)) (l2 : Lat w (bs 2) (N 2)) (l3 : Lat w (bs 3) (N 3)) (l4 : Lat w (bs 4) (N 4)) (h1 : bs 0 < bs 1) (h2 : bs 1 < bs 2) (h3 : bs 2 < bs 3) (h4 : bs 3 < bs 4) : Five W B cb r bs N w := by
  refine ⟨fun q hq => ?_, fun q p hq hp hn => ?_, fun q hq => ?_⟩
  · rcases five_lt hq with rfl | rfl | rfl | rfl | rfl <;> assumption
  · rcases five_lt hq with rfl | rfl | rfl | rfl | rfl <;> rcases five_lt hp with rfl | rfl | rfl | rfl | rfl <;> omega
  · rcases five_lt hq with rfl | rfl | rfl | rfl | rfl <;> assumption
/-- The q-th one has turned to L. -/
def put5 (N : Nat → LS) (q : Nat) (L : LS) : Nat → LS := fun i => if i = q then L else N i
theorem Five.step {W : World} {B cb r : Nat} {bs : Nat → Nat} {N : Nat → LS} {w w' : World} {q : Nat} {L : LS} (h : Five W B cb r bs N w) (hq : q < 5) (hl : Lat w' (bs q) L) (ht : Tri (bs q) cb r w w') : Five W B cb r bs (put5 N q L) w' := by
  refine ⟨h.own, h.inj, fun p hp => ?_⟩
  unfold put5
  by_cases e : p = q
  · subst e; rw [if_pos rfl]; exact hl
  · rw [if_neg e]
    exact (h.lat p hp).stays3 ht (h.inj p q hp hq e) (h.own p hp).n1 (h.own p hp).n2

/-- The heap, the latches from the i-th on, the row of their addresses, the row of numbers. -/
structure Sp (W : World) (c : Cf) (B cb r : Nat) (bs : Nat → Nat) (P : Nat) (t : Int) (i : Nat) (m : Mm) (w : World) : Prop where
  env : Env W c B cb r 9 m w
  lat : ∀ q, i ≤ q → q < 5 → Lat w (bs q) (spN c t q)
  p : w.rowIs P 34 5 (fun q => .pointer (some ⟨bs q, 0, none⟩))
  q : w.rowIs (P + 1) 3 5 (fun q => .int .i64 (spW q : Int))
/-- The blocks are apart. -/
structure Kp (W : World) (B cb r : Nat) (bs : Nat → Nat) (P : Nat) : Prop where
  own : ∀ q, q < 5 → Own W B cb r (bs q)
  inj : ∀ q p, q < 5 → p < 5 → q ≠ p → bs q ≠ bs p
  lt : ∀ q, q < 5 → bs q < P
  c : cb < P
  r : r < P
theorem Sp.up {W : World} {c : Cf} {B cb r : Nat} {bs : Nat → Nat} {P : Nat} {t : Int} {i : Nat} {m : Mm} {w : World} (h : Sp W c B cb r bs P t i m w) : Sp W c B cb r bs P t (i + 1) m w := ⟨h.env, fun q h1 h2 => h.lat q (by omega) h2, h.p, h.q⟩
theorem Sp.step {W : World} {c : Cf} {B cb r : Nat} {bs : Nat → Nat} {P : Nat} {t : Int} {j : Nat} {m m' : Mm} {w w' : World} (h : Sp W c B cb r bs P t (j + 1) m w) (hj : j < 5) (k : Kp W B cb r bs P) (hE : Env W c B cb r 9 m' w') (ht : Tri (bs j) cb r w w') : Sp W c B cb r bs P t (j + 1) m' w' := by
  have := k.lt j hj
  have := k.c
  have := k.r
  exact ⟨hE, fun q h1 h2 => (h.lat q h1 h2).stays3 ht (k.inj q j h2 hj (by omega)) (k.own q h2).n1 (k.own q h2).n2, h.p.of_block (ht.block P (by omega) (by omega) (by omega)), h.q.of_block (ht.block (P + 1) (by omega) (by omega) (by omega))⟩
theorem Sp.drew {W : World} {c : Cf} {B cb r : Nat} {bs : Nat → Nat} {P : Nat} {t : Int} {i : Nat} {m : Mm} {w : World} (h : Sp W c B cb r bs P t i m w) : Sp W c B cb r bs P t i m w.drew := ⟨h.env.drew, h.lat, h.p, h.q⟩
theorem spW_in {j : Nat} (h : j < 5) : 1 ≤ spW j ∧ spW j ≤ 9 ∧ spT j ≤ 15 := by
  rcases five_lt h with rfl | rfl | rfl | rfl | rfl <;> decide

set_option maxRecDepth 100000 in
set_option maxHeartbeats 4000000 in
theorem steps_gen (s t : Int) (w : World) (h0 : 0 ≤ s) (h1 : s ≤ 4) (t0 : 0 ≤ t) (t1 : t ≤ 3) (c : Cf) (hcE : c = oneC 4 s) (hn : cellsD c = ((9 : Nat) : Int))
    (F : ∀ i, i < 5 → (∀ k, k < spW i → decide (8 ≤ (itL k (spN c t i) (spM c t i)).p) = false ∧ decide (8 ≤ (itL (k + 1) (spN c t i) (spM c t i)).p) = decide (k + 1 = spW i)) ∧ ((itL (spW i) (spN c t i) (spM c t i)).p == 9) = true ∧ (itL (spW i) (spN c t i) (spM c t i)).st = (spW i : Int) ∧ (spM c t (i + 1)).c = (spT (i + 1) : Int)) (hz : ∀ i, i < 9 → (spM c t 5).f i = 0) :
    Calls Try.prog 8 #[.int .i64 s, .int .i64 t] w fun e w' => e = .returned (.bool true) ∧ Below w.heap.size w w' := by
  have F' := hide F
  clear F
  have HZ' := hide hz
  clear hz
  have hn6 : (9 : Nat) ≤ 65536 := by decide
  have d0 : decide (s < 0) = false := decide_eq_false (by omega)
  have d1 : decide (4 < s) = false := decide_eq_false (by omega)
  have d2 : decide (t < 0) = false := decide_eq_false (by omega)
  have d3 : decide (3 < t) = false := decide_eq_false (by omega)
  clear h0 h1 t0 t1
  go_enter Try.func8, Try.ntmps8
  go_wp2_with fail
  refine (first_any _).mono ?_
  rintro e w1 ⟨rfl, hb1⟩
  go_wp2_with fail
  refine (one_any 4 s _).mono ?_
  rw [← hcE]
  have hcE' := hide hcE
  clear hcE
  rintro e w2 ⟨rfl, hb2⟩
  have hb2' := below_then hb1 hb2
  clear hb1 hb2
  unfold cv
  go_wp2_with fail
  have hx := bx_new c w2
  refine (cells_any c _).mono ?_
  rw [hn]
  rintro e w3 ⟨rfl, hb3⟩
  have hx3 := hx.next hb3
  have lB : w.heap.size ≤ w2.heap.size := hb2'.size
  have hb3' := below_then hb2' (below_call hb3)
  clear hb2' hb3 hx
  generalize w2.heap.size = B at hx3 lB ⊢
  go_wp2_with fail
  refine (new_any 9 _ hn6).mono ?_
  rintro e w4 ⟨cb, r, rfl, hcb, hr, hc, hb4⟩
  have hE : Env w c B cb r 9 m0 w4 := ⟨hx3.next hb4, hc, below_then hb3' hb4, lB, Nat.le_trans hb3'.size hcb, Nat.le_trans hb3'.size hr, by have := hx3.lt; omega, by have := hx3.lt; omega⟩
  clear hx3 hc hb3' hb4 hcb hr
  go_wp2_with fail
  have kA := env_made (read_any c 2 t _) hE.drew
  unfold cv at kA
  go_region_held3 (fun wz => wz.cell? ⟨B, 0, none⟩ = some (.int .i64 c.r) ∧ wz.cell? ⟨B, 1, none⟩ = some (.int .i64 c.o) ∧ wz.cell? ⟨B, 2, none⟩ = some (.int .i64 c.s) ∧ wz.cell? ⟨B, 3, none⟩ = some (.int .i64 c.d) ∧ wz.cell? ⟨B, 4, none⟩ = some (.int .i64 c.t) ∧ wz.cell? ⟨B, 5, none⟩ = some (.int .i64 c.l) ∧ wz.cell? ⟨B, 6, none⟩ = some (.int .i64 c.g) ∧ wz.cell? ⟨B, 7, none⟩ = some (.int .i64 c.k) ∧ wz.cell? ⟨B, 8, none⟩ = some (.int .i64 c.u) ∧ wz.cell? ⟨B, 9, none⟩ = some (.int .i64 c.e) ∧ wz.cell? ⟨B, 10, none⟩ = some (.int .i64 c.i) ∧ wz.cell? ⟨B, 11, none⟩ = some (.int .i64 c.p)) (first | exact hE.drew.x.cells | exact hE1.x.cells | exact hE2.x.cells | exact hE3.x.cells | exact hE4.x.cells | exact hE5.x.cells | exact (hE5.next (below_new _ _)).x.cells)
    (first
      | (go_at_call 30; with_reducible refine Calls.mono kA ?_; rintro e wA ⟨b0, rfl, o0, s0, l0, hE1, f0⟩; have kB := env_made (write_any c 2 t true _) hE1; unfold cv at kB)
      | (go_at_call 31; with_reducible refine Calls.mono kB ?_; rintro e wB ⟨b1, rfl, o1, s1, l1, hE2, f1⟩; have kC := env_made (endWrite_any c 2 t _) hE2; unfold cv at kC)
      | (go_at_call 35; with_reducible refine Calls.mono kC ?_; rintro e wC ⟨b2, rfl, o2, s2, l2, hE3, f2⟩; have kD := env_made (read_any c 2 t _) hE3; unfold cv at kD)
      | (go_at_call 30; with_reducible refine Calls.mono kD ?_; rintro e wD ⟨b3, rfl, o3, s3, l3, hE4, f3⟩; have kE := env_made (endRead_any c 2 t _) hE4; unfold cv at kE)
      | (go_at_call 32; with_reducible refine Calls.mono kE ?_; rintro e wE ⟨b4, rfl, o4, s4, l4, hE5, f4⟩))
  obtain ⟨bs, e0, e1, e2, e3, e4⟩ : ∃ bs : Nat → Nat, b0 = bs 0 ∧ b1 = bs 1 ∧ b2 = bs 2 ∧ b3 = bs 3 ∧ b4 = bs 4 := ⟨fun q => match q with | 0 => b0 | 1 => b1 | 2 => b2 | 3 => b3 | _ => b4, rfl, rfl, rfl, rfl, rfl⟩
  subst e0 e1 e2 e3 e4
  have hF : Five w B cb r bs (spN c t) wE := by
    have g0 := l0.lt; have g1 := l1.lt; have g2 := l2.lt; have g3 := l3.lt; have g4 := l4.lt
    refine five_mk o0 o1 o2 o3 o4 ((((l0.next f1).next f2).next f3).next f4) (((l1.next f2).next f3).next f4) ((l2.next f3).next f4) (l3.next f4) l4 ?_ ?_ ?_ ?_
    all_goals omega
  have hl := hF.lt
  have hB := hE5.x.lt
  have hC := hE5.s.lt
  have hR := hE5.s.rlt
  have hW := hE5.b.size
  have r1 := row5 wE (.pointer (some ⟨bs 0, 0, none⟩)) (.pointer (some ⟨bs 1, 0, none⟩)) (.pointer (some ⟨bs 2, 0, none⟩)) (.pointer (some ⟨bs 3, 0, none⟩)) (.pointer (some ⟨bs 4, 0, none⟩)) 34 (fun q => .pointer (some ⟨bs q, 0, none⟩)) rfl rfl rfl rfl rfl
  have q1 := below_new wE (.cells #[.pointer (some ⟨bs 0, 0, none⟩), .pointer (some ⟨bs 1, 0, none⟩), .pointer (some ⟨bs 2, 0, none⟩), .pointer (some ⟨bs 3, 0, none⟩), .pointer (some ⟨bs 4, 0, none⟩)] 34)
  have hE6 := hE5.next q1
  have hF6 := hF.next q1
  clear kA kB kC kD kE f0 f1 f2 f3 f4 l0 l1 l2 l3 l4 o0 o1 o2 o3 o4 s0 s1 s2 s3 s4 hE hE1 hE2 hE3 hE4 hE5 hF
  replace r1 := hide r1
  replace q1 := hide q1
  replace hE6 := hide hE6
  replace hF6 := hide hF6
  go_upto_region 11 with fail
  have r1' := unhide r1
  have q1' := unhide q1
  have hE6' := unhide hE6
  have hF6' := unhide hF6
  clear r1 q1 hE6 hF6
  generalize hP : wE.heap.size = P at *
  generalize hw5 : wE.alloc _ = w5 at *
  have sz : w5.heap.size = P + 1 := by rw [← hw5, ← hP]; simp
  have r2 := row5 w5 (.int .i64 2) (.int .i64 9) (.int .i64 1) (.int .i64 2) (.int .i64 1) 3 (fun q => .int .i64 (spW q : Int)) rfl rfl rfl rfl rfl
  rw [sz] at r2
  have q2 := below_new w5 (.cells #[.int .i64 2, .int .i64 9, .int .i64 1, .int .i64 2, .int .i64 1] 3)
  have hE7 := hE6'.next q2
  have hF7 := hF6'.next q2
  have r1' := r1'.of_block (q2.block P (by omega))
  have hS : Sp w c B cb r bs P t 0 m0 _ := ⟨hE7, fun q _ hq => hF7.lat q hq, r1', r2⟩
  have hk : Kp w B cb r bs P := ⟨hF7.own, hF7.inj, fun q hq => by have := hl q hq; omega, by omega, by omega⟩
  have hS' := hide hS
  clear hE7 hF7 q1' q2 hE6' hF6' r1' r2 hS sz hw5 hP hl hB hC hR hW
  go_wp2_with fail
  go_loopw [10, 11] (fun tot i wr => ∃ j : Nat, j ≤ 5 ∧ tot = .int .i64 (spT j : Int) ∧ i = .int .i64 j ∧ Sp w c B cb r bs P t j (spM c t j) wr) (fun _ i _ => 5 - (intOf i).toNat)
  case atStart => exact ⟨0, by omega, rfl, rfl, unhide hS'⟩
  case round =>
    obtain ⟨j, hj, rfl, rfl, hS⟩ := hrel
    clear hS'
    by_cases hlt : j < 5
    · have c1 := hS.p.cell hlt
      have j5 : decide ((j : Int) < 5) = true := decide_eq_true (by omega)
      have j5p : (j : Int) < 5 := by omega
      have c2 := hS.q.cell hlt
      have w9 := spW_in hlt
      obtain ⟨Fk, F9, Fs, Fc⟩ := unhide F' j hlt
      replace Fk := hide Fk
      replace F9 := hide F9
      replace Fs := hide Fs
      replace Fc := hide Fc
      have hL : Lat _ (bs j) (itL 0 (spN c t j) (spM c t j)) := hS.lat j (Nat.le_refl _) hlt
      have hS0 : Sp w c B cb r bs P t (j + 1) (itM 0 (spN c t j) (spM c t j)) _ := hS.up
      have hL' := hide hL
      have hS0' := hide hS0
      clear hL hS hS0
      go_wp2_with fail
      go_loopw [12] (fun i wr => ∃ k : Nat, k ≤ spW j ∧ i = .int .i64 k ∧ Lat wr (bs j) (itL k (spN c t j) (spM c t j)) ∧ Sp w c B cb r bs P t (j + 1) (itM k (spN c t j) (spM c t j)) wr) (fun i _ => spW j - (intOf i).toNat)
      case atStart => exact ⟨0, by omega, rfl, unhide hL', unhide hS0'⟩
      case round =>
        obtain ⟨k, hk1, rfl, hL, hS⟩ := hrel
        clear hL' hS0' c1 c2
        have c1 := hS.p.cell hlt
        have c2 := hS.q.cell hlt
        by_cases hkt : k < spW j
        · have A := (unhide Fk k hkt).1
          have kd : decide ((k : Int) < (spW j : Int)) = true := decide_eq_true (by omega)
          have A2 := (unhide Fk k hkt).2
          replace A := hide A
          replace A2 := hide A2
          have e5 : IntKind.i64.wrap ((spW j : Int) - 1) = (spW j : Int) - 1 := kin (by omega) (by omega)
          replace hS := hide hS
          replace hL := hide hL
          by_cases hkl : k + 1 = spW j
          · have e6 : ((k : Int) == (spW j : Int) - 1) = true := by simp; omega
            have A3 : decide (8 ≤ (itL 1 (itL k (spN c t j) (spM c t j)) (itM k (spN c t j) (spM c t j))).p) = true := (unhide A2).trans (by simp [hkl])
            replace A3 := hide A3
            clear hkl
            go_wp2_with fail
            go_region_held3 (fun wz => wz.cell? ⟨P, j, none⟩ = some (.pointer (some ⟨bs j, 0, none⟩)) ∧ wz.cell? ⟨P + 1, j, none⟩ = some (.int .i64 (spW j : Int))) (first | exact ⟨c1, c2⟩ | exact ⟨g1, g2⟩)
              (first
                | (go_at_call 19; refine (done_any (bs j) _ _ (unhide hL).drew).mono ?_; rw [unhide A]; rintro e _ ⟨rfl, rfl⟩)
                | (go_at_call 17; refine (env_step (unhide hS).env.drew (unhide hL).drew (hk.own j hlt) (it_ok (sp_ok hn j) k)).mono ?_; rw [unhide A3]; rintro e w7 ⟨rfl, hL7, hE7, ht7⟩; have hS7 := (unhide hS).drew.step hlt hk hE7 ht7; have g1 := hS7.p.cell hlt; have g2 := hS7.q.cell hlt))
            clear hS hL c1 c2 g1 g2
            go_wp2
            go_roundw
            case rel => exact ⟨k + 1, by omega, by go_num, hL7, hS7⟩
            case measure => simp [intOf]; omega
          · have e6 : ((k : Int) == (spW j : Int) - 1) = false := by simp; omega
            have A3 : decide (8 ≤ (itL 1 (itL k (spN c t j) (spM c t j)) (itM k (spN c t j) (spM c t j))).p) = false := (unhide A2).trans (by simp [hkl])
            replace A3 := hide A3
            clear hkl
            go_wp2_with fail
            go_region_held3 (fun wz => wz.cell? ⟨P, j, none⟩ = some (.pointer (some ⟨bs j, 0, none⟩)) ∧ wz.cell? ⟨P + 1, j, none⟩ = some (.int .i64 (spW j : Int))) (first | exact ⟨c1, c2⟩ | exact ⟨g1, g2⟩)
              (first
                | (go_at_call 19; refine (done_any (bs j) _ _ (unhide hL).drew).mono ?_; rw [unhide A]; rintro e _ ⟨rfl, rfl⟩)
                | (go_at_call 17; refine (env_step (unhide hS).env.drew (unhide hL).drew (hk.own j hlt) (it_ok (sp_ok hn j) k)).mono ?_; rw [unhide A3]; rintro e w7 ⟨rfl, hL7, hE7, ht7⟩; have hS7 := (unhide hS).drew.step hlt hk hE7 ht7; have g1 := hS7.p.cell hlt; have g2 := hS7.q.cell hlt))
            clear hS hL c1 c2 g1 g2
            go_wp2
            go_roundw
            case rel => exact ⟨k + 1, by omega, by go_num, hL7, hS7⟩
            case measure => simp [intOf]; omega
        · obtain rfl : k = spW j := by omega
          have e7 : ((spT (j + 1) : Nat) : Int) = (spT j : Int) + (spW j : Int) := by show ((spT j + spW j : Nat) : Int) = _; omega
          have Fc' : (itM (spW j) (spN c t j) (spM c t j)).c = (spT j : Int) + (spW j : Int) := (unhide Fc).trans e7
          replace e7 := hide e7
          replace Fc' := hide Fc'
          replace hS := hide hS
          replace hL := hide hL
          go_wp2_with fail
          go_region_held3 (fun wz => wz.cell? ⟨P, j, none⟩ = some (.pointer (some ⟨bs j, 0, none⟩)) ∧ wz.cell? ⟨P + 1, j, none⟩ = some (.int .i64 (spW j : Int))) (first | exact ⟨c1, c2⟩ | exact ⟨g1, g2⟩)
            (first
              | (go_at_call 20; refine (got_any (bs j) _ _ (unhide hL).drew).mono ?_; rw [unhide F9]; rintro e _ ⟨rfl, rfl⟩)
              | (go_at_call 22; refine (steps_any (bs j) _ _ (unhide hL).drew).mono ?_; rw [unhide Fs]; rintro e _ ⟨rfl, rfl⟩)
              | (go_at_call 23; refine (count_any cb r 9 _ _ _ (unhide hS).env.s.drew).mono ?_; rw [unhide Fc']; rintro e _ ⟨rfl, rfl⟩))
          clear c1 c2
          go_wp2
          go_roundw
          case rel => exact ⟨j + 1, by omega, by rw [unhide e7], by go_num, (unhide hS).drew⟩
          case measure => first | omega | (simp; omega) | (simp [intOf]; omega)
    · obtain rfl : j = 5 := by omega
      have hE := hS.env
      clear hS
      go_wp2_with fail
      refine (first_any _).mono ?_
      rintro e _ ⟨rfl, hb1⟩
      have hE1 := hE.next hb1
      clear hb1 hE
      have hE := hE1
      clear hE1
      obtain ⟨x0, x1, x2, x3, x4, x5, x6, x7, x8, x9, x10, x11⟩ := hE.x.cells
      go_wp2_with fail
      refine (clean_true c cb r 9 _ _ _ hn hE.s (unhide HZ')).mono ?_
      rintro e _ ⟨rfl, hb9⟩
      have hB := below_then hE.b hb9
      go_wp2
      go_ret
      exact ⟨rfl, hB⟩

set_option maxRecDepth 100000 in
theorem latchSteps_walk (s t : Int) (w : World) (_ : (Lit.int .i64 s).wf = true) (_ : (Lit.int .i64 t).wf = true) :
    Calls Try.prog 8 #[.int .i64 s, .int .i64 t] w fun e w' => e = .returned (.bool true) ∧ Below w.heap.size w w' := by
  by_cases hA : 0 ≤ s ∧ s ≤ 4 ∧ 0 ≤ t ∧ t ≤ 3
  · have F := sp_facts s t hA.1 hA.2.1 hA.2.2.1 hA.2.2.2
    exact steps_gen s t w hA.1 hA.2.1 hA.2.2.1 hA.2.2.2 _ rfl F.1 F.2.1 F.2.2
  · go_enter Try.func8, Try.ntmps8
    have hA' := hide hA
    clear hA
    go_wp2_with fail
    refine (first_any _).mono ?_
    rintro e w1 ⟨rfl, hb1⟩
    rcases Bool.eq_false_or_eq_true (decide (s < 0)) with d0 | d0
    · go_wp2_with fail
      refine (first_any _).mono ?_
      rintro e w2 ⟨rfl, hb2⟩
      go_wp2
      go_ret
      exact ⟨rfl, below_then hb1 hb2⟩
    rcases Bool.eq_false_or_eq_true (decide (4 < s)) with d1 | d1
    · go_wp2_with fail
      refine (first_any _).mono ?_
      rintro e w2 ⟨rfl, hb2⟩
      go_wp2
      go_ret
      exact ⟨rfl, below_then hb1 hb2⟩
    rcases Bool.eq_false_or_eq_true (decide (t < 0)) with d2 | d2
    · go_wp2_with fail
      refine (first_any _).mono ?_
      rintro e w2 ⟨rfl, hb2⟩
      go_wp2
      go_ret
      exact ⟨rfl, below_then hb1 hb2⟩
    rcases Bool.eq_false_or_eq_true (decide (3 < t)) with d3 | d3
    · go_wp2_with fail
      refine (first_any _).mono ?_
      rintro e w2 ⟨rfl, hb2⟩
      go_wp2
      go_ret
      exact ⟨rfl, below_then hb1 hb2⟩
    exfalso; have hA := unhide hA'; revert hA; simp at d0 d1 d2 d3; omega
end Go.Proofs.Ytlhmpkeljagihaa
