/-
  For any size, any number of locks and any requests and drops TablePlays answers true: each answer of the table, who holds and waits for what, and the edges are the reference's.
-/
import Derived.Test.YtgiklggnolbiiaaGreatRows
import Derived.Test.YtgiklggnolbiiaaGreatBase1
import Derived.Test.YtgiklggnolbiiaaGreatBase2
import Derived.Test.YtgiklggnolbiiaaGreatBase3
import Derived.Test.YtgiklggnolbiiaaGreatBase4
import Derived.Test.YtgiklggnolbiiaaGreatBase5
import Derived.Test.YtgiklggnolbiiaaGreatBase6
import Derived.Test.YtgiklggnolbiiaaGreatBase7
import Derived.Test.YtgiklggnolbiiaaGreatBase8
import Derived.Test.YtgiklggnolbiiaaGreatBase9
import Derived.Test.YtgiklggnolbiiaaGreatBase10
import Derived.Test.YtgiklggnolbiiaaGreatBase11
import Derived.Test.YtgiklggnolbiiaaGreatBase12
import Derived.Test.YtgiklggnolbiiaaGreatBase13
import Derived.Test.YtgiklggnolbiiaaGreatBase14
import Derived.Test.YtgiklggnolbiiaaGreatBase15
import Derived.Test.YtgiklggnolbiiaaGreatBase16
import Derived.Test.YtgiklggnolbiiaaGreatBase17
import Derived.Test.YtgiklggnolbiiaaGreatOfTableplays18
import Derived.Test.YtgiklggnolbiiaaGreatOfTableplays19
import Derived.WalkKit
import Derived.ProofKit
import Derived.OpenShut
import Derived.ShutString
import Derived.ChangeOld
import Derived.Below
namespace Go.Proofs.YtgiklggnolbiiaaGreat
open Go.ChangeShapes Go.WideShapes Go.ChangeAt Go.RowKit
set_option linter.unusedVariables false

theorem tablePlays_own : ownKnob Tryz.prog.godebug = none := by kernel_rfl
theorem tablePlays_laidOut : laidOutB Tryz.prog = true := by kernel_rfl

set_option maxRecDepth 100000 in
theorem tablePlays_lifted (os : Os) (started : os.Started) (H : Type) (enc : TypeId × Value → H) :
    ReturnsInHanded {} Tryz.checked os 3 .any (Rows.tablePlaysSpec.pre6 enc Tryz.prog Tryz.f3 Rows.tablePlaysRow.domain false) (Rows.tablePlaysSpec.post enc Tryz.prog Tryz.f3 false true false false) := by
  refine returnsInHanded_of_change (C := Tryz.checked) tablePlays_own started (by kernel_rfl) Tryz.func3
    (ChangeSpec.witness6 (enc := enc) (C := Tryz.checked) false ⟨#[], #[.int .i64 0, .int .i64 0, .slice none 0 0], []⟩ 8 (by kernel_rfl) (by kernel_rfl) (by kernel_rfl) (by kernel_rfl)) ?_
  intro W base args ds gs before hval0 hW hcnd _
  have hval : ∀ (j : Nat) t v, Tryz.f3.params[j]? = some t → args[j]? = some v → Value.okWide Tryz.prog W .any base t v := hval0
  have hW' := hW
  obtain ⟨p, q, hA0, hV, rfl, hfz, hnd⟩ := hW
  have hA : DataW.TrodAll enc Tryz.prog W 0 (fun _ => true) true Tryz.f3.params.toList args.toList ds p := hA0
  rw [Tryz.params3] at hA hval
  obtain ⟨v0, vs0, d0, ds0, p0, q0, hargs, rfl, rfl, h0, r0⟩ := trodAll_cons hA
  obtain ⟨v1, vs1, d1, ds1, p1, q1, rfl, rfl, rfl, h1, r1⟩ := trodAll_cons r0
  obtain ⟨v2, vs2, d2, ds2, p2, q2, rfl, rfl, rfl, h2, r2⟩ := trodAll_cons r1
  obtain ⟨rfl, rfl, rfl⟩ := trodAll_nil r2
  obtain rfl : args = #[v0, v1, v2] := by cases args; simp_all
  obtain ⟨rfl, rfl⟩ := trodVars_none hV
  obtain ⟨a0, rfl, rfl, rfl, w0⟩ := open_int Tryz.underlying3 (hval 0 3 v0 rfl rfl) h0
  obtain ⟨a1, rfl, rfl, rfl, w1⟩ := open_int Tryz.underlying3 (hval 1 3 v1 rfl rfl) h1
  obtain ⟨a2, len2, cap2, rfl⟩ := okWide_slice Tryz.underlying22 (hval 2 22 v2 rfl rfl)
  have k2 := h2
  have lt2 : ∀ x ∈ p2, x.block < W.heap.size := by obtain ⟨m, hm⟩ := k2; exact DataW.trod_lt m _ _ _ hm
  obtain ⟨z2, w2⟩ : ∃ Z, IsRecs 4 W a2 len2 cap2 Z := by
    obtain ⟨fuel, hf⟩ := h2
    rcases open_structs (N := 4) Tryz.underlying22 (show plainInts Tryz.prog 32 4 = true by kernel_rfl) hf with hcs | ⟨x, l, c, Z, hcs, hl, hm, hcell⟩
    · simp [Value.cells] at hcs
      obtain ⟨rfl, rfl, rfl⟩ := hcs
      exact ⟨fun _ _ => 0, .inl ⟨rfl, rfl, rfl⟩⟩
    · simp [Value.cells] at hcs
      obtain ⟨rfl, rfl, rfl⟩ := hcs
      exact ⟨Z, .inr ⟨_, rfl, hl, hm, hcell⟩⟩
  clear hA0 hval0
  obtain ⟨s2, lc2, cm2, wz2⟩ := isRecs_low (by decide) w2
  refine (tablePlays_walk a0 a1 a2 len2 cap2 z2 W w0 w1 s2 lc2 cm2 wz2).mono fun e W' ⟨he, bel⟩ => ?_
  subst he
  exact ⟨_, rfl, _, _, _, [], _, [], hW', trodAll_mk1 (shut_bool Tryz.underlying4 _), (trodAll_cons_mk (shut_int Tryz.underlying3 w0) (trodAll_cons_mk (shut_int Tryz.underlying3 w1) (trodAll_cons_mk (Below.trod tablePlays_laidOut (by kernel_rfl) (of_decide_eq_true (by kernel_rfl)) k2 bel lt2) trodAll_mk0))), rfl, bel.frame _, fun h => by cases h⟩

theorem tablePlays_over : Rows.tablePlaysRow.holds Tryz.pinned (OpenSpec.ofChange Rows.tablePlaysSpec) :=
  OpenClaim.holds_of_wide 3 Tryz.f3 rfl rfl rfl rfl rfl rfl rfl ⟨rfl, rfl, rfl, rfl, rfl⟩ rfl rfl rfl rfl rfl (by kernel_rfl) Tryz.func3 (by kernel_rfl)
    (of_decide_eq_true (by kernel_rfl)) (by unfold Func.isWrapper; first | (rw [if_pos (by decide +kernel)]; kernel_rfl) | (rw [if_neg (by decide +kernel)]; exact ⟨rfl, rfl⟩))
    (fun os started H enc _ => tablePlays_lifted os started H enc)

theorem tablePlays_holds : Rows.TablePlaysSaid := tablePlays_over
#print axioms tablePlays_holds
end Go.Proofs.YtgiklggnolbiiaaGreat
