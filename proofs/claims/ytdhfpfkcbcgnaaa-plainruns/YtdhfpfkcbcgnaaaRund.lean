/- What Run of package plain answers. -/
import Derived.Test.YtdhfpfkcbcgnaaaPlay
import Derived.Test.YtdhfpfkcbcgnaaaSame
import Derived.Handy
import Derived.Laws.ResultCell
import Derived.Deep.Cut
import Derived.Deep.OwnRows
import Derived.Deep.MidRow
namespace Go.Proofs.Ytdhfpfkcbcgnaaa
open Go.RowKit

/-- What Run answers: the end, the registers, the reads, the writes, the heap behind it, the error. -/
structure Rn where
  e : Int
  r : List Int
  rd : List (Int × Int)
  wr : List (Int × Int)
  h : List Int
  x : Int
def st0 (c : Cf) (H : List Int) : St := ⟨H, List.replicate c.g.toNat 0, [], []⟩
def endD (H : List Int) (R : St × Int) : Rn := ⟨R.2, R.1.r, R.1.rd, R.1.wr, if R.2 = 1 then R.1.h else H, 0⟩
def runD (c : Cf) (H : List Int) (ps : List In) : Rn :=
  if chB c ps then (if (H.length : Int) = wordsD c then endD H (playD c ps ps.length 0 (st0 c H)) else ⟨0, [], [], [], [], 1⟩) else ⟨0, [], [], [], [], 2⟩
/-- An Out, as a value. -/
def ov (e : Int) (rv dv wv : Value) : Value := .agg #[.int .i64 e, rv, dv, wv]
/-- The values hold what Run answers. -/
structure Held (R : Rn) (rv dv wv hv : Value) (w : World) : Prop where
  r : Ls w.heap.size w rv R.r
  d : As w.heap.size w dv R.rd
  t : As w.heap.size w wv R.wr
  h : Ls w.heap.size w hv R.h
theorem Held.next {R : Rn} {rv dv wv hv : Value} {w w' : World} (h : Held R rv dv wv hv w) (hb : Below w.heap.size w w') : Held R rv dv wv hv w' := ⟨h.r.next hb, h.d.next hb, h.t.next hb, h.h.next hb⟩
def Ran (R : Rn) (w : World) (r : Ending) (w' : World) : Prop := ∃ rv dv wv hv, r = .returned (.tuple #[ov R.e rv dv wv, hv, .int .i64 R.x]) ∧ Held R rv dv wv hv w' ∧ Below w.heap.size w w'
theorem ls_none (B : Nat) (w : World) : Ls B w (.slice none 0 0) [] := ⟨none, 0, 0, rfl, Nat.le_refl _, Nat.zero_le _, fun _ => rfl, rfl, .inl rfl⟩
theorem as_none (B : Nat) (w : World) : As B w (.slice none 0 0) [] := ⟨none, 0, rfl, Nat.zero_le _, .inl rfl⟩
theorem held_none (x : Int) (w : World) : Held ⟨0, [], [], [], [], x⟩ (.slice none 0 0) (.slice none 0 0) (.slice none 0 0) (.slice none 0 0) w := ⟨ls_none _ _, as_none _ _, as_none _ _, ls_none _ _⟩
theorem ch_iff {c : Cf} {ps : List In} (h : chB c ps = true) : okB c = true ∧ ps.length ≤ 60 ∧ ∀ i : Nat, i < ps.length → stB c.g (ps.getD i z0) i ps.length = true := by
  unfold chB at h
  simp only [Bool.and_eq_true, decide_eq_true_eq] at h
  exact ⟨h.1, h.2.1, fun i hi => List.all_eq_true.1 h.2.2 i (List.mem_range.2 hi)⟩
theorem okB_regs {c : Cf} (h : okB c = true) : 1 ≤ c.g ∧ c.g ≤ 8 := by
  unfold okB roomB at h
  simp only [Bool.and_eq_true, inB_iff] at h
  omega
/-- An Out as it lies in block b. -/
def Ob (e : Int) (rv dv wv : Value) (b : Nat) (w : World) : Prop := w.heap[b]? = some (.cells #[.int .i64 e, rv, dv, wv] 30 (0, 0))
namespace Ob
variable {e : Int} {rv dv wv : Value} {b : Nat} {w w' : World}
theorem lt (h : Ob e rv dv wv b w) : b < w.heap.size := heap_lt h
theorem next (h : Ob e rv dv wv b w) (hb : Below w.heap.size w w') : Ob e rv dv wv b w' := (hb.block b h.lt).trans h
theorem cells (h : Ob e rv dv wv b w) : w.cell? ⟨b, 0, none⟩ = some (.int .i64 e) ∧ w.cell? ⟨b, 1, none⟩ = some rv ∧ w.cell? ⟨b, 2, none⟩ = some dv ∧ w.cell? ⟨b, 3, none⟩ = some wv := by
  unfold Ob at h
  simp [World.cell?, h]
theorem free (h : Ob e rv dv wv b w) (k : Nat) : w.frozen? ⟨b, k, none⟩ = false := by unfold Ob at h; simp [World.frozen?, h]
end Ob
def four (w : World) (N : Nat) (v0 v1 v2 v3 : Value) : World := (((w.setCell ⟨N, 0, none⟩ v0).setCell ⟨N, 1, none⟩ v1).setCell ⟨N, 2, none⟩ v2).setCell ⟨N, 3, none⟩ v3
theorem four_other (w : World) (N : Nat) (v0 v1 v2 v3 : Value) (k : Nat) (h : k ≠ N) : (four w N v0 v1 v2 v3).heap[k]? = w.heap[k]? := by
  unfold four
  rw [set_other _ _ _ _ _ h, set_other _ _ _ _ _ h, set_other _ _ _ _ _ h, set_other _ _ _ _ _ h]
theorem four_below {w0 w : World} {B N : Nat} (h : Below B w0 w) (hB : B ≤ N) (v0 v1 v2 v3 : Value) : Below B w0 (four w N v0 v1 v2 v3) :=
  (((h.setCell (p := ⟨N, 0, none⟩) hB v0).setCell (p := ⟨N, 1, none⟩) hB v1).setCell (p := ⟨N, 2, none⟩) hB v2).setCell (p := ⟨N, 3, none⟩) hB v3
theorem results_cell_two {fn : Func} {p u v : Tmp} {ty : TypeId} (h : fn.results = #[.cell p ty, .tmp u, .tmp v]) (tmps : Array Value) (P : Program) (w : World) :
    (results fn tmps).run P w =
      ((asAddr (tmps.getD p undef)).run P w).andThen fun a w₁ => ((loadVar ty a).run P w₁).andThen fun x w₂ => .ok (.tuple #[x, tmps.getD u undef, tmps.getD v undef]) w₂ := by
  simp only [results, h]
  simp [Sem.run_bind, Result.andThen]

end Go.Proofs.Ytdhfpfkcbcgnaaa
