/-
  No cell of these rows narrows 'for every input' (looked for: loops, veiled, ifaces, maps, wideKeys, modest, calm, conditions, laid).
  DERIVED. THE GIVEN ROWS OF THIS SEAT. 4 by the template 'for every input the law returns true; each argument reads behind the call as it read before'; 0 by the template 'total and deterministic' (their statements: YtoamcbnklgkgnaaTotals.lean).
  GIVEN WITH THE SEED: the statements are not yours to turn. If you find one false, say at which input.
  Laid BY PROGRAM, IN A SANDBOX (cutbox-rows.mjs): the forced cells as the released guide's own fill.sh prints them over the translation 9819029e2329b851… (all of the seat's roots in one cut). By AI agents, Wed Nov 11 2026. No macro, syntax, notation, axiom, sorry.
-/
import Derived.Test.YtoamcbnklgkgnaaChecked
import GoSem.Claim
import GoSem.ClaimJoined
import GoSem.ClaimMapViews
import Derived.JoinedTies
import Derived.KernelRfl
namespace Go.Proofs.Ytoamcbnklgkgnaa
/- THE CELL 'sum', in the pinned program and in every row, IS THE sha256 OF THE DUMP (.gsa) THAT YtoamcbnklgkgnaaProg.lean LOADS. Nothing in Lean hashes anything: it is a label: what it is worth is what the hold of that sum in a sandbox is worth. -/
noncomputable def Try.pinned : Pinned := { name := "ytoamcbnklgkgnaa", sum := "9819029e2329b8510dcca30e7944dde48923996f91a43872f1f657255fcf4e35", checked := Try.checked }
namespace Rows
def none {H : Type} : Left H := { results := [], args := [] }

/-- 'ltklaw13.BirthTells': WHATEVER THE INPUT: true; the input reads as it did. -/
def birthTellsSpec : ChangeSpec := { name := "birthTells", fn := fun _ => fun
  | [d1, d2, d3] => { results := [.lit (.bool true)], args := [d1, d2, d3] }
  | _ => none }
def birthTellsRow : OpenClaim := { program := "ytoamcbnklgkgnaa", sum := "9819029e2329b8510dcca30e7944dde48923996f91a43872f1f657255fcf4e35", func := "latchkey/ltklaw13.BirthTells", spec := "birthTells", apart := false }
def BirthTellsSaid : Prop := birthTellsRow.holds Try.pinned (OpenSpec.ofChange birthTellsSpec)

/-- ITS FALSE NEIGHBOUR: 'it returns false'. Refute it at one input. -/
def birthTellsWrong : ChangeSpec := { name := "birthTells", fn := fun _ => fun
  | [d1, d2, d3] => { results := [.lit (.bool false)], args := [d1, d2, d3] }
  | _ => none }
def BirthTellsWrongFalsely : Prop := birthTellsRow.holds Try.pinned (OpenSpec.ofChange birthTellsWrong)

/-- 'ltklaw13.BirthOnce': WHATEVER THE INPUT: true; the input reads as it did. -/
def birthOnceSpec : ChangeSpec := { name := "birthOnce", fn := fun _ => fun
  | [d1, d2] => { results := [.lit (.bool true)], args := [d1, d2] }
  | _ => none }
def birthOnceRow : OpenClaim := { program := "ytoamcbnklgkgnaa", sum := "9819029e2329b8510dcca30e7944dde48923996f91a43872f1f657255fcf4e35", func := "latchkey/ltklaw13.BirthOnce", spec := "birthOnce", apart := false }
def BirthOnceSaid : Prop := birthOnceRow.holds Try.pinned (OpenSpec.ofChange birthOnceSpec)

/-- ITS FALSE NEIGHBOUR: 'it returns false'. Refute it at one input. -/
def birthOnceWrong : ChangeSpec := { name := "birthOnce", fn := fun _ => fun
  | [d1, d2] => { results := [.lit (.bool false)], args := [d1, d2] }
  | _ => none }
def BirthOnceWrongFalsely : Prop := birthOnceRow.holds Try.pinned (OpenSpec.ofChange birthOnceWrong)

/-- 'ltklaw13.BirthLeast': WHATEVER THE INPUT: true; the input reads as it did. -/
def birthLeastSpec : ChangeSpec := { name := "birthLeast", fn := fun _ => fun
  | [d1, d2] => { results := [.lit (.bool true)], args := [d1, d2] }
  | _ => none }
def birthLeastRow : OpenClaim := { program := "ytoamcbnklgkgnaa", sum := "9819029e2329b8510dcca30e7944dde48923996f91a43872f1f657255fcf4e35", func := "latchkey/ltklaw13.BirthLeast", spec := "birthLeast", apart := false }
def BirthLeastSaid : Prop := birthLeastRow.holds Try.pinned (OpenSpec.ofChange birthLeastSpec)

/-- ITS FALSE NEIGHBOUR: 'it returns false'. Refute it at one input. -/
def birthLeastWrong : ChangeSpec := { name := "birthLeast", fn := fun _ => fun
  | [d1, d2] => { results := [.lit (.bool false)], args := [d1, d2] }
  | _ => none }
def BirthLeastWrongFalsely : Prop := birthLeastRow.holds Try.pinned (OpenSpec.ofChange birthLeastWrong)

/-- 'ltklaw13.BirthApart': WHATEVER THE INPUT: true; the input reads as it did. -/
def birthApartSpec : ChangeSpec := { name := "birthApart", fn := fun _ => fun
  | [d1, d2] => { results := [.lit (.bool true)], args := [d1, d2] }
  | _ => none }
def birthApartRow : OpenClaim := { program := "ytoamcbnklgkgnaa", sum := "9819029e2329b8510dcca30e7944dde48923996f91a43872f1f657255fcf4e35", func := "latchkey/ltklaw13.BirthApart", spec := "birthApart", apart := false }
def BirthApartSaid : Prop := birthApartRow.holds Try.pinned (OpenSpec.ofChange birthApartSpec)

/-- ITS FALSE NEIGHBOUR: 'it returns false'. Refute it at one input. -/
def birthApartWrong : ChangeSpec := { name := "birthApart", fn := fun _ => fun
  | [d1, d2] => { results := [.lit (.bool false)], args := [d1, d2] }
  | _ => none }
def BirthApartWrongFalsely : Prop := birthApartRow.holds Try.pinned (OpenSpec.ofChange birthApartWrong)

/- THE SECOND FORM. 'bulk': how many values and letters a reading holds, each counted each time it is reached (what is shared counts as often as it is met; a slice's spare places count too). A statement '..UptoSaid' is the law's where the arguments, and the package variables that the reading takes, are together of bulk at most 1048576: NARROWER than '..Said'. Prove '..Said' where nothing that the law and all that it calls make is longer than what came in: it says more and counts as full. Else prove '..UptoSaid'. A law counts once. -/
mutual
def uptoBulk {H : Type} : DataW H → Nat
  | .lit (.string bytes) => bytes.length + 1
  | .lit _ => 1
  | .nil => 1
  | .ptr d => uptoBulk d + 1
  | .slice elems spare => uptoBulkAll elems + uptoBulkAll spare + 1
  | .agg parts => uptoBulkAll parts + 1
  | .iface _ d => uptoBulk d + 1
  | .map entries => uptoBulkEntries entries + 1
  | .held _ => 1
def uptoBulkAll {H : Type} : List (DataW H) → Nat
  | [] => 0
  | d :: r => uptoBulk d + uptoBulkAll r
def uptoBulkEntries {H : Type} : List (Lit × DataW H) → Nat
  | [] => 0
  | x :: r => uptoBulkEntry x + uptoBulkEntries r
def uptoBulkEntry {H : Type} : Lit × DataW H → Nat
  | (.string bytes, d) => bytes.length + uptoBulk d + 1
  | (_, d) => uptoBulk d + 1
 end
def uptoSmall : (H : Type) → List (DataW H) → Bool := fun _ ds => decide (uptoBulkAll ds ≤ 1048576)
def OpenSpec.upto (s : _root_.Go.ChangeSpec) : _root_.Go.OpenSpec := { _root_.Go.OpenSpec.ofChange s with cond := some uptoSmall }

/-- 'ltklaw13.BirthTells', WHERE WHAT IT READS IS OF BULK AT MOST 1048576: true; the input reads as it did. -/
def birthTellsUptoRow : OpenClaim := { program := "ytoamcbnklgkgnaa", sum := "9819029e2329b8510dcca30e7944dde48923996f91a43872f1f657255fcf4e35", func := "latchkey/ltklaw13.BirthTells", spec := "birthTells", apart := false, narrowed := true }
def BirthTellsUptoSaid : Prop := birthTellsUptoRow.holds Try.pinned (OpenSpec.upto birthTellsSpec)

/-- 'ltklaw13.BirthOnce', WHERE WHAT IT READS IS OF BULK AT MOST 1048576: true; the input reads as it did. -/
def birthOnceUptoRow : OpenClaim := { program := "ytoamcbnklgkgnaa", sum := "9819029e2329b8510dcca30e7944dde48923996f91a43872f1f657255fcf4e35", func := "latchkey/ltklaw13.BirthOnce", spec := "birthOnce", apart := false, narrowed := true }
def BirthOnceUptoSaid : Prop := birthOnceUptoRow.holds Try.pinned (OpenSpec.upto birthOnceSpec)

/-- 'ltklaw13.BirthLeast', WHERE WHAT IT READS IS OF BULK AT MOST 1048576: true; the input reads as it did. -/
def birthLeastUptoRow : OpenClaim := { program := "ytoamcbnklgkgnaa", sum := "9819029e2329b8510dcca30e7944dde48923996f91a43872f1f657255fcf4e35", func := "latchkey/ltklaw13.BirthLeast", spec := "birthLeast", apart := false, narrowed := true }
def BirthLeastUptoSaid : Prop := birthLeastUptoRow.holds Try.pinned (OpenSpec.upto birthLeastSpec)

/-- 'ltklaw13.BirthApart', WHERE WHAT IT READS IS OF BULK AT MOST 1048576: true; the input reads as it did. -/
def birthApartUptoRow : OpenClaim := { program := "ytoamcbnklgkgnaa", sum := "9819029e2329b8510dcca30e7944dde48923996f91a43872f1f657255fcf4e35", func := "latchkey/ltklaw13.BirthApart", spec := "birthApart", apart := false, narrowed := true }
def BirthApartUptoSaid : Prop := birthApartUptoRow.holds Try.pinned (OpenSpec.upto birthApartSpec)

end Rows
end Go.Proofs.Ytoamcbnklgkgnaa
