/-
  No cell of these rows narrows 'for every input' (looked for: loops, veiled, ifaces, maps, wideKeys, modest, calm, conditions, laid).
  DERIVED. THE GIVEN ROWS OF THIS SEAT. 7 by the template 'for every input the law returns true; each argument reads behind the call as it read before'; 0 by the template 'total and deterministic' (their statements: YtjgepcifknmdhaaTotals.lean).
  GIVEN WITH THE SEED: the statements are not yours to turn. If you find one false, say at which input.
  Laid BY PROGRAM, IN A SANDBOX (cutbox-rows.mjs): the forced cells as the released guide's own fill.sh prints them over the translation fe0b598b4b73a51a… (all of the seat's roots in one cut). By AI agents, Wed Nov 11 2026. No macro, syntax, notation, axiom, sorry.
-/
import Derived.Test.YtjgepcifknmdhaaChecked
import GoSem.Claim
import GoSem.ClaimJoined
import GoSem.ClaimMapViews
import Derived.JoinedTies
import Derived.KernelRfl
namespace Go.Proofs.Ytjgepcifknmdhaa
/- THE CELL 'sum', in the pinned program and in every row, IS THE sha256 OF THE DUMP (.gsa) THAT YtjgepcifknmdhaaProg.lean LOADS. Nothing in Lean hashes anything: it is a label: what it is worth is what the hold of that sum in a sandbox is worth. -/
noncomputable def Try.pinned : Pinned := { name := "ytjgepcifknmdhaa", sum := "fe0b598b4b73a51a5b5fe8a147871cb4b43b06b0937763201184b5ef38dc432d", checked := Try.checked }
namespace Rows
def none {H : Type} : Left H := { results := [], args := [] }

/-- 'ltklaw11.GraphTells': WHATEVER THE INPUT: true; the input reads as it did. -/
def graphTellsSpec : ChangeSpec := { name := "graphTells", fn := fun _ => fun
  | [d1, d2, d3] => { results := [.lit (.bool true)], args := [d1, d2, d3] }
  | _ => none }
def graphTellsRow : OpenClaim := { program := "ytjgepcifknmdhaa", sum := "fe0b598b4b73a51a5b5fe8a147871cb4b43b06b0937763201184b5ef38dc432d", func := "latchkey/ltklaw11.GraphTells", spec := "graphTells", unfollowed := true, recurses := true, apart := false }
def GraphTellsSaid : Prop := graphTellsRow.holds Try.pinned (OpenSpec.ofChange graphTellsSpec)

/-- ITS FALSE NEIGHBOUR: 'it returns false'. Refute it at one input. -/
def graphTellsWrong : ChangeSpec := { name := "graphTells", fn := fun _ => fun
  | [d1, d2, d3] => { results := [.lit (.bool false)], args := [d1, d2, d3] }
  | _ => none }
def GraphTellsWrongFalsely : Prop := graphTellsRow.holds Try.pinned (OpenSpec.ofChange graphTellsWrong)

/-- 'ltklaw12.RuleTells': WHATEVER THE INPUT: true; the input reads as it did. -/
def ruleTellsSpec : ChangeSpec := { name := "ruleTells", fn := fun _ => fun
  | [d1, d2] => { results := [.lit (.bool true)], args := [d1, d2] }
  | _ => none }
def ruleTellsRow : OpenClaim := { program := "ytjgepcifknmdhaa", sum := "fe0b598b4b73a51a5b5fe8a147871cb4b43b06b0937763201184b5ef38dc432d", func := "latchkey/ltklaw12.RuleTells", spec := "ruleTells", unfollowed := true, recurses := true, apart := false }
def RuleTellsSaid : Prop := ruleTellsRow.holds Try.pinned (OpenSpec.ofChange ruleTellsSpec)

/-- ITS FALSE NEIGHBOUR: 'it returns false'. Refute it at one input. -/
def ruleTellsWrong : ChangeSpec := { name := "ruleTells", fn := fun _ => fun
  | [d1, d2] => { results := [.lit (.bool false)], args := [d1, d2] }
  | _ => none }
def RuleTellsWrongFalsely : Prop := ruleTellsRow.holds Try.pinned (OpenSpec.ofChange ruleTellsWrong)

/-- 'ltklaw12.RuleEnds': WHATEVER THE INPUT: true; the input reads as it did. -/
def ruleEndsSpec : ChangeSpec := { name := "ruleEnds", fn := fun _ => fun
  | [d1, d2] => { results := [.lit (.bool true)], args := [d1, d2] }
  | _ => none }
def ruleEndsRow : OpenClaim := { program := "ytjgepcifknmdhaa", sum := "fe0b598b4b73a51a5b5fe8a147871cb4b43b06b0937763201184b5ef38dc432d", func := "latchkey/ltklaw12.RuleEnds", spec := "ruleEnds", unfollowed := true, recurses := true, apart := false }
def RuleEndsSaid : Prop := ruleEndsRow.holds Try.pinned (OpenSpec.ofChange ruleEndsSpec)

/-- ITS FALSE NEIGHBOUR: 'it returns false'. Refute it at one input. -/
def ruleEndsWrong : ChangeSpec := { name := "ruleEnds", fn := fun _ => fun
  | [d1, d2] => { results := [.lit (.bool false)], args := [d1, d2] }
  | _ => none }
def RuleEndsWrongFalsely : Prop := ruleEndsRow.holds Try.pinned (OpenSpec.ofChange ruleEndsWrong)

/-- 'ltklaw12.RuleRing': WHATEVER THE INPUT: true; the input reads as it did. -/
def ruleRingSpec : ChangeSpec := { name := "ruleRing", fn := fun _ => fun
  | [d1, d2] => { results := [.lit (.bool true)], args := [d1, d2] }
  | _ => none }
def ruleRingRow : OpenClaim := { program := "ytjgepcifknmdhaa", sum := "fe0b598b4b73a51a5b5fe8a147871cb4b43b06b0937763201184b5ef38dc432d", func := "latchkey/ltklaw12.RuleRing", spec := "ruleRing", unfollowed := true, recurses := true, apart := false }
def RuleRingSaid : Prop := ruleRingRow.holds Try.pinned (OpenSpec.ofChange ruleRingSpec)

/-- ITS FALSE NEIGHBOUR: 'it returns false'. Refute it at one input. -/
def ruleRingWrong : ChangeSpec := { name := "ruleRing", fn := fun _ => fun
  | [d1, d2] => { results := [.lit (.bool false)], args := [d1, d2] }
  | _ => none }
def RuleRingWrongFalsely : Prop := ruleRingRow.holds Try.pinned (OpenSpec.ofChange ruleRingWrong)

/-- 'ltklaw12.RuleNone': WHATEVER THE INPUT: true; the input reads as it did. -/
def ruleNoneSpec : ChangeSpec := { name := "ruleNone", fn := fun _ => fun
  | [d1, d2, d3] => { results := [.lit (.bool true)], args := [d1, d2, d3] }
  | _ => none }
def ruleNoneRow : OpenClaim := { program := "ytjgepcifknmdhaa", sum := "fe0b598b4b73a51a5b5fe8a147871cb4b43b06b0937763201184b5ef38dc432d", func := "latchkey/ltklaw12.RuleNone", spec := "ruleNone", unfollowed := true, recurses := true, apart := false }
def RuleNoneSaid : Prop := ruleNoneRow.holds Try.pinned (OpenSpec.ofChange ruleNoneSpec)

/-- ITS FALSE NEIGHBOUR: 'it returns false'. Refute it at one input. -/
def ruleNoneWrong : ChangeSpec := { name := "ruleNone", fn := fun _ => fun
  | [d1, d2, d3] => { results := [.lit (.bool false)], args := [d1, d2, d3] }
  | _ => none }
def RuleNoneWrongFalsely : Prop := ruleNoneRow.holds Try.pinned (OpenSpec.ofChange ruleNoneWrong)

/-- 'ltklaw12.RuleMany': WHATEVER THE INPUT: true; the input reads as it did. -/
def ruleManySpec : ChangeSpec := { name := "ruleMany", fn := fun _ => fun
  | [d1, d2, d3] => { results := [.lit (.bool true)], args := [d1, d2, d3] }
  | _ => none }
def ruleManyRow : OpenClaim := { program := "ytjgepcifknmdhaa", sum := "fe0b598b4b73a51a5b5fe8a147871cb4b43b06b0937763201184b5ef38dc432d", func := "latchkey/ltklaw12.RuleMany", spec := "ruleMany", unfollowed := true, recurses := true, apart := false }
def RuleManySaid : Prop := ruleManyRow.holds Try.pinned (OpenSpec.ofChange ruleManySpec)

/-- ITS FALSE NEIGHBOUR: 'it returns false'. Refute it at one input. -/
def ruleManyWrong : ChangeSpec := { name := "ruleMany", fn := fun _ => fun
  | [d1, d2, d3] => { results := [.lit (.bool false)], args := [d1, d2, d3] }
  | _ => none }
def RuleManyWrongFalsely : Prop := ruleManyRow.holds Try.pinned (OpenSpec.ofChange ruleManyWrong)

/-- 'ltklaw12.RuleShift': WHATEVER THE INPUT: true; the input reads as it did. -/
def ruleShiftSpec : ChangeSpec := { name := "ruleShift", fn := fun _ => fun
  | [d1, d2, d3] => { results := [.lit (.bool true)], args := [d1, d2, d3] }
  | _ => none }
def ruleShiftRow : OpenClaim := { program := "ytjgepcifknmdhaa", sum := "fe0b598b4b73a51a5b5fe8a147871cb4b43b06b0937763201184b5ef38dc432d", func := "latchkey/ltklaw12.RuleShift", spec := "ruleShift", unfollowed := true, recurses := true, apart := false }
def RuleShiftSaid : Prop := ruleShiftRow.holds Try.pinned (OpenSpec.ofChange ruleShiftSpec)

/-- ITS FALSE NEIGHBOUR: 'it returns false'. Refute it at one input. -/
def ruleShiftWrong : ChangeSpec := { name := "ruleShift", fn := fun _ => fun
  | [d1, d2, d3] => { results := [.lit (.bool false)], args := [d1, d2, d3] }
  | _ => none }
def RuleShiftWrongFalsely : Prop := ruleShiftRow.holds Try.pinned (OpenSpec.ofChange ruleShiftWrong)

/- THE SECOND FORM. 'bulk': how many values and letters a reading holds, each counted each time it is reached (what is shared counts as often as it is met; a slice's spare places count too). A statement '..UptoSaid' is the law's where the arguments, and the package variables that the reading takes, are together of bulk at most 1048576: NARROWER than '..Said'. Prove '..Said' where nothing that the law and all that it calls make is longer than what came in: it says more and counts as full. Else prove '..UptoSaid'. A law counts once. -/
mutual
def uptoBulk {H : Type} : DataW H → Nat
  | .lit (.string bytes) => bytes.length + 1
  | .lit _ => 1
  | .nil => 1
  | .ptr d => uptoBulk d + 1
  | .slice elems spare => uptoBulkAll elems + uptoBulkAll spare + 1
  | .agg parts => uptoBulkAll parts + 1
  | .iface _ d => uptoBulk d + 1
  | .map entries => uptoBulkEntries entries + 1
  | .held _ => 1
def uptoBulkAll {H : Type} : List (DataW H) → Nat
  | [] => 0
  | d :: r => uptoBulk d + uptoBulkAll r
def uptoBulkEntries {H : Type} : List (Lit × DataW H) → Nat
  | [] => 0
  | x :: r => uptoBulkEntry x + uptoBulkEntries r
def uptoBulkEntry {H : Type} : Lit × DataW H → Nat
  | (.string bytes, d) => bytes.length + uptoBulk d + 1
  | (_, d) => uptoBulk d + 1
 end
def uptoSmall : (H : Type) → List (DataW H) → Bool := fun _ ds => decide (uptoBulkAll ds ≤ 1048576)
def OpenSpec.upto (s : _root_.Go.ChangeSpec) : _root_.Go.OpenSpec := { _root_.Go.OpenSpec.ofChange s with cond := some uptoSmall }

/-- 'ltklaw11.GraphTells', WHERE WHAT IT READS IS OF BULK AT MOST 1048576: true; the input reads as it did. -/
def graphTellsUptoRow : OpenClaim := { program := "ytjgepcifknmdhaa", sum := "fe0b598b4b73a51a5b5fe8a147871cb4b43b06b0937763201184b5ef38dc432d", func := "latchkey/ltklaw11.GraphTells", spec := "graphTells", unfollowed := true, recurses := true, apart := false, narrowed := true }
def GraphTellsUptoSaid : Prop := graphTellsUptoRow.holds Try.pinned (OpenSpec.upto graphTellsSpec)

/-- 'ltklaw12.RuleTells', WHERE WHAT IT READS IS OF BULK AT MOST 1048576: true; the input reads as it did. -/
def ruleTellsUptoRow : OpenClaim := { program := "ytjgepcifknmdhaa", sum := "fe0b598b4b73a51a5b5fe8a147871cb4b43b06b0937763201184b5ef38dc432d", func := "latchkey/ltklaw12.RuleTells", spec := "ruleTells", unfollowed := true, recurses := true, apart := false, narrowed := true }
def RuleTellsUptoSaid : Prop := ruleTellsUptoRow.holds Try.pinned (OpenSpec.upto ruleTellsSpec)

/-- 'ltklaw12.RuleEnds', WHERE WHAT IT READS IS OF BULK AT MOST 1048576: true; the input reads as it did. -/
def ruleEndsUptoRow : OpenClaim := { program := "ytjgepcifknmdhaa", sum := "fe0b598b4b73a51a5b5fe8a147871cb4b43b06b0937763201184b5ef38dc432d", func := "latchkey/ltklaw12.RuleEnds", spec := "ruleEnds", unfollowed := true, recurses := true, apart := false, narrowed := true }
def RuleEndsUptoSaid : Prop := ruleEndsUptoRow.holds Try.pinned (OpenSpec.upto ruleEndsSpec)

/-- 'ltklaw12.RuleRing', WHERE WHAT IT READS IS OF BULK AT MOST 1048576: true; the input reads as it did. -/
def ruleRingUptoRow : OpenClaim := { program := "ytjgepcifknmdhaa", sum := "fe0b598b4b73a51a5b5fe8a147871cb4b43b06b0937763201184b5ef38dc432d", func := "latchkey/ltklaw12.RuleRing", spec := "ruleRing", unfollowed := true, recurses := true, apart := false, narrowed := true }
def RuleRingUptoSaid : Prop := ruleRingUptoRow.holds Try.pinned (OpenSpec.upto ruleRingSpec)

/-- 'ltklaw12.RuleNone', WHERE WHAT IT READS IS OF BULK AT MOST 1048576: true; the input reads as it did. -/
def ruleNoneUptoRow : OpenClaim := { program := "ytjgepcifknmdhaa", sum := "fe0b598b4b73a51a5b5fe8a147871cb4b43b06b0937763201184b5ef38dc432d", func := "latchkey/ltklaw12.RuleNone", spec := "ruleNone", unfollowed := true, recurses := true, apart := false, narrowed := true }
def RuleNoneUptoSaid : Prop := ruleNoneUptoRow.holds Try.pinned (OpenSpec.upto ruleNoneSpec)

/-- 'ltklaw12.RuleMany', WHERE WHAT IT READS IS OF BULK AT MOST 1048576: true; the input reads as it did. -/
def ruleManyUptoRow : OpenClaim := { program := "ytjgepcifknmdhaa", sum := "fe0b598b4b73a51a5b5fe8a147871cb4b43b06b0937763201184b5ef38dc432d", func := "latchkey/ltklaw12.RuleMany", spec := "ruleMany", unfollowed := true, recurses := true, apart := false, narrowed := true }
def RuleManyUptoSaid : Prop := ruleManyUptoRow.holds Try.pinned (OpenSpec.upto ruleManySpec)

/-- 'ltklaw12.RuleShift', WHERE WHAT IT READS IS OF BULK AT MOST 1048576: true; the input reads as it did. -/
def ruleShiftUptoRow : OpenClaim := { program := "ytjgepcifknmdhaa", sum := "fe0b598b4b73a51a5b5fe8a147871cb4b43b06b0937763201184b5ef38dc432d", func := "latchkey/ltklaw12.RuleShift", spec := "ruleShift", unfollowed := true, recurses := true, apart := false, narrowed := true }
def RuleShiftUptoSaid : Prop := ruleShiftUptoRow.holds Try.pinned (OpenSpec.upto ruleShiftSpec)

end Rows
end Go.Proofs.Ytjgepcifknmdhaa
