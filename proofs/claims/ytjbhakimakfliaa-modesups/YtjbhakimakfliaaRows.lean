/-
  No cell of these rows narrows 'for every input' (looked for: loops, veiled, ifaces, maps, wideKeys, modest, calm, conditions, laid).
  DERIVED. THE GIVEN ROWS OF THIS SEAT. 6 by the template 'for every input the law returns true; each argument reads behind the call as it read before'; 0 by the template 'total and deterministic' (their statements: YtjbhakimakfliaaTotals.lean).
  GIVEN WITH THE SEED: the statements are not yours to turn. If you find one false, say at which input.
  Laid BY PROGRAM, IN A SANDBOX (cutbox-rows.mjs): the forced cells as the released guide's own fill.sh prints them over the translation ec9aeeb4539a33b4… (all of the seat's roots in one cut). By AI agents, Wed Nov 11 2026. No macro, syntax, notation, axiom, sorry.
-/
import Derived.Test.YtjbhakimakfliaaChecked
import GoSem.Claim
import GoSem.ClaimJoined
import GoSem.ClaimMapViews
import Derived.JoinedTies
import Derived.KernelRfl
namespace Go.Proofs.Ytjbhakimakfliaa
/- THE CELL 'sum', in the pinned program and in every row, IS THE sha256 OF THE DUMP (.gsa) THAT YtjbhakimakfliaaProg.lean LOADS. Nothing in Lean hashes anything: it is a label: what it is worth is what the hold of that sum in a sandbox is worth. -/
noncomputable def Try.pinned : Pinned := { name := "ytjbhakimakfliaa", sum := "ec9aeeb4539a33b430353b00f9fee60a81d49778272886705c3058426f06a661", checked := Try.checked }
namespace Rows
def none {H : Type} : Left H := { results := [], args := [] }

/-- 'ltklaw4.ModeTells': WHATEVER THE INPUT: true; the input reads as it did. -/
def modeTellsSpec : ChangeSpec := { name := "modeTells", fn := fun _ => fun
  | [d1, d2, d3] => { results := [.lit (.bool true)], args := [d1, d2, d3] }
  | _ => none }
def modeTellsRow : OpenClaim := { program := "ytjbhakimakfliaa", sum := "ec9aeeb4539a33b430353b00f9fee60a81d49778272886705c3058426f06a661", func := "latchkey/ltklaw4.ModeTells", spec := "modeTells", apart := false }
def ModeTellsSaid : Prop := modeTellsRow.holds Try.pinned (OpenSpec.ofChange modeTellsSpec)

/-- ITS FALSE NEIGHBOUR: 'it returns false'. Refute it at one input. -/
def modeTellsWrong : ChangeSpec := { name := "modeTells", fn := fun _ => fun
  | [d1, d2, d3] => { results := [.lit (.bool false)], args := [d1, d2, d3] }
  | _ => none }
def ModeTellsWrongFalsely : Prop := modeTellsRow.holds Try.pinned (OpenSpec.ofChange modeTellsWrong)

/-- 'ltklaw4.ModeLaws': WHATEVER THE INPUT: true; the input reads as it did. -/
def modeLawsSpec : ChangeSpec := { name := "modeLaws", fn := fun _ => fun
  | [d1, d2, d3] => { results := [.lit (.bool true)], args := [d1, d2, d3] }
  | _ => none }
def modeLawsRow : OpenClaim := { program := "ytjbhakimakfliaa", sum := "ec9aeeb4539a33b430353b00f9fee60a81d49778272886705c3058426f06a661", func := "latchkey/ltklaw4.ModeLaws", spec := "modeLaws", apart := false }
def ModeLawsSaid : Prop := modeLawsRow.holds Try.pinned (OpenSpec.ofChange modeLawsSpec)

/-- ITS FALSE NEIGHBOUR: 'it returns false'. Refute it at one input. -/
def modeLawsWrong : ChangeSpec := { name := "modeLaws", fn := fun _ => fun
  | [d1, d2, d3] => { results := [.lit (.bool false)], args := [d1, d2, d3] }
  | _ => none }
def ModeLawsWrongFalsely : Prop := modeLawsRow.holds Try.pinned (OpenSpec.ofChange modeLawsWrong)

/-- 'ltklaw4.ModeSafe': WHATEVER THE INPUT: true; the input reads as it did. -/
def modeSafeSpec : ChangeSpec := { name := "modeSafe", fn := fun _ => fun
  | [d1, d2] => { results := [.lit (.bool true)], args := [d1, d2] }
  | _ => none }
def modeSafeRow : OpenClaim := { program := "ytjbhakimakfliaa", sum := "ec9aeeb4539a33b430353b00f9fee60a81d49778272886705c3058426f06a661", func := "latchkey/ltklaw4.ModeSafe", spec := "modeSafe", apart := false }
def ModeSafeSaid : Prop := modeSafeRow.holds Try.pinned (OpenSpec.ofChange modeSafeSpec)

/-- ITS FALSE NEIGHBOUR: 'it returns false'. Refute it at one input. -/
def modeSafeWrong : ChangeSpec := { name := "modeSafe", fn := fun _ => fun
  | [d1, d2] => { results := [.lit (.bool false)], args := [d1, d2] }
  | _ => none }
def ModeSafeWrongFalsely : Prop := modeSafeRow.holds Try.pinned (OpenSpec.ofChange modeSafeWrong)

/-- 'ltklaw4.ModeTable': WHATEVER THE INPUT: true; the input reads as it did. -/
def modeTableSpec : ChangeSpec := { name := "modeTable", fn := fun _ => fun
  | [d1, d2] => { results := [.lit (.bool true)], args := [d1, d2] }
  | _ => none }
def modeTableRow : OpenClaim := { program := "ytjbhakimakfliaa", sum := "ec9aeeb4539a33b430353b00f9fee60a81d49778272886705c3058426f06a661", func := "latchkey/ltklaw4.ModeTable", spec := "modeTable", apart := false }
def ModeTableSaid : Prop := modeTableRow.holds Try.pinned (OpenSpec.ofChange modeTableSpec)

/-- ITS FALSE NEIGHBOUR: 'it returns false'. Refute it at one input. -/
def modeTableWrong : ChangeSpec := { name := "modeTable", fn := fun _ => fun
  | [d1, d2] => { results := [.lit (.bool false)], args := [d1, d2] }
  | _ => none }
def ModeTableWrongFalsely : Prop := modeTableRow.holds Try.pinned (OpenSpec.ofChange modeTableWrong)

/-- 'ltklaw4.ModeSups': WHATEVER THE INPUT: true; the input reads as it did. -/
def modeSupsSpec : ChangeSpec := { name := "modeSups", fn := fun _ => fun
  | [d] => { results := [.lit (.bool true)], args := [d] }
  | _ => none }
def modeSupsRow : OpenClaim := { program := "ytjbhakimakfliaa", sum := "ec9aeeb4539a33b430353b00f9fee60a81d49778272886705c3058426f06a661", func := "latchkey/ltklaw4.ModeSups", spec := "modeSups", apart := false }
def ModeSupsSaid : Prop := modeSupsRow.holds Try.pinned (OpenSpec.ofChange modeSupsSpec)

/-- ITS FALSE NEIGHBOUR: 'it returns false'. Refute it at one input. -/
def modeSupsWrong : ChangeSpec := { name := "modeSups", fn := fun _ => fun
  | [d] => { results := [.lit (.bool false)], args := [d] }
  | _ => none }
def ModeSupsWrongFalsely : Prop := modeSupsRow.holds Try.pinned (OpenSpec.ofChange modeSupsWrong)

/-- 'ltklaw4.ModeBelow': WHATEVER THE INPUT: true; the input reads as it did. -/
def modeBelowSpec : ChangeSpec := { name := "modeBelow", fn := fun _ => fun
  | [d1, d2] => { results := [.lit (.bool true)], args := [d1, d2] }
  | _ => none }
def modeBelowRow : OpenClaim := { program := "ytjbhakimakfliaa", sum := "ec9aeeb4539a33b430353b00f9fee60a81d49778272886705c3058426f06a661", func := "latchkey/ltklaw4.ModeBelow", spec := "modeBelow", apart := false }
def ModeBelowSaid : Prop := modeBelowRow.holds Try.pinned (OpenSpec.ofChange modeBelowSpec)

/-- ITS FALSE NEIGHBOUR: 'it returns false'. Refute it at one input. -/
def modeBelowWrong : ChangeSpec := { name := "modeBelow", fn := fun _ => fun
  | [d1, d2] => { results := [.lit (.bool false)], args := [d1, d2] }
  | _ => none }
def ModeBelowWrongFalsely : Prop := modeBelowRow.holds Try.pinned (OpenSpec.ofChange modeBelowWrong)

/- THE SECOND FORM. 'bulk': how many values and letters a reading holds, each counted each time it is reached (what is shared counts as often as it is met; a slice's spare places count too). A statement '..UptoSaid' is the law's where the arguments, and the package variables that the reading takes, are together of bulk at most 1048576: NARROWER than '..Said'. Prove '..Said' where nothing that the law and all that it calls make is longer than what came in: it says more and counts as full. Else prove '..UptoSaid'. A law counts once. -/
mutual
def uptoBulk {H : Type} : DataW H → Nat
  | .lit (.string bytes) => bytes.length + 1
  | .lit _ => 1
  | .nil => 1
  | .ptr d => uptoBulk d + 1
  | .slice elems spare => uptoBulkAll elems + uptoBulkAll spare + 1
  | .agg parts => uptoBulkAll parts + 1
  | .iface _ d => uptoBulk d + 1
  | .map entries => uptoBulkEntries entries + 1
  | .held _ => 1
def uptoBulkAll {H : Type} : List (DataW H) → Nat
  | [] => 0
  | d :: r => uptoBulk d + uptoBulkAll r
def uptoBulkEntries {H : Type} : List (Lit × DataW H) → Nat
  | [] => 0
  | x :: r => uptoBulkEntry x + uptoBulkEntries r
def uptoBulkEntry {H : Type} : Lit × DataW H → Nat
  | (.string bytes, d) => bytes.length + uptoBulk d + 1
  | (_, d) => uptoBulk d + 1
 end
def uptoSmall : (H : Type) → List (DataW H) → Bool := fun _ ds => decide (uptoBulkAll ds ≤ 1048576)
def OpenSpec.upto (s : _root_.Go.ChangeSpec) : _root_.Go.OpenSpec := { _root_.Go.OpenSpec.ofChange s with cond := some uptoSmall }

/-- 'ltklaw4.ModeTells', WHERE WHAT IT READS IS OF BULK AT MOST 1048576: true; the input reads as it did. -/
def modeTellsUptoRow : OpenClaim := { program := "ytjbhakimakfliaa", sum := "ec9aeeb4539a33b430353b00f9fee60a81d49778272886705c3058426f06a661", func := "latchkey/ltklaw4.ModeTells", spec := "modeTells", apart := false, narrowed := true }
def ModeTellsUptoSaid : Prop := modeTellsUptoRow.holds Try.pinned (OpenSpec.upto modeTellsSpec)

/-- 'ltklaw4.ModeLaws', WHERE WHAT IT READS IS OF BULK AT MOST 1048576: true; the input reads as it did. -/
def modeLawsUptoRow : OpenClaim := { program := "ytjbhakimakfliaa", sum := "ec9aeeb4539a33b430353b00f9fee60a81d49778272886705c3058426f06a661", func := "latchkey/ltklaw4.ModeLaws", spec := "modeLaws", apart := false, narrowed := true }
def ModeLawsUptoSaid : Prop := modeLawsUptoRow.holds Try.pinned (OpenSpec.upto modeLawsSpec)

/-- 'ltklaw4.ModeSafe', WHERE WHAT IT READS IS OF BULK AT MOST 1048576: true; the input reads as it did. -/
def modeSafeUptoRow : OpenClaim := { program := "ytjbhakimakfliaa", sum := "ec9aeeb4539a33b430353b00f9fee60a81d49778272886705c3058426f06a661", func := "latchkey/ltklaw4.ModeSafe", spec := "modeSafe", apart := false, narrowed := true }
def ModeSafeUptoSaid : Prop := modeSafeUptoRow.holds Try.pinned (OpenSpec.upto modeSafeSpec)

/-- 'ltklaw4.ModeTable', WHERE WHAT IT READS IS OF BULK AT MOST 1048576: true; the input reads as it did. -/
def modeTableUptoRow : OpenClaim := { program := "ytjbhakimakfliaa", sum := "ec9aeeb4539a33b430353b00f9fee60a81d49778272886705c3058426f06a661", func := "latchkey/ltklaw4.ModeTable", spec := "modeTable", apart := false, narrowed := true }
def ModeTableUptoSaid : Prop := modeTableUptoRow.holds Try.pinned (OpenSpec.upto modeTableSpec)

/-- 'ltklaw4.ModeSups', WHERE WHAT IT READS IS OF BULK AT MOST 1048576: true; the input reads as it did. -/
def modeSupsUptoRow : OpenClaim := { program := "ytjbhakimakfliaa", sum := "ec9aeeb4539a33b430353b00f9fee60a81d49778272886705c3058426f06a661", func := "latchkey/ltklaw4.ModeSups", spec := "modeSups", apart := false, narrowed := true }
def ModeSupsUptoSaid : Prop := modeSupsUptoRow.holds Try.pinned (OpenSpec.upto modeSupsSpec)

/-- 'ltklaw4.ModeBelow', WHERE WHAT IT READS IS OF BULK AT MOST 1048576: true; the input reads as it did. -/
def modeBelowUptoRow : OpenClaim := { program := "ytjbhakimakfliaa", sum := "ec9aeeb4539a33b430353b00f9fee60a81d49778272886705c3058426f06a661", func := "latchkey/ltklaw4.ModeBelow", spec := "modeBelow", apart := false, narrowed := true }
def ModeBelowUptoSaid : Prop := modeBelowUptoRow.holds Try.pinned (OpenSpec.upto modeBelowSpec)

end Rows
end Go.Proofs.Ytjbhakimakfliaa
