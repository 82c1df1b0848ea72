/-
  No cell of these rows narrows 'for every input' (looked for: loops, veiled, ifaces, maps, wideKeys, modest, calm, conditions, laid).
  DERIVED. THE GIVEN ROWS OF THIS SEAT. 7 by the template 'for every input the law returns true; each argument reads behind the call as it read before'; 0 by the template 'total and deterministic' (their statements: YtdhpahopfmcdkaaTotals.lean).
  GIVEN WITH THE SEED: the statements are not yours to turn. If you find one false, say at which input.
  Laid BY PROGRAM, IN A SANDBOX (cutbox-rows.mjs): the forced cells as the released guide's own fill.sh prints them over the translation b6a6e0bb50d15d44… (all of the seat's roots in one cut). By AI agents, Wed Nov 11 2026. No macro, syntax, notation, axiom, sorry.
-/
import Derived.Test.YtdhpahopfmcdkaaChecked
import GoSem.Claim
import GoSem.ClaimJoined
import GoSem.ClaimMapViews
import Derived.JoinedTies
import Derived.KernelRfl
namespace Go.Proofs.Ytdhpahopfmcdkaa
/- THE CELL 'sum', in the pinned program and in every row, IS THE sha256 OF THE DUMP (.gsa) THAT YtdhpahopfmcdkaaProg.lean LOADS. Nothing in Lean hashes anything: it is a label: what it is worth is what the hold of that sum in a sandbox is worth. -/
noncomputable def Try.pinned : Pinned := { name := "ytdhpahopfmcdkaa", sum := "b6a6e0bb50d15d44efd3b87de0730b2fc6b53fcf66ffe3ed919011c3d96578bc", checked := Try.checked }
namespace Rows
def none {H : Type} : Left H := { results := [], args := [] }

/-- 'ltklaw8.LanePlays': WHATEVER THE INPUT: true; the input reads as it did. -/
def lanePlaysSpec : ChangeSpec := { name := "lanePlays", fn := fun _ => fun
  | [d] => { results := [.lit (.bool true)], args := [d] }
  | _ => none }
def lanePlaysRow : OpenClaim := { program := "ytdhpahopfmcdkaa", sum := "b6a6e0bb50d15d44efd3b87de0730b2fc6b53fcf66ffe3ed919011c3d96578bc", func := "latchkey/ltklaw8.LanePlays", spec := "lanePlays", inPlace := ["slices.overlaps[latchkey/lane.Entry]"], unfollowed := true, recurses := true, apart := false }
def LanePlaysSaid : Prop := lanePlaysRow.holds Try.pinned (OpenSpec.ofChange lanePlaysSpec)

/-- ITS FALSE NEIGHBOUR: 'it returns false'. Refute it at one input. -/
def lanePlaysWrong : ChangeSpec := { name := "lanePlays", fn := fun _ => fun
  | [d] => { results := [.lit (.bool false)], args := [d] }
  | _ => none }
def LanePlaysWrongFalsely : Prop := lanePlaysRow.holds Try.pinned (OpenSpec.ofChange lanePlaysWrong)

/-- 'ltklaw9.TableOnce': WHATEVER THE INPUT: true; the input reads as it did. -/
def tableOnceSpec : ChangeSpec := { name := "tableOnce", fn := fun _ => fun
  | [d1, d2, d3] => { results := [.lit (.bool true)], args := [d1, d2, d3] }
  | _ => none }
def tableOnceRow : OpenClaim := { program := "ytdhpahopfmcdkaa", sum := "b6a6e0bb50d15d44efd3b87de0730b2fc6b53fcf66ffe3ed919011c3d96578bc", func := "latchkey/ltklaw9.TableOnce", spec := "tableOnce", inPlace := ["slices.overlaps[latchkey/lane.Entry]"], unfollowed := true, recurses := true, apart := false }
def TableOnceSaid : Prop := tableOnceRow.holds Try.pinned (OpenSpec.ofChange tableOnceSpec)

/-- ITS FALSE NEIGHBOUR: 'it returns false'. Refute it at one input. -/
def tableOnceWrong : ChangeSpec := { name := "tableOnce", fn := fun _ => fun
  | [d1, d2, d3] => { results := [.lit (.bool false)], args := [d1, d2, d3] }
  | _ => none }
def TableOnceWrongFalsely : Prop := tableOnceRow.holds Try.pinned (OpenSpec.ofChange tableOnceWrong)

/-- 'ltklaw9.TableDrops': WHATEVER THE INPUT: true; the input reads as it did. -/
def tableDropsSpec : ChangeSpec := { name := "tableDrops", fn := fun _ => fun
  | [d1, d2, d3] => { results := [.lit (.bool true)], args := [d1, d2, d3] }
  | _ => none }
def tableDropsRow : OpenClaim := { program := "ytdhpahopfmcdkaa", sum := "b6a6e0bb50d15d44efd3b87de0730b2fc6b53fcf66ffe3ed919011c3d96578bc", func := "latchkey/ltklaw9.TableDrops", spec := "tableDrops", inPlace := ["slices.overlaps[latchkey/lane.Entry]"], unfollowed := true, recurses := true, apart := false }
def TableDropsSaid : Prop := tableDropsRow.holds Try.pinned (OpenSpec.ofChange tableDropsSpec)

/-- ITS FALSE NEIGHBOUR: 'it returns false'. Refute it at one input. -/
def tableDropsWrong : ChangeSpec := { name := "tableDrops", fn := fun _ => fun
  | [d1, d2, d3] => { results := [.lit (.bool false)], args := [d1, d2, d3] }
  | _ => none }
def TableDropsWrongFalsely : Prop := tableDropsRow.holds Try.pinned (OpenSpec.ofChange tableDropsWrong)

/-- 'ltklaw10.PathSafe': WHATEVER THE INPUT: true; the input reads as it did. -/
def pathSafeSpec : ChangeSpec := { name := "pathSafe", fn := fun _ => fun
  | [d1, d2] => { results := [.lit (.bool true)], args := [d1, d2] }
  | _ => none }
def pathSafeRow : OpenClaim := { program := "ytdhpahopfmcdkaa", sum := "b6a6e0bb50d15d44efd3b87de0730b2fc6b53fcf66ffe3ed919011c3d96578bc", func := "latchkey/ltklaw10.PathSafe", spec := "pathSafe", inPlace := ["slices.overlaps[latchkey/lane.Entry]"], unfollowed := true, recurses := true, apart := false }
def PathSafeSaid : Prop := pathSafeRow.holds Try.pinned (OpenSpec.ofChange pathSafeSpec)

/-- ITS FALSE NEIGHBOUR: 'it returns false'. Refute it at one input. -/
def pathSafeWrong : ChangeSpec := { name := "pathSafe", fn := fun _ => fun
  | [d1, d2] => { results := [.lit (.bool false)], args := [d1, d2] }
  | _ => none }
def PathSafeWrongFalsely : Prop := pathSafeRow.holds Try.pinned (OpenSpec.ofChange pathSafeWrong)

/-- 'ltklaw10.PathThree': WHATEVER THE INPUT: true; the input reads as it did. -/
def pathThreeSpec : ChangeSpec := { name := "pathThree", fn := fun _ => fun
  | [d1, d2] => { results := [.lit (.bool true)], args := [d1, d2] }
  | _ => none }
def pathThreeRow : OpenClaim := { program := "ytdhpahopfmcdkaa", sum := "b6a6e0bb50d15d44efd3b87de0730b2fc6b53fcf66ffe3ed919011c3d96578bc", func := "latchkey/ltklaw10.PathThree", spec := "pathThree", inPlace := ["slices.overlaps[latchkey/lane.Entry]"], unfollowed := true, recurses := true, apart := false }
def PathThreeSaid : Prop := pathThreeRow.holds Try.pinned (OpenSpec.ofChange pathThreeSpec)

/-- ITS FALSE NEIGHBOUR: 'it returns false'. Refute it at one input. -/
def pathThreeWrong : ChangeSpec := { name := "pathThree", fn := fun _ => fun
  | [d1, d2] => { results := [.lit (.bool false)], args := [d1, d2] }
  | _ => none }
def PathThreeWrongFalsely : Prop := pathThreeRow.holds Try.pinned (OpenSpec.ofChange pathThreeWrong)

/-- 'ltklaw10.PathUp': WHATEVER THE INPUT: true; the input reads as it did. -/
def pathUpSpec : ChangeSpec := { name := "pathUp", fn := fun _ => fun
  | [d1, d2, d3] => { results := [.lit (.bool true)], args := [d1, d2, d3] }
  | _ => none }
def pathUpRow : OpenClaim := { program := "ytdhpahopfmcdkaa", sum := "b6a6e0bb50d15d44efd3b87de0730b2fc6b53fcf66ffe3ed919011c3d96578bc", func := "latchkey/ltklaw10.PathUp", spec := "pathUp", inPlace := ["slices.overlaps[latchkey/lane.Entry]"], unfollowed := true, recurses := true, apart := false }
def PathUpSaid : Prop := pathUpRow.holds Try.pinned (OpenSpec.ofChange pathUpSpec)

/-- ITS FALSE NEIGHBOUR: 'it returns false'. Refute it at one input. -/
def pathUpWrong : ChangeSpec := { name := "pathUp", fn := fun _ => fun
  | [d1, d2, d3] => { results := [.lit (.bool false)], args := [d1, d2, d3] }
  | _ => none }
def PathUpWrongFalsely : Prop := pathUpRow.holds Try.pinned (OpenSpec.ofChange pathUpWrong)

/-- 'ltklaw10.PathAll': WHATEVER THE INPUT: true; the input reads as it did. -/
def pathAllSpec : ChangeSpec := { name := "pathAll", fn := fun _ => fun
  | [d1, d2, d3] => { results := [.lit (.bool true)], args := [d1, d2, d3] }
  | _ => none }
def pathAllRow : OpenClaim := { program := "ytdhpahopfmcdkaa", sum := "b6a6e0bb50d15d44efd3b87de0730b2fc6b53fcf66ffe3ed919011c3d96578bc", func := "latchkey/ltklaw10.PathAll", spec := "pathAll", inPlace := ["slices.overlaps[latchkey/lane.Entry]"], unfollowed := true, recurses := true, apart := false }
def PathAllSaid : Prop := pathAllRow.holds Try.pinned (OpenSpec.ofChange pathAllSpec)

/-- ITS FALSE NEIGHBOUR: 'it returns false'. Refute it at one input. -/
def pathAllWrong : ChangeSpec := { name := "pathAll", fn := fun _ => fun
  | [d1, d2, d3] => { results := [.lit (.bool false)], args := [d1, d2, d3] }
  | _ => none }
def PathAllWrongFalsely : Prop := pathAllRow.holds Try.pinned (OpenSpec.ofChange pathAllWrong)

/- THE SECOND FORM. 'bulk': how many values and letters a reading holds, each counted each time it is reached (what is shared counts as often as it is met; a slice's spare places count too). A statement '..UptoSaid' is the law's where the arguments, and the package variables that the reading takes, are together of bulk at most 1048576: NARROWER than '..Said'. Prove '..Said' where nothing that the law and all that it calls make is longer than what came in: it says more and counts as full. Else prove '..UptoSaid'. A law counts once. -/
mutual
def uptoBulk {H : Type} : DataW H → Nat
  | .lit (.string bytes) => bytes.length + 1
  | .lit _ => 1
  | .nil => 1
  | .ptr d => uptoBulk d + 1
  | .slice elems spare => uptoBulkAll elems + uptoBulkAll spare + 1
  | .agg parts => uptoBulkAll parts + 1
  | .iface _ d => uptoBulk d + 1
  | .map entries => uptoBulkEntries entries + 1
  | .held _ => 1
def uptoBulkAll {H : Type} : List (DataW H) → Nat
  | [] => 0
  | d :: r => uptoBulk d + uptoBulkAll r
def uptoBulkEntries {H : Type} : List (Lit × DataW H) → Nat
  | [] => 0
  | x :: r => uptoBulkEntry x + uptoBulkEntries r
def uptoBulkEntry {H : Type} : Lit × DataW H → Nat
  | (.string bytes, d) => bytes.length + uptoBulk d + 1
  | (_, d) => uptoBulk d + 1
 end
def uptoSmall : (H : Type) → List (DataW H) → Bool := fun _ ds => decide (uptoBulkAll ds ≤ 1048576)
def OpenSpec.upto (s : _root_.Go.ChangeSpec) : _root_.Go.OpenSpec := { _root_.Go.OpenSpec.ofChange s with cond := some uptoSmall }

/-- 'ltklaw8.LanePlays', WHERE WHAT IT READS IS OF BULK AT MOST 1048576: true; the input reads as it did. -/
def lanePlaysUptoRow : OpenClaim := { program := "ytdhpahopfmcdkaa", sum := "b6a6e0bb50d15d44efd3b87de0730b2fc6b53fcf66ffe3ed919011c3d96578bc", func := "latchkey/ltklaw8.LanePlays", spec := "lanePlays", inPlace := ["slices.overlaps[latchkey/lane.Entry]"], unfollowed := true, recurses := true, apart := false, narrowed := true }
def LanePlaysUptoSaid : Prop := lanePlaysUptoRow.holds Try.pinned (OpenSpec.upto lanePlaysSpec)

/-- 'ltklaw9.TableOnce', WHERE WHAT IT READS IS OF BULK AT MOST 1048576: true; the input reads as it did. -/
def tableOnceUptoRow : OpenClaim := { program := "ytdhpahopfmcdkaa", sum := "b6a6e0bb50d15d44efd3b87de0730b2fc6b53fcf66ffe3ed919011c3d96578bc", func := "latchkey/ltklaw9.TableOnce", spec := "tableOnce", inPlace := ["slices.overlaps[latchkey/lane.Entry]"], unfollowed := true, recurses := true, apart := false, narrowed := true }
def TableOnceUptoSaid : Prop := tableOnceUptoRow.holds Try.pinned (OpenSpec.upto tableOnceSpec)

/-- 'ltklaw9.TableDrops', WHERE WHAT IT READS IS OF BULK AT MOST 1048576: true; the input reads as it did. -/
def tableDropsUptoRow : OpenClaim := { program := "ytdhpahopfmcdkaa", sum := "b6a6e0bb50d15d44efd3b87de0730b2fc6b53fcf66ffe3ed919011c3d96578bc", func := "latchkey/ltklaw9.TableDrops", spec := "tableDrops", inPlace := ["slices.overlaps[latchkey/lane.Entry]"], unfollowed := true, recurses := true, apart := false, narrowed := true }
def TableDropsUptoSaid : Prop := tableDropsUptoRow.holds Try.pinned (OpenSpec.upto tableDropsSpec)

/-- 'ltklaw10.PathSafe', WHERE WHAT IT READS IS OF BULK AT MOST 1048576: true; the input reads as it did. -/
def pathSafeUptoRow : OpenClaim := { program := "ytdhpahopfmcdkaa", sum := "b6a6e0bb50d15d44efd3b87de0730b2fc6b53fcf66ffe3ed919011c3d96578bc", func := "latchkey/ltklaw10.PathSafe", spec := "pathSafe", inPlace := ["slices.overlaps[latchkey/lane.Entry]"], unfollowed := true, recurses := true, apart := false, narrowed := true }
def PathSafeUptoSaid : Prop := pathSafeUptoRow.holds Try.pinned (OpenSpec.upto pathSafeSpec)

/-- 'ltklaw10.PathThree', WHERE WHAT IT READS IS OF BULK AT MOST 1048576: true; the input reads as it did. -/
def pathThreeUptoRow : OpenClaim := { program := "ytdhpahopfmcdkaa", sum := "b6a6e0bb50d15d44efd3b87de0730b2fc6b53fcf66ffe3ed919011c3d96578bc", func := "latchkey/ltklaw10.PathThree", spec := "pathThree", inPlace := ["slices.overlaps[latchkey/lane.Entry]"], unfollowed := true, recurses := true, apart := false, narrowed := true }
def PathThreeUptoSaid : Prop := pathThreeUptoRow.holds Try.pinned (OpenSpec.upto pathThreeSpec)

/-- 'ltklaw10.PathUp', WHERE WHAT IT READS IS OF BULK AT MOST 1048576: true; the input reads as it did. -/
def pathUpUptoRow : OpenClaim := { program := "ytdhpahopfmcdkaa", sum := "b6a6e0bb50d15d44efd3b87de0730b2fc6b53fcf66ffe3ed919011c3d96578bc", func := "latchkey/ltklaw10.PathUp", spec := "pathUp", inPlace := ["slices.overlaps[latchkey/lane.Entry]"], unfollowed := true, recurses := true, apart := false, narrowed := true }
def PathUpUptoSaid : Prop := pathUpUptoRow.holds Try.pinned (OpenSpec.upto pathUpSpec)

/-- 'ltklaw10.PathAll', WHERE WHAT IT READS IS OF BULK AT MOST 1048576: true; the input reads as it did. -/
def pathAllUptoRow : OpenClaim := { program := "ytdhpahopfmcdkaa", sum := "b6a6e0bb50d15d44efd3b87de0730b2fc6b53fcf66ffe3ed919011c3d96578bc", func := "latchkey/ltklaw10.PathAll", spec := "pathAll", inPlace := ["slices.overlaps[latchkey/lane.Entry]"], unfollowed := true, recurses := true, apart := false, narrowed := true }
def PathAllUptoSaid : Prop := pathAllUptoRow.holds Try.pinned (OpenSpec.upto pathAllSpec)

end Rows
end Go.Proofs.Ytdhpahopfmcdkaa
