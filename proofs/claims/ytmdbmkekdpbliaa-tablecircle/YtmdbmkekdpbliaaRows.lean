/-
  No cell of these rows narrows 'for every input' (looked for: loops, veiled, ifaces, maps, wideKeys, modest, calm, conditions, laid).
  DERIVED. THE GIVEN ROWS OF THIS SEAT. 7 by the template 'for every input the law returns true; each argument reads behind the call as it read before'; 0 by the template 'total and deterministic' (their statements: YtmdbmkekdpbliaaTotals.lean).
  GIVEN WITH THE SEED: the statements are not yours to turn. If you find one false, say at which input.
  Laid BY PROGRAM, IN A SANDBOX (cutbox-rows.mjs): the forced cells as the released guide's own fill.sh prints them over the translation 35695c70c3d2a7ff… (all of the seat's roots in one cut). By AI agents, Wed Nov 11 2026. No macro, syntax, notation, axiom, sorry.
-/
import Derived.Test.YtmdbmkekdpbliaaChecked
import GoSem.Claim
import GoSem.ClaimJoined
import GoSem.ClaimMapViews
import Derived.JoinedTies
import Derived.KernelRfl
namespace Go.Proofs.Ytmdbmkekdpbliaa
/- THE CELL 'sum', in the pinned program and in every row, IS THE sha256 OF THE DUMP (.gsa) THAT YtmdbmkekdpbliaaProg.lean LOADS. Nothing in Lean hashes anything: it is a label: what it is worth is what the hold of that sum in a sandbox is worth. -/
noncomputable def Try.pinned : Pinned := { name := "ytmdbmkekdpbliaa", sum := "35695c70c3d2a7ffbc4626d4348811a64b360030467b466bedb85405c40019f5", checked := Try.checked }
namespace Rows
def none {H : Type} : Left H := { results := [], args := [] }

/-- 'ltklaw8.LanePlays': WHATEVER THE INPUT: true; the input reads as it did. -/
def lanePlaysSpec : ChangeSpec := { name := "lanePlays", fn := fun _ => fun
  | [d] => { results := [.lit (.bool true)], args := [d] }
  | _ => none }
def lanePlaysRow : OpenClaim := { program := "ytmdbmkekdpbliaa", sum := "35695c70c3d2a7ffbc4626d4348811a64b360030467b466bedb85405c40019f5", func := "latchkey/ltklaw8.LanePlays", spec := "lanePlays", inPlace := ["slices.overlaps[latchkey/lane.Entry]"], unfollowed := true, recurses := true, apart := false }
def LanePlaysSaid : Prop := lanePlaysRow.holds Try.pinned (OpenSpec.ofChange lanePlaysSpec)

/-- ITS FALSE NEIGHBOUR: 'it returns false'. Refute it at one input. -/
def lanePlaysWrong : ChangeSpec := { name := "lanePlays", fn := fun _ => fun
  | [d] => { results := [.lit (.bool false)], args := [d] }
  | _ => none }
def LanePlaysWrongFalsely : Prop := lanePlaysRow.holds Try.pinned (OpenSpec.ofChange lanePlaysWrong)

/-- 'ltklaw8.LaneEdges': WHATEVER THE INPUT: true; the input reads as it did. -/
def laneEdgesSpec : ChangeSpec := { name := "laneEdges", fn := fun _ => fun
  | [d] => { results := [.lit (.bool true)], args := [d] }
  | _ => none }
def laneEdgesRow : OpenClaim := { program := "ytmdbmkekdpbliaa", sum := "35695c70c3d2a7ffbc4626d4348811a64b360030467b466bedb85405c40019f5", func := "latchkey/ltklaw8.LaneEdges", spec := "laneEdges", inPlace := ["slices.overlaps[latchkey/lane.Entry]"], unfollowed := true, recurses := true, apart := false }
def LaneEdgesSaid : Prop := laneEdgesRow.holds Try.pinned (OpenSpec.ofChange laneEdgesSpec)

/-- ITS FALSE NEIGHBOUR: 'it returns false'. Refute it at one input. -/
def laneEdgesWrong : ChangeSpec := { name := "laneEdges", fn := fun _ => fun
  | [d] => { results := [.lit (.bool false)], args := [d] }
  | _ => none }
def LaneEdgesWrongFalsely : Prop := laneEdgesRow.holds Try.pinned (OpenSpec.ofChange laneEdgesWrong)

/-- 'ltklaw9.TableOnce': WHATEVER THE INPUT: true; the input reads as it did. -/
def tableOnceSpec : ChangeSpec := { name := "tableOnce", fn := fun _ => fun
  | [d1, d2, d3] => { results := [.lit (.bool true)], args := [d1, d2, d3] }
  | _ => none }
def tableOnceRow : OpenClaim := { program := "ytmdbmkekdpbliaa", sum := "35695c70c3d2a7ffbc4626d4348811a64b360030467b466bedb85405c40019f5", func := "latchkey/ltklaw9.TableOnce", spec := "tableOnce", inPlace := ["slices.overlaps[latchkey/lane.Entry]"], unfollowed := true, recurses := true, apart := false }
def TableOnceSaid : Prop := tableOnceRow.holds Try.pinned (OpenSpec.ofChange tableOnceSpec)

/-- ITS FALSE NEIGHBOUR: 'it returns false'. Refute it at one input. -/
def tableOnceWrong : ChangeSpec := { name := "tableOnce", fn := fun _ => fun
  | [d1, d2, d3] => { results := [.lit (.bool false)], args := [d1, d2, d3] }
  | _ => none }
def TableOnceWrongFalsely : Prop := tableOnceRow.holds Try.pinned (OpenSpec.ofChange tableOnceWrong)

/-- 'ltklaw9.TableFull': WHATEVER THE INPUT: true; the input reads as it did. -/
def tableFullSpec : ChangeSpec := { name := "tableFull", fn := fun _ => fun
  | [d1, d2] => { results := [.lit (.bool true)], args := [d1, d2] }
  | _ => none }
def tableFullRow : OpenClaim := { program := "ytmdbmkekdpbliaa", sum := "35695c70c3d2a7ffbc4626d4348811a64b360030467b466bedb85405c40019f5", func := "latchkey/ltklaw9.TableFull", spec := "tableFull", inPlace := ["slices.overlaps[latchkey/lane.Entry]"], unfollowed := true, recurses := true, apart := false }
def TableFullSaid : Prop := tableFullRow.holds Try.pinned (OpenSpec.ofChange tableFullSpec)

/-- ITS FALSE NEIGHBOUR: 'it returns false'. Refute it at one input. -/
def tableFullWrong : ChangeSpec := { name := "tableFull", fn := fun _ => fun
  | [d1, d2] => { results := [.lit (.bool false)], args := [d1, d2] }
  | _ => none }
def TableFullWrongFalsely : Prop := tableFullRow.holds Try.pinned (OpenSpec.ofChange tableFullWrong)

/-- 'ltklaw9.TableCircle': WHATEVER THE INPUT: true; the input reads as it did. -/
def tableCircleSpec : ChangeSpec := { name := "tableCircle", fn := fun _ => fun
  | [d1, d2] => { results := [.lit (.bool true)], args := [d1, d2] }
  | _ => none }
def tableCircleRow : OpenClaim := { program := "ytmdbmkekdpbliaa", sum := "35695c70c3d2a7ffbc4626d4348811a64b360030467b466bedb85405c40019f5", func := "latchkey/ltklaw9.TableCircle", spec := "tableCircle", inPlace := ["slices.overlaps[latchkey/lane.Entry]"], unfollowed := true, recurses := true, apart := false }
def TableCircleSaid : Prop := tableCircleRow.holds Try.pinned (OpenSpec.ofChange tableCircleSpec)

/-- ITS FALSE NEIGHBOUR: 'it returns false'. Refute it at one input. -/
def tableCircleWrong : ChangeSpec := { name := "tableCircle", fn := fun _ => fun
  | [d1, d2] => { results := [.lit (.bool false)], args := [d1, d2] }
  | _ => none }
def TableCircleWrongFalsely : Prop := tableCircleRow.holds Try.pinned (OpenSpec.ofChange tableCircleWrong)

/-- 'ltklaw9.TableDrops': WHATEVER THE INPUT: true; the input reads as it did. -/
def tableDropsSpec : ChangeSpec := { name := "tableDrops", fn := fun _ => fun
  | [d1, d2, d3] => { results := [.lit (.bool true)], args := [d1, d2, d3] }
  | _ => none }
def tableDropsRow : OpenClaim := { program := "ytmdbmkekdpbliaa", sum := "35695c70c3d2a7ffbc4626d4348811a64b360030467b466bedb85405c40019f5", func := "latchkey/ltklaw9.TableDrops", spec := "tableDrops", inPlace := ["slices.overlaps[latchkey/lane.Entry]"], unfollowed := true, recurses := true, apart := false }
def TableDropsSaid : Prop := tableDropsRow.holds Try.pinned (OpenSpec.ofChange tableDropsSpec)

/-- ITS FALSE NEIGHBOUR: 'it returns false'. Refute it at one input. -/
def tableDropsWrong : ChangeSpec := { name := "tableDrops", fn := fun _ => fun
  | [d1, d2, d3] => { results := [.lit (.bool false)], args := [d1, d2, d3] }
  | _ => none }
def TableDropsWrongFalsely : Prop := tableDropsRow.holds Try.pinned (OpenSpec.ofChange tableDropsWrong)

/-- 'ltklaw9.TableOrder': WHATEVER THE INPUT: true; the input reads as it did. -/
def tableOrderSpec : ChangeSpec := { name := "tableOrder", fn := fun _ => fun
  | [d1, d2, d3] => { results := [.lit (.bool true)], args := [d1, d2, d3] }
  | _ => none }
def tableOrderRow : OpenClaim := { program := "ytmdbmkekdpbliaa", sum := "35695c70c3d2a7ffbc4626d4348811a64b360030467b466bedb85405c40019f5", func := "latchkey/ltklaw9.TableOrder", spec := "tableOrder", inPlace := ["slices.overlaps[latchkey/lane.Entry]"], unfollowed := true, recurses := true, apart := false }
def TableOrderSaid : Prop := tableOrderRow.holds Try.pinned (OpenSpec.ofChange tableOrderSpec)

/-- ITS FALSE NEIGHBOUR: 'it returns false'. Refute it at one input. -/
def tableOrderWrong : ChangeSpec := { name := "tableOrder", fn := fun _ => fun
  | [d1, d2, d3] => { results := [.lit (.bool false)], args := [d1, d2, d3] }
  | _ => none }
def TableOrderWrongFalsely : Prop := tableOrderRow.holds Try.pinned (OpenSpec.ofChange tableOrderWrong)

/- THE SECOND FORM. 'bulk': how many values and letters a reading holds, each counted each time it is reached (what is shared counts as often as it is met; a slice's spare places count too). A statement '..UptoSaid' is the law's where the arguments, and the package variables that the reading takes, are together of bulk at most 1048576: NARROWER than '..Said'. Prove '..Said' where nothing that the law and all that it calls make is longer than what came in: it says more and counts as full. Else prove '..UptoSaid'. A law counts once. -/
mutual
def uptoBulk {H : Type} : DataW H → Nat
  | .lit (.string bytes) => bytes.length + 1
  | .lit _ => 1
  | .nil => 1
  | .ptr d => uptoBulk d + 1
  | .slice elems spare => uptoBulkAll elems + uptoBulkAll spare + 1
  | .agg parts => uptoBulkAll parts + 1
  | .iface _ d => uptoBulk d + 1
  | .map entries => uptoBulkEntries entries + 1
  | .held _ => 1
def uptoBulkAll {H : Type} : List (DataW H) → Nat
  | [] => 0
  | d :: r => uptoBulk d + uptoBulkAll r
def uptoBulkEntries {H : Type} : List (Lit × DataW H) → Nat
  | [] => 0
  | x :: r => uptoBulkEntry x + uptoBulkEntries r
def uptoBulkEntry {H : Type} : Lit × DataW H → Nat
  | (.string bytes, d) => bytes.length + uptoBulk d + 1
  | (_, d) => uptoBulk d + 1
 end
def uptoSmall : (H : Type) → List (DataW H) → Bool := fun _ ds => decide (uptoBulkAll ds ≤ 1048576)
def OpenSpec.upto (s : _root_.Go.ChangeSpec) : _root_.Go.OpenSpec := { _root_.Go.OpenSpec.ofChange s with cond := some uptoSmall }

/-- 'ltklaw8.LanePlays', WHERE WHAT IT READS IS OF BULK AT MOST 1048576: true; the input reads as it did. -/
def lanePlaysUptoRow : OpenClaim := { program := "ytmdbmkekdpbliaa", sum := "35695c70c3d2a7ffbc4626d4348811a64b360030467b466bedb85405c40019f5", func := "latchkey/ltklaw8.LanePlays", spec := "lanePlays", inPlace := ["slices.overlaps[latchkey/lane.Entry]"], unfollowed := true, recurses := true, apart := false, narrowed := true }
def LanePlaysUptoSaid : Prop := lanePlaysUptoRow.holds Try.pinned (OpenSpec.upto lanePlaysSpec)

/-- 'ltklaw8.LaneEdges', WHERE WHAT IT READS IS OF BULK AT MOST 1048576: true; the input reads as it did. -/
def laneEdgesUptoRow : OpenClaim := { program := "ytmdbmkekdpbliaa", sum := "35695c70c3d2a7ffbc4626d4348811a64b360030467b466bedb85405c40019f5", func := "latchkey/ltklaw8.LaneEdges", spec := "laneEdges", inPlace := ["slices.overlaps[latchkey/lane.Entry]"], unfollowed := true, recurses := true, apart := false, narrowed := true }
def LaneEdgesUptoSaid : Prop := laneEdgesUptoRow.holds Try.pinned (OpenSpec.upto laneEdgesSpec)

/-- 'ltklaw9.TableOnce', WHERE WHAT IT READS IS OF BULK AT MOST 1048576: true; the input reads as it did. -/
def tableOnceUptoRow : OpenClaim := { program := "ytmdbmkekdpbliaa", sum := "35695c70c3d2a7ffbc4626d4348811a64b360030467b466bedb85405c40019f5", func := "latchkey/ltklaw9.TableOnce", spec := "tableOnce", inPlace := ["slices.overlaps[latchkey/lane.Entry]"], unfollowed := true, recurses := true, apart := false, narrowed := true }
def TableOnceUptoSaid : Prop := tableOnceUptoRow.holds Try.pinned (OpenSpec.upto tableOnceSpec)

/-- 'ltklaw9.TableFull', WHERE WHAT IT READS IS OF BULK AT MOST 1048576: true; the input reads as it did. -/
def tableFullUptoRow : OpenClaim := { program := "ytmdbmkekdpbliaa", sum := "35695c70c3d2a7ffbc4626d4348811a64b360030467b466bedb85405c40019f5", func := "latchkey/ltklaw9.TableFull", spec := "tableFull", inPlace := ["slices.overlaps[latchkey/lane.Entry]"], unfollowed := true, recurses := true, apart := false, narrowed := true }
def TableFullUptoSaid : Prop := tableFullUptoRow.holds Try.pinned (OpenSpec.upto tableFullSpec)

/-- 'ltklaw9.TableCircle', WHERE WHAT IT READS IS OF BULK AT MOST 1048576: true; the input reads as it did. -/
def tableCircleUptoRow : OpenClaim := { program := "ytmdbmkekdpbliaa", sum := "35695c70c3d2a7ffbc4626d4348811a64b360030467b466bedb85405c40019f5", func := "latchkey/ltklaw9.TableCircle", spec := "tableCircle", inPlace := ["slices.overlaps[latchkey/lane.Entry]"], unfollowed := true, recurses := true, apart := false, narrowed := true }
def TableCircleUptoSaid : Prop := tableCircleUptoRow.holds Try.pinned (OpenSpec.upto tableCircleSpec)

/-- 'ltklaw9.TableDrops', WHERE WHAT IT READS IS OF BULK AT MOST 1048576: true; the input reads as it did. -/
def tableDropsUptoRow : OpenClaim := { program := "ytmdbmkekdpbliaa", sum := "35695c70c3d2a7ffbc4626d4348811a64b360030467b466bedb85405c40019f5", func := "latchkey/ltklaw9.TableDrops", spec := "tableDrops", inPlace := ["slices.overlaps[latchkey/lane.Entry]"], unfollowed := true, recurses := true, apart := false, narrowed := true }
def TableDropsUptoSaid : Prop := tableDropsUptoRow.holds Try.pinned (OpenSpec.upto tableDropsSpec)

/-- 'ltklaw9.TableOrder', WHERE WHAT IT READS IS OF BULK AT MOST 1048576: true; the input reads as it did. -/
def tableOrderUptoRow : OpenClaim := { program := "ytmdbmkekdpbliaa", sum := "35695c70c3d2a7ffbc4626d4348811a64b360030467b466bedb85405c40019f5", func := "latchkey/ltklaw9.TableOrder", spec := "tableOrder", inPlace := ["slices.overlaps[latchkey/lane.Entry]"], unfollowed := true, recurses := true, apart := false, narrowed := true }
def TableOrderUptoSaid : Prop := tableOrderUptoRow.holds Try.pinned (OpenSpec.upto tableOrderSpec)

end Rows
end Go.Proofs.Ytmdbmkekdpbliaa
