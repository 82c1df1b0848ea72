/-
  No cell of these rows narrows 'for every input' (looked for: loops, veiled, ifaces, maps, wideKeys, modest, calm, conditions, laid).
  DERIVED. THE GIVEN ROWS OF THIS SEAT. 6 by the template 'for every input the law returns true; each argument reads behind the call as it read before'; 0 by the template 'total and deterministic' (their statements: YtbmoapeeahigkaaTotals.lean).
  GIVEN WITH THE SEED: the statements are not yours to turn. If you find one false, say at which input.
  Laid BY PROGRAM, IN A SANDBOX (cutbox-rows.mjs): the forced cells as the released guide's own fill.sh prints them over the translation 1d12aa161c9f18a6… (all of the seat's roots in one cut). By AI agents, Wed Nov 11 2026. No macro, syntax, notation, axiom, sorry.
-/
import Derived.Test.YtbmoapeeahigkaaChecked
import GoSem.Claim
import GoSem.ClaimJoined
import GoSem.ClaimMapViews
import Derived.JoinedTies
import Derived.KernelRfl
namespace Go.Proofs.Ytbmoapeeahigkaa
/- THE CELL 'sum', in the pinned program and in every row, IS THE sha256 OF THE DUMP (.gsa) THAT YtbmoapeeahigkaaProg.lean LOADS. Nothing in Lean hashes anything: it is a label: what it is worth is what the hold of that sum in a sandbox is worth. -/
noncomputable def Try.pinned : Pinned := { name := "ytbmoapeeahigkaa", sum := "1d12aa161c9f18a678e9ade9335ca208156c4aeffe7cb5f71949512d636137d1", checked := Try.checked }
namespace Rows
def none {H : Type} : Left H := { results := [], args := [] }

/-- 'ltklaw8.LanePlays': WHATEVER THE INPUT: true; the input reads as it did. -/
def lanePlaysSpec : ChangeSpec := { name := "lanePlays", fn := fun _ => fun
  | [d] => { results := [.lit (.bool true)], args := [d] }
  | _ => none }
def lanePlaysRow : OpenClaim := { program := "ytbmoapeeahigkaa", sum := "1d12aa161c9f18a678e9ade9335ca208156c4aeffe7cb5f71949512d636137d1", func := "latchkey/ltklaw8.LanePlays", spec := "lanePlays", inPlace := ["slices.overlaps[latchkey/lane.Entry]"], unfollowed := true, recurses := true, apart := false }
def LanePlaysSaid : Prop := lanePlaysRow.holds Try.pinned (OpenSpec.ofChange lanePlaysSpec)

/-- ITS FALSE NEIGHBOUR: 'it returns false'. Refute it at one input. -/
def lanePlaysWrong : ChangeSpec := { name := "lanePlays", fn := fun _ => fun
  | [d] => { results := [.lit (.bool false)], args := [d] }
  | _ => none }
def LanePlaysWrongFalsely : Prop := lanePlaysRow.holds Try.pinned (OpenSpec.ofChange lanePlaysWrong)

/-- 'ltklaw8.LaneFits': WHATEVER THE INPUT: true; the input reads as it did. -/
def laneFitsSpec : ChangeSpec := { name := "laneFits", fn := fun _ => fun
  | [d] => { results := [.lit (.bool true)], args := [d] }
  | _ => none }
def laneFitsRow : OpenClaim := { program := "ytbmoapeeahigkaa", sum := "1d12aa161c9f18a678e9ade9335ca208156c4aeffe7cb5f71949512d636137d1", func := "latchkey/ltklaw8.LaneFits", spec := "laneFits", inPlace := ["slices.overlaps[latchkey/lane.Entry]"], unfollowed := true, recurses := true, apart := false }
def LaneFitsSaid : Prop := laneFitsRow.holds Try.pinned (OpenSpec.ofChange laneFitsSpec)

/-- ITS FALSE NEIGHBOUR: 'it returns false'. Refute it at one input. -/
def laneFitsWrong : ChangeSpec := { name := "laneFits", fn := fun _ => fun
  | [d] => { results := [.lit (.bool false)], args := [d] }
  | _ => none }
def LaneFitsWrongFalsely : Prop := laneFitsRow.holds Try.pinned (OpenSpec.ofChange laneFitsWrong)

/-- 'ltklaw8.LaneServes': WHATEVER THE INPUT: true; the input reads as it did. -/
def laneServesSpec : ChangeSpec := { name := "laneServes", fn := fun _ => fun
  | [d1, d2] => { results := [.lit (.bool true)], args := [d1, d2] }
  | _ => none }
def laneServesRow : OpenClaim := { program := "ytbmoapeeahigkaa", sum := "1d12aa161c9f18a678e9ade9335ca208156c4aeffe7cb5f71949512d636137d1", func := "latchkey/ltklaw8.LaneServes", spec := "laneServes", inPlace := ["slices.overlaps[latchkey/lane.Entry]"], unfollowed := true, recurses := true, apart := false }
def LaneServesSaid : Prop := laneServesRow.holds Try.pinned (OpenSpec.ofChange laneServesSpec)

/-- ITS FALSE NEIGHBOUR: 'it returns false'. Refute it at one input. -/
def laneServesWrong : ChangeSpec := { name := "laneServes", fn := fun _ => fun
  | [d1, d2] => { results := [.lit (.bool false)], args := [d1, d2] }
  | _ => none }
def LaneServesWrongFalsely : Prop := laneServesRow.holds Try.pinned (OpenSpec.ofChange laneServesWrong)

/-- 'ltklaw8.LaneQueue': WHATEVER THE INPUT: true; the input reads as it did. -/
def laneQueueSpec : ChangeSpec := { name := "laneQueue", fn := fun _ => fun
  | [d1, d2] => { results := [.lit (.bool true)], args := [d1, d2] }
  | _ => none }
def laneQueueRow : OpenClaim := { program := "ytbmoapeeahigkaa", sum := "1d12aa161c9f18a678e9ade9335ca208156c4aeffe7cb5f71949512d636137d1", func := "latchkey/ltklaw8.LaneQueue", spec := "laneQueue", inPlace := ["slices.overlaps[latchkey/lane.Entry]"], unfollowed := true, recurses := true, apart := false }
def LaneQueueSaid : Prop := laneQueueRow.holds Try.pinned (OpenSpec.ofChange laneQueueSpec)

/-- ITS FALSE NEIGHBOUR: 'it returns false'. Refute it at one input. -/
def laneQueueWrong : ChangeSpec := { name := "laneQueue", fn := fun _ => fun
  | [d1, d2] => { results := [.lit (.bool false)], args := [d1, d2] }
  | _ => none }
def LaneQueueWrongFalsely : Prop := laneQueueRow.holds Try.pinned (OpenSpec.ofChange laneQueueWrong)

/-- 'ltklaw8.LaneTurns': WHATEVER THE INPUT: true; the input reads as it did. -/
def laneTurnsSpec : ChangeSpec := { name := "laneTurns", fn := fun _ => fun
  | [d1, d2, d3] => { results := [.lit (.bool true)], args := [d1, d2, d3] }
  | _ => none }
def laneTurnsRow : OpenClaim := { program := "ytbmoapeeahigkaa", sum := "1d12aa161c9f18a678e9ade9335ca208156c4aeffe7cb5f71949512d636137d1", func := "latchkey/ltklaw8.LaneTurns", spec := "laneTurns", inPlace := ["slices.overlaps[latchkey/lane.Entry]"], unfollowed := true, recurses := true, apart := false }
def LaneTurnsSaid : Prop := laneTurnsRow.holds Try.pinned (OpenSpec.ofChange laneTurnsSpec)

/-- ITS FALSE NEIGHBOUR: 'it returns false'. Refute it at one input. -/
def laneTurnsWrong : ChangeSpec := { name := "laneTurns", fn := fun _ => fun
  | [d1, d2, d3] => { results := [.lit (.bool false)], args := [d1, d2, d3] }
  | _ => none }
def LaneTurnsWrongFalsely : Prop := laneTurnsRow.holds Try.pinned (OpenSpec.ofChange laneTurnsWrong)

/-- 'ltklaw8.LaneGone': WHATEVER THE INPUT: true; the input reads as it did. -/
def laneGoneSpec : ChangeSpec := { name := "laneGone", fn := fun _ => fun
  | [d] => { results := [.lit (.bool true)], args := [d] }
  | _ => none }
def laneGoneRow : OpenClaim := { program := "ytbmoapeeahigkaa", sum := "1d12aa161c9f18a678e9ade9335ca208156c4aeffe7cb5f71949512d636137d1", func := "latchkey/ltklaw8.LaneGone", spec := "laneGone", inPlace := ["slices.overlaps[latchkey/lane.Entry]"], unfollowed := true, recurses := true, apart := false }
def LaneGoneSaid : Prop := laneGoneRow.holds Try.pinned (OpenSpec.ofChange laneGoneSpec)

/-- ITS FALSE NEIGHBOUR: 'it returns false'. Refute it at one input. -/
def laneGoneWrong : ChangeSpec := { name := "laneGone", fn := fun _ => fun
  | [d] => { results := [.lit (.bool false)], args := [d] }
  | _ => none }
def LaneGoneWrongFalsely : Prop := laneGoneRow.holds Try.pinned (OpenSpec.ofChange laneGoneWrong)

/- THE SECOND FORM. 'bulk': how many values and letters a reading holds, each counted each time it is reached (what is shared counts as often as it is met; a slice's spare places count too). A statement '..UptoSaid' is the law's where the arguments, and the package variables that the reading takes, are together of bulk at most 1048576: NARROWER than '..Said'. Prove '..Said' where nothing that the law and all that it calls make is longer than what came in: it says more and counts as full. Else prove '..UptoSaid'. A law counts once. -/
mutual
def uptoBulk {H : Type} : DataW H → Nat
  | .lit (.string bytes) => bytes.length + 1
  | .lit _ => 1
  | .nil => 1
  | .ptr d => uptoBulk d + 1
  | .slice elems spare => uptoBulkAll elems + uptoBulkAll spare + 1
  | .agg parts => uptoBulkAll parts + 1
  | .iface _ d => uptoBulk d + 1
  | .map entries => uptoBulkEntries entries + 1
  | .held _ => 1
def uptoBulkAll {H : Type} : List (DataW H) → Nat
  | [] => 0
  | d :: r => uptoBulk d + uptoBulkAll r
def uptoBulkEntries {H : Type} : List (Lit × DataW H) → Nat
  | [] => 0
  | x :: r => uptoBulkEntry x + uptoBulkEntries r
def uptoBulkEntry {H : Type} : Lit × DataW H → Nat
  | (.string bytes, d) => bytes.length + uptoBulk d + 1
  | (_, d) => uptoBulk d + 1
 end
def uptoSmall : (H : Type) → List (DataW H) → Bool := fun _ ds => decide (uptoBulkAll ds ≤ 1048576)
def OpenSpec.upto (s : _root_.Go.ChangeSpec) : _root_.Go.OpenSpec := { _root_.Go.OpenSpec.ofChange s with cond := some uptoSmall }

/-- 'ltklaw8.LanePlays', WHERE WHAT IT READS IS OF BULK AT MOST 1048576: true; the input reads as it did. -/
def lanePlaysUptoRow : OpenClaim := { program := "ytbmoapeeahigkaa", sum := "1d12aa161c9f18a678e9ade9335ca208156c4aeffe7cb5f71949512d636137d1", func := "latchkey/ltklaw8.LanePlays", spec := "lanePlays", inPlace := ["slices.overlaps[latchkey/lane.Entry]"], unfollowed := true, recurses := true, apart := false, narrowed := true }
def LanePlaysUptoSaid : Prop := lanePlaysUptoRow.holds Try.pinned (OpenSpec.upto lanePlaysSpec)

/-- 'ltklaw8.LaneFits', WHERE WHAT IT READS IS OF BULK AT MOST 1048576: true; the input reads as it did. -/
def laneFitsUptoRow : OpenClaim := { program := "ytbmoapeeahigkaa", sum := "1d12aa161c9f18a678e9ade9335ca208156c4aeffe7cb5f71949512d636137d1", func := "latchkey/ltklaw8.LaneFits", spec := "laneFits", inPlace := ["slices.overlaps[latchkey/lane.Entry]"], unfollowed := true, recurses := true, apart := false, narrowed := true }
def LaneFitsUptoSaid : Prop := laneFitsUptoRow.holds Try.pinned (OpenSpec.upto laneFitsSpec)

/-- 'ltklaw8.LaneServes', WHERE WHAT IT READS IS OF BULK AT MOST 1048576: true; the input reads as it did. -/
def laneServesUptoRow : OpenClaim := { program := "ytbmoapeeahigkaa", sum := "1d12aa161c9f18a678e9ade9335ca208156c4aeffe7cb5f71949512d636137d1", func := "latchkey/ltklaw8.LaneServes", spec := "laneServes", inPlace := ["slices.overlaps[latchkey/lane.Entry]"], unfollowed := true, recurses := true, apart := false, narrowed := true }
def LaneServesUptoSaid : Prop := laneServesUptoRow.holds Try.pinned (OpenSpec.upto laneServesSpec)

/-- 'ltklaw8.LaneQueue', WHERE WHAT IT READS IS OF BULK AT MOST 1048576: true; the input reads as it did. -/
def laneQueueUptoRow : OpenClaim := { program := "ytbmoapeeahigkaa", sum := "1d12aa161c9f18a678e9ade9335ca208156c4aeffe7cb5f71949512d636137d1", func := "latchkey/ltklaw8.LaneQueue", spec := "laneQueue", inPlace := ["slices.overlaps[latchkey/lane.Entry]"], unfollowed := true, recurses := true, apart := false, narrowed := true }
def LaneQueueUptoSaid : Prop := laneQueueUptoRow.holds Try.pinned (OpenSpec.upto laneQueueSpec)

/-- 'ltklaw8.LaneTurns', WHERE WHAT IT READS IS OF BULK AT MOST 1048576: true; the input reads as it did. -/
def laneTurnsUptoRow : OpenClaim := { program := "ytbmoapeeahigkaa", sum := "1d12aa161c9f18a678e9ade9335ca208156c4aeffe7cb5f71949512d636137d1", func := "latchkey/ltklaw8.LaneTurns", spec := "laneTurns", inPlace := ["slices.overlaps[latchkey/lane.Entry]"], unfollowed := true, recurses := true, apart := false, narrowed := true }
def LaneTurnsUptoSaid : Prop := laneTurnsUptoRow.holds Try.pinned (OpenSpec.upto laneTurnsSpec)

/-- 'ltklaw8.LaneGone', WHERE WHAT IT READS IS OF BULK AT MOST 1048576: true; the input reads as it did. -/
def laneGoneUptoRow : OpenClaim := { program := "ytbmoapeeahigkaa", sum := "1d12aa161c9f18a678e9ade9335ca208156c4aeffe7cb5f71949512d636137d1", func := "latchkey/ltklaw8.LaneGone", spec := "laneGone", inPlace := ["slices.overlaps[latchkey/lane.Entry]"], unfollowed := true, recurses := true, apart := false, narrowed := true }
def LaneGoneUptoSaid : Prop := laneGoneUptoRow.holds Try.pinned (OpenSpec.upto laneGoneSpec)

end Rows
end Go.Proofs.Ytbmoapeeahigkaa
