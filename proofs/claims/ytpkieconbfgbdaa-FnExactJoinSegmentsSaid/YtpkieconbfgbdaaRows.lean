/-
  No cell of these rows narrows 'for every input' (looked for: loops, veiled, ifaces, maps, wideKeys, modest, calm, conditions, laid).
  DERIVED. THE GIVEN ROWS OF THIS SEAT. 5 by the template 'for every input the law returns true; each argument reads behind the call as it read before'; 0 by the template 'total and deterministic' (their statements: YtpkieconbfgbdaaTotals.lean).
  GIVEN WITH THE SEED: the statements are not yours to turn. If you find one false, say at which input.
  Laid BY PROGRAM, IN A SANDBOX (cutbox-rows.mjs): the forced cells as the released guide's own fill.sh prints them over the translation 6777ccaac4225cdc… (all of the seat's roots in one cut). By AI agents, Wed Nov 11 2026. No macro, syntax, notation, axiom, sorry.
-/
import Derived.Test.YtpkieconbfgbdaaChecked
import GoSem.Claim
import GoSem.ClaimJoined
import GoSem.ClaimMapViews
import Derived.JoinedTies
import Derived.KernelRfl
namespace Go.Proofs.Ytpkieconbfgbdaa
/- THE CELL 'sum', in the pinned program and in every row, IS THE sha256 OF THE DUMP (.gsa) THAT YtpkieconbfgbdaaProg.lean LOADS. Nothing in Lean hashes anything: it is a label: what it is worth is what the hold of that sum in a sandbox is worth. -/
noncomputable def Try.pinned : Pinned := { name := "ytpkieconbfgbdaa", sum := "6777ccaac4225cdce20e88ef063779448a2fe248cdf26b7db7d4c69d537b53e3", checked := Try.checked }
namespace Rows
def none {H : Type} : Left H := { results := [], args := [] }

/-- 'laws.FnExactGreedyPlan': WHATEVER THE INPUT: true; the input reads as it did. -/
def fnExactGreedyPlanSpec : ChangeSpec := { name := "fnExactGreedyPlan", fn := fun _ => fun
  | [d1, d2] => { results := [.lit (.bool true)], args := [d1, d2] }
  | _ => none }
def fnExactGreedyPlanRow : OpenClaim := { program := "ytpkieconbfgbdaa", sum := "6777ccaac4225cdce20e88ef063779448a2fe248cdf26b7db7d4c69d537b53e3", func := "loop.example/differenceengine/laws.FnExactGreedyPlan", spec := "fnExactGreedyPlan", unfollowed := true, recurses := true, apart := false }
def FnExactGreedyPlanSaid : Prop := fnExactGreedyPlanRow.holds Try.pinned (OpenSpec.ofChange fnExactGreedyPlanSpec)

/-- ITS FALSE NEIGHBOUR: 'it returns false'. Refute it at one input. -/
def fnExactGreedyPlanWrong : ChangeSpec := { name := "fnExactGreedyPlan", fn := fun _ => fun
  | [d1, d2] => { results := [.lit (.bool false)], args := [d1, d2] }
  | _ => none }
def FnExactGreedyPlanWrongFalsely : Prop := fnExactGreedyPlanRow.holds Try.pinned (OpenSpec.ofChange fnExactGreedyPlanWrong)

/-- 'laws.FnExactFewestSegments': WHATEVER THE INPUT: true; the input reads as it did. -/
def fnExactFewestSegmentsSpec : ChangeSpec := { name := "fnExactFewestSegments", fn := fun _ => fun
  | [d1, d2] => { results := [.lit (.bool true)], args := [d1, d2] }
  | _ => none }
def fnExactFewestSegmentsRow : OpenClaim := { program := "ytpkieconbfgbdaa", sum := "6777ccaac4225cdce20e88ef063779448a2fe248cdf26b7db7d4c69d537b53e3", func := "loop.example/differenceengine/laws.FnExactFewestSegments", spec := "fnExactFewestSegments", unfollowed := true, recurses := true, apart := false }
def FnExactFewestSegmentsSaid : Prop := fnExactFewestSegmentsRow.holds Try.pinned (OpenSpec.ofChange fnExactFewestSegmentsSpec)

/-- ITS FALSE NEIGHBOUR: 'it returns false'. Refute it at one input. -/
def fnExactFewestSegmentsWrong : ChangeSpec := { name := "fnExactFewestSegments", fn := fun _ => fun
  | [d1, d2] => { results := [.lit (.bool false)], args := [d1, d2] }
  | _ => none }
def FnExactFewestSegmentsWrongFalsely : Prop := fnExactFewestSegmentsRow.holds Try.pinned (OpenSpec.ofChange fnExactFewestSegmentsWrong)

/-- 'laws.FnExactCheapestPlan': WHATEVER THE INPUT: true; the input reads as it did. -/
def fnExactCheapestPlanSpec : ChangeSpec := { name := "fnExactCheapestPlan", fn := fun _ => fun
  | [d1, d2, d3, d4] => { results := [.lit (.bool true)], args := [d1, d2, d3, d4] }
  | _ => none }
def fnExactCheapestPlanRow : OpenClaim := { program := "ytpkieconbfgbdaa", sum := "6777ccaac4225cdce20e88ef063779448a2fe248cdf26b7db7d4c69d537b53e3", func := "loop.example/differenceengine/laws.FnExactCheapestPlan", spec := "fnExactCheapestPlan", unfollowed := true, recurses := true, apart := false }
def FnExactCheapestPlanSaid : Prop := fnExactCheapestPlanRow.holds Try.pinned (OpenSpec.ofChange fnExactCheapestPlanSpec)

/-- ITS FALSE NEIGHBOUR: 'it returns false'. Refute it at one input. -/
def fnExactCheapestPlanWrong : ChangeSpec := { name := "fnExactCheapestPlan", fn := fun _ => fun
  | [d1, d2, d3, d4] => { results := [.lit (.bool false)], args := [d1, d2, d3, d4] }
  | _ => none }
def FnExactCheapestPlanWrongFalsely : Prop := fnExactCheapestPlanRow.holds Try.pinned (OpenSpec.ofChange fnExactCheapestPlanWrong)

/-- 'laws.FnExactSplitSegment': WHATEVER THE INPUT: true; the input reads as it did. -/
def fnExactSplitSegmentSpec : ChangeSpec := { name := "fnExactSplitSegment", fn := fun _ => fun
  | [d1, d2, d3] => { results := [.lit (.bool true)], args := [d1, d2, d3] }
  | _ => none }
def fnExactSplitSegmentRow : OpenClaim := { program := "ytpkieconbfgbdaa", sum := "6777ccaac4225cdce20e88ef063779448a2fe248cdf26b7db7d4c69d537b53e3", func := "loop.example/differenceengine/laws.FnExactSplitSegment", spec := "fnExactSplitSegment", unfollowed := true, recurses := true, apart := false }
def FnExactSplitSegmentSaid : Prop := fnExactSplitSegmentRow.holds Try.pinned (OpenSpec.ofChange fnExactSplitSegmentSpec)

/-- ITS FALSE NEIGHBOUR: 'it returns false'. Refute it at one input. -/
def fnExactSplitSegmentWrong : ChangeSpec := { name := "fnExactSplitSegment", fn := fun _ => fun
  | [d1, d2, d3] => { results := [.lit (.bool false)], args := [d1, d2, d3] }
  | _ => none }
def FnExactSplitSegmentWrongFalsely : Prop := fnExactSplitSegmentRow.holds Try.pinned (OpenSpec.ofChange fnExactSplitSegmentWrong)

/-- 'laws.FnExactJoinSegments': WHATEVER THE INPUT: true; the input reads as it did. -/
def fnExactJoinSegmentsSpec : ChangeSpec := { name := "fnExactJoinSegments", fn := fun _ => fun
  | [d1, d2, d3] => { results := [.lit (.bool true)], args := [d1, d2, d3] }
  | _ => none }
def fnExactJoinSegmentsRow : OpenClaim := { program := "ytpkieconbfgbdaa", sum := "6777ccaac4225cdce20e88ef063779448a2fe248cdf26b7db7d4c69d537b53e3", func := "loop.example/differenceengine/laws.FnExactJoinSegments", spec := "fnExactJoinSegments", unfollowed := true, recurses := true, apart := false }
def FnExactJoinSegmentsSaid : Prop := fnExactJoinSegmentsRow.holds Try.pinned (OpenSpec.ofChange fnExactJoinSegmentsSpec)

/-- ITS FALSE NEIGHBOUR: 'it returns false'. Refute it at one input. -/
def fnExactJoinSegmentsWrong : ChangeSpec := { name := "fnExactJoinSegments", fn := fun _ => fun
  | [d1, d2, d3] => { results := [.lit (.bool false)], args := [d1, d2, d3] }
  | _ => none }
def FnExactJoinSegmentsWrongFalsely : Prop := fnExactJoinSegmentsRow.holds Try.pinned (OpenSpec.ofChange fnExactJoinSegmentsWrong)

/- THE SECOND FORM. 'bulk': how many values and letters a reading holds, each counted each time it is reached (what is shared counts as often as it is met; a slice's spare places count too). A statement '..UptoSaid' is the law's where the arguments, and the package variables that the reading takes, are together of bulk at most 1048576: NARROWER than '..Said'. Prove '..Said' where nothing that the law and all that it calls make is longer than what came in: it says more and counts as full. Else prove '..UptoSaid'. A law counts once. -/
mutual
def uptoBulk {H : Type} : DataW H → Nat
  | .lit (.string bytes) => bytes.length + 1
  | .lit _ => 1
  | .nil => 1
  | .ptr d => uptoBulk d + 1
  | .slice elems spare => uptoBulkAll elems + uptoBulkAll spare + 1
  | .agg parts => uptoBulkAll parts + 1
  | .iface _ d => uptoBulk d + 1
  | .map entries => uptoBulkEntries entries + 1
  | .held _ => 1
def uptoBulkAll {H : Type} : List (DataW H) → Nat
  | [] => 0
  | d :: r => uptoBulk d + uptoBulkAll r
def uptoBulkEntries {H : Type} : List (Lit × DataW H) → Nat
  | [] => 0
  | x :: r => uptoBulkEntry x + uptoBulkEntries r
def uptoBulkEntry {H : Type} : Lit × DataW H → Nat
  | (.string bytes, d) => bytes.length + uptoBulk d + 1
  | (_, d) => uptoBulk d + 1
 end
def uptoSmall : (H : Type) → List (DataW H) → Bool := fun _ ds => decide (uptoBulkAll ds ≤ 1048576)
def OpenSpec.upto (s : _root_.Go.ChangeSpec) : _root_.Go.OpenSpec := { _root_.Go.OpenSpec.ofChange s with cond := some uptoSmall }

/-- 'laws.FnExactGreedyPlan', WHERE WHAT IT READS IS OF BULK AT MOST 1048576: true; the input reads as it did. -/
def fnExactGreedyPlanUptoRow : OpenClaim := { program := "ytpkieconbfgbdaa", sum := "6777ccaac4225cdce20e88ef063779448a2fe248cdf26b7db7d4c69d537b53e3", func := "loop.example/differenceengine/laws.FnExactGreedyPlan", spec := "fnExactGreedyPlan", unfollowed := true, recurses := true, apart := false, narrowed := true }
def FnExactGreedyPlanUptoSaid : Prop := fnExactGreedyPlanUptoRow.holds Try.pinned (OpenSpec.upto fnExactGreedyPlanSpec)

/-- 'laws.FnExactFewestSegments', WHERE WHAT IT READS IS OF BULK AT MOST 1048576: true; the input reads as it did. -/
def fnExactFewestSegmentsUptoRow : OpenClaim := { program := "ytpkieconbfgbdaa", sum := "6777ccaac4225cdce20e88ef063779448a2fe248cdf26b7db7d4c69d537b53e3", func := "loop.example/differenceengine/laws.FnExactFewestSegments", spec := "fnExactFewestSegments", unfollowed := true, recurses := true, apart := false, narrowed := true }
def FnExactFewestSegmentsUptoSaid : Prop := fnExactFewestSegmentsUptoRow.holds Try.pinned (OpenSpec.upto fnExactFewestSegmentsSpec)

/-- 'laws.FnExactCheapestPlan', WHERE WHAT IT READS IS OF BULK AT MOST 1048576: true; the input reads as it did. -/
def fnExactCheapestPlanUptoRow : OpenClaim := { program := "ytpkieconbfgbdaa", sum := "6777ccaac4225cdce20e88ef063779448a2fe248cdf26b7db7d4c69d537b53e3", func := "loop.example/differenceengine/laws.FnExactCheapestPlan", spec := "fnExactCheapestPlan", unfollowed := true, recurses := true, apart := false, narrowed := true }
def FnExactCheapestPlanUptoSaid : Prop := fnExactCheapestPlanUptoRow.holds Try.pinned (OpenSpec.upto fnExactCheapestPlanSpec)

/-- 'laws.FnExactSplitSegment', WHERE WHAT IT READS IS OF BULK AT MOST 1048576: true; the input reads as it did. -/
def fnExactSplitSegmentUptoRow : OpenClaim := { program := "ytpkieconbfgbdaa", sum := "6777ccaac4225cdce20e88ef063779448a2fe248cdf26b7db7d4c69d537b53e3", func := "loop.example/differenceengine/laws.FnExactSplitSegment", spec := "fnExactSplitSegment", unfollowed := true, recurses := true, apart := false, narrowed := true }
def FnExactSplitSegmentUptoSaid : Prop := fnExactSplitSegmentUptoRow.holds Try.pinned (OpenSpec.upto fnExactSplitSegmentSpec)

/-- 'laws.FnExactJoinSegments', WHERE WHAT IT READS IS OF BULK AT MOST 1048576: true; the input reads as it did. -/
def fnExactJoinSegmentsUptoRow : OpenClaim := { program := "ytpkieconbfgbdaa", sum := "6777ccaac4225cdce20e88ef063779448a2fe248cdf26b7db7d4c69d537b53e3", func := "loop.example/differenceengine/laws.FnExactJoinSegments", spec := "fnExactJoinSegments", unfollowed := true, recurses := true, apart := false, narrowed := true }
def FnExactJoinSegmentsUptoSaid : Prop := fnExactJoinSegmentsUptoRow.holds Try.pinned (OpenSpec.upto fnExactJoinSegmentsSpec)

end Rows
end Go.Proofs.Ytpkieconbfgbdaa
