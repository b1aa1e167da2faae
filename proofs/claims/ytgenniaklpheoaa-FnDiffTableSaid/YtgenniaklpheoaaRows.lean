/-
  No cell of these rows narrows 'for every input' (looked for: loops, veiled, ifaces, maps, wideKeys, modest, calm, conditions, laid).
  DERIVED. THE GIVEN ROWS OF THIS SEAT. 8 by the template 'for every input the law returns true; each argument reads behind the call as it read before'; 0 by the template 'total and deterministic' (their statements: YtgenniaklpheoaaTotals.lean).
  GIVEN WITH THE SEED: the statements are not yours to turn. If you find one false, say at which input.
  Laid BY PROGRAM, IN A SANDBOX (cutbox-rows.mjs): the forced cells as the released guide's own fill.sh prints them over the translation 07c31e7265911974… (all of the seat's roots in one cut). By AI agents, Wed Nov 11 2026. No macro, syntax, notation, axiom, sorry.
-/
import Derived.Test.YtgenniaklpheoaaChecked
import GoSem.Claim
import GoSem.ClaimJoined
import GoSem.ClaimMapViews
import Derived.JoinedTies
import Derived.KernelRfl
namespace Go.Proofs.Ytgenniaklpheoaa
/- THE CELL 'sum', in the pinned program and in every row, IS THE sha256 OF THE DUMP (.gsa) THAT YtgenniaklpheoaaProg.lean LOADS. Nothing in Lean hashes anything: it is a label: what it is worth is what the hold of that sum in a sandbox is worth. -/
noncomputable def Try.pinned : Pinned := { name := "ytgenniaklpheoaa", sum := "07c31e726591197422cd6145416c5426504e9cb75ab732dbd3d8d61ab6a2bfed", checked := Try.checked }
namespace Rows
def none {H : Type} : Left H := { results := [], args := [] }

/-- 'laws.FnMulPolys': WHATEVER THE INPUT: true; the input reads as it did. -/
def fnMulPolysSpec : ChangeSpec := { name := "fnMulPolys", fn := fun _ => fun
  | [d] => { results := [.lit (.bool true)], args := [d] }
  | _ => none }
def fnMulPolysRow : OpenClaim := { program := "ytgenniaklpheoaa", sum := "07c31e726591197422cd6145416c5426504e9cb75ab732dbd3d8d61ab6a2bfed", func := "loop.example/differenceengine/laws.FnMulPolys", spec := "fnMulPolys", unfollowed := true, recurses := true, apart := false }
def FnMulPolysSaid : Prop := fnMulPolysRow.holds Try.pinned (OpenSpec.ofChange fnMulPolysSpec)

/-- ITS FALSE NEIGHBOUR: 'it returns false'. Refute it at one input. -/
def fnMulPolysWrong : ChangeSpec := { name := "fnMulPolys", fn := fun _ => fun
  | [d] => { results := [.lit (.bool false)], args := [d] }
  | _ => none }
def FnMulPolysWrongFalsely : Prop := fnMulPolysRow.holds Try.pinned (OpenSpec.ofChange fnMulPolysWrong)

/-- 'laws.FnMulDifference': WHATEVER THE INPUT: true; the input reads as it did. -/
def fnMulDifferenceSpec : ChangeSpec := { name := "fnMulDifference", fn := fun _ => fun
  | [d] => { results := [.lit (.bool true)], args := [d] }
  | _ => none }
def fnMulDifferenceRow : OpenClaim := { program := "ytgenniaklpheoaa", sum := "07c31e726591197422cd6145416c5426504e9cb75ab732dbd3d8d61ab6a2bfed", func := "loop.example/differenceengine/laws.FnMulDifference", spec := "fnMulDifference", unfollowed := true, recurses := true, apart := false }
def FnMulDifferenceSaid : Prop := fnMulDifferenceRow.holds Try.pinned (OpenSpec.ofChange fnMulDifferenceSpec)

/-- ITS FALSE NEIGHBOUR: 'it returns false'. Refute it at one input. -/
def fnMulDifferenceWrong : ChangeSpec := { name := "fnMulDifference", fn := fun _ => fun
  | [d] => { results := [.lit (.bool false)], args := [d] }
  | _ => none }
def FnMulDifferenceWrongFalsely : Prop := fnMulDifferenceRow.holds Try.pinned (OpenSpec.ofChange fnMulDifferenceWrong)

/-- 'laws.FnStepTurn': WHATEVER THE INPUT: true; the input reads as it did. -/
def fnStepTurnSpec : ChangeSpec := { name := "fnStepTurn", fn := fun _ => fun
  | [d] => { results := [.lit (.bool true)], args := [d] }
  | _ => none }
def fnStepTurnRow : OpenClaim := { program := "ytgenniaklpheoaa", sum := "07c31e726591197422cd6145416c5426504e9cb75ab732dbd3d8d61ab6a2bfed", func := "loop.example/differenceengine/laws.FnStepTurn", spec := "fnStepTurn", unfollowed := true, recurses := true, apart := false }
def FnStepTurnSaid : Prop := fnStepTurnRow.holds Try.pinned (OpenSpec.ofChange fnStepTurnSpec)

/-- ITS FALSE NEIGHBOUR: 'it returns false'. Refute it at one input. -/
def fnStepTurnWrong : ChangeSpec := { name := "fnStepTurn", fn := fun _ => fun
  | [d] => { results := [.lit (.bool false)], args := [d] }
  | _ => none }
def FnStepTurnWrongFalsely : Prop := fnStepTurnRow.holds Try.pinned (OpenSpec.ofChange fnStepTurnWrong)

/-- 'laws.FnPowers': WHATEVER THE INPUT: true; the input reads as it did. -/
def fnPowersSpec : ChangeSpec := { name := "fnPowers", fn := fun _ => fun
  | [d] => { results := [.lit (.bool true)], args := [d] }
  | _ => none }
def fnPowersRow : OpenClaim := { program := "ytgenniaklpheoaa", sum := "07c31e726591197422cd6145416c5426504e9cb75ab732dbd3d8d61ab6a2bfed", func := "loop.example/differenceengine/laws.FnPowers", spec := "fnPowers", unfollowed := true, recurses := true, apart := false }
def FnPowersSaid : Prop := fnPowersRow.holds Try.pinned (OpenSpec.ofChange fnPowersSpec)

/-- ITS FALSE NEIGHBOUR: 'it returns false'. Refute it at one input. -/
def fnPowersWrong : ChangeSpec := { name := "fnPowers", fn := fun _ => fun
  | [d] => { results := [.lit (.bool false)], args := [d] }
  | _ => none }
def FnPowersWrongFalsely : Prop := fnPowersRow.holds Try.pinned (OpenSpec.ofChange fnPowersWrong)

/-- 'laws.FnPowersOf': WHATEVER THE INPUT: true; the input reads as it did. -/
def fnPowersOfSpec : ChangeSpec := { name := "fnPowersOf", fn := fun _ => fun
  | [d] => { results := [.lit (.bool true)], args := [d] }
  | _ => none }
def fnPowersOfRow : OpenClaim := { program := "ytgenniaklpheoaa", sum := "07c31e726591197422cd6145416c5426504e9cb75ab732dbd3d8d61ab6a2bfed", func := "loop.example/differenceengine/laws.FnPowersOf", spec := "fnPowersOf", unfollowed := true, recurses := true, apart := false }
def FnPowersOfSaid : Prop := fnPowersOfRow.holds Try.pinned (OpenSpec.ofChange fnPowersOfSpec)

/-- ITS FALSE NEIGHBOUR: 'it returns false'. Refute it at one input. -/
def fnPowersOfWrong : ChangeSpec := { name := "fnPowersOf", fn := fun _ => fun
  | [d] => { results := [.lit (.bool false)], args := [d] }
  | _ => none }
def FnPowersOfWrongFalsely : Prop := fnPowersOfRow.holds Try.pinned (OpenSpec.ofChange fnPowersOfWrong)

/-- 'laws.FnDiffTable': WHATEVER THE INPUT: true; the input reads as it did. -/
def fnDiffTableSpec : ChangeSpec := { name := "fnDiffTable", fn := fun _ => fun
  | [d] => { results := [.lit (.bool true)], args := [d] }
  | _ => none }
def fnDiffTableRow : OpenClaim := { program := "ytgenniaklpheoaa", sum := "07c31e726591197422cd6145416c5426504e9cb75ab732dbd3d8d61ab6a2bfed", func := "loop.example/differenceengine/laws.FnDiffTable", spec := "fnDiffTable", unfollowed := true, recurses := true, apart := false }
def FnDiffTableSaid : Prop := fnDiffTableRow.holds Try.pinned (OpenSpec.ofChange fnDiffTableSpec)

/-- ITS FALSE NEIGHBOUR: 'it returns false'. Refute it at one input. -/
def fnDiffTableWrong : ChangeSpec := { name := "fnDiffTable", fn := fun _ => fun
  | [d] => { results := [.lit (.bool false)], args := [d] }
  | _ => none }
def FnDiffTableWrongFalsely : Prop := fnDiffTableRow.holds Try.pinned (OpenSpec.ofChange fnDiffTableWrong)

/-- 'laws.FnLeastDegree': WHATEVER THE INPUT: true; the input reads as it did. -/
def fnLeastDegreeSpec : ChangeSpec := { name := "fnLeastDegree", fn := fun _ => fun
  | [d] => { results := [.lit (.bool true)], args := [d] }
  | _ => none }
def fnLeastDegreeRow : OpenClaim := { program := "ytgenniaklpheoaa", sum := "07c31e726591197422cd6145416c5426504e9cb75ab732dbd3d8d61ab6a2bfed", func := "loop.example/differenceengine/laws.FnLeastDegree", spec := "fnLeastDegree", unfollowed := true, recurses := true, apart := false }
def FnLeastDegreeSaid : Prop := fnLeastDegreeRow.holds Try.pinned (OpenSpec.ofChange fnLeastDegreeSpec)

/-- ITS FALSE NEIGHBOUR: 'it returns false'. Refute it at one input. -/
def fnLeastDegreeWrong : ChangeSpec := { name := "fnLeastDegree", fn := fun _ => fun
  | [d] => { results := [.lit (.bool false)], args := [d] }
  | _ => none }
def FnLeastDegreeWrongFalsely : Prop := fnLeastDegreeRow.holds Try.pinned (OpenSpec.ofChange fnLeastDegreeWrong)

/-- 'laws.FnInterpolateValues': WHATEVER THE INPUT: true; the input reads as it did. -/
def fnInterpolateValuesSpec : ChangeSpec := { name := "fnInterpolateValues", fn := fun _ => fun
  | [d] => { results := [.lit (.bool true)], args := [d] }
  | _ => none }
def fnInterpolateValuesRow : OpenClaim := { program := "ytgenniaklpheoaa", sum := "07c31e726591197422cd6145416c5426504e9cb75ab732dbd3d8d61ab6a2bfed", func := "loop.example/differenceengine/laws.FnInterpolateValues", spec := "fnInterpolateValues", unfollowed := true, recurses := true, apart := false }
def FnInterpolateValuesSaid : Prop := fnInterpolateValuesRow.holds Try.pinned (OpenSpec.ofChange fnInterpolateValuesSpec)

/-- ITS FALSE NEIGHBOUR: 'it returns false'. Refute it at one input. -/
def fnInterpolateValuesWrong : ChangeSpec := { name := "fnInterpolateValues", fn := fun _ => fun
  | [d] => { results := [.lit (.bool false)], args := [d] }
  | _ => none }
def FnInterpolateValuesWrongFalsely : Prop := fnInterpolateValuesRow.holds Try.pinned (OpenSpec.ofChange fnInterpolateValuesWrong)

/- THE SECOND FORM. 'bulk': how many values and letters a reading holds, each counted each time it is reached (what is shared counts as often as it is met; a slice's spare places count too). A statement '..UptoSaid' is the law's where the arguments, and the package variables that the reading takes, are together of bulk at most 1048576: NARROWER than '..Said'. Prove '..Said' where nothing that the law and all that it calls make is longer than what came in: it says more and counts as full. Else prove '..UptoSaid'. A law counts once. -/
mutual
def uptoBulk {H : Type} : DataW H → Nat
  | .lit (.string bytes) => bytes.length + 1
  | .lit _ => 1
  | .nil => 1
  | .ptr d => uptoBulk d + 1
  | .slice elems spare => uptoBulkAll elems + uptoBulkAll spare + 1
  | .agg parts => uptoBulkAll parts + 1
  | .iface _ d => uptoBulk d + 1
  | .map entries => uptoBulkEntries entries + 1
  | .held _ => 1
def uptoBulkAll {H : Type} : List (DataW H) → Nat
  | [] => 0
  | d :: r => uptoBulk d + uptoBulkAll r
def uptoBulkEntries {H : Type} : List (Lit × DataW H) → Nat
  | [] => 0
  | x :: r => uptoBulkEntry x + uptoBulkEntries r
def uptoBulkEntry {H : Type} : Lit × DataW H → Nat
  | (.string bytes, d) => bytes.length + uptoBulk d + 1
  | (_, d) => uptoBulk d + 1
 end
def uptoSmall : (H : Type) → List (DataW H) → Bool := fun _ ds => decide (uptoBulkAll ds ≤ 1048576)
def OpenSpec.upto (s : _root_.Go.ChangeSpec) : _root_.Go.OpenSpec := { _root_.Go.OpenSpec.ofChange s with cond := some uptoSmall }

/-- 'laws.FnMulPolys', WHERE WHAT IT READS IS OF BULK AT MOST 1048576: true; the input reads as it did. -/
def fnMulPolysUptoRow : OpenClaim := { program := "ytgenniaklpheoaa", sum := "07c31e726591197422cd6145416c5426504e9cb75ab732dbd3d8d61ab6a2bfed", func := "loop.example/differenceengine/laws.FnMulPolys", spec := "fnMulPolys", unfollowed := true, recurses := true, apart := false, narrowed := true }
def FnMulPolysUptoSaid : Prop := fnMulPolysUptoRow.holds Try.pinned (OpenSpec.upto fnMulPolysSpec)

/-- 'laws.FnMulDifference', WHERE WHAT IT READS IS OF BULK AT MOST 1048576: true; the input reads as it did. -/
def fnMulDifferenceUptoRow : OpenClaim := { program := "ytgenniaklpheoaa", sum := "07c31e726591197422cd6145416c5426504e9cb75ab732dbd3d8d61ab6a2bfed", func := "loop.example/differenceengine/laws.FnMulDifference", spec := "fnMulDifference", unfollowed := true, recurses := true, apart := false, narrowed := true }
def FnMulDifferenceUptoSaid : Prop := fnMulDifferenceUptoRow.holds Try.pinned (OpenSpec.upto fnMulDifferenceSpec)

/-- 'laws.FnStepTurn', WHERE WHAT IT READS IS OF BULK AT MOST 1048576: true; the input reads as it did. -/
def fnStepTurnUptoRow : OpenClaim := { program := "ytgenniaklpheoaa", sum := "07c31e726591197422cd6145416c5426504e9cb75ab732dbd3d8d61ab6a2bfed", func := "loop.example/differenceengine/laws.FnStepTurn", spec := "fnStepTurn", unfollowed := true, recurses := true, apart := false, narrowed := true }
def FnStepTurnUptoSaid : Prop := fnStepTurnUptoRow.holds Try.pinned (OpenSpec.upto fnStepTurnSpec)

/-- 'laws.FnPowers', WHERE WHAT IT READS IS OF BULK AT MOST 1048576: true; the input reads as it did. -/
def fnPowersUptoRow : OpenClaim := { program := "ytgenniaklpheoaa", sum := "07c31e726591197422cd6145416c5426504e9cb75ab732dbd3d8d61ab6a2bfed", func := "loop.example/differenceengine/laws.FnPowers", spec := "fnPowers", unfollowed := true, recurses := true, apart := false, narrowed := true }
def FnPowersUptoSaid : Prop := fnPowersUptoRow.holds Try.pinned (OpenSpec.upto fnPowersSpec)

/-- 'laws.FnPowersOf', WHERE WHAT IT READS IS OF BULK AT MOST 1048576: true; the input reads as it did. -/
def fnPowersOfUptoRow : OpenClaim := { program := "ytgenniaklpheoaa", sum := "07c31e726591197422cd6145416c5426504e9cb75ab732dbd3d8d61ab6a2bfed", func := "loop.example/differenceengine/laws.FnPowersOf", spec := "fnPowersOf", unfollowed := true, recurses := true, apart := false, narrowed := true }
def FnPowersOfUptoSaid : Prop := fnPowersOfUptoRow.holds Try.pinned (OpenSpec.upto fnPowersOfSpec)

/-- 'laws.FnDiffTable', WHERE WHAT IT READS IS OF BULK AT MOST 1048576: true; the input reads as it did. -/
def fnDiffTableUptoRow : OpenClaim := { program := "ytgenniaklpheoaa", sum := "07c31e726591197422cd6145416c5426504e9cb75ab732dbd3d8d61ab6a2bfed", func := "loop.example/differenceengine/laws.FnDiffTable", spec := "fnDiffTable", unfollowed := true, recurses := true, apart := false, narrowed := true }
def FnDiffTableUptoSaid : Prop := fnDiffTableUptoRow.holds Try.pinned (OpenSpec.upto fnDiffTableSpec)

/-- 'laws.FnLeastDegree', WHERE WHAT IT READS IS OF BULK AT MOST 1048576: true; the input reads as it did. -/
def fnLeastDegreeUptoRow : OpenClaim := { program := "ytgenniaklpheoaa", sum := "07c31e726591197422cd6145416c5426504e9cb75ab732dbd3d8d61ab6a2bfed", func := "loop.example/differenceengine/laws.FnLeastDegree", spec := "fnLeastDegree", unfollowed := true, recurses := true, apart := false, narrowed := true }
def FnLeastDegreeUptoSaid : Prop := fnLeastDegreeUptoRow.holds Try.pinned (OpenSpec.upto fnLeastDegreeSpec)

/-- 'laws.FnInterpolateValues', WHERE WHAT IT READS IS OF BULK AT MOST 1048576: true; the input reads as it did. -/
def fnInterpolateValuesUptoRow : OpenClaim := { program := "ytgenniaklpheoaa", sum := "07c31e726591197422cd6145416c5426504e9cb75ab732dbd3d8d61ab6a2bfed", func := "loop.example/differenceengine/laws.FnInterpolateValues", spec := "fnInterpolateValues", unfollowed := true, recurses := true, apart := false, narrowed := true }
def FnInterpolateValuesUptoSaid : Prop := fnInterpolateValuesUptoRow.holds Try.pinned (OpenSpec.upto fnInterpolateValuesSpec)

end Rows
end Go.Proofs.Ytgenniaklpheoaa
