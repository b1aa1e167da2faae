/-
  No cell of these rows narrows 'for every input' (looked for: loops, veiled, ifaces, maps, wideKeys, modest, calm, conditions, laid).
  DERIVED. THE GIVEN ROWS OF THIS SEAT. 5 by the template 'for every input the law returns true; each argument reads behind the call as it read before'; 0 by the template 'total and deterministic' (their statements: YtmmcdmnmhpbehaaTotals.lean).
  GIVEN WITH THE SEED: the statements are not yours to turn. If you find one false, say at which input.
  Laid BY PROGRAM, IN A SANDBOX (cutbox-rows.mjs): the forced cells as the released guide's own fill.sh prints them over the translation 7f80006ad8de19af… (all of the seat's roots in one cut). By AI agents, Wed Nov 11 2026. No macro, syntax, notation, axiom, sorry.
-/
import Derived.Test.YtmmcdmnmhpbehaaChecked
import GoSem.Claim
import GoSem.ClaimJoined
import GoSem.ClaimMapViews
import Derived.JoinedTies
import Derived.KernelRfl
namespace Go.Proofs.Ytmmcdmnmhpbehaa
/- THE CELL 'sum', in the pinned program and in every row, IS THE sha256 OF THE DUMP (.gsa) THAT YtmmcdmnmhpbehaaProg.lean LOADS. Nothing in Lean hashes anything: it is a label: what it is worth is what the hold of that sum in a sandbox is worth. -/
noncomputable def Try.pinned : Pinned := { name := "ytmmcdmnmhpbehaa", sum := "7f80006ad8de19afc4adf1827aa6d5416c265626942c44cac601e825d74539c8", checked := Try.checked }
namespace Rows
def none {H : Type} : Left H := { results := [], args := [] }

/-- 'laws.FnGreedyDegree': WHATEVER THE INPUT: true; the input reads as it did. -/
def fnGreedyDegreeSpec : ChangeSpec := { name := "fnGreedyDegree", fn := fun _ => fun
  | [d] => { results := [.lit (.bool true)], args := [d] }
  | _ => none }
def fnGreedyDegreeRow : OpenClaim := { program := "ytmmcdmnmhpbehaa", sum := "7f80006ad8de19afc4adf1827aa6d5416c265626942c44cac601e825d74539c8", func := "loop.example/differenceengine/laws.FnGreedyDegree", spec := "fnGreedyDegree", unfollowed := true, recurses := true, apart := false }
def FnGreedyDegreeSaid : Prop := fnGreedyDegreeRow.holds Try.pinned (OpenSpec.ofChange fnGreedyDegreeSpec)

/-- ITS FALSE NEIGHBOUR: 'it returns false'. Refute it at one input. -/
def fnGreedyDegreeWrong : ChangeSpec := { name := "fnGreedyDegree", fn := fun _ => fun
  | [d] => { results := [.lit (.bool false)], args := [d] }
  | _ => none }
def FnGreedyDegreeWrongFalsely : Prop := fnGreedyDegreeRow.holds Try.pinned (OpenSpec.ofChange fnGreedyDegreeWrong)

/-- 'laws.FnFewestPrefix': WHATEVER THE INPUT: true; the input reads as it did. -/
def fnFewestPrefixSpec : ChangeSpec := { name := "fnFewestPrefix", fn := fun _ => fun
  | [d1, d2] => { results := [.lit (.bool true)], args := [d1, d2] }
  | _ => none }
def fnFewestPrefixRow : OpenClaim := { program := "ytmmcdmnmhpbehaa", sum := "7f80006ad8de19afc4adf1827aa6d5416c265626942c44cac601e825d74539c8", func := "loop.example/differenceengine/laws.FnFewestPrefix", spec := "fnFewestPrefix", unfollowed := true, recurses := true, apart := false }
def FnFewestPrefixSaid : Prop := fnFewestPrefixRow.holds Try.pinned (OpenSpec.ofChange fnFewestPrefixSpec)

/-- ITS FALSE NEIGHBOUR: 'it returns false'. Refute it at one input. -/
def fnFewestPrefixWrong : ChangeSpec := { name := "fnFewestPrefix", fn := fun _ => fun
  | [d1, d2] => { results := [.lit (.bool false)], args := [d1, d2] }
  | _ => none }
def FnFewestPrefixWrongFalsely : Prop := fnFewestPrefixRow.holds Try.pinned (OpenSpec.ofChange fnFewestPrefixWrong)

/-- 'laws.FnPlanValues': WHATEVER THE INPUT: true; the input reads as it did. -/
def fnPlanValuesSpec : ChangeSpec := { name := "fnPlanValues", fn := fun _ => fun
  | [d] => { results := [.lit (.bool true)], args := [d] }
  | _ => none }
def fnPlanValuesRow : OpenClaim := { program := "ytmmcdmnmhpbehaa", sum := "7f80006ad8de19afc4adf1827aa6d5416c265626942c44cac601e825d74539c8", func := "loop.example/differenceengine/laws.FnPlanValues", spec := "fnPlanValues", unfollowed := true, recurses := true, apart := false }
def FnPlanValuesSaid : Prop := fnPlanValuesRow.holds Try.pinned (OpenSpec.ofChange fnPlanValuesSpec)

/-- ITS FALSE NEIGHBOUR: 'it returns false'. Refute it at one input. -/
def fnPlanValuesWrong : ChangeSpec := { name := "fnPlanValues", fn := fun _ => fun
  | [d] => { results := [.lit (.bool false)], args := [d] }
  | _ => none }
def FnPlanValuesWrongFalsely : Prop := fnPlanValuesRow.holds Try.pinned (OpenSpec.ofChange fnPlanValuesWrong)

/-- 'laws.FnGreedyValues': WHATEVER THE INPUT: true; the input reads as it did. -/
def fnGreedyValuesSpec : ChangeSpec := { name := "fnGreedyValues", fn := fun _ => fun
  | [d] => { results := [.lit (.bool true)], args := [d] }
  | _ => none }
def fnGreedyValuesRow : OpenClaim := { program := "ytmmcdmnmhpbehaa", sum := "7f80006ad8de19afc4adf1827aa6d5416c265626942c44cac601e825d74539c8", func := "loop.example/differenceengine/laws.FnGreedyValues", spec := "fnGreedyValues", unfollowed := true, recurses := true, apart := false }
def FnGreedyValuesSaid : Prop := fnGreedyValuesRow.holds Try.pinned (OpenSpec.ofChange fnGreedyValuesSpec)

/-- ITS FALSE NEIGHBOUR: 'it returns false'. Refute it at one input. -/
def fnGreedyValuesWrong : ChangeSpec := { name := "fnGreedyValues", fn := fun _ => fun
  | [d] => { results := [.lit (.bool false)], args := [d] }
  | _ => none }
def FnGreedyValuesWrongFalsely : Prop := fnGreedyValuesRow.holds Try.pinned (OpenSpec.ofChange fnGreedyValuesWrong)

/-- 'laws.FnGreedyFewest': WHATEVER THE INPUT: true; the input reads as it did. -/
def fnGreedyFewestSpec : ChangeSpec := { name := "fnGreedyFewest", fn := fun _ => fun
  | [d] => { results := [.lit (.bool true)], args := [d] }
  | _ => none }
def fnGreedyFewestRow : OpenClaim := { program := "ytmmcdmnmhpbehaa", sum := "7f80006ad8de19afc4adf1827aa6d5416c265626942c44cac601e825d74539c8", func := "loop.example/differenceengine/laws.FnGreedyFewest", spec := "fnGreedyFewest", unfollowed := true, recurses := true, apart := false }
def FnGreedyFewestSaid : Prop := fnGreedyFewestRow.holds Try.pinned (OpenSpec.ofChange fnGreedyFewestSpec)

/-- ITS FALSE NEIGHBOUR: 'it returns false'. Refute it at one input. -/
def fnGreedyFewestWrong : ChangeSpec := { name := "fnGreedyFewest", fn := fun _ => fun
  | [d] => { results := [.lit (.bool false)], args := [d] }
  | _ => none }
def FnGreedyFewestWrongFalsely : Prop := fnGreedyFewestRow.holds Try.pinned (OpenSpec.ofChange fnGreedyFewestWrong)

/- THE SECOND FORM. 'bulk': how many values and letters a reading holds, each counted each time it is reached (what is shared counts as often as it is met; a slice's spare places count too). A statement '..UptoSaid' is the law's where the arguments, and the package variables that the reading takes, are together of bulk at most 1048576: NARROWER than '..Said'. Prove '..Said' where nothing that the law and all that it calls make is longer than what came in: it says more and counts as full. Else prove '..UptoSaid'. A law counts once. -/
mutual
def uptoBulk {H : Type} : DataW H → Nat
  | .lit (.string bytes) => bytes.length + 1
  | .lit _ => 1
  | .nil => 1
  | .ptr d => uptoBulk d + 1
  | .slice elems spare => uptoBulkAll elems + uptoBulkAll spare + 1
  | .agg parts => uptoBulkAll parts + 1
  | .iface _ d => uptoBulk d + 1
  | .map entries => uptoBulkEntries entries + 1
  | .held _ => 1
def uptoBulkAll {H : Type} : List (DataW H) → Nat
  | [] => 0
  | d :: r => uptoBulk d + uptoBulkAll r
def uptoBulkEntries {H : Type} : List (Lit × DataW H) → Nat
  | [] => 0
  | x :: r => uptoBulkEntry x + uptoBulkEntries r
def uptoBulkEntry {H : Type} : Lit × DataW H → Nat
  | (.string bytes, d) => bytes.length + uptoBulk d + 1
  | (_, d) => uptoBulk d + 1
 end
def uptoSmall : (H : Type) → List (DataW H) → Bool := fun _ ds => decide (uptoBulkAll ds ≤ 1048576)
def OpenSpec.upto (s : _root_.Go.ChangeSpec) : _root_.Go.OpenSpec := { _root_.Go.OpenSpec.ofChange s with cond := some uptoSmall }

/-- 'laws.FnGreedyDegree', WHERE WHAT IT READS IS OF BULK AT MOST 1048576: true; the input reads as it did. -/
def fnGreedyDegreeUptoRow : OpenClaim := { program := "ytmmcdmnmhpbehaa", sum := "7f80006ad8de19afc4adf1827aa6d5416c265626942c44cac601e825d74539c8", func := "loop.example/differenceengine/laws.FnGreedyDegree", spec := "fnGreedyDegree", unfollowed := true, recurses := true, apart := false, narrowed := true }
def FnGreedyDegreeUptoSaid : Prop := fnGreedyDegreeUptoRow.holds Try.pinned (OpenSpec.upto fnGreedyDegreeSpec)

/-- 'laws.FnFewestPrefix', WHERE WHAT IT READS IS OF BULK AT MOST 1048576: true; the input reads as it did. -/
def fnFewestPrefixUptoRow : OpenClaim := { program := "ytmmcdmnmhpbehaa", sum := "7f80006ad8de19afc4adf1827aa6d5416c265626942c44cac601e825d74539c8", func := "loop.example/differenceengine/laws.FnFewestPrefix", spec := "fnFewestPrefix", unfollowed := true, recurses := true, apart := false, narrowed := true }
def FnFewestPrefixUptoSaid : Prop := fnFewestPrefixUptoRow.holds Try.pinned (OpenSpec.upto fnFewestPrefixSpec)

/-- 'laws.FnPlanValues', WHERE WHAT IT READS IS OF BULK AT MOST 1048576: true; the input reads as it did. -/
def fnPlanValuesUptoRow : OpenClaim := { program := "ytmmcdmnmhpbehaa", sum := "7f80006ad8de19afc4adf1827aa6d5416c265626942c44cac601e825d74539c8", func := "loop.example/differenceengine/laws.FnPlanValues", spec := "fnPlanValues", unfollowed := true, recurses := true, apart := false, narrowed := true }
def FnPlanValuesUptoSaid : Prop := fnPlanValuesUptoRow.holds Try.pinned (OpenSpec.upto fnPlanValuesSpec)

/-- 'laws.FnGreedyValues', WHERE WHAT IT READS IS OF BULK AT MOST 1048576: true; the input reads as it did. -/
def fnGreedyValuesUptoRow : OpenClaim := { program := "ytmmcdmnmhpbehaa", sum := "7f80006ad8de19afc4adf1827aa6d5416c265626942c44cac601e825d74539c8", func := "loop.example/differenceengine/laws.FnGreedyValues", spec := "fnGreedyValues", unfollowed := true, recurses := true, apart := false, narrowed := true }
def FnGreedyValuesUptoSaid : Prop := fnGreedyValuesUptoRow.holds Try.pinned (OpenSpec.upto fnGreedyValuesSpec)

/-- 'laws.FnGreedyFewest', WHERE WHAT IT READS IS OF BULK AT MOST 1048576: true; the input reads as it did. -/
def fnGreedyFewestUptoRow : OpenClaim := { program := "ytmmcdmnmhpbehaa", sum := "7f80006ad8de19afc4adf1827aa6d5416c265626942c44cac601e825d74539c8", func := "loop.example/differenceengine/laws.FnGreedyFewest", spec := "fnGreedyFewest", unfollowed := true, recurses := true, apart := false, narrowed := true }
def FnGreedyFewestUptoSaid : Prop := fnGreedyFewestUptoRow.holds Try.pinned (OpenSpec.upto fnGreedyFewestSpec)

end Rows
end Go.Proofs.Ytmmcdmnmhpbehaa
