/-
  No cell of these rows narrows 'for every input' (looked for: loops, veiled, ifaces, maps, wideKeys, modest, calm, conditions, laid).
  DERIVED. THE GIVEN ROWS OF THIS SEAT. 5 by the template 'for every input the law returns true; each argument reads behind the call as it read before'; 0 by the template 'total and deterministic' (their statements: YteacpfejjphabaaTotals.lean).
  GIVEN WITH THE SEED: the statements are not yours to turn. If you find one false, say at which input.
  Laid BY PROGRAM, IN A SANDBOX (cutbox-rows.mjs): the forced cells as the released guide's own fill.sh prints them over the translation bac0f3930dec11fc… (all of the seat's roots in one cut). By AI agents, Wed Nov 11 2026. No macro, syntax, notation, axiom, sorry.
-/
import Derived.Test.YteacpfejjphabaaChecked
import GoSem.Claim
import GoSem.ClaimJoined
import GoSem.ClaimMapViews
import Derived.JoinedTies
import Derived.KernelRfl
namespace Go.Proofs.Yteacpfejjphabaa
/- THE CELL 'sum', in the pinned program and in every row, IS THE sha256 OF THE DUMP (.gsa) THAT YteacpfejjphabaaProg.lean LOADS. Nothing in Lean hashes anything: it is a label: what it is worth is what the hold of that sum in a sandbox is worth. -/
noncomputable def Try.pinned : Pinned := { name := "yteacpfejjphabaa", sum := "bac0f3930dec11fc7f0b0ecc4699666204acc680f19ef73226302b2b8e029163", checked := Try.checked }
namespace Rows
def none {H : Type} : Left H := { results := [], args := [] }

/-- 'laws.FnExactPlanValid': WHATEVER THE INPUT: true; the input reads as it did. -/
def fnExactPlanValidSpec : ChangeSpec := { name := "fnExactPlanValid", fn := fun _ => fun
  | [d] => { results := [.lit (.bool true)], args := [d] }
  | _ => none }
def fnExactPlanValidRow : OpenClaim := { program := "yteacpfejjphabaa", sum := "bac0f3930dec11fc7f0b0ecc4699666204acc680f19ef73226302b2b8e029163", func := "loop.example/differenceengine/laws.FnExactPlanValid", spec := "fnExactPlanValid", unfollowed := true, recurses := true, apart := false }
def FnExactPlanValidSaid : Prop := fnExactPlanValidRow.holds Try.pinned (OpenSpec.ofChange fnExactPlanValidSpec)

/-- ITS FALSE NEIGHBOUR: 'it returns false'. Refute it at one input. -/
def fnExactPlanValidWrong : ChangeSpec := { name := "fnExactPlanValid", fn := fun _ => fun
  | [d] => { results := [.lit (.bool false)], args := [d] }
  | _ => none }
def FnExactPlanValidWrongFalsely : Prop := fnExactPlanValidRow.holds Try.pinned (OpenSpec.ofChange fnExactPlanValidWrong)

/-- 'laws.FnExactPlanLength': WHATEVER THE INPUT: true; the input reads as it did. -/
def fnExactPlanLengthSpec : ChangeSpec := { name := "fnExactPlanLength", fn := fun _ => fun
  | [d] => { results := [.lit (.bool true)], args := [d] }
  | _ => none }
def fnExactPlanLengthRow : OpenClaim := { program := "yteacpfejjphabaa", sum := "bac0f3930dec11fc7f0b0ecc4699666204acc680f19ef73226302b2b8e029163", func := "loop.example/differenceengine/laws.FnExactPlanLength", spec := "fnExactPlanLength", unfollowed := true, recurses := true, apart := false }
def FnExactPlanLengthSaid : Prop := fnExactPlanLengthRow.holds Try.pinned (OpenSpec.ofChange fnExactPlanLengthSpec)

/-- ITS FALSE NEIGHBOUR: 'it returns false'. Refute it at one input. -/
def fnExactPlanLengthWrong : ChangeSpec := { name := "fnExactPlanLength", fn := fun _ => fun
  | [d] => { results := [.lit (.bool false)], args := [d] }
  | _ => none }
def FnExactPlanLengthWrongFalsely : Prop := fnExactPlanLengthRow.holds Try.pinned (OpenSpec.ofChange fnExactPlanLengthWrong)

/-- 'laws.FnExactPlanValues': WHATEVER THE INPUT: true; the input reads as it did. -/
def fnExactPlanValuesSpec : ChangeSpec := { name := "fnExactPlanValues", fn := fun _ => fun
  | [d] => { results := [.lit (.bool true)], args := [d] }
  | _ => none }
def fnExactPlanValuesRow : OpenClaim := { program := "yteacpfejjphabaa", sum := "bac0f3930dec11fc7f0b0ecc4699666204acc680f19ef73226302b2b8e029163", func := "loop.example/differenceengine/laws.FnExactPlanValues", spec := "fnExactPlanValues", unfollowed := true, recurses := true, apart := false }
def FnExactPlanValuesSaid : Prop := fnExactPlanValuesRow.holds Try.pinned (OpenSpec.ofChange fnExactPlanValuesSpec)

/-- ITS FALSE NEIGHBOUR: 'it returns false'. Refute it at one input. -/
def fnExactPlanValuesWrong : ChangeSpec := { name := "fnExactPlanValues", fn := fun _ => fun
  | [d] => { results := [.lit (.bool false)], args := [d] }
  | _ => none }
def FnExactPlanValuesWrongFalsely : Prop := fnExactPlanValuesRow.holds Try.pinned (OpenSpec.ofChange fnExactPlanValuesWrong)

/-- 'laws.FnExactPlanDegree': WHATEVER THE INPUT: true; the input reads as it did. -/
def fnExactPlanDegreeSpec : ChangeSpec := { name := "fnExactPlanDegree", fn := fun _ => fun
  | [d] => { results := [.lit (.bool true)], args := [d] }
  | _ => none }
def fnExactPlanDegreeRow : OpenClaim := { program := "yteacpfejjphabaa", sum := "bac0f3930dec11fc7f0b0ecc4699666204acc680f19ef73226302b2b8e029163", func := "loop.example/differenceengine/laws.FnExactPlanDegree", spec := "fnExactPlanDegree", unfollowed := true, recurses := true, apart := false }
def FnExactPlanDegreeSaid : Prop := fnExactPlanDegreeRow.holds Try.pinned (OpenSpec.ofChange fnExactPlanDegreeSpec)

/-- ITS FALSE NEIGHBOUR: 'it returns false'. Refute it at one input. -/
def fnExactPlanDegreeWrong : ChangeSpec := { name := "fnExactPlanDegree", fn := fun _ => fun
  | [d] => { results := [.lit (.bool false)], args := [d] }
  | _ => none }
def FnExactPlanDegreeWrongFalsely : Prop := fnExactPlanDegreeRow.holds Try.pinned (OpenSpec.ofChange fnExactPlanDegreeWrong)

/-- 'laws.FnExactPlanCost': WHATEVER THE INPUT: true; the input reads as it did. -/
def fnExactPlanCostSpec : ChangeSpec := { name := "fnExactPlanCost", fn := fun _ => fun
  | [d1, d2, d3] => { results := [.lit (.bool true)], args := [d1, d2, d3] }
  | _ => none }
def fnExactPlanCostRow : OpenClaim := { program := "yteacpfejjphabaa", sum := "bac0f3930dec11fc7f0b0ecc4699666204acc680f19ef73226302b2b8e029163", func := "loop.example/differenceengine/laws.FnExactPlanCost", spec := "fnExactPlanCost", unfollowed := true, recurses := true, apart := false }
def FnExactPlanCostSaid : Prop := fnExactPlanCostRow.holds Try.pinned (OpenSpec.ofChange fnExactPlanCostSpec)

/-- ITS FALSE NEIGHBOUR: 'it returns false'. Refute it at one input. -/
def fnExactPlanCostWrong : ChangeSpec := { name := "fnExactPlanCost", fn := fun _ => fun
  | [d1, d2, d3] => { results := [.lit (.bool false)], args := [d1, d2, d3] }
  | _ => none }
def FnExactPlanCostWrongFalsely : Prop := fnExactPlanCostRow.holds Try.pinned (OpenSpec.ofChange fnExactPlanCostWrong)

/- THE SECOND FORM. 'bulk': how many values and letters a reading holds, each counted each time it is reached (what is shared counts as often as it is met; a slice's spare places count too). A statement '..UptoSaid' is the law's where the arguments, and the package variables that the reading takes, are together of bulk at most 1048576: NARROWER than '..Said'. Prove '..Said' where nothing that the law and all that it calls make is longer than what came in: it says more and counts as full. Else prove '..UptoSaid'. A law counts once. -/
mutual
def uptoBulk {H : Type} : DataW H → Nat
  | .lit (.string bytes) => bytes.length + 1
  | .lit _ => 1
  | .nil => 1
  | .ptr d => uptoBulk d + 1
  | .slice elems spare => uptoBulkAll elems + uptoBulkAll spare + 1
  | .agg parts => uptoBulkAll parts + 1
  | .iface _ d => uptoBulk d + 1
  | .map entries => uptoBulkEntries entries + 1
  | .held _ => 1
def uptoBulkAll {H : Type} : List (DataW H) → Nat
  | [] => 0
  | d :: r => uptoBulk d + uptoBulkAll r
def uptoBulkEntries {H : Type} : List (Lit × DataW H) → Nat
  | [] => 0
  | x :: r => uptoBulkEntry x + uptoBulkEntries r
def uptoBulkEntry {H : Type} : Lit × DataW H → Nat
  | (.string bytes, d) => bytes.length + uptoBulk d + 1
  | (_, d) => uptoBulk d + 1
 end
def uptoSmall : (H : Type) → List (DataW H) → Bool := fun _ ds => decide (uptoBulkAll ds ≤ 1048576)
def OpenSpec.upto (s : _root_.Go.ChangeSpec) : _root_.Go.OpenSpec := { _root_.Go.OpenSpec.ofChange s with cond := some uptoSmall }

/-- 'laws.FnExactPlanValid', WHERE WHAT IT READS IS OF BULK AT MOST 1048576: true; the input reads as it did. -/
def fnExactPlanValidUptoRow : OpenClaim := { program := "yteacpfejjphabaa", sum := "bac0f3930dec11fc7f0b0ecc4699666204acc680f19ef73226302b2b8e029163", func := "loop.example/differenceengine/laws.FnExactPlanValid", spec := "fnExactPlanValid", unfollowed := true, recurses := true, apart := false, narrowed := true }
def FnExactPlanValidUptoSaid : Prop := fnExactPlanValidUptoRow.holds Try.pinned (OpenSpec.upto fnExactPlanValidSpec)

/-- 'laws.FnExactPlanLength', WHERE WHAT IT READS IS OF BULK AT MOST 1048576: true; the input reads as it did. -/
def fnExactPlanLengthUptoRow : OpenClaim := { program := "yteacpfejjphabaa", sum := "bac0f3930dec11fc7f0b0ecc4699666204acc680f19ef73226302b2b8e029163", func := "loop.example/differenceengine/laws.FnExactPlanLength", spec := "fnExactPlanLength", unfollowed := true, recurses := true, apart := false, narrowed := true }
def FnExactPlanLengthUptoSaid : Prop := fnExactPlanLengthUptoRow.holds Try.pinned (OpenSpec.upto fnExactPlanLengthSpec)

/-- 'laws.FnExactPlanValues', WHERE WHAT IT READS IS OF BULK AT MOST 1048576: true; the input reads as it did. -/
def fnExactPlanValuesUptoRow : OpenClaim := { program := "yteacpfejjphabaa", sum := "bac0f3930dec11fc7f0b0ecc4699666204acc680f19ef73226302b2b8e029163", func := "loop.example/differenceengine/laws.FnExactPlanValues", spec := "fnExactPlanValues", unfollowed := true, recurses := true, apart := false, narrowed := true }
def FnExactPlanValuesUptoSaid : Prop := fnExactPlanValuesUptoRow.holds Try.pinned (OpenSpec.upto fnExactPlanValuesSpec)

/-- 'laws.FnExactPlanDegree', WHERE WHAT IT READS IS OF BULK AT MOST 1048576: true; the input reads as it did. -/
def fnExactPlanDegreeUptoRow : OpenClaim := { program := "yteacpfejjphabaa", sum := "bac0f3930dec11fc7f0b0ecc4699666204acc680f19ef73226302b2b8e029163", func := "loop.example/differenceengine/laws.FnExactPlanDegree", spec := "fnExactPlanDegree", unfollowed := true, recurses := true, apart := false, narrowed := true }
def FnExactPlanDegreeUptoSaid : Prop := fnExactPlanDegreeUptoRow.holds Try.pinned (OpenSpec.upto fnExactPlanDegreeSpec)

/-- 'laws.FnExactPlanCost', WHERE WHAT IT READS IS OF BULK AT MOST 1048576: true; the input reads as it did. -/
def fnExactPlanCostUptoRow : OpenClaim := { program := "yteacpfejjphabaa", sum := "bac0f3930dec11fc7f0b0ecc4699666204acc680f19ef73226302b2b8e029163", func := "loop.example/differenceengine/laws.FnExactPlanCost", spec := "fnExactPlanCost", unfollowed := true, recurses := true, apart := false, narrowed := true }
def FnExactPlanCostUptoSaid : Prop := fnExactPlanCostUptoRow.holds Try.pinned (OpenSpec.upto fnExactPlanCostSpec)

end Rows
end Go.Proofs.Yteacpfejjphabaa
