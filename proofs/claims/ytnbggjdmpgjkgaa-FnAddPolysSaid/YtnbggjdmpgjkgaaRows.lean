/-
  No cell of these rows narrows 'for every input' (looked for: loops, veiled, ifaces, maps, wideKeys, modest, calm, conditions, laid).
  DERIVED. THE GIVEN ROWS OF THIS SEAT. 8 by the template 'for every input the law returns true; each argument reads behind the call as it read before'; 0 by the template 'total and deterministic' (their statements: YtnbggjdmpgjkgaaTotals.lean).
  GIVEN WITH THE SEED: the statements are not yours to turn. If you find one false, say at which input.
  Laid BY PROGRAM, IN A SANDBOX (cutbox-rows.mjs): the forced cells as the released guide's own fill.sh prints them over the translation d0f1d55109491804… (all of the seat's roots in one cut). By AI agents, Wed Nov 11 2026. No macro, syntax, notation, axiom, sorry.
-/
import Derived.Test.YtnbggjdmpgjkgaaChecked
import GoSem.Claim
import GoSem.ClaimJoined
import GoSem.ClaimMapViews
import Derived.JoinedTies
import Derived.KernelRfl
namespace Go.Proofs.Ytnbggjdmpgjkgaa
/- THE CELL 'sum', in the pinned program and in every row, IS THE sha256 OF THE DUMP (.gsa) THAT YtnbggjdmpgjkgaaProg.lean LOADS. Nothing in Lean hashes anything: it is a label: what it is worth is what the hold of that sum in a sandbox is worth. -/
noncomputable def Try.pinned : Pinned := { name := "ytnbggjdmpgjkgaa", sum := "d0f1d55109491804520f577edb3827c2f2f9da9d57df3bacdc520d7abf20d055", checked := Try.checked }
namespace Rows
def none {H : Type} : Left H := { results := [], args := [] }

/-- 'laws.FnBinomialPascal': WHATEVER THE INPUT: true; the input reads as it did. -/
def fnBinomialPascalSpec : ChangeSpec := { name := "fnBinomialPascal", fn := fun _ => fun
  | [d] => { results := [.lit (.bool true)], args := [d] }
  | _ => none }
def fnBinomialPascalRow : OpenClaim := { program := "ytnbggjdmpgjkgaa", sum := "d0f1d55109491804520f577edb3827c2f2f9da9d57df3bacdc520d7abf20d055", func := "loop.example/differenceengine/laws.FnBinomialPascal", spec := "fnBinomialPascal", apart := false }
def FnBinomialPascalSaid : Prop := fnBinomialPascalRow.holds Try.pinned (OpenSpec.ofChange fnBinomialPascalSpec)

/-- ITS FALSE NEIGHBOUR: 'it returns false'. Refute it at one input. -/
def fnBinomialPascalWrong : ChangeSpec := { name := "fnBinomialPascal", fn := fun _ => fun
  | [d] => { results := [.lit (.bool false)], args := [d] }
  | _ => none }
def FnBinomialPascalWrongFalsely : Prop := fnBinomialPascalRow.holds Try.pinned (OpenSpec.ofChange fnBinomialPascalWrong)

/-- 'laws.FnBinomialTurned': WHATEVER THE INPUT: true; the input reads as it did. -/
def fnBinomialTurnedSpec : ChangeSpec := { name := "fnBinomialTurned", fn := fun _ => fun
  | [d] => { results := [.lit (.bool true)], args := [d] }
  | _ => none }
def fnBinomialTurnedRow : OpenClaim := { program := "ytnbggjdmpgjkgaa", sum := "d0f1d55109491804520f577edb3827c2f2f9da9d57df3bacdc520d7abf20d055", func := "loop.example/differenceengine/laws.FnBinomialTurned", spec := "fnBinomialTurned", apart := false }
def FnBinomialTurnedSaid : Prop := fnBinomialTurnedRow.holds Try.pinned (OpenSpec.ofChange fnBinomialTurnedSpec)

/-- ITS FALSE NEIGHBOUR: 'it returns false'. Refute it at one input. -/
def fnBinomialTurnedWrong : ChangeSpec := { name := "fnBinomialTurned", fn := fun _ => fun
  | [d] => { results := [.lit (.bool false)], args := [d] }
  | _ => none }
def FnBinomialTurnedWrongFalsely : Prop := fnBinomialTurnedRow.holds Try.pinned (OpenSpec.ofChange fnBinomialTurnedWrong)

/-- 'laws.FnEvalDifference': WHATEVER THE INPUT: true; the input reads as it did. -/
def fnEvalDifferenceSpec : ChangeSpec := { name := "fnEvalDifference", fn := fun _ => fun
  | [d] => { results := [.lit (.bool true)], args := [d] }
  | _ => none }
def fnEvalDifferenceRow : OpenClaim := { program := "ytnbggjdmpgjkgaa", sum := "d0f1d55109491804520f577edb3827c2f2f9da9d57df3bacdc520d7abf20d055", func := "loop.example/differenceengine/laws.FnEvalDifference", spec := "fnEvalDifference", unfollowed := true, recurses := true, apart := false }
def FnEvalDifferenceSaid : Prop := fnEvalDifferenceRow.holds Try.pinned (OpenSpec.ofChange fnEvalDifferenceSpec)

/-- ITS FALSE NEIGHBOUR: 'it returns false'. Refute it at one input. -/
def fnEvalDifferenceWrong : ChangeSpec := { name := "fnEvalDifference", fn := fun _ => fun
  | [d] => { results := [.lit (.bool false)], args := [d] }
  | _ => none }
def FnEvalDifferenceWrongFalsely : Prop := fnEvalDifferenceRow.holds Try.pinned (OpenSpec.ofChange fnEvalDifferenceWrong)

/-- 'laws.FnTrim': WHATEVER THE INPUT: true; the input reads as it did. -/
def fnTrimSpec : ChangeSpec := { name := "fnTrim", fn := fun _ => fun
  | [d] => { results := [.lit (.bool true)], args := [d] }
  | _ => none }
def fnTrimRow : OpenClaim := { program := "ytnbggjdmpgjkgaa", sum := "d0f1d55109491804520f577edb3827c2f2f9da9d57df3bacdc520d7abf20d055", func := "loop.example/differenceengine/laws.FnTrim", spec := "fnTrim", unfollowed := true, recurses := true, apart := false }
def FnTrimSaid : Prop := fnTrimRow.holds Try.pinned (OpenSpec.ofChange fnTrimSpec)

/-- ITS FALSE NEIGHBOUR: 'it returns false'. Refute it at one input. -/
def fnTrimWrong : ChangeSpec := { name := "fnTrim", fn := fun _ => fun
  | [d] => { results := [.lit (.bool false)], args := [d] }
  | _ => none }
def FnTrimWrongFalsely : Prop := fnTrimRow.holds Try.pinned (OpenSpec.ofChange fnTrimWrong)

/-- 'laws.FnShift': WHATEVER THE INPUT: true; the input reads as it did. -/
def fnShiftSpec : ChangeSpec := { name := "fnShift", fn := fun _ => fun
  | [d] => { results := [.lit (.bool true)], args := [d] }
  | _ => none }
def fnShiftRow : OpenClaim := { program := "ytnbggjdmpgjkgaa", sum := "d0f1d55109491804520f577edb3827c2f2f9da9d57df3bacdc520d7abf20d055", func := "loop.example/differenceengine/laws.FnShift", spec := "fnShift", unfollowed := true, recurses := true, apart := false }
def FnShiftSaid : Prop := fnShiftRow.holds Try.pinned (OpenSpec.ofChange fnShiftSpec)

/-- ITS FALSE NEIGHBOUR: 'it returns false'. Refute it at one input. -/
def fnShiftWrong : ChangeSpec := { name := "fnShift", fn := fun _ => fun
  | [d] => { results := [.lit (.bool false)], args := [d] }
  | _ => none }
def FnShiftWrongFalsely : Prop := fnShiftRow.holds Try.pinned (OpenSpec.ofChange fnShiftWrong)

/-- 'laws.FnShiftStep': WHATEVER THE INPUT: true; the input reads as it did. -/
def fnShiftStepSpec : ChangeSpec := { name := "fnShiftStep", fn := fun _ => fun
  | [d] => { results := [.lit (.bool true)], args := [d] }
  | _ => none }
def fnShiftStepRow : OpenClaim := { program := "ytnbggjdmpgjkgaa", sum := "d0f1d55109491804520f577edb3827c2f2f9da9d57df3bacdc520d7abf20d055", func := "loop.example/differenceengine/laws.FnShiftStep", spec := "fnShiftStep", unfollowed := true, recurses := true, apart := false }
def FnShiftStepSaid : Prop := fnShiftStepRow.holds Try.pinned (OpenSpec.ofChange fnShiftStepSpec)

/-- ITS FALSE NEIGHBOUR: 'it returns false'. Refute it at one input. -/
def fnShiftStepWrong : ChangeSpec := { name := "fnShiftStep", fn := fun _ => fun
  | [d] => { results := [.lit (.bool false)], args := [d] }
  | _ => none }
def FnShiftStepWrongFalsely : Prop := fnShiftStepRow.holds Try.pinned (OpenSpec.ofChange fnShiftStepWrong)

/-- 'laws.FnSumDifference': WHATEVER THE INPUT: true; the input reads as it did. -/
def fnSumDifferenceSpec : ChangeSpec := { name := "fnSumDifference", fn := fun _ => fun
  | [d] => { results := [.lit (.bool true)], args := [d] }
  | _ => none }
def fnSumDifferenceRow : OpenClaim := { program := "ytnbggjdmpgjkgaa", sum := "d0f1d55109491804520f577edb3827c2f2f9da9d57df3bacdc520d7abf20d055", func := "loop.example/differenceengine/laws.FnSumDifference", spec := "fnSumDifference", unfollowed := true, recurses := true, apart := false }
def FnSumDifferenceSaid : Prop := fnSumDifferenceRow.holds Try.pinned (OpenSpec.ofChange fnSumDifferenceSpec)

/-- ITS FALSE NEIGHBOUR: 'it returns false'. Refute it at one input. -/
def fnSumDifferenceWrong : ChangeSpec := { name := "fnSumDifference", fn := fun _ => fun
  | [d] => { results := [.lit (.bool false)], args := [d] }
  | _ => none }
def FnSumDifferenceWrongFalsely : Prop := fnSumDifferenceRow.holds Try.pinned (OpenSpec.ofChange fnSumDifferenceWrong)

/-- 'laws.FnAddPolys': WHATEVER THE INPUT: true; the input reads as it did. -/
def fnAddPolysSpec : ChangeSpec := { name := "fnAddPolys", fn := fun _ => fun
  | [d] => { results := [.lit (.bool true)], args := [d] }
  | _ => none }
def fnAddPolysRow : OpenClaim := { program := "ytnbggjdmpgjkgaa", sum := "d0f1d55109491804520f577edb3827c2f2f9da9d57df3bacdc520d7abf20d055", func := "loop.example/differenceengine/laws.FnAddPolys", spec := "fnAddPolys", unfollowed := true, recurses := true, apart := false }
def FnAddPolysSaid : Prop := fnAddPolysRow.holds Try.pinned (OpenSpec.ofChange fnAddPolysSpec)

/-- ITS FALSE NEIGHBOUR: 'it returns false'. Refute it at one input. -/
def fnAddPolysWrong : ChangeSpec := { name := "fnAddPolys", fn := fun _ => fun
  | [d] => { results := [.lit (.bool false)], args := [d] }
  | _ => none }
def FnAddPolysWrongFalsely : Prop := fnAddPolysRow.holds Try.pinned (OpenSpec.ofChange fnAddPolysWrong)

/- THE SECOND FORM. 'bulk': how many values and letters a reading holds, each counted each time it is reached (what is shared counts as often as it is met; a slice's spare places count too). A statement '..UptoSaid' is the law's where the arguments, and the package variables that the reading takes, are together of bulk at most 1048576: NARROWER than '..Said'. Prove '..Said' where nothing that the law and all that it calls make is longer than what came in: it says more and counts as full. Else prove '..UptoSaid'. A law counts once. -/
mutual
def uptoBulk {H : Type} : DataW H → Nat
  | .lit (.string bytes) => bytes.length + 1
  | .lit _ => 1
  | .nil => 1
  | .ptr d => uptoBulk d + 1
  | .slice elems spare => uptoBulkAll elems + uptoBulkAll spare + 1
  | .agg parts => uptoBulkAll parts + 1
  | .iface _ d => uptoBulk d + 1
  | .map entries => uptoBulkEntries entries + 1
  | .held _ => 1
def uptoBulkAll {H : Type} : List (DataW H) → Nat
  | [] => 0
  | d :: r => uptoBulk d + uptoBulkAll r
def uptoBulkEntries {H : Type} : List (Lit × DataW H) → Nat
  | [] => 0
  | x :: r => uptoBulkEntry x + uptoBulkEntries r
def uptoBulkEntry {H : Type} : Lit × DataW H → Nat
  | (.string bytes, d) => bytes.length + uptoBulk d + 1
  | (_, d) => uptoBulk d + 1
 end
def uptoSmall : (H : Type) → List (DataW H) → Bool := fun _ ds => decide (uptoBulkAll ds ≤ 1048576)
def OpenSpec.upto (s : _root_.Go.ChangeSpec) : _root_.Go.OpenSpec := { _root_.Go.OpenSpec.ofChange s with cond := some uptoSmall }

/-- 'laws.FnBinomialPascal', WHERE WHAT IT READS IS OF BULK AT MOST 1048576: true; the input reads as it did. -/
def fnBinomialPascalUptoRow : OpenClaim := { program := "ytnbggjdmpgjkgaa", sum := "d0f1d55109491804520f577edb3827c2f2f9da9d57df3bacdc520d7abf20d055", func := "loop.example/differenceengine/laws.FnBinomialPascal", spec := "fnBinomialPascal", apart := false, narrowed := true }
def FnBinomialPascalUptoSaid : Prop := fnBinomialPascalUptoRow.holds Try.pinned (OpenSpec.upto fnBinomialPascalSpec)

/-- 'laws.FnBinomialTurned', WHERE WHAT IT READS IS OF BULK AT MOST 1048576: true; the input reads as it did. -/
def fnBinomialTurnedUptoRow : OpenClaim := { program := "ytnbggjdmpgjkgaa", sum := "d0f1d55109491804520f577edb3827c2f2f9da9d57df3bacdc520d7abf20d055", func := "loop.example/differenceengine/laws.FnBinomialTurned", spec := "fnBinomialTurned", apart := false, narrowed := true }
def FnBinomialTurnedUptoSaid : Prop := fnBinomialTurnedUptoRow.holds Try.pinned (OpenSpec.upto fnBinomialTurnedSpec)

/-- 'laws.FnEvalDifference', WHERE WHAT IT READS IS OF BULK AT MOST 1048576: true; the input reads as it did. -/
def fnEvalDifferenceUptoRow : OpenClaim := { program := "ytnbggjdmpgjkgaa", sum := "d0f1d55109491804520f577edb3827c2f2f9da9d57df3bacdc520d7abf20d055", func := "loop.example/differenceengine/laws.FnEvalDifference", spec := "fnEvalDifference", unfollowed := true, recurses := true, apart := false, narrowed := true }
def FnEvalDifferenceUptoSaid : Prop := fnEvalDifferenceUptoRow.holds Try.pinned (OpenSpec.upto fnEvalDifferenceSpec)

/-- 'laws.FnTrim', WHERE WHAT IT READS IS OF BULK AT MOST 1048576: true; the input reads as it did. -/
def fnTrimUptoRow : OpenClaim := { program := "ytnbggjdmpgjkgaa", sum := "d0f1d55109491804520f577edb3827c2f2f9da9d57df3bacdc520d7abf20d055", func := "loop.example/differenceengine/laws.FnTrim", spec := "fnTrim", unfollowed := true, recurses := true, apart := false, narrowed := true }
def FnTrimUptoSaid : Prop := fnTrimUptoRow.holds Try.pinned (OpenSpec.upto fnTrimSpec)

/-- 'laws.FnShift', WHERE WHAT IT READS IS OF BULK AT MOST 1048576: true; the input reads as it did. -/
def fnShiftUptoRow : OpenClaim := { program := "ytnbggjdmpgjkgaa", sum := "d0f1d55109491804520f577edb3827c2f2f9da9d57df3bacdc520d7abf20d055", func := "loop.example/differenceengine/laws.FnShift", spec := "fnShift", unfollowed := true, recurses := true, apart := false, narrowed := true }
def FnShiftUptoSaid : Prop := fnShiftUptoRow.holds Try.pinned (OpenSpec.upto fnShiftSpec)

/-- 'laws.FnShiftStep', WHERE WHAT IT READS IS OF BULK AT MOST 1048576: true; the input reads as it did. -/
def fnShiftStepUptoRow : OpenClaim := { program := "ytnbggjdmpgjkgaa", sum := "d0f1d55109491804520f577edb3827c2f2f9da9d57df3bacdc520d7abf20d055", func := "loop.example/differenceengine/laws.FnShiftStep", spec := "fnShiftStep", unfollowed := true, recurses := true, apart := false, narrowed := true }
def FnShiftStepUptoSaid : Prop := fnShiftStepUptoRow.holds Try.pinned (OpenSpec.upto fnShiftStepSpec)

/-- 'laws.FnSumDifference', WHERE WHAT IT READS IS OF BULK AT MOST 1048576: true; the input reads as it did. -/
def fnSumDifferenceUptoRow : OpenClaim := { program := "ytnbggjdmpgjkgaa", sum := "d0f1d55109491804520f577edb3827c2f2f9da9d57df3bacdc520d7abf20d055", func := "loop.example/differenceengine/laws.FnSumDifference", spec := "fnSumDifference", unfollowed := true, recurses := true, apart := false, narrowed := true }
def FnSumDifferenceUptoSaid : Prop := fnSumDifferenceUptoRow.holds Try.pinned (OpenSpec.upto fnSumDifferenceSpec)

/-- 'laws.FnAddPolys', WHERE WHAT IT READS IS OF BULK AT MOST 1048576: true; the input reads as it did. -/
def fnAddPolysUptoRow : OpenClaim := { program := "ytnbggjdmpgjkgaa", sum := "d0f1d55109491804520f577edb3827c2f2f9da9d57df3bacdc520d7abf20d055", func := "loop.example/differenceengine/laws.FnAddPolys", spec := "fnAddPolys", unfollowed := true, recurses := true, apart := false, narrowed := true }
def FnAddPolysUptoSaid : Prop := fnAddPolysUptoRow.holds Try.pinned (OpenSpec.upto fnAddPolysSpec)

end Rows
end Go.Proofs.Ytnbggjdmpgjkgaa
