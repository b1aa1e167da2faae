/-
  No cell of these rows narrows 'for every input' (looked for: loops, veiled, ifaces, maps, wideKeys, modest, calm, conditions, laid).
  DERIVED. THE GIVEN ROWS OF THIS SEAT. 7 by the template 'for every input the law returns true; each argument reads behind the call as it read before'; 0 by the template 'total and deterministic' (their statements: YtmgncchlghmmoaaTotals.lean).
  GIVEN WITH THE SEED: the statements are not yours to turn. If you find one false, say at which input.
  Laid BY PROGRAM, IN A SANDBOX (cutbox-rows.mjs): the forced cells as the released guide's own fill.sh prints them over the translation 2ed038ecc3900577… (all of the seat's roots in one cut). By AI agents, Wed Nov 11 2026. No macro, syntax, notation, axiom, sorry.
-/
import Derived.Test.YtmgncchlghmmoaaChecked
import GoSem.Claim
import GoSem.ClaimJoined
import GoSem.ClaimMapViews
import Derived.JoinedTies
import Derived.KernelRfl
namespace Go.Proofs.Ytmgncchlghmmoaa
/- THE CELL 'sum', in the pinned program and in every row, IS THE sha256 OF THE DUMP (.gsa) THAT YtmgncchlghmmoaaProg.lean LOADS. Nothing in Lean hashes anything: it is a label: what it is worth is what the hold of that sum in a sandbox is worth. -/
noncomputable def Try.pinned : Pinned := { name := "ytmgncchlghmmoaa", sum := "2ed038ecc39005775d6adb12646f4a110ad0fbd97b165e5573a6f97c26b79946", checked := Try.checked }
namespace Rows
def none {H : Type} : Left H := { results := [], args := [] }

/-- 'laws.FnExactInterleave': WHATEVER THE INPUT: true; the input reads as it did. -/
def fnExactInterleaveSpec : ChangeSpec := { name := "fnExactInterleave", fn := fun _ => fun
  | [d1, d2] => { results := [.lit (.bool true)], args := [d1, d2] }
  | _ => none }
def fnExactInterleaveRow : OpenClaim := { program := "ytmgncchlghmmoaa", sum := "2ed038ecc39005775d6adb12646f4a110ad0fbd97b165e5573a6f97c26b79946", func := "loop.example/differenceengine/laws.FnExactInterleave", spec := "fnExactInterleave", apart := false }
def FnExactInterleaveSaid : Prop := fnExactInterleaveRow.holds Try.pinned (OpenSpec.ofChange fnExactInterleaveSpec)

/-- ITS FALSE NEIGHBOUR: 'it returns false'. Refute it at one input. -/
def fnExactInterleaveWrong : ChangeSpec := { name := "fnExactInterleave", fn := fun _ => fun
  | [d1, d2] => { results := [.lit (.bool false)], args := [d1, d2] }
  | _ => none }
def FnExactInterleaveWrongFalsely : Prop := fnExactInterleaveRow.holds Try.pinned (OpenSpec.ofChange fnExactInterleaveWrong)

/-- 'laws.FnExactDealTable': WHATEVER THE INPUT: true; the input reads as it did. -/
def fnExactDealTableSpec : ChangeSpec := { name := "fnExactDealTable", fn := fun _ => fun
  | [d] => { results := [.lit (.bool true)], args := [d] }
  | _ => none }
def fnExactDealTableRow : OpenClaim := { program := "ytmgncchlghmmoaa", sum := "2ed038ecc39005775d6adb12646f4a110ad0fbd97b165e5573a6f97c26b79946", func := "loop.example/differenceengine/laws.FnExactDealTable", spec := "fnExactDealTable", apart := false }
def FnExactDealTableSaid : Prop := fnExactDealTableRow.holds Try.pinned (OpenSpec.ofChange fnExactDealTableSpec)

/-- ITS FALSE NEIGHBOUR: 'it returns false'. Refute it at one input. -/
def fnExactDealTableWrong : ChangeSpec := { name := "fnExactDealTable", fn := fun _ => fun
  | [d] => { results := [.lit (.bool false)], args := [d] }
  | _ => none }
def FnExactDealTableWrongFalsely : Prop := fnExactDealTableRow.holds Try.pinned (OpenSpec.ofChange fnExactDealTableWrong)

/-- 'laws.FnExactQuarterSquare': WHATEVER THE INPUT: true; the input reads as it did. -/
def fnExactQuarterSquareSpec : ChangeSpec := { name := "fnExactQuarterSquare", fn := fun _ => fun
  | [d] => { results := [.lit (.bool true)], args := [d] }
  | _ => none }
def fnExactQuarterSquareRow : OpenClaim := { program := "ytmgncchlghmmoaa", sum := "2ed038ecc39005775d6adb12646f4a110ad0fbd97b165e5573a6f97c26b79946", func := "loop.example/differenceengine/laws.FnExactQuarterSquare", spec := "fnExactQuarterSquare", apart := false }
def FnExactQuarterSquareSaid : Prop := fnExactQuarterSquareRow.holds Try.pinned (OpenSpec.ofChange fnExactQuarterSquareSpec)

/-- ITS FALSE NEIGHBOUR: 'it returns false'. Refute it at one input. -/
def fnExactQuarterSquareWrong : ChangeSpec := { name := "fnExactQuarterSquare", fn := fun _ => fun
  | [d] => { results := [.lit (.bool false)], args := [d] }
  | _ => none }
def FnExactQuarterSquareWrongFalsely : Prop := fnExactQuarterSquareRow.holds Try.pinned (OpenSpec.ofChange fnExactQuarterSquareWrong)

/-- 'laws.FnExactQuarterTable': WHATEVER THE INPUT: true; the input reads as it did. -/
def fnExactQuarterTableSpec : ChangeSpec := { name := "fnExactQuarterTable", fn := fun _ => fun
  | [d] => { results := [.lit (.bool true)], args := [d] }
  | _ => none }
def fnExactQuarterTableRow : OpenClaim := { program := "ytmgncchlghmmoaa", sum := "2ed038ecc39005775d6adb12646f4a110ad0fbd97b165e5573a6f97c26b79946", func := "loop.example/differenceengine/laws.FnExactQuarterTable", spec := "fnExactQuarterTable", apart := false }
def FnExactQuarterTableSaid : Prop := fnExactQuarterTableRow.holds Try.pinned (OpenSpec.ofChange fnExactQuarterTableSpec)

/-- ITS FALSE NEIGHBOUR: 'it returns false'. Refute it at one input. -/
def fnExactQuarterTableWrong : ChangeSpec := { name := "fnExactQuarterTable", fn := fun _ => fun
  | [d] => { results := [.lit (.bool false)], args := [d] }
  | _ => none }
def FnExactQuarterTableWrongFalsely : Prop := fnExactQuarterTableRow.holds Try.pinned (OpenSpec.ofChange fnExactQuarterTableWrong)

/-- 'laws.FnExactProductOf': WHATEVER THE INPUT: true; the input reads as it did. -/
def fnExactProductOfSpec : ChangeSpec := { name := "fnExactProductOf", fn := fun _ => fun
  | [d1, d2, d3] => { results := [.lit (.bool true)], args := [d1, d2, d3] }
  | _ => none }
def fnExactProductOfRow : OpenClaim := { program := "ytmgncchlghmmoaa", sum := "2ed038ecc39005775d6adb12646f4a110ad0fbd97b165e5573a6f97c26b79946", func := "loop.example/differenceengine/laws.FnExactProductOf", spec := "fnExactProductOf", unfollowed := true, recurses := true, apart := false }
def FnExactProductOfSaid : Prop := fnExactProductOfRow.holds Try.pinned (OpenSpec.ofChange fnExactProductOfSpec)

/-- ITS FALSE NEIGHBOUR: 'it returns false'. Refute it at one input. -/
def fnExactProductOfWrong : ChangeSpec := { name := "fnExactProductOf", fn := fun _ => fun
  | [d1, d2, d3] => { results := [.lit (.bool false)], args := [d1, d2, d3] }
  | _ => none }
def FnExactProductOfWrongFalsely : Prop := fnExactProductOfRow.holds Try.pinned (OpenSpec.ofChange fnExactProductOfWrong)

/-- 'laws.FnExactVote': WHATEVER THE INPUT: true; the input reads as it did. -/
def fnExactVoteSpec : ChangeSpec := { name := "fnExactVote", fn := fun _ => fun
  | [d1, d2, d3] => { results := [.lit (.bool true)], args := [d1, d2, d3] }
  | _ => none }
def fnExactVoteRow : OpenClaim := { program := "ytmgncchlghmmoaa", sum := "2ed038ecc39005775d6adb12646f4a110ad0fbd97b165e5573a6f97c26b79946", func := "loop.example/differenceengine/laws.FnExactVote", spec := "fnExactVote", unfollowed := true, recurses := true, apart := false }
def FnExactVoteSaid : Prop := fnExactVoteRow.holds Try.pinned (OpenSpec.ofChange fnExactVoteSpec)

/-- ITS FALSE NEIGHBOUR: 'it returns false'. Refute it at one input. -/
def fnExactVoteWrong : ChangeSpec := { name := "fnExactVote", fn := fun _ => fun
  | [d1, d2, d3] => { results := [.lit (.bool false)], args := [d1, d2, d3] }
  | _ => none }
def FnExactVoteWrongFalsely : Prop := fnExactVoteRow.holds Try.pinned (OpenSpec.ofChange fnExactVoteWrong)

/-- 'laws.FnExactFaultyOne': WHATEVER THE INPUT: true; the input reads as it did. -/
def fnExactFaultyOneSpec : ChangeSpec := { name := "fnExactFaultyOne", fn := fun _ => fun
  | [d1, d2, d3] => { results := [.lit (.bool true)], args := [d1, d2, d3] }
  | _ => none }
def fnExactFaultyOneRow : OpenClaim := { program := "ytmgncchlghmmoaa", sum := "2ed038ecc39005775d6adb12646f4a110ad0fbd97b165e5573a6f97c26b79946", func := "loop.example/differenceengine/laws.FnExactFaultyOne", spec := "fnExactFaultyOne", unfollowed := true, recurses := true, apart := false }
def FnExactFaultyOneSaid : Prop := fnExactFaultyOneRow.holds Try.pinned (OpenSpec.ofChange fnExactFaultyOneSpec)

/-- ITS FALSE NEIGHBOUR: 'it returns false'. Refute it at one input. -/
def fnExactFaultyOneWrong : ChangeSpec := { name := "fnExactFaultyOne", fn := fun _ => fun
  | [d1, d2, d3] => { results := [.lit (.bool false)], args := [d1, d2, d3] }
  | _ => none }
def FnExactFaultyOneWrongFalsely : Prop := fnExactFaultyOneRow.holds Try.pinned (OpenSpec.ofChange fnExactFaultyOneWrong)

/- THE SECOND FORM. 'bulk': how many values and letters a reading holds, each counted each time it is reached (what is shared counts as often as it is met; a slice's spare places count too). A statement '..UptoSaid' is the law's where the arguments, and the package variables that the reading takes, are together of bulk at most 1048576: NARROWER than '..Said'. Prove '..Said' where nothing that the law and all that it calls make is longer than what came in: it says more and counts as full. Else prove '..UptoSaid'. A law counts once. -/
mutual
def uptoBulk {H : Type} : DataW H → Nat
  | .lit (.string bytes) => bytes.length + 1
  | .lit _ => 1
  | .nil => 1
  | .ptr d => uptoBulk d + 1
  | .slice elems spare => uptoBulkAll elems + uptoBulkAll spare + 1
  | .agg parts => uptoBulkAll parts + 1
  | .iface _ d => uptoBulk d + 1
  | .map entries => uptoBulkEntries entries + 1
  | .held _ => 1
def uptoBulkAll {H : Type} : List (DataW H) → Nat
  | [] => 0
  | d :: r => uptoBulk d + uptoBulkAll r
def uptoBulkEntries {H : Type} : List (Lit × DataW H) → Nat
  | [] => 0
  | x :: r => uptoBulkEntry x + uptoBulkEntries r
def uptoBulkEntry {H : Type} : Lit × DataW H → Nat
  | (.string bytes, d) => bytes.length + uptoBulk d + 1
  | (_, d) => uptoBulk d + 1
 end
def uptoSmall : (H : Type) → List (DataW H) → Bool := fun _ ds => decide (uptoBulkAll ds ≤ 1048576)
def OpenSpec.upto (s : _root_.Go.ChangeSpec) : _root_.Go.OpenSpec := { _root_.Go.OpenSpec.ofChange s with cond := some uptoSmall }

/-- 'laws.FnExactInterleave', WHERE WHAT IT READS IS OF BULK AT MOST 1048576: true; the input reads as it did. -/
def fnExactInterleaveUptoRow : OpenClaim := { program := "ytmgncchlghmmoaa", sum := "2ed038ecc39005775d6adb12646f4a110ad0fbd97b165e5573a6f97c26b79946", func := "loop.example/differenceengine/laws.FnExactInterleave", spec := "fnExactInterleave", apart := false, narrowed := true }
def FnExactInterleaveUptoSaid : Prop := fnExactInterleaveUptoRow.holds Try.pinned (OpenSpec.upto fnExactInterleaveSpec)

/-- 'laws.FnExactDealTable', WHERE WHAT IT READS IS OF BULK AT MOST 1048576: true; the input reads as it did. -/
def fnExactDealTableUptoRow : OpenClaim := { program := "ytmgncchlghmmoaa", sum := "2ed038ecc39005775d6adb12646f4a110ad0fbd97b165e5573a6f97c26b79946", func := "loop.example/differenceengine/laws.FnExactDealTable", spec := "fnExactDealTable", apart := false, narrowed := true }
def FnExactDealTableUptoSaid : Prop := fnExactDealTableUptoRow.holds Try.pinned (OpenSpec.upto fnExactDealTableSpec)

/-- 'laws.FnExactQuarterSquare', WHERE WHAT IT READS IS OF BULK AT MOST 1048576: true; the input reads as it did. -/
def fnExactQuarterSquareUptoRow : OpenClaim := { program := "ytmgncchlghmmoaa", sum := "2ed038ecc39005775d6adb12646f4a110ad0fbd97b165e5573a6f97c26b79946", func := "loop.example/differenceengine/laws.FnExactQuarterSquare", spec := "fnExactQuarterSquare", apart := false, narrowed := true }
def FnExactQuarterSquareUptoSaid : Prop := fnExactQuarterSquareUptoRow.holds Try.pinned (OpenSpec.upto fnExactQuarterSquareSpec)

/-- 'laws.FnExactQuarterTable', WHERE WHAT IT READS IS OF BULK AT MOST 1048576: true; the input reads as it did. -/
def fnExactQuarterTableUptoRow : OpenClaim := { program := "ytmgncchlghmmoaa", sum := "2ed038ecc39005775d6adb12646f4a110ad0fbd97b165e5573a6f97c26b79946", func := "loop.example/differenceengine/laws.FnExactQuarterTable", spec := "fnExactQuarterTable", apart := false, narrowed := true }
def FnExactQuarterTableUptoSaid : Prop := fnExactQuarterTableUptoRow.holds Try.pinned (OpenSpec.upto fnExactQuarterTableSpec)

/-- 'laws.FnExactProductOf', WHERE WHAT IT READS IS OF BULK AT MOST 1048576: true; the input reads as it did. -/
def fnExactProductOfUptoRow : OpenClaim := { program := "ytmgncchlghmmoaa", sum := "2ed038ecc39005775d6adb12646f4a110ad0fbd97b165e5573a6f97c26b79946", func := "loop.example/differenceengine/laws.FnExactProductOf", spec := "fnExactProductOf", unfollowed := true, recurses := true, apart := false, narrowed := true }
def FnExactProductOfUptoSaid : Prop := fnExactProductOfUptoRow.holds Try.pinned (OpenSpec.upto fnExactProductOfSpec)

/-- 'laws.FnExactVote', WHERE WHAT IT READS IS OF BULK AT MOST 1048576: true; the input reads as it did. -/
def fnExactVoteUptoRow : OpenClaim := { program := "ytmgncchlghmmoaa", sum := "2ed038ecc39005775d6adb12646f4a110ad0fbd97b165e5573a6f97c26b79946", func := "loop.example/differenceengine/laws.FnExactVote", spec := "fnExactVote", unfollowed := true, recurses := true, apart := false, narrowed := true }
def FnExactVoteUptoSaid : Prop := fnExactVoteUptoRow.holds Try.pinned (OpenSpec.upto fnExactVoteSpec)

/-- 'laws.FnExactFaultyOne', WHERE WHAT IT READS IS OF BULK AT MOST 1048576: true; the input reads as it did. -/
def fnExactFaultyOneUptoRow : OpenClaim := { program := "ytmgncchlghmmoaa", sum := "2ed038ecc39005775d6adb12646f4a110ad0fbd97b165e5573a6f97c26b79946", func := "loop.example/differenceengine/laws.FnExactFaultyOne", spec := "fnExactFaultyOne", unfollowed := true, recurses := true, apart := false, narrowed := true }
def FnExactFaultyOneUptoSaid : Prop := fnExactFaultyOneUptoRow.holds Try.pinned (OpenSpec.upto fnExactFaultyOneSpec)

end Rows
end Go.Proofs.Ytmgncchlghmmoaa
