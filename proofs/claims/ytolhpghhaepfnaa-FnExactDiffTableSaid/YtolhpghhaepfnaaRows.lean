/-
  No cell of these rows narrows 'for every input' (looked for: loops, veiled, ifaces, maps, wideKeys, modest, calm, conditions, laid).
  DERIVED. THE GIVEN ROWS OF THIS SEAT. 5 by the template 'for every input the law returns true; each argument reads behind the call as it read before'; 0 by the template 'total and deterministic' (their statements: YtolhpghhaepfnaaTotals.lean).
  GIVEN WITH THE SEED: the statements are not yours to turn. If you find one false, say at which input.
  Laid BY PROGRAM, IN A SANDBOX (cutbox-rows.mjs): the forced cells as the released guide's own fill.sh prints them over the translation 2ff9bd27e58cf146… (all of the seat's roots in one cut). By AI agents, Wed Nov 11 2026. No macro, syntax, notation, axiom, sorry.
-/
import Derived.Test.YtolhpghhaepfnaaChecked
import GoSem.Claim
import GoSem.ClaimJoined
import GoSem.ClaimMapViews
import Derived.JoinedTies
import Derived.KernelRfl
namespace Go.Proofs.Ytolhpghhaepfnaa
/- THE CELL 'sum', in the pinned program and in every row, IS THE sha256 OF THE DUMP (.gsa) THAT YtolhpghhaepfnaaProg.lean LOADS. Nothing in Lean hashes anything: it is a label: what it is worth is what the hold of that sum in a sandbox is worth. -/
noncomputable def Try.pinned : Pinned := { name := "ytolhpghhaepfnaa", sum := "2ff9bd27e58cf146cbc5dd399cf453cd1776e40cc9f92c36960ce80932db72e1", checked := Try.checked }
namespace Rows
def none {H : Type} : Left H := { results := [], args := [] }

/-- 'laws.FnExactDiffsOf': WHATEVER THE INPUT: true; the input reads as it did. -/
def fnExactDiffsOfSpec : ChangeSpec := { name := "fnExactDiffsOf", fn := fun _ => fun
  | [d] => { results := [.lit (.bool true)], args := [d] }
  | _ => none }
def fnExactDiffsOfRow : OpenClaim := { program := "ytolhpghhaepfnaa", sum := "2ff9bd27e58cf146cbc5dd399cf453cd1776e40cc9f92c36960ce80932db72e1", func := "loop.example/differenceengine/laws.FnExactDiffsOf", spec := "fnExactDiffsOf", unfollowed := true, recurses := true, apart := false }
def FnExactDiffsOfSaid : Prop := fnExactDiffsOfRow.holds Try.pinned (OpenSpec.ofChange fnExactDiffsOfSpec)

/-- ITS FALSE NEIGHBOUR: 'it returns false'. Refute it at one input. -/
def fnExactDiffsOfWrong : ChangeSpec := { name := "fnExactDiffsOf", fn := fun _ => fun
  | [d] => { results := [.lit (.bool false)], args := [d] }
  | _ => none }
def FnExactDiffsOfWrongFalsely : Prop := fnExactDiffsOfRow.holds Try.pinned (OpenSpec.ofChange fnExactDiffsOfWrong)

/-- 'laws.FnExactLeastDegree': WHATEVER THE INPUT: true; the input reads as it did. -/
def fnExactLeastDegreeSpec : ChangeSpec := { name := "fnExactLeastDegree", fn := fun _ => fun
  | [d] => { results := [.lit (.bool true)], args := [d] }
  | _ => none }
def fnExactLeastDegreeRow : OpenClaim := { program := "ytolhpghhaepfnaa", sum := "2ff9bd27e58cf146cbc5dd399cf453cd1776e40cc9f92c36960ce80932db72e1", func := "loop.example/differenceengine/laws.FnExactLeastDegree", spec := "fnExactLeastDegree", unfollowed := true, recurses := true, apart := false }
def FnExactLeastDegreeSaid : Prop := fnExactLeastDegreeRow.holds Try.pinned (OpenSpec.ofChange fnExactLeastDegreeSpec)

/-- ITS FALSE NEIGHBOUR: 'it returns false'. Refute it at one input. -/
def fnExactLeastDegreeWrong : ChangeSpec := { name := "fnExactLeastDegree", fn := fun _ => fun
  | [d] => { results := [.lit (.bool false)], args := [d] }
  | _ => none }
def FnExactLeastDegreeWrongFalsely : Prop := fnExactLeastDegreeRow.holds Try.pinned (OpenSpec.ofChange fnExactLeastDegreeWrong)

/-- 'laws.FnExactInterpolate': WHATEVER THE INPUT: true; the input reads as it did. -/
def fnExactInterpolateSpec : ChangeSpec := { name := "fnExactInterpolate", fn := fun _ => fun
  | [d] => { results := [.lit (.bool true)], args := [d] }
  | _ => none }
def fnExactInterpolateRow : OpenClaim := { program := "ytolhpghhaepfnaa", sum := "2ff9bd27e58cf146cbc5dd399cf453cd1776e40cc9f92c36960ce80932db72e1", func := "loop.example/differenceengine/laws.FnExactInterpolate", spec := "fnExactInterpolate", unfollowed := true, recurses := true, apart := false }
def FnExactInterpolateSaid : Prop := fnExactInterpolateRow.holds Try.pinned (OpenSpec.ofChange fnExactInterpolateSpec)

/-- ITS FALSE NEIGHBOUR: 'it returns false'. Refute it at one input. -/
def fnExactInterpolateWrong : ChangeSpec := { name := "fnExactInterpolate", fn := fun _ => fun
  | [d] => { results := [.lit (.bool false)], args := [d] }
  | _ => none }
def FnExactInterpolateWrongFalsely : Prop := fnExactInterpolateRow.holds Try.pinned (OpenSpec.ofChange fnExactInterpolateWrong)

/-- 'laws.FnExactPowersOf': WHATEVER THE INPUT: true; the input reads as it did. -/
def fnExactPowersOfSpec : ChangeSpec := { name := "fnExactPowersOf", fn := fun _ => fun
  | [d] => { results := [.lit (.bool true)], args := [d] }
  | _ => none }
def fnExactPowersOfRow : OpenClaim := { program := "ytolhpghhaepfnaa", sum := "2ff9bd27e58cf146cbc5dd399cf453cd1776e40cc9f92c36960ce80932db72e1", func := "loop.example/differenceengine/laws.FnExactPowersOf", spec := "fnExactPowersOf", unfollowed := true, recurses := true, apart := false }
def FnExactPowersOfSaid : Prop := fnExactPowersOfRow.holds Try.pinned (OpenSpec.ofChange fnExactPowersOfSpec)

/-- ITS FALSE NEIGHBOUR: 'it returns false'. Refute it at one input. -/
def fnExactPowersOfWrong : ChangeSpec := { name := "fnExactPowersOf", fn := fun _ => fun
  | [d] => { results := [.lit (.bool false)], args := [d] }
  | _ => none }
def FnExactPowersOfWrongFalsely : Prop := fnExactPowersOfRow.holds Try.pinned (OpenSpec.ofChange fnExactPowersOfWrong)

/-- 'laws.FnExactDiffTable': WHATEVER THE INPUT: true; the input reads as it did. -/
def fnExactDiffTableSpec : ChangeSpec := { name := "fnExactDiffTable", fn := fun _ => fun
  | [d] => { results := [.lit (.bool true)], args := [d] }
  | _ => none }
def fnExactDiffTableRow : OpenClaim := { program := "ytolhpghhaepfnaa", sum := "2ff9bd27e58cf146cbc5dd399cf453cd1776e40cc9f92c36960ce80932db72e1", func := "loop.example/differenceengine/laws.FnExactDiffTable", spec := "fnExactDiffTable", unfollowed := true, recurses := true, apart := false }
def FnExactDiffTableSaid : Prop := fnExactDiffTableRow.holds Try.pinned (OpenSpec.ofChange fnExactDiffTableSpec)

/-- ITS FALSE NEIGHBOUR: 'it returns false'. Refute it at one input. -/
def fnExactDiffTableWrong : ChangeSpec := { name := "fnExactDiffTable", fn := fun _ => fun
  | [d] => { results := [.lit (.bool false)], args := [d] }
  | _ => none }
def FnExactDiffTableWrongFalsely : Prop := fnExactDiffTableRow.holds Try.pinned (OpenSpec.ofChange fnExactDiffTableWrong)

/- THE SECOND FORM. 'bulk': how many values and letters a reading holds, each counted each time it is reached (what is shared counts as often as it is met; a slice's spare places count too). A statement '..UptoSaid' is the law's where the arguments, and the package variables that the reading takes, are together of bulk at most 1048576: NARROWER than '..Said'. Prove '..Said' where nothing that the law and all that it calls make is longer than what came in: it says more and counts as full. Else prove '..UptoSaid'. A law counts once. -/
mutual
def uptoBulk {H : Type} : DataW H → Nat
  | .lit (.string bytes) => bytes.length + 1
  | .lit _ => 1
  | .nil => 1
  | .ptr d => uptoBulk d + 1
  | .slice elems spare => uptoBulkAll elems + uptoBulkAll spare + 1
  | .agg parts => uptoBulkAll parts + 1
  | .iface _ d => uptoBulk d + 1
  | .map entries => uptoBulkEntries entries + 1
  | .held _ => 1
def uptoBulkAll {H : Type} : List (DataW H) → Nat
  | [] => 0
  | d :: r => uptoBulk d + uptoBulkAll r
def uptoBulkEntries {H : Type} : List (Lit × DataW H) → Nat
  | [] => 0
  | x :: r => uptoBulkEntry x + uptoBulkEntries r
def uptoBulkEntry {H : Type} : Lit × DataW H → Nat
  | (.string bytes, d) => bytes.length + uptoBulk d + 1
  | (_, d) => uptoBulk d + 1
 end
def uptoSmall : (H : Type) → List (DataW H) → Bool := fun _ ds => decide (uptoBulkAll ds ≤ 1048576)
def OpenSpec.upto (s : _root_.Go.ChangeSpec) : _root_.Go.OpenSpec := { _root_.Go.OpenSpec.ofChange s with cond := some uptoSmall }

/-- 'laws.FnExactDiffsOf', WHERE WHAT IT READS IS OF BULK AT MOST 1048576: true; the input reads as it did. -/
def fnExactDiffsOfUptoRow : OpenClaim := { program := "ytolhpghhaepfnaa", sum := "2ff9bd27e58cf146cbc5dd399cf453cd1776e40cc9f92c36960ce80932db72e1", func := "loop.example/differenceengine/laws.FnExactDiffsOf", spec := "fnExactDiffsOf", unfollowed := true, recurses := true, apart := false, narrowed := true }
def FnExactDiffsOfUptoSaid : Prop := fnExactDiffsOfUptoRow.holds Try.pinned (OpenSpec.upto fnExactDiffsOfSpec)

/-- 'laws.FnExactLeastDegree', WHERE WHAT IT READS IS OF BULK AT MOST 1048576: true; the input reads as it did. -/
def fnExactLeastDegreeUptoRow : OpenClaim := { program := "ytolhpghhaepfnaa", sum := "2ff9bd27e58cf146cbc5dd399cf453cd1776e40cc9f92c36960ce80932db72e1", func := "loop.example/differenceengine/laws.FnExactLeastDegree", spec := "fnExactLeastDegree", unfollowed := true, recurses := true, apart := false, narrowed := true }
def FnExactLeastDegreeUptoSaid : Prop := fnExactLeastDegreeUptoRow.holds Try.pinned (OpenSpec.upto fnExactLeastDegreeSpec)

/-- 'laws.FnExactInterpolate', WHERE WHAT IT READS IS OF BULK AT MOST 1048576: true; the input reads as it did. -/
def fnExactInterpolateUptoRow : OpenClaim := { program := "ytolhpghhaepfnaa", sum := "2ff9bd27e58cf146cbc5dd399cf453cd1776e40cc9f92c36960ce80932db72e1", func := "loop.example/differenceengine/laws.FnExactInterpolate", spec := "fnExactInterpolate", unfollowed := true, recurses := true, apart := false, narrowed := true }
def FnExactInterpolateUptoSaid : Prop := fnExactInterpolateUptoRow.holds Try.pinned (OpenSpec.upto fnExactInterpolateSpec)

/-- 'laws.FnExactPowersOf', WHERE WHAT IT READS IS OF BULK AT MOST 1048576: true; the input reads as it did. -/
def fnExactPowersOfUptoRow : OpenClaim := { program := "ytolhpghhaepfnaa", sum := "2ff9bd27e58cf146cbc5dd399cf453cd1776e40cc9f92c36960ce80932db72e1", func := "loop.example/differenceengine/laws.FnExactPowersOf", spec := "fnExactPowersOf", unfollowed := true, recurses := true, apart := false, narrowed := true }
def FnExactPowersOfUptoSaid : Prop := fnExactPowersOfUptoRow.holds Try.pinned (OpenSpec.upto fnExactPowersOfSpec)

/-- 'laws.FnExactDiffTable', WHERE WHAT IT READS IS OF BULK AT MOST 1048576: true; the input reads as it did. -/
def fnExactDiffTableUptoRow : OpenClaim := { program := "ytolhpghhaepfnaa", sum := "2ff9bd27e58cf146cbc5dd399cf453cd1776e40cc9f92c36960ce80932db72e1", func := "loop.example/differenceengine/laws.FnExactDiffTable", spec := "fnExactDiffTable", unfollowed := true, recurses := true, apart := false, narrowed := true }
def FnExactDiffTableUptoSaid : Prop := fnExactDiffTableUptoRow.holds Try.pinned (OpenSpec.upto fnExactDiffTableSpec)

end Rows
end Go.Proofs.Ytolhpghhaepfnaa
