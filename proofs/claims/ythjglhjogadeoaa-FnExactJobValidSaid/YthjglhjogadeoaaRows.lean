/-
  No cell of these rows narrows 'for every input' (looked for: loops, veiled, ifaces, maps, wideKeys, modest, calm, conditions, laid).
  DERIVED. THE GIVEN ROWS OF THIS SEAT. 7 by the template 'for every input the law returns true; each argument reads behind the call as it read before'; 0 by the template 'total and deterministic' (their statements: YthjglhjogadeoaaTotals.lean).
  GIVEN WITH THE SEED: the statements are not yours to turn. If you find one false, say at which input.
  Laid BY PROGRAM, IN A SANDBOX (cutbox-rows.mjs): the forced cells as the released guide's own fill.sh prints them over the translation 45f98a81d98789f9… (all of the seat's roots in one cut). By AI agents, Wed Nov 11 2026. No macro, syntax, notation, axiom, sorry.
-/
import Derived.Test.YthjglhjogadeoaaChecked
import GoSem.Claim
import GoSem.ClaimJoined
import GoSem.ClaimMapViews
import Derived.JoinedTies
import Derived.KernelRfl
namespace Go.Proofs.Ythjglhjogadeoaa
/- THE CELL 'sum', in the pinned program and in every row, IS THE sha256 OF THE DUMP (.gsa) THAT YthjglhjogadeoaaProg.lean LOADS. Nothing in Lean hashes anything: it is a label: what it is worth is what the hold of that sum in a sandbox is worth. -/
noncomputable def Try.pinned : Pinned := { name := "ythjglhjogadeoaa", sum := "45f98a81d98789f94d3481fa607a4742094e03c5d517555e04f6f4e06aa0f908", checked := Try.checked }
namespace Rows
def none {H : Type} : Left H := { results := [], args := [] }

/-- 'laws.FnExactTimesValid': WHATEVER THE INPUT: true; the input reads as it did. -/
def fnExactTimesValidSpec : ChangeSpec := { name := "fnExactTimesValid", fn := fun _ => fun
  | [d] => { results := [.lit (.bool true)], args := [d] }
  | _ => none }
def fnExactTimesValidRow : OpenClaim := { program := "ythjglhjogadeoaa", sum := "45f98a81d98789f94d3481fa607a4742094e03c5d517555e04f6f4e06aa0f908", func := "loop.example/differenceengine/laws.FnExactTimesValid", spec := "fnExactTimesValid", unfollowed := true, recurses := true, apart := false }
def FnExactTimesValidSaid : Prop := fnExactTimesValidRow.holds Try.pinned (OpenSpec.ofChange fnExactTimesValidSpec)

/-- ITS FALSE NEIGHBOUR: 'it returns false'. Refute it at one input. -/
def fnExactTimesValidWrong : ChangeSpec := { name := "fnExactTimesValid", fn := fun _ => fun
  | [d] => { results := [.lit (.bool false)], args := [d] }
  | _ => none }
def FnExactTimesValidWrongFalsely : Prop := fnExactTimesValidRow.holds Try.pinned (OpenSpec.ofChange fnExactTimesValidWrong)

/-- 'laws.FnExactSpanOf': WHATEVER THE INPUT: true; the input reads as it did. -/
def fnExactSpanOfSpec : ChangeSpec := { name := "fnExactSpanOf", fn := fun _ => fun
  | [d1, d2, d3] => { results := [.lit (.bool true)], args := [d1, d2, d3] }
  | _ => none }
def fnExactSpanOfRow : OpenClaim := { program := "ythjglhjogadeoaa", sum := "45f98a81d98789f94d3481fa607a4742094e03c5d517555e04f6f4e06aa0f908", func := "loop.example/differenceengine/laws.FnExactSpanOf", spec := "fnExactSpanOf", unfollowed := true, recurses := true, apart := false }
def FnExactSpanOfSaid : Prop := fnExactSpanOfRow.holds Try.pinned (OpenSpec.ofChange fnExactSpanOfSpec)

/-- ITS FALSE NEIGHBOUR: 'it returns false'. Refute it at one input. -/
def fnExactSpanOfWrong : ChangeSpec := { name := "fnExactSpanOf", fn := fun _ => fun
  | [d1, d2, d3] => { results := [.lit (.bool false)], args := [d1, d2, d3] }
  | _ => none }
def FnExactSpanOfWrongFalsely : Prop := fnExactSpanOfRow.holds Try.pinned (OpenSpec.ofChange fnExactSpanOfWrong)

/-- 'laws.FnExactGreedySchedule': WHATEVER THE INPUT: true; the input reads as it did. -/
def fnExactGreedyScheduleSpec : ChangeSpec := { name := "fnExactGreedySchedule", fn := fun _ => fun
  | [d1, d2] => { results := [.lit (.bool true)], args := [d1, d2] }
  | _ => none }
def fnExactGreedyScheduleRow : OpenClaim := { program := "ythjglhjogadeoaa", sum := "45f98a81d98789f94d3481fa607a4742094e03c5d517555e04f6f4e06aa0f908", func := "loop.example/differenceengine/laws.FnExactGreedySchedule", spec := "fnExactGreedySchedule", unfollowed := true, recurses := true, apart := false }
def FnExactGreedyScheduleSaid : Prop := fnExactGreedyScheduleRow.holds Try.pinned (OpenSpec.ofChange fnExactGreedyScheduleSpec)

/-- ITS FALSE NEIGHBOUR: 'it returns false'. Refute it at one input. -/
def fnExactGreedyScheduleWrong : ChangeSpec := { name := "fnExactGreedySchedule", fn := fun _ => fun
  | [d1, d2] => { results := [.lit (.bool false)], args := [d1, d2] }
  | _ => none }
def FnExactGreedyScheduleWrongFalsely : Prop := fnExactGreedyScheduleRow.holds Try.pinned (OpenSpec.ofChange fnExactGreedyScheduleWrong)

/-- 'laws.FnExactBestSchedule': WHATEVER THE INPUT: true; the input reads as it did. -/
def fnExactBestScheduleSpec : ChangeSpec := { name := "fnExactBestSchedule", fn := fun _ => fun
  | [d1, d2] => { results := [.lit (.bool true)], args := [d1, d2] }
  | _ => none }
def fnExactBestScheduleRow : OpenClaim := { program := "ythjglhjogadeoaa", sum := "45f98a81d98789f94d3481fa607a4742094e03c5d517555e04f6f4e06aa0f908", func := "loop.example/differenceengine/laws.FnExactBestSchedule", spec := "fnExactBestSchedule", unfollowed := true, recurses := true, apart := false }
def FnExactBestScheduleSaid : Prop := fnExactBestScheduleRow.holds Try.pinned (OpenSpec.ofChange fnExactBestScheduleSpec)

/-- ITS FALSE NEIGHBOUR: 'it returns false'. Refute it at one input. -/
def fnExactBestScheduleWrong : ChangeSpec := { name := "fnExactBestSchedule", fn := fun _ => fun
  | [d1, d2] => { results := [.lit (.bool false)], args := [d1, d2] }
  | _ => none }
def FnExactBestScheduleWrongFalsely : Prop := fnExactBestScheduleRow.holds Try.pinned (OpenSpec.ofChange fnExactBestScheduleWrong)

/-- 'laws.FnExactLeastSpan': WHATEVER THE INPUT: true; the input reads as it did. -/
def fnExactLeastSpanSpec : ChangeSpec := { name := "fnExactLeastSpan", fn := fun _ => fun
  | [d1, d2] => { results := [.lit (.bool true)], args := [d1, d2] }
  | _ => none }
def fnExactLeastSpanRow : OpenClaim := { program := "ythjglhjogadeoaa", sum := "45f98a81d98789f94d3481fa607a4742094e03c5d517555e04f6f4e06aa0f908", func := "loop.example/differenceengine/laws.FnExactLeastSpan", spec := "fnExactLeastSpan", unfollowed := true, recurses := true, apart := false }
def FnExactLeastSpanSaid : Prop := fnExactLeastSpanRow.holds Try.pinned (OpenSpec.ofChange fnExactLeastSpanSpec)

/-- ITS FALSE NEIGHBOUR: 'it returns false'. Refute it at one input. -/
def fnExactLeastSpanWrong : ChangeSpec := { name := "fnExactLeastSpan", fn := fun _ => fun
  | [d1, d2] => { results := [.lit (.bool false)], args := [d1, d2] }
  | _ => none }
def FnExactLeastSpanWrongFalsely : Prop := fnExactLeastSpanRow.holds Try.pinned (OpenSpec.ofChange fnExactLeastSpanWrong)

/-- 'laws.FnExactJobValid': WHATEVER THE INPUT: true; the input reads as it did. -/
def fnExactJobValidSpec : ChangeSpec := { name := "fnExactJobValid", fn := fun _ => fun
  | [d] => { results := [.lit (.bool true)], args := [d] }
  | _ => none }
def fnExactJobValidRow : OpenClaim := { program := "ythjglhjogadeoaa", sum := "45f98a81d98789f94d3481fa607a4742094e03c5d517555e04f6f4e06aa0f908", func := "loop.example/differenceengine/laws.FnExactJobValid", spec := "fnExactJobValid", unfollowed := true, recurses := true, apart := false }
def FnExactJobValidSaid : Prop := fnExactJobValidRow.holds Try.pinned (OpenSpec.ofChange fnExactJobValidSpec)

/-- ITS FALSE NEIGHBOUR: 'it returns false'. Refute it at one input. -/
def fnExactJobValidWrong : ChangeSpec := { name := "fnExactJobValid", fn := fun _ => fun
  | [d] => { results := [.lit (.bool false)], args := [d] }
  | _ => none }
def FnExactJobValidWrongFalsely : Prop := fnExactJobValidRow.holds Try.pinned (OpenSpec.ofChange fnExactJobValidWrong)

/-- 'laws.FnExactJobTime': WHATEVER THE INPUT: true; the input reads as it did. -/
def fnExactJobTimeSpec : ChangeSpec := { name := "fnExactJobTime", fn := fun _ => fun
  | [d] => { results := [.lit (.bool true)], args := [d] }
  | _ => none }
def fnExactJobTimeRow : OpenClaim := { program := "ythjglhjogadeoaa", sum := "45f98a81d98789f94d3481fa607a4742094e03c5d517555e04f6f4e06aa0f908", func := "loop.example/differenceengine/laws.FnExactJobTime", spec := "fnExactJobTime", unfollowed := true, recurses := true, apart := false }
def FnExactJobTimeSaid : Prop := fnExactJobTimeRow.holds Try.pinned (OpenSpec.ofChange fnExactJobTimeSpec)

/-- ITS FALSE NEIGHBOUR: 'it returns false'. Refute it at one input. -/
def fnExactJobTimeWrong : ChangeSpec := { name := "fnExactJobTime", fn := fun _ => fun
  | [d] => { results := [.lit (.bool false)], args := [d] }
  | _ => none }
def FnExactJobTimeWrongFalsely : Prop := fnExactJobTimeRow.holds Try.pinned (OpenSpec.ofChange fnExactJobTimeWrong)

/- THE SECOND FORM. 'bulk': how many values and letters a reading holds, each counted each time it is reached (what is shared counts as often as it is met; a slice's spare places count too). A statement '..UptoSaid' is the law's where the arguments, and the package variables that the reading takes, are together of bulk at most 1048576: NARROWER than '..Said'. Prove '..Said' where nothing that the law and all that it calls make is longer than what came in: it says more and counts as full. Else prove '..UptoSaid'. A law counts once. -/
mutual
def uptoBulk {H : Type} : DataW H → Nat
  | .lit (.string bytes) => bytes.length + 1
  | .lit _ => 1
  | .nil => 1
  | .ptr d => uptoBulk d + 1
  | .slice elems spare => uptoBulkAll elems + uptoBulkAll spare + 1
  | .agg parts => uptoBulkAll parts + 1
  | .iface _ d => uptoBulk d + 1
  | .map entries => uptoBulkEntries entries + 1
  | .held _ => 1
def uptoBulkAll {H : Type} : List (DataW H) → Nat
  | [] => 0
  | d :: r => uptoBulk d + uptoBulkAll r
def uptoBulkEntries {H : Type} : List (Lit × DataW H) → Nat
  | [] => 0
  | x :: r => uptoBulkEntry x + uptoBulkEntries r
def uptoBulkEntry {H : Type} : Lit × DataW H → Nat
  | (.string bytes, d) => bytes.length + uptoBulk d + 1
  | (_, d) => uptoBulk d + 1
 end
def uptoSmall : (H : Type) → List (DataW H) → Bool := fun _ ds => decide (uptoBulkAll ds ≤ 1048576)
def OpenSpec.upto (s : _root_.Go.ChangeSpec) : _root_.Go.OpenSpec := { _root_.Go.OpenSpec.ofChange s with cond := some uptoSmall }

/-- 'laws.FnExactTimesValid', WHERE WHAT IT READS IS OF BULK AT MOST 1048576: true; the input reads as it did. -/
def fnExactTimesValidUptoRow : OpenClaim := { program := "ythjglhjogadeoaa", sum := "45f98a81d98789f94d3481fa607a4742094e03c5d517555e04f6f4e06aa0f908", func := "loop.example/differenceengine/laws.FnExactTimesValid", spec := "fnExactTimesValid", unfollowed := true, recurses := true, apart := false, narrowed := true }
def FnExactTimesValidUptoSaid : Prop := fnExactTimesValidUptoRow.holds Try.pinned (OpenSpec.upto fnExactTimesValidSpec)

/-- 'laws.FnExactSpanOf', WHERE WHAT IT READS IS OF BULK AT MOST 1048576: true; the input reads as it did. -/
def fnExactSpanOfUptoRow : OpenClaim := { program := "ythjglhjogadeoaa", sum := "45f98a81d98789f94d3481fa607a4742094e03c5d517555e04f6f4e06aa0f908", func := "loop.example/differenceengine/laws.FnExactSpanOf", spec := "fnExactSpanOf", unfollowed := true, recurses := true, apart := false, narrowed := true }
def FnExactSpanOfUptoSaid : Prop := fnExactSpanOfUptoRow.holds Try.pinned (OpenSpec.upto fnExactSpanOfSpec)

/-- 'laws.FnExactGreedySchedule', WHERE WHAT IT READS IS OF BULK AT MOST 1048576: true; the input reads as it did. -/
def fnExactGreedyScheduleUptoRow : OpenClaim := { program := "ythjglhjogadeoaa", sum := "45f98a81d98789f94d3481fa607a4742094e03c5d517555e04f6f4e06aa0f908", func := "loop.example/differenceengine/laws.FnExactGreedySchedule", spec := "fnExactGreedySchedule", unfollowed := true, recurses := true, apart := false, narrowed := true }
def FnExactGreedyScheduleUptoSaid : Prop := fnExactGreedyScheduleUptoRow.holds Try.pinned (OpenSpec.upto fnExactGreedyScheduleSpec)

/-- 'laws.FnExactBestSchedule', WHERE WHAT IT READS IS OF BULK AT MOST 1048576: true; the input reads as it did. -/
def fnExactBestScheduleUptoRow : OpenClaim := { program := "ythjglhjogadeoaa", sum := "45f98a81d98789f94d3481fa607a4742094e03c5d517555e04f6f4e06aa0f908", func := "loop.example/differenceengine/laws.FnExactBestSchedule", spec := "fnExactBestSchedule", unfollowed := true, recurses := true, apart := false, narrowed := true }
def FnExactBestScheduleUptoSaid : Prop := fnExactBestScheduleUptoRow.holds Try.pinned (OpenSpec.upto fnExactBestScheduleSpec)

/-- 'laws.FnExactLeastSpan', WHERE WHAT IT READS IS OF BULK AT MOST 1048576: true; the input reads as it did. -/
def fnExactLeastSpanUptoRow : OpenClaim := { program := "ythjglhjogadeoaa", sum := "45f98a81d98789f94d3481fa607a4742094e03c5d517555e04f6f4e06aa0f908", func := "loop.example/differenceengine/laws.FnExactLeastSpan", spec := "fnExactLeastSpan", unfollowed := true, recurses := true, apart := false, narrowed := true }
def FnExactLeastSpanUptoSaid : Prop := fnExactLeastSpanUptoRow.holds Try.pinned (OpenSpec.upto fnExactLeastSpanSpec)

/-- 'laws.FnExactJobValid', WHERE WHAT IT READS IS OF BULK AT MOST 1048576: true; the input reads as it did. -/
def fnExactJobValidUptoRow : OpenClaim := { program := "ythjglhjogadeoaa", sum := "45f98a81d98789f94d3481fa607a4742094e03c5d517555e04f6f4e06aa0f908", func := "loop.example/differenceengine/laws.FnExactJobValid", spec := "fnExactJobValid", unfollowed := true, recurses := true, apart := false, narrowed := true }
def FnExactJobValidUptoSaid : Prop := fnExactJobValidUptoRow.holds Try.pinned (OpenSpec.upto fnExactJobValidSpec)

/-- 'laws.FnExactJobTime', WHERE WHAT IT READS IS OF BULK AT MOST 1048576: true; the input reads as it did. -/
def fnExactJobTimeUptoRow : OpenClaim := { program := "ythjglhjogadeoaa", sum := "45f98a81d98789f94d3481fa607a4742094e03c5d517555e04f6f4e06aa0f908", func := "loop.example/differenceengine/laws.FnExactJobTime", spec := "fnExactJobTime", unfollowed := true, recurses := true, apart := false, narrowed := true }
def FnExactJobTimeUptoSaid : Prop := fnExactJobTimeUptoRow.holds Try.pinned (OpenSpec.upto fnExactJobTimeSpec)

end Rows
end Go.Proofs.Ythjglhjogadeoaa
