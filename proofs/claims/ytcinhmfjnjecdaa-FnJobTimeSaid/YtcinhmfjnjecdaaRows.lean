/-
  No cell of these rows narrows 'for every input' (looked for: loops, veiled, ifaces, maps, wideKeys, modest, calm, conditions, laid).
  DERIVED. THE GIVEN ROWS OF THIS SEAT. 5 by the template 'for every input the law returns true; each argument reads behind the call as it read before'; 0 by the template 'total and deterministic' (their statements: YtcinhmfjnjecdaaTotals.lean).
  GIVEN WITH THE SEED: the statements are not yours to turn. If you find one false, say at which input.
  Laid BY PROGRAM, IN A SANDBOX (cutbox-rows.mjs): the forced cells as the released guide's own fill.sh prints them over the translation bec9c3809296ac36… (all of the seat's roots in one cut). By AI agents, Wed Nov 11 2026. No macro, syntax, notation, axiom, sorry.
-/
import Derived.Test.YtcinhmfjnjecdaaChecked
import GoSem.Claim
import GoSem.ClaimJoined
import GoSem.ClaimMapViews
import Derived.JoinedTies
import Derived.KernelRfl
namespace Go.Proofs.Ytcinhmfjnjecdaa
/- THE CELL 'sum', in the pinned program and in every row, IS THE sha256 OF THE DUMP (.gsa) THAT YtcinhmfjnjecdaaProg.lean LOADS. Nothing in Lean hashes anything: it is a label: what it is worth is what the hold of that sum in a sandbox is worth. -/
noncomputable def Try.pinned : Pinned := { name := "ytcinhmfjnjecdaa", sum := "bec9c3809296ac36d827a97e489b184f19a82f06710648392249bc3eb4351689", checked := Try.checked }
namespace Rows
def none {H : Type} : Left H := { results := [], args := [] }

/-- 'laws.FnSpan': WHATEVER THE INPUT: true; the input reads as it did. -/
def fnSpanSpec : ChangeSpec := { name := "fnSpan", fn := fun _ => fun
  | [d] => { results := [.lit (.bool true)], args := [d] }
  | _ => none }
def fnSpanRow : OpenClaim := { program := "ytcinhmfjnjecdaa", sum := "bec9c3809296ac36d827a97e489b184f19a82f06710648392249bc3eb4351689", func := "loop.example/differenceengine/laws.FnSpan", spec := "fnSpan", unfollowed := true, recurses := true, apart := false }
def FnSpanSaid : Prop := fnSpanRow.holds Try.pinned (OpenSpec.ofChange fnSpanSpec)

/-- ITS FALSE NEIGHBOUR: 'it returns false'. Refute it at one input. -/
def fnSpanWrong : ChangeSpec := { name := "fnSpan", fn := fun _ => fun
  | [d] => { results := [.lit (.bool false)], args := [d] }
  | _ => none }
def FnSpanWrongFalsely : Prop := fnSpanRow.holds Try.pinned (OpenSpec.ofChange fnSpanWrong)

/-- 'laws.FnBestSchedule': WHATEVER THE INPUT: true; the input reads as it did. -/
def fnBestScheduleSpec : ChangeSpec := { name := "fnBestSchedule", fn := fun _ => fun
  | [d1, d2] => { results := [.lit (.bool true)], args := [d1, d2] }
  | _ => none }
def fnBestScheduleRow : OpenClaim := { program := "ytcinhmfjnjecdaa", sum := "bec9c3809296ac36d827a97e489b184f19a82f06710648392249bc3eb4351689", func := "loop.example/differenceengine/laws.FnBestSchedule", spec := "fnBestSchedule", unfollowed := true, recurses := true, apart := false }
def FnBestScheduleSaid : Prop := fnBestScheduleRow.holds Try.pinned (OpenSpec.ofChange fnBestScheduleSpec)

/-- ITS FALSE NEIGHBOUR: 'it returns false'. Refute it at one input. -/
def fnBestScheduleWrong : ChangeSpec := { name := "fnBestSchedule", fn := fun _ => fun
  | [d1, d2] => { results := [.lit (.bool false)], args := [d1, d2] }
  | _ => none }
def FnBestScheduleWrongFalsely : Prop := fnBestScheduleRow.holds Try.pinned (OpenSpec.ofChange fnBestScheduleWrong)

/-- 'laws.FnLeastSpan': WHATEVER THE INPUT: true; the input reads as it did. -/
def fnLeastSpanSpec : ChangeSpec := { name := "fnLeastSpan", fn := fun _ => fun
  | [d] => { results := [.lit (.bool true)], args := [d] }
  | _ => none }
def fnLeastSpanRow : OpenClaim := { program := "ytcinhmfjnjecdaa", sum := "bec9c3809296ac36d827a97e489b184f19a82f06710648392249bc3eb4351689", func := "loop.example/differenceengine/laws.FnLeastSpan", spec := "fnLeastSpan", unfollowed := true, recurses := true, apart := false }
def FnLeastSpanSaid : Prop := fnLeastSpanRow.holds Try.pinned (OpenSpec.ofChange fnLeastSpanSpec)

/-- ITS FALSE NEIGHBOUR: 'it returns false'. Refute it at one input. -/
def fnLeastSpanWrong : ChangeSpec := { name := "fnLeastSpan", fn := fun _ => fun
  | [d] => { results := [.lit (.bool false)], args := [d] }
  | _ => none }
def FnLeastSpanWrongFalsely : Prop := fnLeastSpanRow.holds Try.pinned (OpenSpec.ofChange fnLeastSpanWrong)

/-- 'laws.FnGreedySchedule': WHATEVER THE INPUT: true; the input reads as it did. -/
def fnGreedyScheduleSpec : ChangeSpec := { name := "fnGreedySchedule", fn := fun _ => fun
  | [d] => { results := [.lit (.bool true)], args := [d] }
  | _ => none }
def fnGreedyScheduleRow : OpenClaim := { program := "ytcinhmfjnjecdaa", sum := "bec9c3809296ac36d827a97e489b184f19a82f06710648392249bc3eb4351689", func := "loop.example/differenceengine/laws.FnGreedySchedule", spec := "fnGreedySchedule", unfollowed := true, recurses := true, apart := false }
def FnGreedyScheduleSaid : Prop := fnGreedyScheduleRow.holds Try.pinned (OpenSpec.ofChange fnGreedyScheduleSpec)

/-- ITS FALSE NEIGHBOUR: 'it returns false'. Refute it at one input. -/
def fnGreedyScheduleWrong : ChangeSpec := { name := "fnGreedySchedule", fn := fun _ => fun
  | [d] => { results := [.lit (.bool false)], args := [d] }
  | _ => none }
def FnGreedyScheduleWrongFalsely : Prop := fnGreedyScheduleRow.holds Try.pinned (OpenSpec.ofChange fnGreedyScheduleWrong)

/-- 'laws.FnJobTime': WHATEVER THE INPUT: true; the input reads as it did. -/
def fnJobTimeSpec : ChangeSpec := { name := "fnJobTime", fn := fun _ => fun
  | [d] => { results := [.lit (.bool true)], args := [d] }
  | _ => none }
def fnJobTimeRow : OpenClaim := { program := "ytcinhmfjnjecdaa", sum := "bec9c3809296ac36d827a97e489b184f19a82f06710648392249bc3eb4351689", func := "loop.example/differenceengine/laws.FnJobTime", spec := "fnJobTime", unfollowed := true, recurses := true, apart := false }
def FnJobTimeSaid : Prop := fnJobTimeRow.holds Try.pinned (OpenSpec.ofChange fnJobTimeSpec)

/-- ITS FALSE NEIGHBOUR: 'it returns false'. Refute it at one input. -/
def fnJobTimeWrong : ChangeSpec := { name := "fnJobTime", fn := fun _ => fun
  | [d] => { results := [.lit (.bool false)], args := [d] }
  | _ => none }
def FnJobTimeWrongFalsely : Prop := fnJobTimeRow.holds Try.pinned (OpenSpec.ofChange fnJobTimeWrong)

/- THE SECOND FORM. 'bulk': how many values and letters a reading holds, each counted each time it is reached (what is shared counts as often as it is met; a slice's spare places count too). A statement '..UptoSaid' is the law's where the arguments, and the package variables that the reading takes, are together of bulk at most 1048576: NARROWER than '..Said'. Prove '..Said' where nothing that the law and all that it calls make is longer than what came in: it says more and counts as full. Else prove '..UptoSaid'. A law counts once. -/
mutual
def uptoBulk {H : Type} : DataW H → Nat
  | .lit (.string bytes) => bytes.length + 1
  | .lit _ => 1
  | .nil => 1
  | .ptr d => uptoBulk d + 1
  | .slice elems spare => uptoBulkAll elems + uptoBulkAll spare + 1
  | .agg parts => uptoBulkAll parts + 1
  | .iface _ d => uptoBulk d + 1
  | .map entries => uptoBulkEntries entries + 1
  | .held _ => 1
def uptoBulkAll {H : Type} : List (DataW H) → Nat
  | [] => 0
  | d :: r => uptoBulk d + uptoBulkAll r
def uptoBulkEntries {H : Type} : List (Lit × DataW H) → Nat
  | [] => 0
  | x :: r => uptoBulkEntry x + uptoBulkEntries r
def uptoBulkEntry {H : Type} : Lit × DataW H → Nat
  | (.string bytes, d) => bytes.length + uptoBulk d + 1
  | (_, d) => uptoBulk d + 1
 end
def uptoSmall : (H : Type) → List (DataW H) → Bool := fun _ ds => decide (uptoBulkAll ds ≤ 1048576)
def OpenSpec.upto (s : _root_.Go.ChangeSpec) : _root_.Go.OpenSpec := { _root_.Go.OpenSpec.ofChange s with cond := some uptoSmall }

/-- 'laws.FnSpan', WHERE WHAT IT READS IS OF BULK AT MOST 1048576: true; the input reads as it did. -/
def fnSpanUptoRow : OpenClaim := { program := "ytcinhmfjnjecdaa", sum := "bec9c3809296ac36d827a97e489b184f19a82f06710648392249bc3eb4351689", func := "loop.example/differenceengine/laws.FnSpan", spec := "fnSpan", unfollowed := true, recurses := true, apart := false, narrowed := true }
def FnSpanUptoSaid : Prop := fnSpanUptoRow.holds Try.pinned (OpenSpec.upto fnSpanSpec)

/-- 'laws.FnBestSchedule', WHERE WHAT IT READS IS OF BULK AT MOST 1048576: true; the input reads as it did. -/
def fnBestScheduleUptoRow : OpenClaim := { program := "ytcinhmfjnjecdaa", sum := "bec9c3809296ac36d827a97e489b184f19a82f06710648392249bc3eb4351689", func := "loop.example/differenceengine/laws.FnBestSchedule", spec := "fnBestSchedule", unfollowed := true, recurses := true, apart := false, narrowed := true }
def FnBestScheduleUptoSaid : Prop := fnBestScheduleUptoRow.holds Try.pinned (OpenSpec.upto fnBestScheduleSpec)

/-- 'laws.FnLeastSpan', WHERE WHAT IT READS IS OF BULK AT MOST 1048576: true; the input reads as it did. -/
def fnLeastSpanUptoRow : OpenClaim := { program := "ytcinhmfjnjecdaa", sum := "bec9c3809296ac36d827a97e489b184f19a82f06710648392249bc3eb4351689", func := "loop.example/differenceengine/laws.FnLeastSpan", spec := "fnLeastSpan", unfollowed := true, recurses := true, apart := false, narrowed := true }
def FnLeastSpanUptoSaid : Prop := fnLeastSpanUptoRow.holds Try.pinned (OpenSpec.upto fnLeastSpanSpec)

/-- 'laws.FnGreedySchedule', WHERE WHAT IT READS IS OF BULK AT MOST 1048576: true; the input reads as it did. -/
def fnGreedyScheduleUptoRow : OpenClaim := { program := "ytcinhmfjnjecdaa", sum := "bec9c3809296ac36d827a97e489b184f19a82f06710648392249bc3eb4351689", func := "loop.example/differenceengine/laws.FnGreedySchedule", spec := "fnGreedySchedule", unfollowed := true, recurses := true, apart := false, narrowed := true }
def FnGreedyScheduleUptoSaid : Prop := fnGreedyScheduleUptoRow.holds Try.pinned (OpenSpec.upto fnGreedyScheduleSpec)

/-- 'laws.FnJobTime', WHERE WHAT IT READS IS OF BULK AT MOST 1048576: true; the input reads as it did. -/
def fnJobTimeUptoRow : OpenClaim := { program := "ytcinhmfjnjecdaa", sum := "bec9c3809296ac36d827a97e489b184f19a82f06710648392249bc3eb4351689", func := "loop.example/differenceengine/laws.FnJobTime", spec := "fnJobTime", unfollowed := true, recurses := true, apart := false, narrowed := true }
def FnJobTimeUptoSaid : Prop := fnJobTimeUptoRow.holds Try.pinned (OpenSpec.upto fnJobTimeSpec)

end Rows
end Go.Proofs.Ytcinhmfjnjecdaa
