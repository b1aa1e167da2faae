/-
  No cell of these rows narrows 'for every input' (looked for: loops, veiled, ifaces, maps, wideKeys, modest, calm, conditions, laid).
  DERIVED. THE GIVEN ROWS OF THIS SEAT. 6 by the template 'for every input the law returns true; each argument reads behind the call as it read before'; 0 by the template 'total and deterministic' (their statements: YtgicnfioojcbpaaTotals.lean).
  GIVEN WITH THE SEED: the statements are not yours to turn. If you find one false, say at which input.
  Laid BY PROGRAM, IN A SANDBOX (cutbox-rows.mjs): the forced cells as the released guide's own fill.sh prints them over the translation e11f35cda7576a29… (all of the seat's roots in one cut). By AI agents, Wed Nov 11 2026. No macro, syntax, notation, axiom, sorry.
-/
import Derived.Test.YtgicnfioojcbpaaChecked
import GoSem.Claim
import GoSem.ClaimJoined
import GoSem.ClaimMapViews
import Derived.JoinedTies
import Derived.KernelRfl
namespace Go.Proofs.Ytgicnfioojcbpaa
/- THE CELL 'sum', in the pinned program and in every row, IS THE sha256 OF THE DUMP (.gsa) THAT YtgicnfioojcbpaaProg.lean LOADS. Nothing in Lean hashes anything: it is a label: what it is worth is what the hold of that sum in a sandbox is worth. -/
noncomputable def Try.pinned : Pinned := { name := "ytgicnfioojcbpaa", sum := "e11f35cda7576a298ca06e20b8574a797cc1a68a9d686c629c395dee731172d8", checked := Try.checked }
namespace Rows
def none {H : Type} : Left H := { results := [], args := [] }

/-- 'laws.FnClean': WHATEVER THE INPUT: true; the input reads as it did. -/
def fnCleanSpec : ChangeSpec := { name := "fnClean", fn := fun _ => fun
  | [d] => { results := [.lit (.bool true)], args := [d] }
  | _ => none }
def fnCleanRow : OpenClaim := { program := "ytgicnfioojcbpaa", sum := "e11f35cda7576a298ca06e20b8574a797cc1a68a9d686c629c395dee731172d8", func := "loop.example/differenceengine/laws.FnClean", spec := "fnClean", unfollowed := true, recurses := true, plainKeys := false, apart := false }
def FnCleanSaid : Prop := fnCleanRow.holds Try.pinned (OpenSpec.ofChange fnCleanSpec)

/-- ITS FALSE NEIGHBOUR: 'it returns false'. Refute it at one input. -/
def fnCleanWrong : ChangeSpec := { name := "fnClean", fn := fun _ => fun
  | [d] => { results := [.lit (.bool false)], args := [d] }
  | _ => none }
def FnCleanWrongFalsely : Prop := fnCleanRow.holds Try.pinned (OpenSpec.ofChange fnCleanWrong)

/-- 'laws.FnPattern': WHATEVER THE INPUT: true; the input reads as it did. -/
def fnPatternSpec : ChangeSpec := { name := "fnPattern", fn := fun _ => fun
  | [d1, d2] => { results := [.lit (.bool true)], args := [d1, d2] }
  | _ => none }
def fnPatternRow : OpenClaim := { program := "ytgicnfioojcbpaa", sum := "e11f35cda7576a298ca06e20b8574a797cc1a68a9d686c629c395dee731172d8", func := "loop.example/differenceengine/laws.FnPattern", spec := "fnPattern", unfollowed := true, recurses := true, plainKeys := false, apart := false }
def FnPatternSaid : Prop := fnPatternRow.holds Try.pinned (OpenSpec.ofChange fnPatternSpec)

/-- ITS FALSE NEIGHBOUR: 'it returns false'. Refute it at one input. -/
def fnPatternWrong : ChangeSpec := { name := "fnPattern", fn := fun _ => fun
  | [d1, d2] => { results := [.lit (.bool false)], args := [d1, d2] }
  | _ => none }
def FnPatternWrongFalsely : Prop := fnPatternRow.holds Try.pinned (OpenSpec.ofChange fnPatternWrong)

/-- 'laws.FnPatternSum': WHATEVER THE INPUT: true; the input reads as it did. -/
def fnPatternSumSpec : ChangeSpec := { name := "fnPatternSum", fn := fun _ => fun
  | [d] => { results := [.lit (.bool true)], args := [d] }
  | _ => none }
def fnPatternSumRow : OpenClaim := { program := "ytgicnfioojcbpaa", sum := "e11f35cda7576a298ca06e20b8574a797cc1a68a9d686c629c395dee731172d8", func := "loop.example/differenceengine/laws.FnPatternSum", spec := "fnPatternSum", plainKeys := false, apart := false }
def FnPatternSumSaid : Prop := fnPatternSumRow.holds Try.pinned (OpenSpec.ofChange fnPatternSumSpec)

/-- ITS FALSE NEIGHBOUR: 'it returns false'. Refute it at one input. -/
def fnPatternSumWrong : ChangeSpec := { name := "fnPatternSum", fn := fun _ => fun
  | [d] => { results := [.lit (.bool false)], args := [d] }
  | _ => none }
def FnPatternSumWrongFalsely : Prop := fnPatternSumRow.holds Try.pinned (OpenSpec.ofChange fnPatternSumWrong)

/-- 'laws.FnPutError': WHATEVER THE INPUT: true; the input reads as it did. -/
def fnPutErrorSpec : ChangeSpec := { name := "fnPutError", fn := fun _ => fun
  | [d] => { results := [.lit (.bool true)], args := [d] }
  | _ => none }
def fnPutErrorRow : OpenClaim := { program := "ytgicnfioojcbpaa", sum := "e11f35cda7576a298ca06e20b8574a797cc1a68a9d686c629c395dee731172d8", func := "loop.example/differenceengine/laws.FnPutError", spec := "fnPutError", unfollowed := true, recurses := true, plainKeys := false, apart := false }
def FnPutErrorSaid : Prop := fnPutErrorRow.holds Try.pinned (OpenSpec.ofChange fnPutErrorSpec)

/-- ITS FALSE NEIGHBOUR: 'it returns false'. Refute it at one input. -/
def fnPutErrorWrong : ChangeSpec := { name := "fnPutError", fn := fun _ => fun
  | [d] => { results := [.lit (.bool false)], args := [d] }
  | _ => none }
def FnPutErrorWrongFalsely : Prop := fnPutErrorRow.holds Try.pinned (OpenSpec.ofChange fnPutErrorWrong)

/-- 'laws.FnFindTrue': WHATEVER THE INPUT: true; the input reads as it did. -/
def fnFindTrueSpec : ChangeSpec := { name := "fnFindTrue", fn := fun _ => fun
  | [d] => { results := [.lit (.bool true)], args := [d] }
  | _ => none }
def fnFindTrueRow : OpenClaim := { program := "ytgicnfioojcbpaa", sum := "e11f35cda7576a298ca06e20b8574a797cc1a68a9d686c629c395dee731172d8", func := "loop.example/differenceengine/laws.FnFindTrue", spec := "fnFindTrue", unfollowed := true, recurses := true, plainKeys := false, apart := false }
def FnFindTrueSaid : Prop := fnFindTrueRow.holds Try.pinned (OpenSpec.ofChange fnFindTrueSpec)

/-- ITS FALSE NEIGHBOUR: 'it returns false'. Refute it at one input. -/
def fnFindTrueWrong : ChangeSpec := { name := "fnFindTrue", fn := fun _ => fun
  | [d] => { results := [.lit (.bool false)], args := [d] }
  | _ => none }
def FnFindTrueWrongFalsely : Prop := fnFindTrueRow.holds Try.pinned (OpenSpec.ofChange fnFindTrueWrong)

/-- 'laws.FnFindSingle': WHATEVER THE INPUT: true; the input reads as it did. -/
def fnFindSingleSpec : ChangeSpec := { name := "fnFindSingle", fn := fun _ => fun
  | [d1, d2] => { results := [.lit (.bool true)], args := [d1, d2] }
  | _ => none }
def fnFindSingleRow : OpenClaim := { program := "ytgicnfioojcbpaa", sum := "e11f35cda7576a298ca06e20b8574a797cc1a68a9d686c629c395dee731172d8", func := "loop.example/differenceengine/laws.FnFindSingle", spec := "fnFindSingle", unfollowed := true, recurses := true, plainKeys := false, apart := false }
def FnFindSingleSaid : Prop := fnFindSingleRow.holds Try.pinned (OpenSpec.ofChange fnFindSingleSpec)

/-- ITS FALSE NEIGHBOUR: 'it returns false'. Refute it at one input. -/
def fnFindSingleWrong : ChangeSpec := { name := "fnFindSingle", fn := fun _ => fun
  | [d1, d2] => { results := [.lit (.bool false)], args := [d1, d2] }
  | _ => none }
def FnFindSingleWrongFalsely : Prop := fnFindSingleRow.holds Try.pinned (OpenSpec.ofChange fnFindSingleWrong)

/- THE SECOND FORM. 'bulk': how many values and letters a reading holds, each counted each time it is reached (what is shared counts as often as it is met; a slice's spare places count too). A statement '..UptoSaid' is the law's where the arguments, and the package variables that the reading takes, are together of bulk at most 1048576: NARROWER than '..Said'. Prove '..Said' where nothing that the law and all that it calls make is longer than what came in: it says more and counts as full. Else prove '..UptoSaid'. A law counts once. -/
mutual
def uptoBulk {H : Type} : DataW H → Nat
  | .lit (.string bytes) => bytes.length + 1
  | .lit _ => 1
  | .nil => 1
  | .ptr d => uptoBulk d + 1
  | .slice elems spare => uptoBulkAll elems + uptoBulkAll spare + 1
  | .agg parts => uptoBulkAll parts + 1
  | .iface _ d => uptoBulk d + 1
  | .map entries => uptoBulkEntries entries + 1
  | .held _ => 1
def uptoBulkAll {H : Type} : List (DataW H) → Nat
  | [] => 0
  | d :: r => uptoBulk d + uptoBulkAll r
def uptoBulkEntries {H : Type} : List (Lit × DataW H) → Nat
  | [] => 0
  | x :: r => uptoBulkEntry x + uptoBulkEntries r
def uptoBulkEntry {H : Type} : Lit × DataW H → Nat
  | (.string bytes, d) => bytes.length + uptoBulk d + 1
  | (_, d) => uptoBulk d + 1
 end
def uptoSmall : (H : Type) → List (DataW H) → Bool := fun _ ds => decide (uptoBulkAll ds ≤ 1048576)
def OpenSpec.upto (s : _root_.Go.ChangeSpec) : _root_.Go.OpenSpec := { _root_.Go.OpenSpec.ofChange s with cond := some uptoSmall }

/-- 'laws.FnClean', WHERE WHAT IT READS IS OF BULK AT MOST 1048576: true; the input reads as it did. -/
def fnCleanUptoRow : OpenClaim := { program := "ytgicnfioojcbpaa", sum := "e11f35cda7576a298ca06e20b8574a797cc1a68a9d686c629c395dee731172d8", func := "loop.example/differenceengine/laws.FnClean", spec := "fnClean", unfollowed := true, recurses := true, plainKeys := false, apart := false, narrowed := true }
def FnCleanUptoSaid : Prop := fnCleanUptoRow.holds Try.pinned (OpenSpec.upto fnCleanSpec)

/-- 'laws.FnPattern', WHERE WHAT IT READS IS OF BULK AT MOST 1048576: true; the input reads as it did. -/
def fnPatternUptoRow : OpenClaim := { program := "ytgicnfioojcbpaa", sum := "e11f35cda7576a298ca06e20b8574a797cc1a68a9d686c629c395dee731172d8", func := "loop.example/differenceengine/laws.FnPattern", spec := "fnPattern", unfollowed := true, recurses := true, plainKeys := false, apart := false, narrowed := true }
def FnPatternUptoSaid : Prop := fnPatternUptoRow.holds Try.pinned (OpenSpec.upto fnPatternSpec)

/-- 'laws.FnPatternSum', WHERE WHAT IT READS IS OF BULK AT MOST 1048576: true; the input reads as it did. -/
def fnPatternSumUptoRow : OpenClaim := { program := "ytgicnfioojcbpaa", sum := "e11f35cda7576a298ca06e20b8574a797cc1a68a9d686c629c395dee731172d8", func := "loop.example/differenceengine/laws.FnPatternSum", spec := "fnPatternSum", plainKeys := false, apart := false, narrowed := true }
def FnPatternSumUptoSaid : Prop := fnPatternSumUptoRow.holds Try.pinned (OpenSpec.upto fnPatternSumSpec)

/-- 'laws.FnPutError', WHERE WHAT IT READS IS OF BULK AT MOST 1048576: true; the input reads as it did. -/
def fnPutErrorUptoRow : OpenClaim := { program := "ytgicnfioojcbpaa", sum := "e11f35cda7576a298ca06e20b8574a797cc1a68a9d686c629c395dee731172d8", func := "loop.example/differenceengine/laws.FnPutError", spec := "fnPutError", unfollowed := true, recurses := true, plainKeys := false, apart := false, narrowed := true }
def FnPutErrorUptoSaid : Prop := fnPutErrorUptoRow.holds Try.pinned (OpenSpec.upto fnPutErrorSpec)

/-- 'laws.FnFindTrue', WHERE WHAT IT READS IS OF BULK AT MOST 1048576: true; the input reads as it did. -/
def fnFindTrueUptoRow : OpenClaim := { program := "ytgicnfioojcbpaa", sum := "e11f35cda7576a298ca06e20b8574a797cc1a68a9d686c629c395dee731172d8", func := "loop.example/differenceengine/laws.FnFindTrue", spec := "fnFindTrue", unfollowed := true, recurses := true, plainKeys := false, apart := false, narrowed := true }
def FnFindTrueUptoSaid : Prop := fnFindTrueUptoRow.holds Try.pinned (OpenSpec.upto fnFindTrueSpec)

/-- 'laws.FnFindSingle', WHERE WHAT IT READS IS OF BULK AT MOST 1048576: true; the input reads as it did. -/
def fnFindSingleUptoRow : OpenClaim := { program := "ytgicnfioojcbpaa", sum := "e11f35cda7576a298ca06e20b8574a797cc1a68a9d686c629c395dee731172d8", func := "loop.example/differenceengine/laws.FnFindSingle", spec := "fnFindSingle", unfollowed := true, recurses := true, plainKeys := false, apart := false, narrowed := true }
def FnFindSingleUptoSaid : Prop := fnFindSingleUptoRow.holds Try.pinned (OpenSpec.upto fnFindSingleSpec)

end Rows
end Go.Proofs.Ytgicnfioojcbpaa
