/-
  No cell of these rows narrows 'for every input' (looked for: loops, veiled, ifaces, maps, wideKeys, modest, calm, conditions, laid).
  DERIVED. THE GIVEN ROWS OF THIS SEAT. 6 by the template 'for every input the law returns true; each argument reads behind the call as it read before'; 0 by the template 'total and deterministic' (their statements: YtlicihjjbojpcaaTotals.lean).
  GIVEN WITH THE SEED: the statements are not yours to turn. If you find one false, say at which input.
  Laid BY PROGRAM, IN A SANDBOX (cutbox-rows.mjs): the forced cells as the released guide's own fill.sh prints them over the translation 03650792ebaa8f76… (all of the seat's roots in one cut). By AI agents, Wed Nov 11 2026. No macro, syntax, notation, axiom, sorry.
-/
import Derived.Test.YtlicihjjbojpcaaChecked
import GoSem.Claim
import GoSem.ClaimJoined
import GoSem.ClaimMapViews
import Derived.JoinedTies
import Derived.KernelRfl
namespace Go.Proofs.Ytlicihjjbojpcaa
/- THE CELL 'sum', in the pinned program and in every row, IS THE sha256 OF THE DUMP (.gsa) THAT YtlicihjjbojpcaaProg.lean LOADS. Nothing in Lean hashes anything: it is a label: what it is worth is what the hold of that sum in a sandbox is worth. -/
noncomputable def Try.pinned : Pinned := { name := "ytlicihjjbojpcaa", sum := "03650792ebaa8f76c8a41ea3c709edb0e8386dc734e045742a2a88feb17f7927", checked := Try.checked }
namespace Rows
def none {H : Type} : Left H := { results := [], args := [] }

/-- 'laws.FnFindTrue': WHATEVER THE INPUT: true; the input reads as it did. -/
def fnFindTrueSpec : ChangeSpec := { name := "fnFindTrue", fn := fun _ => fun
  | [d] => { results := [.lit (.bool true)], args := [d] }
  | _ => none }
def fnFindTrueRow : OpenClaim := { program := "ytlicihjjbojpcaa", sum := "03650792ebaa8f76c8a41ea3c709edb0e8386dc734e045742a2a88feb17f7927", func := "loop.example/differenceengine/laws.FnFindTrue", spec := "fnFindTrue", unfollowed := true, recurses := true, plainKeys := false, apart := false }
def FnFindTrueSaid : Prop := fnFindTrueRow.holds Try.pinned (OpenSpec.ofChange fnFindTrueSpec)

/-- ITS FALSE NEIGHBOUR: 'it returns false'. Refute it at one input. -/
def fnFindTrueWrong : ChangeSpec := { name := "fnFindTrue", fn := fun _ => fun
  | [d] => { results := [.lit (.bool false)], args := [d] }
  | _ => none }
def FnFindTrueWrongFalsely : Prop := fnFindTrueRow.holds Try.pinned (OpenSpec.ofChange fnFindTrueWrong)

/-- 'laws.FnFindSingle': WHATEVER THE INPUT: true; the input reads as it did. -/
def fnFindSingleSpec : ChangeSpec := { name := "fnFindSingle", fn := fun _ => fun
  | [d1, d2] => { results := [.lit (.bool true)], args := [d1, d2] }
  | _ => none }
def fnFindSingleRow : OpenClaim := { program := "ytlicihjjbojpcaa", sum := "03650792ebaa8f76c8a41ea3c709edb0e8386dc734e045742a2a88feb17f7927", func := "loop.example/differenceengine/laws.FnFindSingle", spec := "fnFindSingle", unfollowed := true, recurses := true, plainKeys := false, apart := false }
def FnFindSingleSaid : Prop := fnFindSingleRow.holds Try.pinned (OpenSpec.ofChange fnFindSingleSpec)

/-- ITS FALSE NEIGHBOUR: 'it returns false'. Refute it at one input. -/
def fnFindSingleWrong : ChangeSpec := { name := "fnFindSingle", fn := fun _ => fun
  | [d1, d2] => { results := [.lit (.bool false)], args := [d1, d2] }
  | _ => none }
def FnFindSingleWrongFalsely : Prop := fnFindSingleRow.holds Try.pinned (OpenSpec.ofChange fnFindSingleWrong)

/-- 'laws.FnPutError': WHATEVER THE INPUT: true; the input reads as it did. -/
def fnPutErrorSpec : ChangeSpec := { name := "fnPutError", fn := fun _ => fun
  | [d] => { results := [.lit (.bool true)], args := [d] }
  | _ => none }
def fnPutErrorRow : OpenClaim := { program := "ytlicihjjbojpcaa", sum := "03650792ebaa8f76c8a41ea3c709edb0e8386dc734e045742a2a88feb17f7927", func := "loop.example/differenceengine/laws.FnPutError", spec := "fnPutError", unfollowed := true, recurses := true, plainKeys := false, apart := false }
def FnPutErrorSaid : Prop := fnPutErrorRow.holds Try.pinned (OpenSpec.ofChange fnPutErrorSpec)

/-- ITS FALSE NEIGHBOUR: 'it returns false'. Refute it at one input. -/
def fnPutErrorWrong : ChangeSpec := { name := "fnPutError", fn := fun _ => fun
  | [d] => { results := [.lit (.bool false)], args := [d] }
  | _ => none }
def FnPutErrorWrongFalsely : Prop := fnPutErrorRow.holds Try.pinned (OpenSpec.ofChange fnPutErrorWrong)

/-- 'laws.FnErrata': WHATEVER THE INPUT: true; the input reads as it did. -/
def fnErrataSpec : ChangeSpec := { name := "fnErrata", fn := fun _ => fun
  | [d] => { results := [.lit (.bool true)], args := [d] }
  | _ => none }
def fnErrataRow : OpenClaim := { program := "ytlicihjjbojpcaa", sum := "03650792ebaa8f76c8a41ea3c709edb0e8386dc734e045742a2a88feb17f7927", func := "loop.example/differenceengine/laws.FnErrata", spec := "fnErrata", unfollowed := true, recurses := true, plainKeys := false, apart := false }
def FnErrataSaid : Prop := fnErrataRow.holds Try.pinned (OpenSpec.ofChange fnErrataSpec)

/-- ITS FALSE NEIGHBOUR: 'it returns false'. Refute it at one input. -/
def fnErrataWrong : ChangeSpec := { name := "fnErrata", fn := fun _ => fun
  | [d] => { results := [.lit (.bool false)], args := [d] }
  | _ => none }
def FnErrataWrongFalsely : Prop := fnErrataRow.holds Try.pinned (OpenSpec.ofChange fnErrataWrong)

/-- 'laws.FnApplyErrata': WHATEVER THE INPUT: true; the input reads as it did. -/
def fnApplyErrataSpec : ChangeSpec := { name := "fnApplyErrata", fn := fun _ => fun
  | [d] => { results := [.lit (.bool true)], args := [d] }
  | _ => none }
def fnApplyErrataRow : OpenClaim := { program := "ytlicihjjbojpcaa", sum := "03650792ebaa8f76c8a41ea3c709edb0e8386dc734e045742a2a88feb17f7927", func := "loop.example/differenceengine/laws.FnApplyErrata", spec := "fnApplyErrata", unfollowed := true, recurses := true, plainKeys := false, apart := false }
def FnApplyErrataSaid : Prop := fnApplyErrataRow.holds Try.pinned (OpenSpec.ofChange fnApplyErrataSpec)

/-- ITS FALSE NEIGHBOUR: 'it returns false'. Refute it at one input. -/
def fnApplyErrataWrong : ChangeSpec := { name := "fnApplyErrata", fn := fun _ => fun
  | [d] => { results := [.lit (.bool false)], args := [d] }
  | _ => none }
def FnApplyErrataWrongFalsely : Prop := fnApplyErrataRow.holds Try.pinned (OpenSpec.ofChange fnApplyErrataWrong)

/-- 'laws.FnPattern': WHATEVER THE INPUT: true; the input reads as it did. -/
def fnPatternSpec : ChangeSpec := { name := "fnPattern", fn := fun _ => fun
  | [d1, d2] => { results := [.lit (.bool true)], args := [d1, d2] }
  | _ => none }
def fnPatternRow : OpenClaim := { program := "ytlicihjjbojpcaa", sum := "03650792ebaa8f76c8a41ea3c709edb0e8386dc734e045742a2a88feb17f7927", func := "loop.example/differenceengine/laws.FnPattern", spec := "fnPattern", unfollowed := true, recurses := true, plainKeys := false, apart := false }
def FnPatternSaid : Prop := fnPatternRow.holds Try.pinned (OpenSpec.ofChange fnPatternSpec)

/-- ITS FALSE NEIGHBOUR: 'it returns false'. Refute it at one input. -/
def fnPatternWrong : ChangeSpec := { name := "fnPattern", fn := fun _ => fun
  | [d1, d2] => { results := [.lit (.bool false)], args := [d1, d2] }
  | _ => none }
def FnPatternWrongFalsely : Prop := fnPatternRow.holds Try.pinned (OpenSpec.ofChange fnPatternWrong)

/- THE SECOND FORM. 'bulk': how many values and letters a reading holds, each counted each time it is reached (what is shared counts as often as it is met; a slice's spare places count too). A statement '..UptoSaid' is the law's where the arguments, and the package variables that the reading takes, are together of bulk at most 1048576: NARROWER than '..Said'. Prove '..Said' where nothing that the law and all that it calls make is longer than what came in: it says more and counts as full. Else prove '..UptoSaid'. A law counts once. -/
mutual
def uptoBulk {H : Type} : DataW H → Nat
  | .lit (.string bytes) => bytes.length + 1
  | .lit _ => 1
  | .nil => 1
  | .ptr d => uptoBulk d + 1
  | .slice elems spare => uptoBulkAll elems + uptoBulkAll spare + 1
  | .agg parts => uptoBulkAll parts + 1
  | .iface _ d => uptoBulk d + 1
  | .map entries => uptoBulkEntries entries + 1
  | .held _ => 1
def uptoBulkAll {H : Type} : List (DataW H) → Nat
  | [] => 0
  | d :: r => uptoBulk d + uptoBulkAll r
def uptoBulkEntries {H : Type} : List (Lit × DataW H) → Nat
  | [] => 0
  | x :: r => uptoBulkEntry x + uptoBulkEntries r
def uptoBulkEntry {H : Type} : Lit × DataW H → Nat
  | (.string bytes, d) => bytes.length + uptoBulk d + 1
  | (_, d) => uptoBulk d + 1
 end
def uptoSmall : (H : Type) → List (DataW H) → Bool := fun _ ds => decide (uptoBulkAll ds ≤ 1048576)
def OpenSpec.upto (s : _root_.Go.ChangeSpec) : _root_.Go.OpenSpec := { _root_.Go.OpenSpec.ofChange s with cond := some uptoSmall }

/-- 'laws.FnFindTrue', WHERE WHAT IT READS IS OF BULK AT MOST 1048576: true; the input reads as it did. -/
def fnFindTrueUptoRow : OpenClaim := { program := "ytlicihjjbojpcaa", sum := "03650792ebaa8f76c8a41ea3c709edb0e8386dc734e045742a2a88feb17f7927", func := "loop.example/differenceengine/laws.FnFindTrue", spec := "fnFindTrue", unfollowed := true, recurses := true, plainKeys := false, apart := false, narrowed := true }
def FnFindTrueUptoSaid : Prop := fnFindTrueUptoRow.holds Try.pinned (OpenSpec.upto fnFindTrueSpec)

/-- 'laws.FnFindSingle', WHERE WHAT IT READS IS OF BULK AT MOST 1048576: true; the input reads as it did. -/
def fnFindSingleUptoRow : OpenClaim := { program := "ytlicihjjbojpcaa", sum := "03650792ebaa8f76c8a41ea3c709edb0e8386dc734e045742a2a88feb17f7927", func := "loop.example/differenceengine/laws.FnFindSingle", spec := "fnFindSingle", unfollowed := true, recurses := true, plainKeys := false, apart := false, narrowed := true }
def FnFindSingleUptoSaid : Prop := fnFindSingleUptoRow.holds Try.pinned (OpenSpec.upto fnFindSingleSpec)

/-- 'laws.FnPutError', WHERE WHAT IT READS IS OF BULK AT MOST 1048576: true; the input reads as it did. -/
def fnPutErrorUptoRow : OpenClaim := { program := "ytlicihjjbojpcaa", sum := "03650792ebaa8f76c8a41ea3c709edb0e8386dc734e045742a2a88feb17f7927", func := "loop.example/differenceengine/laws.FnPutError", spec := "fnPutError", unfollowed := true, recurses := true, plainKeys := false, apart := false, narrowed := true }
def FnPutErrorUptoSaid : Prop := fnPutErrorUptoRow.holds Try.pinned (OpenSpec.upto fnPutErrorSpec)

/-- 'laws.FnErrata', WHERE WHAT IT READS IS OF BULK AT MOST 1048576: true; the input reads as it did. -/
def fnErrataUptoRow : OpenClaim := { program := "ytlicihjjbojpcaa", sum := "03650792ebaa8f76c8a41ea3c709edb0e8386dc734e045742a2a88feb17f7927", func := "loop.example/differenceengine/laws.FnErrata", spec := "fnErrata", unfollowed := true, recurses := true, plainKeys := false, apart := false, narrowed := true }
def FnErrataUptoSaid : Prop := fnErrataUptoRow.holds Try.pinned (OpenSpec.upto fnErrataSpec)

/-- 'laws.FnApplyErrata', WHERE WHAT IT READS IS OF BULK AT MOST 1048576: true; the input reads as it did. -/
def fnApplyErrataUptoRow : OpenClaim := { program := "ytlicihjjbojpcaa", sum := "03650792ebaa8f76c8a41ea3c709edb0e8386dc734e045742a2a88feb17f7927", func := "loop.example/differenceengine/laws.FnApplyErrata", spec := "fnApplyErrata", unfollowed := true, recurses := true, plainKeys := false, apart := false, narrowed := true }
def FnApplyErrataUptoSaid : Prop := fnApplyErrataUptoRow.holds Try.pinned (OpenSpec.upto fnApplyErrataSpec)

/-- 'laws.FnPattern', WHERE WHAT IT READS IS OF BULK AT MOST 1048576: true; the input reads as it did. -/
def fnPatternUptoRow : OpenClaim := { program := "ytlicihjjbojpcaa", sum := "03650792ebaa8f76c8a41ea3c709edb0e8386dc734e045742a2a88feb17f7927", func := "loop.example/differenceengine/laws.FnPattern", spec := "fnPattern", unfollowed := true, recurses := true, plainKeys := false, apart := false, narrowed := true }
def FnPatternUptoSaid : Prop := fnPatternUptoRow.holds Try.pinned (OpenSpec.upto fnPatternSpec)

end Rows
end Go.Proofs.Ytlicihjjbojpcaa
