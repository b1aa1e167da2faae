/-
  No cell of these rows narrows 'for every input' (looked for: loops, veiled, ifaces, maps, wideKeys, modest, calm, conditions, laid).
  DERIVED. THE GIVEN ROWS OF THIS SEAT. 8 by the template 'for every input the law returns true; each argument reads behind the call as it read before'; 0 by the template 'total and deterministic' (their statements: YtojpnlipfbahdaaTotals.lean).
  GIVEN WITH THE SEED: the statements are not yours to turn. If you find one false, say at which input.
  Laid BY PROGRAM, IN A SANDBOX (cutbox-rows.mjs): the forced cells as the released guide's own fill.sh prints them over the translation 67ed9b08d397abac… (all of the seat's roots in one cut). By AI agents, Wed Nov 11 2026. No macro, syntax, notation, axiom, sorry.
-/
import Derived.Test.YtojpnlipfbahdaaChecked
import GoSem.Claim
import GoSem.ClaimJoined
import GoSem.ClaimMapViews
import Derived.JoinedTies
import Derived.KernelRfl
namespace Go.Proofs.Ytojpnlipfbahdaa
/- THE CELL 'sum', in the pinned program and in every row, IS THE sha256 OF THE DUMP (.gsa) THAT YtojpnlipfbahdaaProg.lean LOADS. Nothing in Lean hashes anything: it is a label: what it is worth is what the hold of that sum in a sandbox is worth. -/
noncomputable def Try.pinned : Pinned := { name := "ytojpnlipfbahdaa", sum := "67ed9b08d397abac3915d1dc85fd1c80d8ca6482ed90604a8f6d4473b7ce2885", checked := Try.checked }
namespace Rows
def none {H : Type} : Left H := { results := [], args := [] }

/-- 'laws.FnSlipEffect': WHATEVER THE INPUT: true; the input reads as it did. -/
def fnSlipEffectSpec : ChangeSpec := { name := "fnSlipEffect", fn := fun _ => fun
  | [d] => { results := [.lit (.bool true)], args := [d] }
  | _ => none }
def fnSlipEffectRow : OpenClaim := { program := "ytojpnlipfbahdaa", sum := "67ed9b08d397abac3915d1dc85fd1c80d8ca6482ed90604a8f6d4473b7ce2885", func := "loop.example/differenceengine/laws.FnSlipEffect", spec := "fnSlipEffect", apart := false }
def FnSlipEffectSaid : Prop := fnSlipEffectRow.holds Try.pinned (OpenSpec.ofChange fnSlipEffectSpec)

/-- ITS FALSE NEIGHBOUR: 'it returns false'. Refute it at one input. -/
def fnSlipEffectWrong : ChangeSpec := { name := "fnSlipEffect", fn := fun _ => fun
  | [d] => { results := [.lit (.bool false)], args := [d] }
  | _ => none }
def FnSlipEffectWrongFalsely : Prop := fnSlipEffectRow.holds Try.pinned (OpenSpec.ofChange fnSlipEffectWrong)

/-- 'laws.FnDiagnoseTrue': WHATEVER THE INPUT: true; the input reads as it did. -/
def fnDiagnoseTrueSpec : ChangeSpec := { name := "fnDiagnoseTrue", fn := fun _ => fun
  | [d] => { results := [.lit (.bool true)], args := [d] }
  | _ => none }
def fnDiagnoseTrueRow : OpenClaim := { program := "ytojpnlipfbahdaa", sum := "67ed9b08d397abac3915d1dc85fd1c80d8ca6482ed90604a8f6d4473b7ce2885", func := "loop.example/differenceengine/laws.FnDiagnoseTrue", spec := "fnDiagnoseTrue", unfollowed := true, recurses := true, apart := false }
def FnDiagnoseTrueSaid : Prop := fnDiagnoseTrueRow.holds Try.pinned (OpenSpec.ofChange fnDiagnoseTrueSpec)

/-- ITS FALSE NEIGHBOUR: 'it returns false'. Refute it at one input. -/
def fnDiagnoseTrueWrong : ChangeSpec := { name := "fnDiagnoseTrue", fn := fun _ => fun
  | [d] => { results := [.lit (.bool false)], args := [d] }
  | _ => none }
def FnDiagnoseTrueWrongFalsely : Prop := fnDiagnoseTrueRow.holds Try.pinned (OpenSpec.ofChange fnDiagnoseTrueWrong)

/-- 'laws.FnDiagnoseFound': WHATEVER THE INPUT: true; the input reads as it did. -/
def fnDiagnoseFoundSpec : ChangeSpec := { name := "fnDiagnoseFound", fn := fun _ => fun
  | [d] => { results := [.lit (.bool true)], args := [d] }
  | _ => none }
def fnDiagnoseFoundRow : OpenClaim := { program := "ytojpnlipfbahdaa", sum := "67ed9b08d397abac3915d1dc85fd1c80d8ca6482ed90604a8f6d4473b7ce2885", func := "loop.example/differenceengine/laws.FnDiagnoseFound", spec := "fnDiagnoseFound", unfollowed := true, recurses := true, apart := false }
def FnDiagnoseFoundSaid : Prop := fnDiagnoseFoundRow.holds Try.pinned (OpenSpec.ofChange fnDiagnoseFoundSpec)

/-- ITS FALSE NEIGHBOUR: 'it returns false'. Refute it at one input. -/
def fnDiagnoseFoundWrong : ChangeSpec := { name := "fnDiagnoseFound", fn := fun _ => fun
  | [d] => { results := [.lit (.bool false)], args := [d] }
  | _ => none }
def FnDiagnoseFoundWrongFalsely : Prop := fnDiagnoseFoundRow.holds Try.pinned (OpenSpec.ofChange fnDiagnoseFoundWrong)

/-- 'laws.FnNines': WHATEVER THE INPUT: true; the input reads as it did. -/
def fnNinesSpec : ChangeSpec := { name := "fnNines", fn := fun _ => fun
  | [d] => { results := [.lit (.bool true)], args := [d] }
  | _ => none }
def fnNinesRow : OpenClaim := { program := "ytojpnlipfbahdaa", sum := "67ed9b08d397abac3915d1dc85fd1c80d8ca6482ed90604a8f6d4473b7ce2885", func := "loop.example/differenceengine/laws.FnNines", spec := "fnNines", unfollowed := true, recurses := true, apart := false }
def FnNinesSaid : Prop := fnNinesRow.holds Try.pinned (OpenSpec.ofChange fnNinesSpec)

/-- ITS FALSE NEIGHBOUR: 'it returns false'. Refute it at one input. -/
def fnNinesWrong : ChangeSpec := { name := "fnNines", fn := fun _ => fun
  | [d] => { results := [.lit (.bool false)], args := [d] }
  | _ => none }
def FnNinesWrongFalsely : Prop := fnNinesRow.holds Try.pinned (OpenSpec.ofChange fnNinesWrong)

/-- 'laws.FnWrongNines': WHATEVER THE INPUT: true; the input reads as it did. -/
def fnWrongNinesSpec : ChangeSpec := { name := "fnWrongNines", fn := fun _ => fun
  | [d] => { results := [.lit (.bool true)], args := [d] }
  | _ => none }
def fnWrongNinesRow : OpenClaim := { program := "ytojpnlipfbahdaa", sum := "67ed9b08d397abac3915d1dc85fd1c80d8ca6482ed90604a8f6d4473b7ce2885", func := "loop.example/differenceengine/laws.FnWrongNines", spec := "fnWrongNines", unfollowed := true, recurses := true, apart := false }
def FnWrongNinesSaid : Prop := fnWrongNinesRow.holds Try.pinned (OpenSpec.ofChange fnWrongNinesSpec)

/-- ITS FALSE NEIGHBOUR: 'it returns false'. Refute it at one input. -/
def fnWrongNinesWrong : ChangeSpec := { name := "fnWrongNines", fn := fun _ => fun
  | [d] => { results := [.lit (.bool false)], args := [d] }
  | _ => none }
def FnWrongNinesWrongFalsely : Prop := fnWrongNinesRow.holds Try.pinned (OpenSpec.ofChange fnWrongNinesWrong)

/-- 'laws.FnExchange': WHATEVER THE INPUT: true; the input reads as it did. -/
def fnExchangeSpec : ChangeSpec := { name := "fnExchange", fn := fun _ => fun
  | [d] => { results := [.lit (.bool true)], args := [d] }
  | _ => none }
def fnExchangeRow : OpenClaim := { program := "ytojpnlipfbahdaa", sum := "67ed9b08d397abac3915d1dc85fd1c80d8ca6482ed90604a8f6d4473b7ce2885", func := "loop.example/differenceengine/laws.FnExchange", spec := "fnExchange", apart := false }
def FnExchangeSaid : Prop := fnExchangeRow.holds Try.pinned (OpenSpec.ofChange fnExchangeSpec)

/-- ITS FALSE NEIGHBOUR: 'it returns false'. Refute it at one input. -/
def fnExchangeWrong : ChangeSpec := { name := "fnExchange", fn := fun _ => fun
  | [d] => { results := [.lit (.bool false)], args := [d] }
  | _ => none }
def FnExchangeWrongFalsely : Prop := fnExchangeRow.holds Try.pinned (OpenSpec.ofChange fnExchangeWrong)

/-- 'laws.FnErrata': WHATEVER THE INPUT: true; the input reads as it did. -/
def fnErrataSpec : ChangeSpec := { name := "fnErrata", fn := fun _ => fun
  | [d] => { results := [.lit (.bool true)], args := [d] }
  | _ => none }
def fnErrataRow : OpenClaim := { program := "ytojpnlipfbahdaa", sum := "67ed9b08d397abac3915d1dc85fd1c80d8ca6482ed90604a8f6d4473b7ce2885", func := "loop.example/differenceengine/laws.FnErrata", spec := "fnErrata", unfollowed := true, recurses := true, apart := false }
def FnErrataSaid : Prop := fnErrataRow.holds Try.pinned (OpenSpec.ofChange fnErrataSpec)

/-- ITS FALSE NEIGHBOUR: 'it returns false'. Refute it at one input. -/
def fnErrataWrong : ChangeSpec := { name := "fnErrata", fn := fun _ => fun
  | [d] => { results := [.lit (.bool false)], args := [d] }
  | _ => none }
def FnErrataWrongFalsely : Prop := fnErrataRow.holds Try.pinned (OpenSpec.ofChange fnErrataWrong)

/-- 'laws.FnApplyErrata': WHATEVER THE INPUT: true; the input reads as it did. -/
def fnApplyErrataSpec : ChangeSpec := { name := "fnApplyErrata", fn := fun _ => fun
  | [d] => { results := [.lit (.bool true)], args := [d] }
  | _ => none }
def fnApplyErrataRow : OpenClaim := { program := "ytojpnlipfbahdaa", sum := "67ed9b08d397abac3915d1dc85fd1c80d8ca6482ed90604a8f6d4473b7ce2885", func := "loop.example/differenceengine/laws.FnApplyErrata", spec := "fnApplyErrata", unfollowed := true, recurses := true, apart := false }
def FnApplyErrataSaid : Prop := fnApplyErrataRow.holds Try.pinned (OpenSpec.ofChange fnApplyErrataSpec)

/-- ITS FALSE NEIGHBOUR: 'it returns false'. Refute it at one input. -/
def fnApplyErrataWrong : ChangeSpec := { name := "fnApplyErrata", fn := fun _ => fun
  | [d] => { results := [.lit (.bool false)], args := [d] }
  | _ => none }
def FnApplyErrataWrongFalsely : Prop := fnApplyErrataRow.holds Try.pinned (OpenSpec.ofChange fnApplyErrataWrong)

/- THE SECOND FORM. 'bulk': how many values and letters a reading holds, each counted each time it is reached (what is shared counts as often as it is met; a slice's spare places count too). A statement '..UptoSaid' is the law's where the arguments, and the package variables that the reading takes, are together of bulk at most 1048576: NARROWER than '..Said'. Prove '..Said' where nothing that the law and all that it calls make is longer than what came in: it says more and counts as full. Else prove '..UptoSaid'. A law counts once. -/
mutual
def uptoBulk {H : Type} : DataW H → Nat
  | .lit (.string bytes) => bytes.length + 1
  | .lit _ => 1
  | .nil => 1
  | .ptr d => uptoBulk d + 1
  | .slice elems spare => uptoBulkAll elems + uptoBulkAll spare + 1
  | .agg parts => uptoBulkAll parts + 1
  | .iface _ d => uptoBulk d + 1
  | .map entries => uptoBulkEntries entries + 1
  | .held _ => 1
def uptoBulkAll {H : Type} : List (DataW H) → Nat
  | [] => 0
  | d :: r => uptoBulk d + uptoBulkAll r
def uptoBulkEntries {H : Type} : List (Lit × DataW H) → Nat
  | [] => 0
  | x :: r => uptoBulkEntry x + uptoBulkEntries r
def uptoBulkEntry {H : Type} : Lit × DataW H → Nat
  | (.string bytes, d) => bytes.length + uptoBulk d + 1
  | (_, d) => uptoBulk d + 1
 end
def uptoSmall : (H : Type) → List (DataW H) → Bool := fun _ ds => decide (uptoBulkAll ds ≤ 1048576)
def OpenSpec.upto (s : _root_.Go.ChangeSpec) : _root_.Go.OpenSpec := { _root_.Go.OpenSpec.ofChange s with cond := some uptoSmall }

/-- 'laws.FnSlipEffect', WHERE WHAT IT READS IS OF BULK AT MOST 1048576: true; the input reads as it did. -/
def fnSlipEffectUptoRow : OpenClaim := { program := "ytojpnlipfbahdaa", sum := "67ed9b08d397abac3915d1dc85fd1c80d8ca6482ed90604a8f6d4473b7ce2885", func := "loop.example/differenceengine/laws.FnSlipEffect", spec := "fnSlipEffect", apart := false, narrowed := true }
def FnSlipEffectUptoSaid : Prop := fnSlipEffectUptoRow.holds Try.pinned (OpenSpec.upto fnSlipEffectSpec)

/-- 'laws.FnDiagnoseTrue', WHERE WHAT IT READS IS OF BULK AT MOST 1048576: true; the input reads as it did. -/
def fnDiagnoseTrueUptoRow : OpenClaim := { program := "ytojpnlipfbahdaa", sum := "67ed9b08d397abac3915d1dc85fd1c80d8ca6482ed90604a8f6d4473b7ce2885", func := "loop.example/differenceengine/laws.FnDiagnoseTrue", spec := "fnDiagnoseTrue", unfollowed := true, recurses := true, apart := false, narrowed := true }
def FnDiagnoseTrueUptoSaid : Prop := fnDiagnoseTrueUptoRow.holds Try.pinned (OpenSpec.upto fnDiagnoseTrueSpec)

/-- 'laws.FnDiagnoseFound', WHERE WHAT IT READS IS OF BULK AT MOST 1048576: true; the input reads as it did. -/
def fnDiagnoseFoundUptoRow : OpenClaim := { program := "ytojpnlipfbahdaa", sum := "67ed9b08d397abac3915d1dc85fd1c80d8ca6482ed90604a8f6d4473b7ce2885", func := "loop.example/differenceengine/laws.FnDiagnoseFound", spec := "fnDiagnoseFound", unfollowed := true, recurses := true, apart := false, narrowed := true }
def FnDiagnoseFoundUptoSaid : Prop := fnDiagnoseFoundUptoRow.holds Try.pinned (OpenSpec.upto fnDiagnoseFoundSpec)

/-- 'laws.FnNines', WHERE WHAT IT READS IS OF BULK AT MOST 1048576: true; the input reads as it did. -/
def fnNinesUptoRow : OpenClaim := { program := "ytojpnlipfbahdaa", sum := "67ed9b08d397abac3915d1dc85fd1c80d8ca6482ed90604a8f6d4473b7ce2885", func := "loop.example/differenceengine/laws.FnNines", spec := "fnNines", unfollowed := true, recurses := true, apart := false, narrowed := true }
def FnNinesUptoSaid : Prop := fnNinesUptoRow.holds Try.pinned (OpenSpec.upto fnNinesSpec)

/-- 'laws.FnWrongNines', WHERE WHAT IT READS IS OF BULK AT MOST 1048576: true; the input reads as it did. -/
def fnWrongNinesUptoRow : OpenClaim := { program := "ytojpnlipfbahdaa", sum := "67ed9b08d397abac3915d1dc85fd1c80d8ca6482ed90604a8f6d4473b7ce2885", func := "loop.example/differenceengine/laws.FnWrongNines", spec := "fnWrongNines", unfollowed := true, recurses := true, apart := false, narrowed := true }
def FnWrongNinesUptoSaid : Prop := fnWrongNinesUptoRow.holds Try.pinned (OpenSpec.upto fnWrongNinesSpec)

/-- 'laws.FnExchange', WHERE WHAT IT READS IS OF BULK AT MOST 1048576: true; the input reads as it did. -/
def fnExchangeUptoRow : OpenClaim := { program := "ytojpnlipfbahdaa", sum := "67ed9b08d397abac3915d1dc85fd1c80d8ca6482ed90604a8f6d4473b7ce2885", func := "loop.example/differenceengine/laws.FnExchange", spec := "fnExchange", apart := false, narrowed := true }
def FnExchangeUptoSaid : Prop := fnExchangeUptoRow.holds Try.pinned (OpenSpec.upto fnExchangeSpec)

/-- 'laws.FnErrata', WHERE WHAT IT READS IS OF BULK AT MOST 1048576: true; the input reads as it did. -/
def fnErrataUptoRow : OpenClaim := { program := "ytojpnlipfbahdaa", sum := "67ed9b08d397abac3915d1dc85fd1c80d8ca6482ed90604a8f6d4473b7ce2885", func := "loop.example/differenceengine/laws.FnErrata", spec := "fnErrata", unfollowed := true, recurses := true, apart := false, narrowed := true }
def FnErrataUptoSaid : Prop := fnErrataUptoRow.holds Try.pinned (OpenSpec.upto fnErrataSpec)

/-- 'laws.FnApplyErrata', WHERE WHAT IT READS IS OF BULK AT MOST 1048576: true; the input reads as it did. -/
def fnApplyErrataUptoRow : OpenClaim := { program := "ytojpnlipfbahdaa", sum := "67ed9b08d397abac3915d1dc85fd1c80d8ca6482ed90604a8f6d4473b7ce2885", func := "loop.example/differenceengine/laws.FnApplyErrata", spec := "fnApplyErrata", unfollowed := true, recurses := true, apart := false, narrowed := true }
def FnApplyErrataUptoSaid : Prop := fnApplyErrataUptoRow.holds Try.pinned (OpenSpec.upto fnApplyErrataSpec)

end Rows
end Go.Proofs.Ytojpnlipfbahdaa
