/-
  No cell of these rows narrows 'for every input' (looked for: loops, veiled, ifaces, maps, wideKeys, modest, calm, conditions, laid).
  DERIVED. THE GIVEN ROWS OF THIS SEAT. 8 by the template 'for every input the law returns true; each argument reads behind the call as it read before'; 0 by the template 'total and deterministic' (their statements: YtpfneddcefcokaaTotals.lean).
  GIVEN WITH THE SEED: the statements are not yours to turn. If you find one false, say at which input.
  Laid BY PROGRAM, IN A SANDBOX (cutbox-rows.mjs): the forced cells as the released guide's own fill.sh prints them over the translation 3a29afee26d31937… (all of the seat's roots in one cut). By AI agents, Wed Nov 11 2026. No macro, syntax, notation, axiom, sorry.
-/
import Derived.Test.YtpfneddcefcokaaChecked
import GoSem.Claim
import GoSem.ClaimJoined
import GoSem.ClaimMapViews
import Derived.JoinedTies
import Derived.KernelRfl
namespace Go.Proofs.Ytpfneddcefcokaa
/- THE CELL 'sum', in the pinned program and in every row, IS THE sha256 OF THE DUMP (.gsa) THAT YtpfneddcefcokaaProg.lean LOADS. Nothing in Lean hashes anything: it is a label: what it is worth is what the hold of that sum in a sandbox is worth. -/
noncomputable def Try.pinned : Pinned := { name := "ytpfneddcefcokaa", sum := "3a29afee26d31937adc26a193e09804b9928b2cf2130ee2f637f29a3a31e707c", checked := Try.checked }
namespace Rows
def none {H : Type} : Left H := { results := [], args := [] }

/-- 'laws.FnExactValuesOf': WHATEVER THE INPUT: true; the input reads as it did. -/
def fnExactValuesOfSpec : ChangeSpec := { name := "fnExactValuesOf", fn := fun _ => fun
  | [d1, d2, d3] => { results := [.lit (.bool true)], args := [d1, d2, d3] }
  | _ => none }
def fnExactValuesOfRow : OpenClaim := { program := "ytpfneddcefcokaa", sum := "3a29afee26d31937adc26a193e09804b9928b2cf2130ee2f637f29a3a31e707c", func := "loop.example/differenceengine/laws.FnExactValuesOf", spec := "fnExactValuesOf", unfollowed := true, recurses := true, apart := false }
def FnExactValuesOfSaid : Prop := fnExactValuesOfRow.holds Try.pinned (OpenSpec.ofChange fnExactValuesOfSpec)

/-- ITS FALSE NEIGHBOUR: 'it returns false'. Refute it at one input. -/
def fnExactValuesOfWrong : ChangeSpec := { name := "fnExactValuesOf", fn := fun _ => fun
  | [d1, d2, d3] => { results := [.lit (.bool false)], args := [d1, d2, d3] }
  | _ => none }
def FnExactValuesOfWrongFalsely : Prop := fnExactValuesOfRow.holds Try.pinned (OpenSpec.ofChange fnExactValuesOfWrong)

/-- 'laws.FnExactShiftPoly': WHATEVER THE INPUT: true; the input reads as it did. -/
def fnExactShiftPolySpec : ChangeSpec := { name := "fnExactShiftPoly", fn := fun _ => fun
  | [d1, d2] => { results := [.lit (.bool true)], args := [d1, d2] }
  | _ => none }
def fnExactShiftPolyRow : OpenClaim := { program := "ytpfneddcefcokaa", sum := "3a29afee26d31937adc26a193e09804b9928b2cf2130ee2f637f29a3a31e707c", func := "loop.example/differenceengine/laws.FnExactShiftPoly", spec := "fnExactShiftPoly", unfollowed := true, recurses := true, apart := false }
def FnExactShiftPolySaid : Prop := fnExactShiftPolyRow.holds Try.pinned (OpenSpec.ofChange fnExactShiftPolySpec)

/-- ITS FALSE NEIGHBOUR: 'it returns false'. Refute it at one input. -/
def fnExactShiftPolyWrong : ChangeSpec := { name := "fnExactShiftPoly", fn := fun _ => fun
  | [d1, d2] => { results := [.lit (.bool false)], args := [d1, d2] }
  | _ => none }
def FnExactShiftPolyWrongFalsely : Prop := fnExactShiftPolyRow.holds Try.pinned (OpenSpec.ofChange fnExactShiftPolyWrong)

/-- 'laws.FnExactAddPolys': WHATEVER THE INPUT: true; the input reads as it did. -/
def fnExactAddPolysSpec : ChangeSpec := { name := "fnExactAddPolys", fn := fun _ => fun
  | [d1, d2] => { results := [.lit (.bool true)], args := [d1, d2] }
  | _ => none }
def fnExactAddPolysRow : OpenClaim := { program := "ytpfneddcefcokaa", sum := "3a29afee26d31937adc26a193e09804b9928b2cf2130ee2f637f29a3a31e707c", func := "loop.example/differenceengine/laws.FnExactAddPolys", spec := "fnExactAddPolys", unfollowed := true, recurses := true, apart := false }
def FnExactAddPolysSaid : Prop := fnExactAddPolysRow.holds Try.pinned (OpenSpec.ofChange fnExactAddPolysSpec)

/-- ITS FALSE NEIGHBOUR: 'it returns false'. Refute it at one input. -/
def fnExactAddPolysWrong : ChangeSpec := { name := "fnExactAddPolys", fn := fun _ => fun
  | [d1, d2] => { results := [.lit (.bool false)], args := [d1, d2] }
  | _ => none }
def FnExactAddPolysWrongFalsely : Prop := fnExactAddPolysRow.holds Try.pinned (OpenSpec.ofChange fnExactAddPolysWrong)

/-- 'laws.FnExactScalePoly': WHATEVER THE INPUT: true; the input reads as it did. -/
def fnExactScalePolySpec : ChangeSpec := { name := "fnExactScalePoly", fn := fun _ => fun
  | [d1, d2] => { results := [.lit (.bool true)], args := [d1, d2] }
  | _ => none }
def fnExactScalePolyRow : OpenClaim := { program := "ytpfneddcefcokaa", sum := "3a29afee26d31937adc26a193e09804b9928b2cf2130ee2f637f29a3a31e707c", func := "loop.example/differenceengine/laws.FnExactScalePoly", spec := "fnExactScalePoly", unfollowed := true, recurses := true, apart := false }
def FnExactScalePolySaid : Prop := fnExactScalePolyRow.holds Try.pinned (OpenSpec.ofChange fnExactScalePolySpec)

/-- ITS FALSE NEIGHBOUR: 'it returns false'. Refute it at one input. -/
def fnExactScalePolyWrong : ChangeSpec := { name := "fnExactScalePoly", fn := fun _ => fun
  | [d1, d2] => { results := [.lit (.bool false)], args := [d1, d2] }
  | _ => none }
def FnExactScalePolyWrongFalsely : Prop := fnExactScalePolyRow.holds Try.pinned (OpenSpec.ofChange fnExactScalePolyWrong)

/-- 'laws.FnExactMulPolys': WHATEVER THE INPUT: true; the input reads as it did. -/
def fnExactMulPolysSpec : ChangeSpec := { name := "fnExactMulPolys", fn := fun _ => fun
  | [d1, d2] => { results := [.lit (.bool true)], args := [d1, d2] }
  | _ => none }
def fnExactMulPolysRow : OpenClaim := { program := "ytpfneddcefcokaa", sum := "3a29afee26d31937adc26a193e09804b9928b2cf2130ee2f637f29a3a31e707c", func := "loop.example/differenceengine/laws.FnExactMulPolys", spec := "fnExactMulPolys", unfollowed := true, recurses := true, apart := false }
def FnExactMulPolysSaid : Prop := fnExactMulPolysRow.holds Try.pinned (OpenSpec.ofChange fnExactMulPolysSpec)

/-- ITS FALSE NEIGHBOUR: 'it returns false'. Refute it at one input. -/
def fnExactMulPolysWrong : ChangeSpec := { name := "fnExactMulPolys", fn := fun _ => fun
  | [d1, d2] => { results := [.lit (.bool false)], args := [d1, d2] }
  | _ => none }
def FnExactMulPolysWrongFalsely : Prop := fnExactMulPolysRow.holds Try.pinned (OpenSpec.ofChange fnExactMulPolysWrong)

/-- 'laws.FnExactStepPoly': WHATEVER THE INPUT: true; the input reads as it did. -/
def fnExactStepPolySpec : ChangeSpec := { name := "fnExactStepPoly", fn := fun _ => fun
  | [d1, d2] => { results := [.lit (.bool true)], args := [d1, d2] }
  | _ => none }
def fnExactStepPolyRow : OpenClaim := { program := "ytpfneddcefcokaa", sum := "3a29afee26d31937adc26a193e09804b9928b2cf2130ee2f637f29a3a31e707c", func := "loop.example/differenceengine/laws.FnExactStepPoly", spec := "fnExactStepPoly", unfollowed := true, recurses := true, apart := false }
def FnExactStepPolySaid : Prop := fnExactStepPolyRow.holds Try.pinned (OpenSpec.ofChange fnExactStepPolySpec)

/-- ITS FALSE NEIGHBOUR: 'it returns false'. Refute it at one input. -/
def fnExactStepPolyWrong : ChangeSpec := { name := "fnExactStepPoly", fn := fun _ => fun
  | [d1, d2] => { results := [.lit (.bool false)], args := [d1, d2] }
  | _ => none }
def FnExactStepPolyWrongFalsely : Prop := fnExactStepPolyRow.holds Try.pinned (OpenSpec.ofChange fnExactStepPolyWrong)

/-- 'laws.FnExactTurnPoly': WHATEVER THE INPUT: true; the input reads as it did. -/
def fnExactTurnPolySpec : ChangeSpec := { name := "fnExactTurnPoly", fn := fun _ => fun
  | [d] => { results := [.lit (.bool true)], args := [d] }
  | _ => none }
def fnExactTurnPolyRow : OpenClaim := { program := "ytpfneddcefcokaa", sum := "3a29afee26d31937adc26a193e09804b9928b2cf2130ee2f637f29a3a31e707c", func := "loop.example/differenceengine/laws.FnExactTurnPoly", spec := "fnExactTurnPoly", unfollowed := true, recurses := true, apart := false }
def FnExactTurnPolySaid : Prop := fnExactTurnPolyRow.holds Try.pinned (OpenSpec.ofChange fnExactTurnPolySpec)

/-- ITS FALSE NEIGHBOUR: 'it returns false'. Refute it at one input. -/
def fnExactTurnPolyWrong : ChangeSpec := { name := "fnExactTurnPoly", fn := fun _ => fun
  | [d] => { results := [.lit (.bool false)], args := [d] }
  | _ => none }
def FnExactTurnPolyWrongFalsely : Prop := fnExactTurnPolyRow.holds Try.pinned (OpenSpec.ofChange fnExactTurnPolyWrong)

/-- 'laws.FnExactFromPowers': WHATEVER THE INPUT: true; the input reads as it did. -/
def fnExactFromPowersSpec : ChangeSpec := { name := "fnExactFromPowers", fn := fun _ => fun
  | [d] => { results := [.lit (.bool true)], args := [d] }
  | _ => none }
def fnExactFromPowersRow : OpenClaim := { program := "ytpfneddcefcokaa", sum := "3a29afee26d31937adc26a193e09804b9928b2cf2130ee2f637f29a3a31e707c", func := "loop.example/differenceengine/laws.FnExactFromPowers", spec := "fnExactFromPowers", unfollowed := true, recurses := true, apart := false }
def FnExactFromPowersSaid : Prop := fnExactFromPowersRow.holds Try.pinned (OpenSpec.ofChange fnExactFromPowersSpec)

/-- ITS FALSE NEIGHBOUR: 'it returns false'. Refute it at one input. -/
def fnExactFromPowersWrong : ChangeSpec := { name := "fnExactFromPowers", fn := fun _ => fun
  | [d] => { results := [.lit (.bool false)], args := [d] }
  | _ => none }
def FnExactFromPowersWrongFalsely : Prop := fnExactFromPowersRow.holds Try.pinned (OpenSpec.ofChange fnExactFromPowersWrong)

/- THE SECOND FORM. 'bulk': how many values and letters a reading holds, each counted each time it is reached (what is shared counts as often as it is met; a slice's spare places count too). A statement '..UptoSaid' is the law's where the arguments, and the package variables that the reading takes, are together of bulk at most 1048576: NARROWER than '..Said'. Prove '..Said' where nothing that the law and all that it calls make is longer than what came in: it says more and counts as full. Else prove '..UptoSaid'. A law counts once. -/
mutual
def uptoBulk {H : Type} : DataW H → Nat
  | .lit (.string bytes) => bytes.length + 1
  | .lit _ => 1
  | .nil => 1
  | .ptr d => uptoBulk d + 1
  | .slice elems spare => uptoBulkAll elems + uptoBulkAll spare + 1
  | .agg parts => uptoBulkAll parts + 1
  | .iface _ d => uptoBulk d + 1
  | .map entries => uptoBulkEntries entries + 1
  | .held _ => 1
def uptoBulkAll {H : Type} : List (DataW H) → Nat
  | [] => 0
  | d :: r => uptoBulk d + uptoBulkAll r
def uptoBulkEntries {H : Type} : List (Lit × DataW H) → Nat
  | [] => 0
  | x :: r => uptoBulkEntry x + uptoBulkEntries r
def uptoBulkEntry {H : Type} : Lit × DataW H → Nat
  | (.string bytes, d) => bytes.length + uptoBulk d + 1
  | (_, d) => uptoBulk d + 1
 end
def uptoSmall : (H : Type) → List (DataW H) → Bool := fun _ ds => decide (uptoBulkAll ds ≤ 1048576)
def OpenSpec.upto (s : _root_.Go.ChangeSpec) : _root_.Go.OpenSpec := { _root_.Go.OpenSpec.ofChange s with cond := some uptoSmall }

/-- 'laws.FnExactValuesOf', WHERE WHAT IT READS IS OF BULK AT MOST 1048576: true; the input reads as it did. -/
def fnExactValuesOfUptoRow : OpenClaim := { program := "ytpfneddcefcokaa", sum := "3a29afee26d31937adc26a193e09804b9928b2cf2130ee2f637f29a3a31e707c", func := "loop.example/differenceengine/laws.FnExactValuesOf", spec := "fnExactValuesOf", unfollowed := true, recurses := true, apart := false, narrowed := true }
def FnExactValuesOfUptoSaid : Prop := fnExactValuesOfUptoRow.holds Try.pinned (OpenSpec.upto fnExactValuesOfSpec)

/-- 'laws.FnExactShiftPoly', WHERE WHAT IT READS IS OF BULK AT MOST 1048576: true; the input reads as it did. -/
def fnExactShiftPolyUptoRow : OpenClaim := { program := "ytpfneddcefcokaa", sum := "3a29afee26d31937adc26a193e09804b9928b2cf2130ee2f637f29a3a31e707c", func := "loop.example/differenceengine/laws.FnExactShiftPoly", spec := "fnExactShiftPoly", unfollowed := true, recurses := true, apart := false, narrowed := true }
def FnExactShiftPolyUptoSaid : Prop := fnExactShiftPolyUptoRow.holds Try.pinned (OpenSpec.upto fnExactShiftPolySpec)

/-- 'laws.FnExactAddPolys', WHERE WHAT IT READS IS OF BULK AT MOST 1048576: true; the input reads as it did. -/
def fnExactAddPolysUptoRow : OpenClaim := { program := "ytpfneddcefcokaa", sum := "3a29afee26d31937adc26a193e09804b9928b2cf2130ee2f637f29a3a31e707c", func := "loop.example/differenceengine/laws.FnExactAddPolys", spec := "fnExactAddPolys", unfollowed := true, recurses := true, apart := false, narrowed := true }
def FnExactAddPolysUptoSaid : Prop := fnExactAddPolysUptoRow.holds Try.pinned (OpenSpec.upto fnExactAddPolysSpec)

/-- 'laws.FnExactScalePoly', WHERE WHAT IT READS IS OF BULK AT MOST 1048576: true; the input reads as it did. -/
def fnExactScalePolyUptoRow : OpenClaim := { program := "ytpfneddcefcokaa", sum := "3a29afee26d31937adc26a193e09804b9928b2cf2130ee2f637f29a3a31e707c", func := "loop.example/differenceengine/laws.FnExactScalePoly", spec := "fnExactScalePoly", unfollowed := true, recurses := true, apart := false, narrowed := true }
def FnExactScalePolyUptoSaid : Prop := fnExactScalePolyUptoRow.holds Try.pinned (OpenSpec.upto fnExactScalePolySpec)

/-- 'laws.FnExactMulPolys', WHERE WHAT IT READS IS OF BULK AT MOST 1048576: true; the input reads as it did. -/
def fnExactMulPolysUptoRow : OpenClaim := { program := "ytpfneddcefcokaa", sum := "3a29afee26d31937adc26a193e09804b9928b2cf2130ee2f637f29a3a31e707c", func := "loop.example/differenceengine/laws.FnExactMulPolys", spec := "fnExactMulPolys", unfollowed := true, recurses := true, apart := false, narrowed := true }
def FnExactMulPolysUptoSaid : Prop := fnExactMulPolysUptoRow.holds Try.pinned (OpenSpec.upto fnExactMulPolysSpec)

/-- 'laws.FnExactStepPoly', WHERE WHAT IT READS IS OF BULK AT MOST 1048576: true; the input reads as it did. -/
def fnExactStepPolyUptoRow : OpenClaim := { program := "ytpfneddcefcokaa", sum := "3a29afee26d31937adc26a193e09804b9928b2cf2130ee2f637f29a3a31e707c", func := "loop.example/differenceengine/laws.FnExactStepPoly", spec := "fnExactStepPoly", unfollowed := true, recurses := true, apart := false, narrowed := true }
def FnExactStepPolyUptoSaid : Prop := fnExactStepPolyUptoRow.holds Try.pinned (OpenSpec.upto fnExactStepPolySpec)

/-- 'laws.FnExactTurnPoly', WHERE WHAT IT READS IS OF BULK AT MOST 1048576: true; the input reads as it did. -/
def fnExactTurnPolyUptoRow : OpenClaim := { program := "ytpfneddcefcokaa", sum := "3a29afee26d31937adc26a193e09804b9928b2cf2130ee2f637f29a3a31e707c", func := "loop.example/differenceengine/laws.FnExactTurnPoly", spec := "fnExactTurnPoly", unfollowed := true, recurses := true, apart := false, narrowed := true }
def FnExactTurnPolyUptoSaid : Prop := fnExactTurnPolyUptoRow.holds Try.pinned (OpenSpec.upto fnExactTurnPolySpec)

/-- 'laws.FnExactFromPowers', WHERE WHAT IT READS IS OF BULK AT MOST 1048576: true; the input reads as it did. -/
def fnExactFromPowersUptoRow : OpenClaim := { program := "ytpfneddcefcokaa", sum := "3a29afee26d31937adc26a193e09804b9928b2cf2130ee2f637f29a3a31e707c", func := "loop.example/differenceengine/laws.FnExactFromPowers", spec := "fnExactFromPowers", unfollowed := true, recurses := true, apart := false, narrowed := true }
def FnExactFromPowersUptoSaid : Prop := fnExactFromPowersUptoRow.holds Try.pinned (OpenSpec.upto fnExactFromPowersSpec)

end Rows
end Go.Proofs.Ytpfneddcefcokaa
