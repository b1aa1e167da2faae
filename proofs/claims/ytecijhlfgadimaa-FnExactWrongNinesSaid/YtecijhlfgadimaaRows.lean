/-
  No cell of these rows narrows 'for every input' (looked for: loops, veiled, ifaces, maps, wideKeys, modest, calm, conditions, laid).
  DERIVED. THE GIVEN ROWS OF THIS SEAT. 8 by the template 'for every input the law returns true; each argument reads behind the call as it read before'; 0 by the template 'total and deterministic' (their statements: YtecijhlfgadimaaTotals.lean).
  GIVEN WITH THE SEED: the statements are not yours to turn. If you find one false, say at which input.
  Laid BY PROGRAM, IN A SANDBOX (cutbox-rows.mjs): the forced cells as the released guide's own fill.sh prints them over the translation 5eff2c518c8cd2bc… (all of the seat's roots in one cut). By AI agents, Wed Nov 11 2026. No macro, syntax, notation, axiom, sorry.
-/
import Derived.Test.YtecijhlfgadimaaChecked
import GoSem.Claim
import GoSem.ClaimJoined
import GoSem.ClaimMapViews
import Derived.JoinedTies
import Derived.KernelRfl
namespace Go.Proofs.Ytecijhlfgadimaa
/- THE CELL 'sum', in the pinned program and in every row, IS THE sha256 OF THE DUMP (.gsa) THAT YtecijhlfgadimaaProg.lean LOADS. Nothing in Lean hashes anything: it is a label: what it is worth is what the hold of that sum in a sandbox is worth. -/
noncomputable def Try.pinned : Pinned := { name := "ytecijhlfgadimaa", sum := "5eff2c518c8cd2bc6578547190a742ef63aacd0357b9d6fddb44a648cf23f480", checked := Try.checked }
namespace Rows
def none {H : Type} : Left H := { results := [], args := [] }

/-- 'laws.FnExactCleanTable': WHATEVER THE INPUT: true; the input reads as it did. -/
def fnExactCleanTableSpec : ChangeSpec := { name := "fnExactCleanTable", fn := fun _ => fun
  | [d1, d2] => { results := [.lit (.bool true)], args := [d1, d2] }
  | _ => none }
def fnExactCleanTableRow : OpenClaim := { program := "ytecijhlfgadimaa", sum := "5eff2c518c8cd2bc6578547190a742ef63aacd0357b9d6fddb44a648cf23f480", func := "loop.example/differenceengine/laws.FnExactCleanTable", spec := "fnExactCleanTable", unfollowed := true, recurses := true, apart := false }
def FnExactCleanTableSaid : Prop := fnExactCleanTableRow.holds Try.pinned (OpenSpec.ofChange fnExactCleanTableSpec)

/-- ITS FALSE NEIGHBOUR: 'it returns false'. Refute it at one input. -/
def fnExactCleanTableWrong : ChangeSpec := { name := "fnExactCleanTable", fn := fun _ => fun
  | [d1, d2] => { results := [.lit (.bool false)], args := [d1, d2] }
  | _ => none }
def FnExactCleanTableWrongFalsely : Prop := fnExactCleanTableRow.holds Try.pinned (OpenSpec.ofChange fnExactCleanTableWrong)

/-- 'laws.FnExactErrorPattern': WHATEVER THE INPUT: true; the input reads as it did. -/
def fnExactErrorPatternSpec : ChangeSpec := { name := "fnExactErrorPattern", fn := fun _ => fun
  | [d1, d2] => { results := [.lit (.bool true)], args := [d1, d2] }
  | _ => none }
def fnExactErrorPatternRow : OpenClaim := { program := "ytecijhlfgadimaa", sum := "5eff2c518c8cd2bc6578547190a742ef63aacd0357b9d6fddb44a648cf23f480", func := "loop.example/differenceengine/laws.FnExactErrorPattern", spec := "fnExactErrorPattern", apart := false }
def FnExactErrorPatternSaid : Prop := fnExactErrorPatternRow.holds Try.pinned (OpenSpec.ofChange fnExactErrorPatternSpec)

/-- ITS FALSE NEIGHBOUR: 'it returns false'. Refute it at one input. -/
def fnExactErrorPatternWrong : ChangeSpec := { name := "fnExactErrorPattern", fn := fun _ => fun
  | [d1, d2] => { results := [.lit (.bool false)], args := [d1, d2] }
  | _ => none }
def FnExactErrorPatternWrongFalsely : Prop := fnExactErrorPatternRow.holds Try.pinned (OpenSpec.ofChange fnExactErrorPatternWrong)

/-- 'laws.FnExactPutError': WHATEVER THE INPUT: true; the input reads as it did. -/
def fnExactPutErrorSpec : ChangeSpec := { name := "fnExactPutError", fn := fun _ => fun
  | [d1, d2, d3] => { results := [.lit (.bool true)], args := [d1, d2, d3] }
  | _ => none }
def fnExactPutErrorRow : OpenClaim := { program := "ytecijhlfgadimaa", sum := "5eff2c518c8cd2bc6578547190a742ef63aacd0357b9d6fddb44a648cf23f480", func := "loop.example/differenceengine/laws.FnExactPutError", spec := "fnExactPutError", unfollowed := true, recurses := true, apart := false }
def FnExactPutErrorSaid : Prop := fnExactPutErrorRow.holds Try.pinned (OpenSpec.ofChange fnExactPutErrorSpec)

/-- ITS FALSE NEIGHBOUR: 'it returns false'. Refute it at one input. -/
def fnExactPutErrorWrong : ChangeSpec := { name := "fnExactPutError", fn := fun _ => fun
  | [d1, d2, d3] => { results := [.lit (.bool false)], args := [d1, d2, d3] }
  | _ => none }
def FnExactPutErrorWrongFalsely : Prop := fnExactPutErrorRow.holds Try.pinned (OpenSpec.ofChange fnExactPutErrorWrong)

/-- 'laws.FnExactSlipEffect': WHATEVER THE INPUT: true; the input reads as it did. -/
def fnExactSlipEffectSpec : ChangeSpec := { name := "fnExactSlipEffect", fn := fun _ => fun
  | [d1, d2, d3, d4] => { results := [.lit (.bool true)], args := [d1, d2, d3, d4] }
  | _ => none }
def fnExactSlipEffectRow : OpenClaim := { program := "ytecijhlfgadimaa", sum := "5eff2c518c8cd2bc6578547190a742ef63aacd0357b9d6fddb44a648cf23f480", func := "loop.example/differenceengine/laws.FnExactSlipEffect", spec := "fnExactSlipEffect", apart := false }
def FnExactSlipEffectSaid : Prop := fnExactSlipEffectRow.holds Try.pinned (OpenSpec.ofChange fnExactSlipEffectSpec)

/-- ITS FALSE NEIGHBOUR: 'it returns false'. Refute it at one input. -/
def fnExactSlipEffectWrong : ChangeSpec := { name := "fnExactSlipEffect", fn := fun _ => fun
  | [d1, d2, d3, d4] => { results := [.lit (.bool false)], args := [d1, d2, d3, d4] }
  | _ => none }
def FnExactSlipEffectWrongFalsely : Prop := fnExactSlipEffectRow.holds Try.pinned (OpenSpec.ofChange fnExactSlipEffectWrong)

/-- 'laws.FnExactDiagnoseSlip': WHATEVER THE INPUT: true; the input reads as it did. -/
def fnExactDiagnoseSlipSpec : ChangeSpec := { name := "fnExactDiagnoseSlip", fn := fun _ => fun
  | [d1, d2] => { results := [.lit (.bool true)], args := [d1, d2] }
  | _ => none }
def fnExactDiagnoseSlipRow : OpenClaim := { program := "ytecijhlfgadimaa", sum := "5eff2c518c8cd2bc6578547190a742ef63aacd0357b9d6fddb44a648cf23f480", func := "loop.example/differenceengine/laws.FnExactDiagnoseSlip", spec := "fnExactDiagnoseSlip", unfollowed := true, recurses := true, apart := false }
def FnExactDiagnoseSlipSaid : Prop := fnExactDiagnoseSlipRow.holds Try.pinned (OpenSpec.ofChange fnExactDiagnoseSlipSpec)

/-- ITS FALSE NEIGHBOUR: 'it returns false'. Refute it at one input. -/
def fnExactDiagnoseSlipWrong : ChangeSpec := { name := "fnExactDiagnoseSlip", fn := fun _ => fun
  | [d1, d2] => { results := [.lit (.bool false)], args := [d1, d2] }
  | _ => none }
def FnExactDiagnoseSlipWrongFalsely : Prop := fnExactDiagnoseSlipRow.holds Try.pinned (OpenSpec.ofChange fnExactDiagnoseSlipWrong)

/-- 'laws.FnExactNinesOf': WHATEVER THE INPUT: true; the input reads as it did. -/
def fnExactNinesOfSpec : ChangeSpec := { name := "fnExactNinesOf", fn := fun _ => fun
  | [d] => { results := [.lit (.bool true)], args := [d] }
  | _ => none }
def fnExactNinesOfRow : OpenClaim := { program := "ytecijhlfgadimaa", sum := "5eff2c518c8cd2bc6578547190a742ef63aacd0357b9d6fddb44a648cf23f480", func := "loop.example/differenceengine/laws.FnExactNinesOf", spec := "fnExactNinesOf", unfollowed := true, recurses := true, apart := false }
def FnExactNinesOfSaid : Prop := fnExactNinesOfRow.holds Try.pinned (OpenSpec.ofChange fnExactNinesOfSpec)

/-- ITS FALSE NEIGHBOUR: 'it returns false'. Refute it at one input. -/
def fnExactNinesOfWrong : ChangeSpec := { name := "fnExactNinesOf", fn := fun _ => fun
  | [d] => { results := [.lit (.bool false)], args := [d] }
  | _ => none }
def FnExactNinesOfWrongFalsely : Prop := fnExactNinesOfRow.holds Try.pinned (OpenSpec.ofChange fnExactNinesOfWrong)

/-- 'laws.FnExactElevensOf': WHATEVER THE INPUT: true; the input reads as it did. -/
def fnExactElevensOfSpec : ChangeSpec := { name := "fnExactElevensOf", fn := fun _ => fun
  | [d] => { results := [.lit (.bool true)], args := [d] }
  | _ => none }
def fnExactElevensOfRow : OpenClaim := { program := "ytecijhlfgadimaa", sum := "5eff2c518c8cd2bc6578547190a742ef63aacd0357b9d6fddb44a648cf23f480", func := "loop.example/differenceengine/laws.FnExactElevensOf", spec := "fnExactElevensOf", unfollowed := true, recurses := true, apart := false }
def FnExactElevensOfSaid : Prop := fnExactElevensOfRow.holds Try.pinned (OpenSpec.ofChange fnExactElevensOfSpec)

/-- ITS FALSE NEIGHBOUR: 'it returns false'. Refute it at one input. -/
def fnExactElevensOfWrong : ChangeSpec := { name := "fnExactElevensOf", fn := fun _ => fun
  | [d] => { results := [.lit (.bool false)], args := [d] }
  | _ => none }
def FnExactElevensOfWrongFalsely : Prop := fnExactElevensOfRow.holds Try.pinned (OpenSpec.ofChange fnExactElevensOfWrong)

/-- 'laws.FnExactWrongNines': WHATEVER THE INPUT: true; the input reads as it did. -/
def fnExactWrongNinesSpec : ChangeSpec := { name := "fnExactWrongNines", fn := fun _ => fun
  | [d1, d2] => { results := [.lit (.bool true)], args := [d1, d2] }
  | _ => none }
def fnExactWrongNinesRow : OpenClaim := { program := "ytecijhlfgadimaa", sum := "5eff2c518c8cd2bc6578547190a742ef63aacd0357b9d6fddb44a648cf23f480", func := "loop.example/differenceengine/laws.FnExactWrongNines", spec := "fnExactWrongNines", unfollowed := true, recurses := true, apart := false }
def FnExactWrongNinesSaid : Prop := fnExactWrongNinesRow.holds Try.pinned (OpenSpec.ofChange fnExactWrongNinesSpec)

/-- ITS FALSE NEIGHBOUR: 'it returns false'. Refute it at one input. -/
def fnExactWrongNinesWrong : ChangeSpec := { name := "fnExactWrongNines", fn := fun _ => fun
  | [d1, d2] => { results := [.lit (.bool false)], args := [d1, d2] }
  | _ => none }
def FnExactWrongNinesWrongFalsely : Prop := fnExactWrongNinesRow.holds Try.pinned (OpenSpec.ofChange fnExactWrongNinesWrong)

/- THE SECOND FORM. 'bulk': how many values and letters a reading holds, each counted each time it is reached (what is shared counts as often as it is met; a slice's spare places count too). A statement '..UptoSaid' is the law's where the arguments, and the package variables that the reading takes, are together of bulk at most 1048576: NARROWER than '..Said'. Prove '..Said' where nothing that the law and all that it calls make is longer than what came in: it says more and counts as full. Else prove '..UptoSaid'. A law counts once. -/
mutual
def uptoBulk {H : Type} : DataW H → Nat
  | .lit (.string bytes) => bytes.length + 1
  | .lit _ => 1
  | .nil => 1
  | .ptr d => uptoBulk d + 1
  | .slice elems spare => uptoBulkAll elems + uptoBulkAll spare + 1
  | .agg parts => uptoBulkAll parts + 1
  | .iface _ d => uptoBulk d + 1
  | .map entries => uptoBulkEntries entries + 1
  | .held _ => 1
def uptoBulkAll {H : Type} : List (DataW H) → Nat
  | [] => 0
  | d :: r => uptoBulk d + uptoBulkAll r
def uptoBulkEntries {H : Type} : List (Lit × DataW H) → Nat
  | [] => 0
  | x :: r => uptoBulkEntry x + uptoBulkEntries r
def uptoBulkEntry {H : Type} : Lit × DataW H → Nat
  | (.string bytes, d) => bytes.length + uptoBulk d + 1
  | (_, d) => uptoBulk d + 1
 end
def uptoSmall : (H : Type) → List (DataW H) → Bool := fun _ ds => decide (uptoBulkAll ds ≤ 1048576)
def OpenSpec.upto (s : _root_.Go.ChangeSpec) : _root_.Go.OpenSpec := { _root_.Go.OpenSpec.ofChange s with cond := some uptoSmall }

/-- 'laws.FnExactCleanTable', WHERE WHAT IT READS IS OF BULK AT MOST 1048576: true; the input reads as it did. -/
def fnExactCleanTableUptoRow : OpenClaim := { program := "ytecijhlfgadimaa", sum := "5eff2c518c8cd2bc6578547190a742ef63aacd0357b9d6fddb44a648cf23f480", func := "loop.example/differenceengine/laws.FnExactCleanTable", spec := "fnExactCleanTable", unfollowed := true, recurses := true, apart := false, narrowed := true }
def FnExactCleanTableUptoSaid : Prop := fnExactCleanTableUptoRow.holds Try.pinned (OpenSpec.upto fnExactCleanTableSpec)

/-- 'laws.FnExactErrorPattern', WHERE WHAT IT READS IS OF BULK AT MOST 1048576: true; the input reads as it did. -/
def fnExactErrorPatternUptoRow : OpenClaim := { program := "ytecijhlfgadimaa", sum := "5eff2c518c8cd2bc6578547190a742ef63aacd0357b9d6fddb44a648cf23f480", func := "loop.example/differenceengine/laws.FnExactErrorPattern", spec := "fnExactErrorPattern", apart := false, narrowed := true }
def FnExactErrorPatternUptoSaid : Prop := fnExactErrorPatternUptoRow.holds Try.pinned (OpenSpec.upto fnExactErrorPatternSpec)

/-- 'laws.FnExactPutError', WHERE WHAT IT READS IS OF BULK AT MOST 1048576: true; the input reads as it did. -/
def fnExactPutErrorUptoRow : OpenClaim := { program := "ytecijhlfgadimaa", sum := "5eff2c518c8cd2bc6578547190a742ef63aacd0357b9d6fddb44a648cf23f480", func := "loop.example/differenceengine/laws.FnExactPutError", spec := "fnExactPutError", unfollowed := true, recurses := true, apart := false, narrowed := true }
def FnExactPutErrorUptoSaid : Prop := fnExactPutErrorUptoRow.holds Try.pinned (OpenSpec.upto fnExactPutErrorSpec)

/-- 'laws.FnExactSlipEffect', WHERE WHAT IT READS IS OF BULK AT MOST 1048576: true; the input reads as it did. -/
def fnExactSlipEffectUptoRow : OpenClaim := { program := "ytecijhlfgadimaa", sum := "5eff2c518c8cd2bc6578547190a742ef63aacd0357b9d6fddb44a648cf23f480", func := "loop.example/differenceengine/laws.FnExactSlipEffect", spec := "fnExactSlipEffect", apart := false, narrowed := true }
def FnExactSlipEffectUptoSaid : Prop := fnExactSlipEffectUptoRow.holds Try.pinned (OpenSpec.upto fnExactSlipEffectSpec)

/-- 'laws.FnExactDiagnoseSlip', WHERE WHAT IT READS IS OF BULK AT MOST 1048576: true; the input reads as it did. -/
def fnExactDiagnoseSlipUptoRow : OpenClaim := { program := "ytecijhlfgadimaa", sum := "5eff2c518c8cd2bc6578547190a742ef63aacd0357b9d6fddb44a648cf23f480", func := "loop.example/differenceengine/laws.FnExactDiagnoseSlip", spec := "fnExactDiagnoseSlip", unfollowed := true, recurses := true, apart := false, narrowed := true }
def FnExactDiagnoseSlipUptoSaid : Prop := fnExactDiagnoseSlipUptoRow.holds Try.pinned (OpenSpec.upto fnExactDiagnoseSlipSpec)

/-- 'laws.FnExactNinesOf', WHERE WHAT IT READS IS OF BULK AT MOST 1048576: true; the input reads as it did. -/
def fnExactNinesOfUptoRow : OpenClaim := { program := "ytecijhlfgadimaa", sum := "5eff2c518c8cd2bc6578547190a742ef63aacd0357b9d6fddb44a648cf23f480", func := "loop.example/differenceengine/laws.FnExactNinesOf", spec := "fnExactNinesOf", unfollowed := true, recurses := true, apart := false, narrowed := true }
def FnExactNinesOfUptoSaid : Prop := fnExactNinesOfUptoRow.holds Try.pinned (OpenSpec.upto fnExactNinesOfSpec)

/-- 'laws.FnExactElevensOf', WHERE WHAT IT READS IS OF BULK AT MOST 1048576: true; the input reads as it did. -/
def fnExactElevensOfUptoRow : OpenClaim := { program := "ytecijhlfgadimaa", sum := "5eff2c518c8cd2bc6578547190a742ef63aacd0357b9d6fddb44a648cf23f480", func := "loop.example/differenceengine/laws.FnExactElevensOf", spec := "fnExactElevensOf", unfollowed := true, recurses := true, apart := false, narrowed := true }
def FnExactElevensOfUptoSaid : Prop := fnExactElevensOfUptoRow.holds Try.pinned (OpenSpec.upto fnExactElevensOfSpec)

/-- 'laws.FnExactWrongNines', WHERE WHAT IT READS IS OF BULK AT MOST 1048576: true; the input reads as it did. -/
def fnExactWrongNinesUptoRow : OpenClaim := { program := "ytecijhlfgadimaa", sum := "5eff2c518c8cd2bc6578547190a742ef63aacd0357b9d6fddb44a648cf23f480", func := "loop.example/differenceengine/laws.FnExactWrongNines", spec := "fnExactWrongNines", unfollowed := true, recurses := true, apart := false, narrowed := true }
def FnExactWrongNinesUptoSaid : Prop := fnExactWrongNinesUptoRow.holds Try.pinned (OpenSpec.upto fnExactWrongNinesSpec)

end Rows
end Go.Proofs.Ytecijhlfgadimaa
