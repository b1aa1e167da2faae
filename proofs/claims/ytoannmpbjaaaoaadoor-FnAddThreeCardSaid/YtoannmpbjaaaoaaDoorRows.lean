/-
  NARROWER THAN 'FOR EVERY INPUT', by the rows' own cells (each row's printed sentence says how): FnColumnOf: laid · FnWiden: laid · FnNegate: laid · FnAddTurned: laid · FnAddSigned: laid · FnAddThree: laid.
  DERIVED. THE GIVEN ROWS OF THIS SEAT. 6 by the template 'for every input the law returns true; each argument reads behind the call as it read before'; 0 by the template 'total and deterministic' (their statements: YtoannmpbjaaaoaaDoorTotals.lean).
  GIVEN WITH THE SEED: the statements are not yours to turn. If you find one false, say at which input.
  Laid BY PROGRAM, IN A SANDBOX (cutbox-rows.mjs): the forced cells as the released guide's own fill.sh prints them over the translation aa225537a005afb7… (all of the seat's roots in one cut). By AI agents, Wed Nov 11 2026. No macro, syntax, notation, axiom, sorry.
-/
import Derived.Test.YtoannmpbjaaaoaaDoorChecked
import GoSem.PinnedTables
import GoSem.Claim
import GoSem.ClaimJoined
import GoSem.ClaimMapViews
import Derived.JoinedTies
import Derived.KernelRfl
namespace Go.Proofs.YtoannmpbjaaaoaaDoor
/- THE CELL 'sum', in the pinned program and in every row, IS THE sha256 OF THE DUMP (.gsa) THAT YtoannmpbjaaaoaaDoorProg.lean LOADS. Nothing in Lean hashes anything: it is a label: what it is worth is what the hold of that sum in a sandbox is worth. -/
noncomputable def Tryd.pinned : Pinned := { name := "ytoannmpbjaaaoaadoor", sum := "aa225537a005afb7ebe5d7d80cb0caa511868639a9d41b6f3ba4cf3b5f6834a3", checked := Tryd.checked }
namespace Rows
def none {H : Type} : Left H := { results := [], args := [] }

/- WHAT THE LISTED PACKAGE-LEVEL VARIABLES READ AS WHEN THE CALL BEGINS. Each datum BY PROGRAM (the guide's laid-datum.mjs) off the statement by which the dump's own 'gosem.cut.vars' lays the variable. In a bare row this is a premise. The card (YtoannmpbjaaaoaaDoorCards.lean) ties it to the program's text. -/
def laid_unicode_utf8_acceptRanges {H : Type} : DataW H := .agg [.agg [.lit (.int .u8 128), .lit (.int .u8 191)], .agg [.lit (.int .u8 160), .lit (.int .u8 191)], .agg [.lit (.int .u8 128), .lit (.int .u8 159)], .agg [.lit (.int .u8 144), .lit (.int .u8 191)], .agg [.lit (.int .u8 128), .lit (.int .u8 143)], .agg [.lit (.int .u8 0), .lit (.int .u8 0)], .agg [.lit (.int .u8 0), .lit (.int .u8 0)], .agg [.lit (.int .u8 0), .lit (.int .u8 0)], .agg [.lit (.int .u8 0), .lit (.int .u8 0)], .agg [.lit (.int .u8 0), .lit (.int .u8 0)], .agg [.lit (.int .u8 0), .lit (.int .u8 0)], .agg [.lit (.int .u8 0), .lit (.int .u8 0)], .agg [.lit (.int .u8 0), .lit (.int .u8 0)], .agg [.lit (.int .u8 0), .lit (.int .u8 0)], .agg [.lit (.int .u8 0), .lit (.int .u8 0)], .agg [.lit (.int .u8 0), .lit (.int .u8 0)]]
/-- One of Go's own tables, pinned by name: the form's constant. -/
def laid_unicode_utf8_first : DataW Unit := Go.Pinned.utf8First

/-- 'laws.FnColumnOf': WHATEVER THE INPUT: true; the input reads as it did. -/
def fnColumnOfSpec : ChangeSpec := { name := "fnColumnOf", fn := fun _ => fun
  | [d] => { results := [.lit (.bool true)], args := [d] }
  | _ => none }
def fnColumnOfRow : OpenClaim := { program := "ytoannmpbjaaaoaadoor", sum := "aa225537a005afb7ebe5d7d80cb0caa511868639a9d41b6f3ba4cf3b5f6834a3", func := "loop.example/differenceengine/laws.FnColumnOf", spec := "fnColumnOf", inPlace := ["internal/bytealg.IndexByteString", "internal/bytealg.IndexString"], named := ["unicode/utf8.first", "unicode/utf8.acceptRanges", "internal/bytealg.MaxLen"], apart := false, laid := [("unicode/utf8.acceptRanges", laid_unicode_utf8_acceptRanges), ("unicode/utf8.first", laid_unicode_utf8_first)] }
def FnColumnOfSaid : Prop := fnColumnOfRow.holds Tryd.pinned (OpenSpec.ofChange fnColumnOfSpec)

/-- ITS FALSE NEIGHBOUR: 'it returns false'. Refute it at one input. -/
def fnColumnOfWrong : ChangeSpec := { name := "fnColumnOf", fn := fun _ => fun
  | [d] => { results := [.lit (.bool false)], args := [d] }
  | _ => none }
def FnColumnOfWrongFalsely : Prop := fnColumnOfRow.holds Tryd.pinned (OpenSpec.ofChange fnColumnOfWrong)

/-- 'laws.FnWiden': WHATEVER THE INPUT: true; the input reads as it did. -/
def fnWidenSpec : ChangeSpec := { name := "fnWiden", fn := fun _ => fun
  | [d] => { results := [.lit (.bool true)], args := [d] }
  | _ => none }
def fnWidenRow : OpenClaim := { program := "ytoannmpbjaaaoaadoor", sum := "aa225537a005afb7ebe5d7d80cb0caa511868639a9d41b6f3ba4cf3b5f6834a3", func := "loop.example/differenceengine/laws.FnWiden", spec := "fnWiden", inPlace := ["internal/bytealg.IndexByteString", "internal/bytealg.IndexString"], named := ["unicode/utf8.first", "unicode/utf8.acceptRanges", "internal/bytealg.MaxLen"], apart := false, laid := [("unicode/utf8.acceptRanges", laid_unicode_utf8_acceptRanges), ("unicode/utf8.first", laid_unicode_utf8_first)] }
def FnWidenSaid : Prop := fnWidenRow.holds Tryd.pinned (OpenSpec.ofChange fnWidenSpec)

/-- ITS FALSE NEIGHBOUR: 'it returns false'. Refute it at one input. -/
def fnWidenWrong : ChangeSpec := { name := "fnWiden", fn := fun _ => fun
  | [d] => { results := [.lit (.bool false)], args := [d] }
  | _ => none }
def FnWidenWrongFalsely : Prop := fnWidenRow.holds Tryd.pinned (OpenSpec.ofChange fnWidenWrong)

/-- 'laws.FnNegate': WHATEVER THE INPUT: true; the input reads as it did. -/
def fnNegateSpec : ChangeSpec := { name := "fnNegate", fn := fun _ => fun
  | [d] => { results := [.lit (.bool true)], args := [d] }
  | _ => none }
def fnNegateRow : OpenClaim := { program := "ytoannmpbjaaaoaadoor", sum := "aa225537a005afb7ebe5d7d80cb0caa511868639a9d41b6f3ba4cf3b5f6834a3", func := "loop.example/differenceengine/laws.FnNegate", spec := "fnNegate", inPlace := ["internal/bytealg.IndexByteString", "internal/bytealg.IndexString"], named := ["unicode/utf8.first", "unicode/utf8.acceptRanges", "internal/bytealg.MaxLen"], apart := false, laid := [("unicode/utf8.acceptRanges", laid_unicode_utf8_acceptRanges), ("unicode/utf8.first", laid_unicode_utf8_first)] }
def FnNegateSaid : Prop := fnNegateRow.holds Tryd.pinned (OpenSpec.ofChange fnNegateSpec)

/-- ITS FALSE NEIGHBOUR: 'it returns false'. Refute it at one input. -/
def fnNegateWrong : ChangeSpec := { name := "fnNegate", fn := fun _ => fun
  | [d] => { results := [.lit (.bool false)], args := [d] }
  | _ => none }
def FnNegateWrongFalsely : Prop := fnNegateRow.holds Tryd.pinned (OpenSpec.ofChange fnNegateWrong)

/-- 'laws.FnAddTurned': WHATEVER THE INPUT: true; the input reads as it did. -/
def fnAddTurnedSpec : ChangeSpec := { name := "fnAddTurned", fn := fun _ => fun
  | [d] => { results := [.lit (.bool true)], args := [d] }
  | _ => none }
def fnAddTurnedRow : OpenClaim := { program := "ytoannmpbjaaaoaadoor", sum := "aa225537a005afb7ebe5d7d80cb0caa511868639a9d41b6f3ba4cf3b5f6834a3", func := "loop.example/differenceengine/laws.FnAddTurned", spec := "fnAddTurned", inPlace := ["internal/bytealg.IndexByteString", "internal/bytealg.IndexString"], named := ["unicode/utf8.first", "unicode/utf8.acceptRanges", "internal/bytealg.MaxLen"], apart := false, laid := [("unicode/utf8.acceptRanges", laid_unicode_utf8_acceptRanges), ("unicode/utf8.first", laid_unicode_utf8_first)] }
def FnAddTurnedSaid : Prop := fnAddTurnedRow.holds Tryd.pinned (OpenSpec.ofChange fnAddTurnedSpec)

/-- ITS FALSE NEIGHBOUR: 'it returns false'. Refute it at one input. -/
def fnAddTurnedWrong : ChangeSpec := { name := "fnAddTurned", fn := fun _ => fun
  | [d] => { results := [.lit (.bool false)], args := [d] }
  | _ => none }
def FnAddTurnedWrongFalsely : Prop := fnAddTurnedRow.holds Tryd.pinned (OpenSpec.ofChange fnAddTurnedWrong)

/-- 'laws.FnAddSigned': WHATEVER THE INPUT: true; the input reads as it did. -/
def fnAddSignedSpec : ChangeSpec := { name := "fnAddSigned", fn := fun _ => fun
  | [d] => { results := [.lit (.bool true)], args := [d] }
  | _ => none }
def fnAddSignedRow : OpenClaim := { program := "ytoannmpbjaaaoaadoor", sum := "aa225537a005afb7ebe5d7d80cb0caa511868639a9d41b6f3ba4cf3b5f6834a3", func := "loop.example/differenceengine/laws.FnAddSigned", spec := "fnAddSigned", inPlace := ["internal/bytealg.IndexByteString", "internal/bytealg.IndexString"], named := ["unicode/utf8.first", "unicode/utf8.acceptRanges", "internal/bytealg.MaxLen"], apart := false, laid := [("unicode/utf8.acceptRanges", laid_unicode_utf8_acceptRanges), ("unicode/utf8.first", laid_unicode_utf8_first)] }
def FnAddSignedSaid : Prop := fnAddSignedRow.holds Tryd.pinned (OpenSpec.ofChange fnAddSignedSpec)

/-- ITS FALSE NEIGHBOUR: 'it returns false'. Refute it at one input. -/
def fnAddSignedWrong : ChangeSpec := { name := "fnAddSigned", fn := fun _ => fun
  | [d] => { results := [.lit (.bool false)], args := [d] }
  | _ => none }
def FnAddSignedWrongFalsely : Prop := fnAddSignedRow.holds Tryd.pinned (OpenSpec.ofChange fnAddSignedWrong)

/-- 'laws.FnAddThree': WHATEVER THE INPUT: true; the input reads as it did. -/
def fnAddThreeSpec : ChangeSpec := { name := "fnAddThree", fn := fun _ => fun
  | [d1, d2] => { results := [.lit (.bool true)], args := [d1, d2] }
  | _ => none }
def fnAddThreeRow : OpenClaim := { program := "ytoannmpbjaaaoaadoor", sum := "aa225537a005afb7ebe5d7d80cb0caa511868639a9d41b6f3ba4cf3b5f6834a3", func := "loop.example/differenceengine/laws.FnAddThree", spec := "fnAddThree", inPlace := ["internal/bytealg.IndexByteString", "internal/bytealg.IndexString"], named := ["unicode/utf8.first", "unicode/utf8.acceptRanges", "internal/bytealg.MaxLen"], apart := false, laid := [("unicode/utf8.acceptRanges", laid_unicode_utf8_acceptRanges), ("unicode/utf8.first", laid_unicode_utf8_first)] }
def FnAddThreeSaid : Prop := fnAddThreeRow.holds Tryd.pinned (OpenSpec.ofChange fnAddThreeSpec)

/-- ITS FALSE NEIGHBOUR: 'it returns false'. Refute it at one input. -/
def fnAddThreeWrong : ChangeSpec := { name := "fnAddThree", fn := fun _ => fun
  | [d1, d2] => { results := [.lit (.bool false)], args := [d1, d2] }
  | _ => none }
def FnAddThreeWrongFalsely : Prop := fnAddThreeRow.holds Tryd.pinned (OpenSpec.ofChange fnAddThreeWrong)

/- THE SECOND FORM. 'bulk': how many values and letters a reading holds, each counted each time it is reached (what is shared counts as often as it is met; a slice's spare places count too). A statement '..UptoSaid' is the law's where the arguments, and the package variables that the reading takes, are together of bulk at most 1048576: NARROWER than '..Said'. Prove '..Said' where nothing that the law and all that it calls make is longer than what came in: it says more and counts as full. Else prove '..UptoSaid'. A law counts once. -/
mutual
def uptoBulk {H : Type} : DataW H → Nat
  | .lit (.string bytes) => bytes.length + 1
  | .lit _ => 1
  | .nil => 1
  | .ptr d => uptoBulk d + 1
  | .slice elems spare => uptoBulkAll elems + uptoBulkAll spare + 1
  | .agg parts => uptoBulkAll parts + 1
  | .iface _ d => uptoBulk d + 1
  | .map entries => uptoBulkEntries entries + 1
  | .held _ => 1
def uptoBulkAll {H : Type} : List (DataW H) → Nat
  | [] => 0
  | d :: r => uptoBulk d + uptoBulkAll r
def uptoBulkEntries {H : Type} : List (Lit × DataW H) → Nat
  | [] => 0
  | x :: r => uptoBulkEntry x + uptoBulkEntries r
def uptoBulkEntry {H : Type} : Lit × DataW H → Nat
  | (.string bytes, d) => bytes.length + uptoBulk d + 1
  | (_, d) => uptoBulk d + 1
 end
def uptoSmall : (H : Type) → List (DataW H) → Bool := fun _ ds => decide (uptoBulkAll ds ≤ 1048576)
def OpenSpec.upto (s : _root_.Go.ChangeSpec) : _root_.Go.OpenSpec := { _root_.Go.OpenSpec.ofChange s with cond := some uptoSmall }

/-- 'laws.FnColumnOf', WHERE WHAT IT READS IS OF BULK AT MOST 1048576: true; the input reads as it did. -/
def fnColumnOfUptoRow : OpenClaim := { program := "ytoannmpbjaaaoaadoor", sum := "aa225537a005afb7ebe5d7d80cb0caa511868639a9d41b6f3ba4cf3b5f6834a3", func := "loop.example/differenceengine/laws.FnColumnOf", spec := "fnColumnOf", inPlace := ["internal/bytealg.IndexByteString", "internal/bytealg.IndexString"], named := ["unicode/utf8.first", "unicode/utf8.acceptRanges", "internal/bytealg.MaxLen"], apart := false, laid := [("unicode/utf8.acceptRanges", laid_unicode_utf8_acceptRanges), ("unicode/utf8.first", laid_unicode_utf8_first)], narrowed := true }
def FnColumnOfUptoSaid : Prop := fnColumnOfUptoRow.holds Tryd.pinned (OpenSpec.upto fnColumnOfSpec)

/-- 'laws.FnWiden', WHERE WHAT IT READS IS OF BULK AT MOST 1048576: true; the input reads as it did. -/
def fnWidenUptoRow : OpenClaim := { program := "ytoannmpbjaaaoaadoor", sum := "aa225537a005afb7ebe5d7d80cb0caa511868639a9d41b6f3ba4cf3b5f6834a3", func := "loop.example/differenceengine/laws.FnWiden", spec := "fnWiden", inPlace := ["internal/bytealg.IndexByteString", "internal/bytealg.IndexString"], named := ["unicode/utf8.first", "unicode/utf8.acceptRanges", "internal/bytealg.MaxLen"], apart := false, laid := [("unicode/utf8.acceptRanges", laid_unicode_utf8_acceptRanges), ("unicode/utf8.first", laid_unicode_utf8_first)], narrowed := true }
def FnWidenUptoSaid : Prop := fnWidenUptoRow.holds Tryd.pinned (OpenSpec.upto fnWidenSpec)

/-- 'laws.FnNegate', WHERE WHAT IT READS IS OF BULK AT MOST 1048576: true; the input reads as it did. -/
def fnNegateUptoRow : OpenClaim := { program := "ytoannmpbjaaaoaadoor", sum := "aa225537a005afb7ebe5d7d80cb0caa511868639a9d41b6f3ba4cf3b5f6834a3", func := "loop.example/differenceengine/laws.FnNegate", spec := "fnNegate", inPlace := ["internal/bytealg.IndexByteString", "internal/bytealg.IndexString"], named := ["unicode/utf8.first", "unicode/utf8.acceptRanges", "internal/bytealg.MaxLen"], apart := false, laid := [("unicode/utf8.acceptRanges", laid_unicode_utf8_acceptRanges), ("unicode/utf8.first", laid_unicode_utf8_first)], narrowed := true }
def FnNegateUptoSaid : Prop := fnNegateUptoRow.holds Tryd.pinned (OpenSpec.upto fnNegateSpec)

/-- 'laws.FnAddTurned', WHERE WHAT IT READS IS OF BULK AT MOST 1048576: true; the input reads as it did. -/
def fnAddTurnedUptoRow : OpenClaim := { program := "ytoannmpbjaaaoaadoor", sum := "aa225537a005afb7ebe5d7d80cb0caa511868639a9d41b6f3ba4cf3b5f6834a3", func := "loop.example/differenceengine/laws.FnAddTurned", spec := "fnAddTurned", inPlace := ["internal/bytealg.IndexByteString", "internal/bytealg.IndexString"], named := ["unicode/utf8.first", "unicode/utf8.acceptRanges", "internal/bytealg.MaxLen"], apart := false, laid := [("unicode/utf8.acceptRanges", laid_unicode_utf8_acceptRanges), ("unicode/utf8.first", laid_unicode_utf8_first)], narrowed := true }
def FnAddTurnedUptoSaid : Prop := fnAddTurnedUptoRow.holds Tryd.pinned (OpenSpec.upto fnAddTurnedSpec)

/-- 'laws.FnAddSigned', WHERE WHAT IT READS IS OF BULK AT MOST 1048576: true; the input reads as it did. -/
def fnAddSignedUptoRow : OpenClaim := { program := "ytoannmpbjaaaoaadoor", sum := "aa225537a005afb7ebe5d7d80cb0caa511868639a9d41b6f3ba4cf3b5f6834a3", func := "loop.example/differenceengine/laws.FnAddSigned", spec := "fnAddSigned", inPlace := ["internal/bytealg.IndexByteString", "internal/bytealg.IndexString"], named := ["unicode/utf8.first", "unicode/utf8.acceptRanges", "internal/bytealg.MaxLen"], apart := false, laid := [("unicode/utf8.acceptRanges", laid_unicode_utf8_acceptRanges), ("unicode/utf8.first", laid_unicode_utf8_first)], narrowed := true }
def FnAddSignedUptoSaid : Prop := fnAddSignedUptoRow.holds Tryd.pinned (OpenSpec.upto fnAddSignedSpec)

/-- 'laws.FnAddThree', WHERE WHAT IT READS IS OF BULK AT MOST 1048576: true; the input reads as it did. -/
def fnAddThreeUptoRow : OpenClaim := { program := "ytoannmpbjaaaoaadoor", sum := "aa225537a005afb7ebe5d7d80cb0caa511868639a9d41b6f3ba4cf3b5f6834a3", func := "loop.example/differenceengine/laws.FnAddThree", spec := "fnAddThree", inPlace := ["internal/bytealg.IndexByteString", "internal/bytealg.IndexString"], named := ["unicode/utf8.first", "unicode/utf8.acceptRanges", "internal/bytealg.MaxLen"], apart := false, laid := [("unicode/utf8.acceptRanges", laid_unicode_utf8_acceptRanges), ("unicode/utf8.first", laid_unicode_utf8_first)], narrowed := true }
def FnAddThreeUptoSaid : Prop := fnAddThreeUptoRow.holds Tryd.pinned (OpenSpec.upto fnAddThreeSpec)

end Rows
end Go.Proofs.YtoannmpbjaaaoaaDoor
