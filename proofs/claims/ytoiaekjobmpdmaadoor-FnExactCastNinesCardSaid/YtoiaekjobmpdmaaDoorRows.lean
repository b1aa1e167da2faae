/-
  NARROWER THAN 'FOR EVERY INPUT', by the rows' own cells (each row's printed sentence says how): FnExactColumnValid: laid · FnExactValueOf: laid · FnExactSignedOf: laid · FnExactWidenColumn: laid · FnExactNegateColumn: laid · FnExactCastNines: laid · FnExactCastElevens: laid.
  DERIVED. THE GIVEN ROWS OF THIS SEAT. 7 by the template 'for every input the law returns true; each argument reads behind the call as it read before'; 0 by the template 'total and deterministic' (their statements: YtoiaekjobmpdmaaDoorTotals.lean).
  GIVEN WITH THE SEED: the statements are not yours to turn. If you find one false, say at which input.
  Laid BY PROGRAM, IN A SANDBOX (cutbox-rows.mjs): the forced cells as the released guide's own fill.sh prints them over the translation 693775efdb41a557… (all of the seat's roots in one cut). By AI agents, Wed Nov 11 2026. No macro, syntax, notation, axiom, sorry.
-/
import Derived.Test.YtoiaekjobmpdmaaDoorChecked
import GoSem.PinnedTables
import GoSem.Claim
import GoSem.ClaimJoined
import GoSem.ClaimMapViews
import Derived.JoinedTies
import Derived.KernelRfl
namespace Go.Proofs.YtoiaekjobmpdmaaDoor
/- THE CELL 'sum', in the pinned program and in every row, IS THE sha256 OF THE DUMP (.gsa) THAT YtoiaekjobmpdmaaDoorProg.lean LOADS. Nothing in Lean hashes anything: it is a label: what it is worth is what the hold of that sum in a sandbox is worth. -/
noncomputable def Tryd.pinned : Pinned := { name := "ytoiaekjobmpdmaadoor", sum := "693775efdb41a5576736c3a2ae75d614bc248953d52c84c263460e819ca962ff", checked := Tryd.checked }
namespace Rows
def none {H : Type} : Left H := { results := [], args := [] }

/- WHAT THE LISTED PACKAGE-LEVEL VARIABLES READ AS WHEN THE CALL BEGINS. Each datum BY PROGRAM (the guide's laid-datum.mjs) off the statement by which the dump's own 'gosem.cut.vars' lays the variable. In a bare row this is a premise. The card (YtoiaekjobmpdmaaDoorCards.lean) ties it to the program's text. -/
def laid_unicode_utf8_acceptRanges {H : Type} : DataW H := .agg [.agg [.lit (.int .u8 128), .lit (.int .u8 191)], .agg [.lit (.int .u8 160), .lit (.int .u8 191)], .agg [.lit (.int .u8 128), .lit (.int .u8 159)], .agg [.lit (.int .u8 144), .lit (.int .u8 191)], .agg [.lit (.int .u8 128), .lit (.int .u8 143)], .agg [.lit (.int .u8 0), .lit (.int .u8 0)], .agg [.lit (.int .u8 0), .lit (.int .u8 0)], .agg [.lit (.int .u8 0), .lit (.int .u8 0)], .agg [.lit (.int .u8 0), .lit (.int .u8 0)], .agg [.lit (.int .u8 0), .lit (.int .u8 0)], .agg [.lit (.int .u8 0), .lit (.int .u8 0)], .agg [.lit (.int .u8 0), .lit (.int .u8 0)], .agg [.lit (.int .u8 0), .lit (.int .u8 0)], .agg [.lit (.int .u8 0), .lit (.int .u8 0)], .agg [.lit (.int .u8 0), .lit (.int .u8 0)], .agg [.lit (.int .u8 0), .lit (.int .u8 0)]]
/-- One of Go's own tables, pinned by name: the form's constant. -/
def laid_unicode_utf8_first : DataW Unit := Go.Pinned.utf8First

/-- 'laws.FnExactColumnValid': WHATEVER THE INPUT: true; the input reads as it did. -/
def fnExactColumnValidSpec : ChangeSpec := { name := "fnExactColumnValid", fn := fun _ => fun
  | [d] => { results := [.lit (.bool true)], args := [d] }
  | _ => none }
def fnExactColumnValidRow : OpenClaim := { program := "ytoiaekjobmpdmaadoor", sum := "693775efdb41a5576736c3a2ae75d614bc248953d52c84c263460e819ca962ff", func := "loop.example/differenceengine/laws.FnExactColumnValid", spec := "fnExactColumnValid", inPlace := ["internal/bytealg.IndexByteString", "internal/bytealg.IndexString"], named := ["unicode/utf8.first", "unicode/utf8.acceptRanges", "internal/bytealg.MaxLen"], apart := false, laid := [("unicode/utf8.acceptRanges", laid_unicode_utf8_acceptRanges), ("unicode/utf8.first", laid_unicode_utf8_first)] }
def FnExactColumnValidSaid : Prop := fnExactColumnValidRow.holds Tryd.pinned (OpenSpec.ofChange fnExactColumnValidSpec)

/-- ITS FALSE NEIGHBOUR: 'it returns false'. Refute it at one input. -/
def fnExactColumnValidWrong : ChangeSpec := { name := "fnExactColumnValid", fn := fun _ => fun
  | [d] => { results := [.lit (.bool false)], args := [d] }
  | _ => none }
def FnExactColumnValidWrongFalsely : Prop := fnExactColumnValidRow.holds Tryd.pinned (OpenSpec.ofChange fnExactColumnValidWrong)

/-- 'laws.FnExactValueOf': WHATEVER THE INPUT: true; the input reads as it did. -/
def fnExactValueOfSpec : ChangeSpec := { name := "fnExactValueOf", fn := fun _ => fun
  | [d] => { results := [.lit (.bool true)], args := [d] }
  | _ => none }
def fnExactValueOfRow : OpenClaim := { program := "ytoiaekjobmpdmaadoor", sum := "693775efdb41a5576736c3a2ae75d614bc248953d52c84c263460e819ca962ff", func := "loop.example/differenceengine/laws.FnExactValueOf", spec := "fnExactValueOf", inPlace := ["internal/bytealg.IndexByteString", "internal/bytealg.IndexString"], named := ["unicode/utf8.first", "unicode/utf8.acceptRanges", "internal/bytealg.MaxLen"], apart := false, laid := [("unicode/utf8.acceptRanges", laid_unicode_utf8_acceptRanges), ("unicode/utf8.first", laid_unicode_utf8_first)] }
def FnExactValueOfSaid : Prop := fnExactValueOfRow.holds Tryd.pinned (OpenSpec.ofChange fnExactValueOfSpec)

/-- ITS FALSE NEIGHBOUR: 'it returns false'. Refute it at one input. -/
def fnExactValueOfWrong : ChangeSpec := { name := "fnExactValueOf", fn := fun _ => fun
  | [d] => { results := [.lit (.bool false)], args := [d] }
  | _ => none }
def FnExactValueOfWrongFalsely : Prop := fnExactValueOfRow.holds Tryd.pinned (OpenSpec.ofChange fnExactValueOfWrong)

/-- 'laws.FnExactSignedOf': WHATEVER THE INPUT: true; the input reads as it did. -/
def fnExactSignedOfSpec : ChangeSpec := { name := "fnExactSignedOf", fn := fun _ => fun
  | [d] => { results := [.lit (.bool true)], args := [d] }
  | _ => none }
def fnExactSignedOfRow : OpenClaim := { program := "ytoiaekjobmpdmaadoor", sum := "693775efdb41a5576736c3a2ae75d614bc248953d52c84c263460e819ca962ff", func := "loop.example/differenceengine/laws.FnExactSignedOf", spec := "fnExactSignedOf", inPlace := ["internal/bytealg.IndexByteString", "internal/bytealg.IndexString"], named := ["unicode/utf8.first", "unicode/utf8.acceptRanges", "internal/bytealg.MaxLen"], apart := false, laid := [("unicode/utf8.acceptRanges", laid_unicode_utf8_acceptRanges), ("unicode/utf8.first", laid_unicode_utf8_first)] }
def FnExactSignedOfSaid : Prop := fnExactSignedOfRow.holds Tryd.pinned (OpenSpec.ofChange fnExactSignedOfSpec)

/-- ITS FALSE NEIGHBOUR: 'it returns false'. Refute it at one input. -/
def fnExactSignedOfWrong : ChangeSpec := { name := "fnExactSignedOf", fn := fun _ => fun
  | [d] => { results := [.lit (.bool false)], args := [d] }
  | _ => none }
def FnExactSignedOfWrongFalsely : Prop := fnExactSignedOfRow.holds Tryd.pinned (OpenSpec.ofChange fnExactSignedOfWrong)

/-- 'laws.FnExactWidenColumn': WHATEVER THE INPUT: true; the input reads as it did. -/
def fnExactWidenColumnSpec : ChangeSpec := { name := "fnExactWidenColumn", fn := fun _ => fun
  | [d1, d2] => { results := [.lit (.bool true)], args := [d1, d2] }
  | _ => none }
def fnExactWidenColumnRow : OpenClaim := { program := "ytoiaekjobmpdmaadoor", sum := "693775efdb41a5576736c3a2ae75d614bc248953d52c84c263460e819ca962ff", func := "loop.example/differenceengine/laws.FnExactWidenColumn", spec := "fnExactWidenColumn", inPlace := ["internal/bytealg.IndexByteString", "internal/bytealg.IndexString"], named := ["unicode/utf8.first", "unicode/utf8.acceptRanges", "internal/bytealg.MaxLen"], apart := false, laid := [("unicode/utf8.acceptRanges", laid_unicode_utf8_acceptRanges), ("unicode/utf8.first", laid_unicode_utf8_first)] }
def FnExactWidenColumnSaid : Prop := fnExactWidenColumnRow.holds Tryd.pinned (OpenSpec.ofChange fnExactWidenColumnSpec)

/-- ITS FALSE NEIGHBOUR: 'it returns false'. Refute it at one input. -/
def fnExactWidenColumnWrong : ChangeSpec := { name := "fnExactWidenColumn", fn := fun _ => fun
  | [d1, d2] => { results := [.lit (.bool false)], args := [d1, d2] }
  | _ => none }
def FnExactWidenColumnWrongFalsely : Prop := fnExactWidenColumnRow.holds Tryd.pinned (OpenSpec.ofChange fnExactWidenColumnWrong)

/-- 'laws.FnExactNegateColumn': WHATEVER THE INPUT: true; the input reads as it did. -/
def fnExactNegateColumnSpec : ChangeSpec := { name := "fnExactNegateColumn", fn := fun _ => fun
  | [d] => { results := [.lit (.bool true)], args := [d] }
  | _ => none }
def fnExactNegateColumnRow : OpenClaim := { program := "ytoiaekjobmpdmaadoor", sum := "693775efdb41a5576736c3a2ae75d614bc248953d52c84c263460e819ca962ff", func := "loop.example/differenceengine/laws.FnExactNegateColumn", spec := "fnExactNegateColumn", inPlace := ["internal/bytealg.IndexByteString", "internal/bytealg.IndexString"], named := ["unicode/utf8.first", "unicode/utf8.acceptRanges", "internal/bytealg.MaxLen"], apart := false, laid := [("unicode/utf8.acceptRanges", laid_unicode_utf8_acceptRanges), ("unicode/utf8.first", laid_unicode_utf8_first)] }
def FnExactNegateColumnSaid : Prop := fnExactNegateColumnRow.holds Tryd.pinned (OpenSpec.ofChange fnExactNegateColumnSpec)

/-- ITS FALSE NEIGHBOUR: 'it returns false'. Refute it at one input. -/
def fnExactNegateColumnWrong : ChangeSpec := { name := "fnExactNegateColumn", fn := fun _ => fun
  | [d] => { results := [.lit (.bool false)], args := [d] }
  | _ => none }
def FnExactNegateColumnWrongFalsely : Prop := fnExactNegateColumnRow.holds Tryd.pinned (OpenSpec.ofChange fnExactNegateColumnWrong)

/-- 'laws.FnExactCastNines': WHATEVER THE INPUT: true; the input reads as it did. -/
def fnExactCastNinesSpec : ChangeSpec := { name := "fnExactCastNines", fn := fun _ => fun
  | [d] => { results := [.lit (.bool true)], args := [d] }
  | _ => none }
def fnExactCastNinesRow : OpenClaim := { program := "ytoiaekjobmpdmaadoor", sum := "693775efdb41a5576736c3a2ae75d614bc248953d52c84c263460e819ca962ff", func := "loop.example/differenceengine/laws.FnExactCastNines", spec := "fnExactCastNines", inPlace := ["internal/bytealg.IndexByteString", "internal/bytealg.IndexString"], named := ["unicode/utf8.first", "unicode/utf8.acceptRanges", "internal/bytealg.MaxLen"], apart := false, laid := [("unicode/utf8.acceptRanges", laid_unicode_utf8_acceptRanges), ("unicode/utf8.first", laid_unicode_utf8_first)] }
def FnExactCastNinesSaid : Prop := fnExactCastNinesRow.holds Tryd.pinned (OpenSpec.ofChange fnExactCastNinesSpec)

/-- ITS FALSE NEIGHBOUR: 'it returns false'. Refute it at one input. -/
def fnExactCastNinesWrong : ChangeSpec := { name := "fnExactCastNines", fn := fun _ => fun
  | [d] => { results := [.lit (.bool false)], args := [d] }
  | _ => none }
def FnExactCastNinesWrongFalsely : Prop := fnExactCastNinesRow.holds Tryd.pinned (OpenSpec.ofChange fnExactCastNinesWrong)

/-- 'laws.FnExactCastElevens': WHATEVER THE INPUT: true; the input reads as it did. -/
def fnExactCastElevensSpec : ChangeSpec := { name := "fnExactCastElevens", fn := fun _ => fun
  | [d] => { results := [.lit (.bool true)], args := [d] }
  | _ => none }
def fnExactCastElevensRow : OpenClaim := { program := "ytoiaekjobmpdmaadoor", sum := "693775efdb41a5576736c3a2ae75d614bc248953d52c84c263460e819ca962ff", func := "loop.example/differenceengine/laws.FnExactCastElevens", spec := "fnExactCastElevens", inPlace := ["internal/bytealg.IndexByteString", "internal/bytealg.IndexString"], named := ["unicode/utf8.first", "unicode/utf8.acceptRanges", "internal/bytealg.MaxLen"], apart := false, laid := [("unicode/utf8.acceptRanges", laid_unicode_utf8_acceptRanges), ("unicode/utf8.first", laid_unicode_utf8_first)] }
def FnExactCastElevensSaid : Prop := fnExactCastElevensRow.holds Tryd.pinned (OpenSpec.ofChange fnExactCastElevensSpec)

/-- ITS FALSE NEIGHBOUR: 'it returns false'. Refute it at one input. -/
def fnExactCastElevensWrong : ChangeSpec := { name := "fnExactCastElevens", fn := fun _ => fun
  | [d] => { results := [.lit (.bool false)], args := [d] }
  | _ => none }
def FnExactCastElevensWrongFalsely : Prop := fnExactCastElevensRow.holds Tryd.pinned (OpenSpec.ofChange fnExactCastElevensWrong)

/- THE SECOND FORM. 'bulk': how many values and letters a reading holds, each counted each time it is reached (what is shared counts as often as it is met; a slice's spare places count too). A statement '..UptoSaid' is the law's where the arguments, and the package variables that the reading takes, are together of bulk at most 1048576: NARROWER than '..Said'. Prove '..Said' where nothing that the law and all that it calls make is longer than what came in: it says more and counts as full. Else prove '..UptoSaid'. A law counts once. -/
mutual
def uptoBulk {H : Type} : DataW H → Nat
  | .lit (.string bytes) => bytes.length + 1
  | .lit _ => 1
  | .nil => 1
  | .ptr d => uptoBulk d + 1
  | .slice elems spare => uptoBulkAll elems + uptoBulkAll spare + 1
  | .agg parts => uptoBulkAll parts + 1
  | .iface _ d => uptoBulk d + 1
  | .map entries => uptoBulkEntries entries + 1
  | .held _ => 1
def uptoBulkAll {H : Type} : List (DataW H) → Nat
  | [] => 0
  | d :: r => uptoBulk d + uptoBulkAll r
def uptoBulkEntries {H : Type} : List (Lit × DataW H) → Nat
  | [] => 0
  | x :: r => uptoBulkEntry x + uptoBulkEntries r
def uptoBulkEntry {H : Type} : Lit × DataW H → Nat
  | (.string bytes, d) => bytes.length + uptoBulk d + 1
  | (_, d) => uptoBulk d + 1
 end
def uptoSmall : (H : Type) → List (DataW H) → Bool := fun _ ds => decide (uptoBulkAll ds ≤ 1048576)
def OpenSpec.upto (s : _root_.Go.ChangeSpec) : _root_.Go.OpenSpec := { _root_.Go.OpenSpec.ofChange s with cond := some uptoSmall }

/-- 'laws.FnExactColumnValid', WHERE WHAT IT READS IS OF BULK AT MOST 1048576: true; the input reads as it did. -/
def fnExactColumnValidUptoRow : OpenClaim := { program := "ytoiaekjobmpdmaadoor", sum := "693775efdb41a5576736c3a2ae75d614bc248953d52c84c263460e819ca962ff", func := "loop.example/differenceengine/laws.FnExactColumnValid", spec := "fnExactColumnValid", inPlace := ["internal/bytealg.IndexByteString", "internal/bytealg.IndexString"], named := ["unicode/utf8.first", "unicode/utf8.acceptRanges", "internal/bytealg.MaxLen"], apart := false, laid := [("unicode/utf8.acceptRanges", laid_unicode_utf8_acceptRanges), ("unicode/utf8.first", laid_unicode_utf8_first)], narrowed := true }
def FnExactColumnValidUptoSaid : Prop := fnExactColumnValidUptoRow.holds Tryd.pinned (OpenSpec.upto fnExactColumnValidSpec)

/-- 'laws.FnExactValueOf', WHERE WHAT IT READS IS OF BULK AT MOST 1048576: true; the input reads as it did. -/
def fnExactValueOfUptoRow : OpenClaim := { program := "ytoiaekjobmpdmaadoor", sum := "693775efdb41a5576736c3a2ae75d614bc248953d52c84c263460e819ca962ff", func := "loop.example/differenceengine/laws.FnExactValueOf", spec := "fnExactValueOf", inPlace := ["internal/bytealg.IndexByteString", "internal/bytealg.IndexString"], named := ["unicode/utf8.first", "unicode/utf8.acceptRanges", "internal/bytealg.MaxLen"], apart := false, laid := [("unicode/utf8.acceptRanges", laid_unicode_utf8_acceptRanges), ("unicode/utf8.first", laid_unicode_utf8_first)], narrowed := true }
def FnExactValueOfUptoSaid : Prop := fnExactValueOfUptoRow.holds Tryd.pinned (OpenSpec.upto fnExactValueOfSpec)

/-- 'laws.FnExactSignedOf', WHERE WHAT IT READS IS OF BULK AT MOST 1048576: true; the input reads as it did. -/
def fnExactSignedOfUptoRow : OpenClaim := { program := "ytoiaekjobmpdmaadoor", sum := "693775efdb41a5576736c3a2ae75d614bc248953d52c84c263460e819ca962ff", func := "loop.example/differenceengine/laws.FnExactSignedOf", spec := "fnExactSignedOf", inPlace := ["internal/bytealg.IndexByteString", "internal/bytealg.IndexString"], named := ["unicode/utf8.first", "unicode/utf8.acceptRanges", "internal/bytealg.MaxLen"], apart := false, laid := [("unicode/utf8.acceptRanges", laid_unicode_utf8_acceptRanges), ("unicode/utf8.first", laid_unicode_utf8_first)], narrowed := true }
def FnExactSignedOfUptoSaid : Prop := fnExactSignedOfUptoRow.holds Tryd.pinned (OpenSpec.upto fnExactSignedOfSpec)

/-- 'laws.FnExactWidenColumn', WHERE WHAT IT READS IS OF BULK AT MOST 1048576: true; the input reads as it did. -/
def fnExactWidenColumnUptoRow : OpenClaim := { program := "ytoiaekjobmpdmaadoor", sum := "693775efdb41a5576736c3a2ae75d614bc248953d52c84c263460e819ca962ff", func := "loop.example/differenceengine/laws.FnExactWidenColumn", spec := "fnExactWidenColumn", inPlace := ["internal/bytealg.IndexByteString", "internal/bytealg.IndexString"], named := ["unicode/utf8.first", "unicode/utf8.acceptRanges", "internal/bytealg.MaxLen"], apart := false, laid := [("unicode/utf8.acceptRanges", laid_unicode_utf8_acceptRanges), ("unicode/utf8.first", laid_unicode_utf8_first)], narrowed := true }
def FnExactWidenColumnUptoSaid : Prop := fnExactWidenColumnUptoRow.holds Tryd.pinned (OpenSpec.upto fnExactWidenColumnSpec)

/-- 'laws.FnExactNegateColumn', WHERE WHAT IT READS IS OF BULK AT MOST 1048576: true; the input reads as it did. -/
def fnExactNegateColumnUptoRow : OpenClaim := { program := "ytoiaekjobmpdmaadoor", sum := "693775efdb41a5576736c3a2ae75d614bc248953d52c84c263460e819ca962ff", func := "loop.example/differenceengine/laws.FnExactNegateColumn", spec := "fnExactNegateColumn", inPlace := ["internal/bytealg.IndexByteString", "internal/bytealg.IndexString"], named := ["unicode/utf8.first", "unicode/utf8.acceptRanges", "internal/bytealg.MaxLen"], apart := false, laid := [("unicode/utf8.acceptRanges", laid_unicode_utf8_acceptRanges), ("unicode/utf8.first", laid_unicode_utf8_first)], narrowed := true }
def FnExactNegateColumnUptoSaid : Prop := fnExactNegateColumnUptoRow.holds Tryd.pinned (OpenSpec.upto fnExactNegateColumnSpec)

/-- 'laws.FnExactCastNines', WHERE WHAT IT READS IS OF BULK AT MOST 1048576: true; the input reads as it did. -/
def fnExactCastNinesUptoRow : OpenClaim := { program := "ytoiaekjobmpdmaadoor", sum := "693775efdb41a5576736c3a2ae75d614bc248953d52c84c263460e819ca962ff", func := "loop.example/differenceengine/laws.FnExactCastNines", spec := "fnExactCastNines", inPlace := ["internal/bytealg.IndexByteString", "internal/bytealg.IndexString"], named := ["unicode/utf8.first", "unicode/utf8.acceptRanges", "internal/bytealg.MaxLen"], apart := false, laid := [("unicode/utf8.acceptRanges", laid_unicode_utf8_acceptRanges), ("unicode/utf8.first", laid_unicode_utf8_first)], narrowed := true }
def FnExactCastNinesUptoSaid : Prop := fnExactCastNinesUptoRow.holds Tryd.pinned (OpenSpec.upto fnExactCastNinesSpec)

/-- 'laws.FnExactCastElevens', WHERE WHAT IT READS IS OF BULK AT MOST 1048576: true; the input reads as it did. -/
def fnExactCastElevensUptoRow : OpenClaim := { program := "ytoiaekjobmpdmaadoor", sum := "693775efdb41a5576736c3a2ae75d614bc248953d52c84c263460e819ca962ff", func := "loop.example/differenceengine/laws.FnExactCastElevens", spec := "fnExactCastElevens", inPlace := ["internal/bytealg.IndexByteString", "internal/bytealg.IndexString"], named := ["unicode/utf8.first", "unicode/utf8.acceptRanges", "internal/bytealg.MaxLen"], apart := false, laid := [("unicode/utf8.acceptRanges", laid_unicode_utf8_acceptRanges), ("unicode/utf8.first", laid_unicode_utf8_first)], narrowed := true }
def FnExactCastElevensUptoSaid : Prop := fnExactCastElevensUptoRow.holds Tryd.pinned (OpenSpec.upto fnExactCastElevensSpec)

end Rows
end Go.Proofs.YtoiaekjobmpdmaaDoor
