/-
  NARROWER THAN 'FOR EVERY INPUT', by the rows' own cells (each row's printed sentence says how): FnExactAddColumns: laid · FnExactSubtractColumns: laid · FnExactTurnWheels: laid · FnExactWarnedWheels: laid · FnExactCarryOnce: laid · FnExactCarryAll: laid · FnExactCarryAhead: laid · FnExactCarryTimes: laid.
  DERIVED. THE GIVEN ROWS OF THIS SEAT. 8 by the template 'for every input the law returns true; each argument reads behind the call as it read before'; 0 by the template 'total and deterministic' (their statements: YtandeibpmmnlaaaDoorTotals.lean).
  GIVEN WITH THE SEED: the statements are not yours to turn. If you find one false, say at which input.
  Laid BY PROGRAM, IN A SANDBOX (cutbox-rows.mjs): the forced cells as the released guide's own fill.sh prints them over the translation f3bc189ade7dfb83… (all of the seat's roots in one cut). By AI agents, Wed Nov 11 2026. No macro, syntax, notation, axiom, sorry.
-/
import Derived.Test.YtandeibpmmnlaaaDoorChecked
import GoSem.PinnedTables
import GoSem.Claim
import GoSem.ClaimJoined
import GoSem.ClaimMapViews
import Derived.JoinedTies
import Derived.KernelRfl
namespace Go.Proofs.YtandeibpmmnlaaaDoor
/- THE CELL 'sum', in the pinned program and in every row, IS THE sha256 OF THE DUMP (.gsa) THAT YtandeibpmmnlaaaDoorProg.lean LOADS. Nothing in Lean hashes anything: it is a label: what it is worth is what the hold of that sum in a sandbox is worth. -/
noncomputable def Tryd.pinned : Pinned := { name := "ytandeibpmmnlaaadoor", sum := "f3bc189ade7dfb83de0a7d0ba87b0f3de6b18217b1f27203b66bfa566bf68508", checked := Tryd.checked }
namespace Rows
def none {H : Type} : Left H := { results := [], args := [] }

/- WHAT THE LISTED PACKAGE-LEVEL VARIABLES READ AS WHEN THE CALL BEGINS. Each datum BY PROGRAM (the guide's laid-datum.mjs) off the statement by which the dump's own 'gosem.cut.vars' lays the variable. In a bare row this is a premise. The card (YtandeibpmmnlaaaDoorCards.lean) ties it to the program's text. -/
def laid_unicode_utf8_acceptRanges {H : Type} : DataW H := .agg [.agg [.lit (.int .u8 128), .lit (.int .u8 191)], .agg [.lit (.int .u8 160), .lit (.int .u8 191)], .agg [.lit (.int .u8 128), .lit (.int .u8 159)], .agg [.lit (.int .u8 144), .lit (.int .u8 191)], .agg [.lit (.int .u8 128), .lit (.int .u8 143)], .agg [.lit (.int .u8 0), .lit (.int .u8 0)], .agg [.lit (.int .u8 0), .lit (.int .u8 0)], .agg [.lit (.int .u8 0), .lit (.int .u8 0)], .agg [.lit (.int .u8 0), .lit (.int .u8 0)], .agg [.lit (.int .u8 0), .lit (.int .u8 0)], .agg [.lit (.int .u8 0), .lit (.int .u8 0)], .agg [.lit (.int .u8 0), .lit (.int .u8 0)], .agg [.lit (.int .u8 0), .lit (.int .u8 0)], .agg [.lit (.int .u8 0), .lit (.int .u8 0)], .agg [.lit (.int .u8 0), .lit (.int .u8 0)], .agg [.lit (.int .u8 0), .lit (.int .u8 0)]]
/-- One of Go's own tables, pinned by name: the form's constant. -/
def laid_unicode_utf8_first : DataW Unit := Go.Pinned.utf8First

/-- 'laws.FnExactAddColumns': WHATEVER THE INPUT: true; the input reads as it did. -/
def fnExactAddColumnsSpec : ChangeSpec := { name := "fnExactAddColumns", fn := fun _ => fun
  | [d1, d2] => { results := [.lit (.bool true)], args := [d1, d2] }
  | _ => none }
def fnExactAddColumnsRow : OpenClaim := { program := "ytandeibpmmnlaaadoor", sum := "f3bc189ade7dfb83de0a7d0ba87b0f3de6b18217b1f27203b66bfa566bf68508", func := "loop.example/differenceengine/laws.FnExactAddColumns", spec := "fnExactAddColumns", inPlace := ["internal/bytealg.IndexByteString", "internal/bytealg.IndexString"], named := ["unicode/utf8.first", "unicode/utf8.acceptRanges", "internal/bytealg.MaxLen"], apart := false, laid := [("unicode/utf8.acceptRanges", laid_unicode_utf8_acceptRanges), ("unicode/utf8.first", laid_unicode_utf8_first)] }
def FnExactAddColumnsSaid : Prop := fnExactAddColumnsRow.holds Tryd.pinned (OpenSpec.ofChange fnExactAddColumnsSpec)

/-- ITS FALSE NEIGHBOUR: 'it returns false'. Refute it at one input. -/
def fnExactAddColumnsWrong : ChangeSpec := { name := "fnExactAddColumns", fn := fun _ => fun
  | [d1, d2] => { results := [.lit (.bool false)], args := [d1, d2] }
  | _ => none }
def FnExactAddColumnsWrongFalsely : Prop := fnExactAddColumnsRow.holds Tryd.pinned (OpenSpec.ofChange fnExactAddColumnsWrong)

/-- 'laws.FnExactSubtractColumns': WHATEVER THE INPUT: true; the input reads as it did. -/
def fnExactSubtractColumnsSpec : ChangeSpec := { name := "fnExactSubtractColumns", fn := fun _ => fun
  | [d1, d2] => { results := [.lit (.bool true)], args := [d1, d2] }
  | _ => none }
def fnExactSubtractColumnsRow : OpenClaim := { program := "ytandeibpmmnlaaadoor", sum := "f3bc189ade7dfb83de0a7d0ba87b0f3de6b18217b1f27203b66bfa566bf68508", func := "loop.example/differenceengine/laws.FnExactSubtractColumns", spec := "fnExactSubtractColumns", inPlace := ["internal/bytealg.IndexByteString", "internal/bytealg.IndexString"], named := ["unicode/utf8.first", "unicode/utf8.acceptRanges", "internal/bytealg.MaxLen"], apart := false, laid := [("unicode/utf8.acceptRanges", laid_unicode_utf8_acceptRanges), ("unicode/utf8.first", laid_unicode_utf8_first)] }
def FnExactSubtractColumnsSaid : Prop := fnExactSubtractColumnsRow.holds Tryd.pinned (OpenSpec.ofChange fnExactSubtractColumnsSpec)

/-- ITS FALSE NEIGHBOUR: 'it returns false'. Refute it at one input. -/
def fnExactSubtractColumnsWrong : ChangeSpec := { name := "fnExactSubtractColumns", fn := fun _ => fun
  | [d1, d2] => { results := [.lit (.bool false)], args := [d1, d2] }
  | _ => none }
def FnExactSubtractColumnsWrongFalsely : Prop := fnExactSubtractColumnsRow.holds Tryd.pinned (OpenSpec.ofChange fnExactSubtractColumnsWrong)

/-- 'laws.FnExactTurnWheels': WHATEVER THE INPUT: true; the input reads as it did. -/
def fnExactTurnWheelsSpec : ChangeSpec := { name := "fnExactTurnWheels", fn := fun _ => fun
  | [d1, d2] => { results := [.lit (.bool true)], args := [d1, d2] }
  | _ => none }
def fnExactTurnWheelsRow : OpenClaim := { program := "ytandeibpmmnlaaadoor", sum := "f3bc189ade7dfb83de0a7d0ba87b0f3de6b18217b1f27203b66bfa566bf68508", func := "loop.example/differenceengine/laws.FnExactTurnWheels", spec := "fnExactTurnWheels", inPlace := ["internal/bytealg.IndexByteString", "internal/bytealg.IndexString"], named := ["unicode/utf8.first", "unicode/utf8.acceptRanges", "internal/bytealg.MaxLen"], apart := false, laid := [("unicode/utf8.acceptRanges", laid_unicode_utf8_acceptRanges), ("unicode/utf8.first", laid_unicode_utf8_first)] }
def FnExactTurnWheelsSaid : Prop := fnExactTurnWheelsRow.holds Tryd.pinned (OpenSpec.ofChange fnExactTurnWheelsSpec)

/-- ITS FALSE NEIGHBOUR: 'it returns false'. Refute it at one input. -/
def fnExactTurnWheelsWrong : ChangeSpec := { name := "fnExactTurnWheels", fn := fun _ => fun
  | [d1, d2] => { results := [.lit (.bool false)], args := [d1, d2] }
  | _ => none }
def FnExactTurnWheelsWrongFalsely : Prop := fnExactTurnWheelsRow.holds Tryd.pinned (OpenSpec.ofChange fnExactTurnWheelsWrong)

/-- 'laws.FnExactWarnedWheels': WHATEVER THE INPUT: true; the input reads as it did. -/
def fnExactWarnedWheelsSpec : ChangeSpec := { name := "fnExactWarnedWheels", fn := fun _ => fun
  | [d1, d2] => { results := [.lit (.bool true)], args := [d1, d2] }
  | _ => none }
def fnExactWarnedWheelsRow : OpenClaim := { program := "ytandeibpmmnlaaadoor", sum := "f3bc189ade7dfb83de0a7d0ba87b0f3de6b18217b1f27203b66bfa566bf68508", func := "loop.example/differenceengine/laws.FnExactWarnedWheels", spec := "fnExactWarnedWheels", inPlace := ["internal/bytealg.IndexByteString", "internal/bytealg.IndexString"], named := ["unicode/utf8.first", "unicode/utf8.acceptRanges", "internal/bytealg.MaxLen"], apart := false, laid := [("unicode/utf8.acceptRanges", laid_unicode_utf8_acceptRanges), ("unicode/utf8.first", laid_unicode_utf8_first)] }
def FnExactWarnedWheelsSaid : Prop := fnExactWarnedWheelsRow.holds Tryd.pinned (OpenSpec.ofChange fnExactWarnedWheelsSpec)

/-- ITS FALSE NEIGHBOUR: 'it returns false'. Refute it at one input. -/
def fnExactWarnedWheelsWrong : ChangeSpec := { name := "fnExactWarnedWheels", fn := fun _ => fun
  | [d1, d2] => { results := [.lit (.bool false)], args := [d1, d2] }
  | _ => none }
def FnExactWarnedWheelsWrongFalsely : Prop := fnExactWarnedWheelsRow.holds Tryd.pinned (OpenSpec.ofChange fnExactWarnedWheelsWrong)

/-- 'laws.FnExactCarryOnce': WHATEVER THE INPUT: true; the input reads as it did. -/
def fnExactCarryOnceSpec : ChangeSpec := { name := "fnExactCarryOnce", fn := fun _ => fun
  | [d1, d2] => { results := [.lit (.bool true)], args := [d1, d2] }
  | _ => none }
def fnExactCarryOnceRow : OpenClaim := { program := "ytandeibpmmnlaaadoor", sum := "f3bc189ade7dfb83de0a7d0ba87b0f3de6b18217b1f27203b66bfa566bf68508", func := "loop.example/differenceengine/laws.FnExactCarryOnce", spec := "fnExactCarryOnce", inPlace := ["internal/bytealg.IndexByteString", "internal/bytealg.IndexString"], named := ["unicode/utf8.first", "unicode/utf8.acceptRanges", "internal/bytealg.MaxLen"], apart := false, laid := [("unicode/utf8.acceptRanges", laid_unicode_utf8_acceptRanges), ("unicode/utf8.first", laid_unicode_utf8_first)] }
def FnExactCarryOnceSaid : Prop := fnExactCarryOnceRow.holds Tryd.pinned (OpenSpec.ofChange fnExactCarryOnceSpec)

/-- ITS FALSE NEIGHBOUR: 'it returns false'. Refute it at one input. -/
def fnExactCarryOnceWrong : ChangeSpec := { name := "fnExactCarryOnce", fn := fun _ => fun
  | [d1, d2] => { results := [.lit (.bool false)], args := [d1, d2] }
  | _ => none }
def FnExactCarryOnceWrongFalsely : Prop := fnExactCarryOnceRow.holds Tryd.pinned (OpenSpec.ofChange fnExactCarryOnceWrong)

/-- 'laws.FnExactCarryAll': WHATEVER THE INPUT: true; the input reads as it did. -/
def fnExactCarryAllSpec : ChangeSpec := { name := "fnExactCarryAll", fn := fun _ => fun
  | [d1, d2] => { results := [.lit (.bool true)], args := [d1, d2] }
  | _ => none }
def fnExactCarryAllRow : OpenClaim := { program := "ytandeibpmmnlaaadoor", sum := "f3bc189ade7dfb83de0a7d0ba87b0f3de6b18217b1f27203b66bfa566bf68508", func := "loop.example/differenceengine/laws.FnExactCarryAll", spec := "fnExactCarryAll", inPlace := ["internal/bytealg.IndexByteString", "internal/bytealg.IndexString"], named := ["unicode/utf8.first", "unicode/utf8.acceptRanges", "internal/bytealg.MaxLen"], apart := false, laid := [("unicode/utf8.acceptRanges", laid_unicode_utf8_acceptRanges), ("unicode/utf8.first", laid_unicode_utf8_first)] }
def FnExactCarryAllSaid : Prop := fnExactCarryAllRow.holds Tryd.pinned (OpenSpec.ofChange fnExactCarryAllSpec)

/-- ITS FALSE NEIGHBOUR: 'it returns false'. Refute it at one input. -/
def fnExactCarryAllWrong : ChangeSpec := { name := "fnExactCarryAll", fn := fun _ => fun
  | [d1, d2] => { results := [.lit (.bool false)], args := [d1, d2] }
  | _ => none }
def FnExactCarryAllWrongFalsely : Prop := fnExactCarryAllRow.holds Tryd.pinned (OpenSpec.ofChange fnExactCarryAllWrong)

/-- 'laws.FnExactCarryAhead': WHATEVER THE INPUT: true; the input reads as it did. -/
def fnExactCarryAheadSpec : ChangeSpec := { name := "fnExactCarryAhead", fn := fun _ => fun
  | [d1, d2] => { results := [.lit (.bool true)], args := [d1, d2] }
  | _ => none }
def fnExactCarryAheadRow : OpenClaim := { program := "ytandeibpmmnlaaadoor", sum := "f3bc189ade7dfb83de0a7d0ba87b0f3de6b18217b1f27203b66bfa566bf68508", func := "loop.example/differenceengine/laws.FnExactCarryAhead", spec := "fnExactCarryAhead", inPlace := ["internal/bytealg.IndexByteString", "internal/bytealg.IndexString"], named := ["unicode/utf8.first", "unicode/utf8.acceptRanges", "internal/bytealg.MaxLen"], apart := false, laid := [("unicode/utf8.acceptRanges", laid_unicode_utf8_acceptRanges), ("unicode/utf8.first", laid_unicode_utf8_first)] }
def FnExactCarryAheadSaid : Prop := fnExactCarryAheadRow.holds Tryd.pinned (OpenSpec.ofChange fnExactCarryAheadSpec)

/-- ITS FALSE NEIGHBOUR: 'it returns false'. Refute it at one input. -/
def fnExactCarryAheadWrong : ChangeSpec := { name := "fnExactCarryAhead", fn := fun _ => fun
  | [d1, d2] => { results := [.lit (.bool false)], args := [d1, d2] }
  | _ => none }
def FnExactCarryAheadWrongFalsely : Prop := fnExactCarryAheadRow.holds Tryd.pinned (OpenSpec.ofChange fnExactCarryAheadWrong)

/-- 'laws.FnExactCarryTimes': WHATEVER THE INPUT: true; the input reads as it did. -/
def fnExactCarryTimesSpec : ChangeSpec := { name := "fnExactCarryTimes", fn := fun _ => fun
  | [d1, d2] => { results := [.lit (.bool true)], args := [d1, d2] }
  | _ => none }
def fnExactCarryTimesRow : OpenClaim := { program := "ytandeibpmmnlaaadoor", sum := "f3bc189ade7dfb83de0a7d0ba87b0f3de6b18217b1f27203b66bfa566bf68508", func := "loop.example/differenceengine/laws.FnExactCarryTimes", spec := "fnExactCarryTimes", inPlace := ["internal/bytealg.IndexByteString", "internal/bytealg.IndexString"], named := ["unicode/utf8.first", "unicode/utf8.acceptRanges", "internal/bytealg.MaxLen"], apart := false, laid := [("unicode/utf8.acceptRanges", laid_unicode_utf8_acceptRanges), ("unicode/utf8.first", laid_unicode_utf8_first)] }
def FnExactCarryTimesSaid : Prop := fnExactCarryTimesRow.holds Tryd.pinned (OpenSpec.ofChange fnExactCarryTimesSpec)

/-- ITS FALSE NEIGHBOUR: 'it returns false'. Refute it at one input. -/
def fnExactCarryTimesWrong : ChangeSpec := { name := "fnExactCarryTimes", fn := fun _ => fun
  | [d1, d2] => { results := [.lit (.bool false)], args := [d1, d2] }
  | _ => none }
def FnExactCarryTimesWrongFalsely : Prop := fnExactCarryTimesRow.holds Tryd.pinned (OpenSpec.ofChange fnExactCarryTimesWrong)

/- THE SECOND FORM. 'bulk': how many values and letters a reading holds, each counted each time it is reached (what is shared counts as often as it is met; a slice's spare places count too). A statement '..UptoSaid' is the law's where the arguments, and the package variables that the reading takes, are together of bulk at most 1048576: NARROWER than '..Said'. Prove '..Said' where nothing that the law and all that it calls make is longer than what came in: it says more and counts as full. Else prove '..UptoSaid'. A law counts once. -/
mutual
def uptoBulk {H : Type} : DataW H → Nat
  | .lit (.string bytes) => bytes.length + 1
  | .lit _ => 1
  | .nil => 1
  | .ptr d => uptoBulk d + 1
  | .slice elems spare => uptoBulkAll elems + uptoBulkAll spare + 1
  | .agg parts => uptoBulkAll parts + 1
  | .iface _ d => uptoBulk d + 1
  | .map entries => uptoBulkEntries entries + 1
  | .held _ => 1
def uptoBulkAll {H : Type} : List (DataW H) → Nat
  | [] => 0
  | d :: r => uptoBulk d + uptoBulkAll r
def uptoBulkEntries {H : Type} : List (Lit × DataW H) → Nat
  | [] => 0
  | x :: r => uptoBulkEntry x + uptoBulkEntries r
def uptoBulkEntry {H : Type} : Lit × DataW H → Nat
  | (.string bytes, d) => bytes.length + uptoBulk d + 1
  | (_, d) => uptoBulk d + 1
 end
def uptoSmall : (H : Type) → List (DataW H) → Bool := fun _ ds => decide (uptoBulkAll ds ≤ 1048576)
def OpenSpec.upto (s : _root_.Go.ChangeSpec) : _root_.Go.OpenSpec := { _root_.Go.OpenSpec.ofChange s with cond := some uptoSmall }

/-- 'laws.FnExactAddColumns', WHERE WHAT IT READS IS OF BULK AT MOST 1048576: true; the input reads as it did. -/
def fnExactAddColumnsUptoRow : OpenClaim := { program := "ytandeibpmmnlaaadoor", sum := "f3bc189ade7dfb83de0a7d0ba87b0f3de6b18217b1f27203b66bfa566bf68508", func := "loop.example/differenceengine/laws.FnExactAddColumns", spec := "fnExactAddColumns", inPlace := ["internal/bytealg.IndexByteString", "internal/bytealg.IndexString"], named := ["unicode/utf8.first", "unicode/utf8.acceptRanges", "internal/bytealg.MaxLen"], apart := false, laid := [("unicode/utf8.acceptRanges", laid_unicode_utf8_acceptRanges), ("unicode/utf8.first", laid_unicode_utf8_first)], narrowed := true }
def FnExactAddColumnsUptoSaid : Prop := fnExactAddColumnsUptoRow.holds Tryd.pinned (OpenSpec.upto fnExactAddColumnsSpec)

/-- 'laws.FnExactSubtractColumns', WHERE WHAT IT READS IS OF BULK AT MOST 1048576: true; the input reads as it did. -/
def fnExactSubtractColumnsUptoRow : OpenClaim := { program := "ytandeibpmmnlaaadoor", sum := "f3bc189ade7dfb83de0a7d0ba87b0f3de6b18217b1f27203b66bfa566bf68508", func := "loop.example/differenceengine/laws.FnExactSubtractColumns", spec := "fnExactSubtractColumns", inPlace := ["internal/bytealg.IndexByteString", "internal/bytealg.IndexString"], named := ["unicode/utf8.first", "unicode/utf8.acceptRanges", "internal/bytealg.MaxLen"], apart := false, laid := [("unicode/utf8.acceptRanges", laid_unicode_utf8_acceptRanges), ("unicode/utf8.first", laid_unicode_utf8_first)], narrowed := true }
def FnExactSubtractColumnsUptoSaid : Prop := fnExactSubtractColumnsUptoRow.holds Tryd.pinned (OpenSpec.upto fnExactSubtractColumnsSpec)

/-- 'laws.FnExactTurnWheels', WHERE WHAT IT READS IS OF BULK AT MOST 1048576: true; the input reads as it did. -/
def fnExactTurnWheelsUptoRow : OpenClaim := { program := "ytandeibpmmnlaaadoor", sum := "f3bc189ade7dfb83de0a7d0ba87b0f3de6b18217b1f27203b66bfa566bf68508", func := "loop.example/differenceengine/laws.FnExactTurnWheels", spec := "fnExactTurnWheels", inPlace := ["internal/bytealg.IndexByteString", "internal/bytealg.IndexString"], named := ["unicode/utf8.first", "unicode/utf8.acceptRanges", "internal/bytealg.MaxLen"], apart := false, laid := [("unicode/utf8.acceptRanges", laid_unicode_utf8_acceptRanges), ("unicode/utf8.first", laid_unicode_utf8_first)], narrowed := true }
def FnExactTurnWheelsUptoSaid : Prop := fnExactTurnWheelsUptoRow.holds Tryd.pinned (OpenSpec.upto fnExactTurnWheelsSpec)

/-- 'laws.FnExactWarnedWheels', WHERE WHAT IT READS IS OF BULK AT MOST 1048576: true; the input reads as it did. -/
def fnExactWarnedWheelsUptoRow : OpenClaim := { program := "ytandeibpmmnlaaadoor", sum := "f3bc189ade7dfb83de0a7d0ba87b0f3de6b18217b1f27203b66bfa566bf68508", func := "loop.example/differenceengine/laws.FnExactWarnedWheels", spec := "fnExactWarnedWheels", inPlace := ["internal/bytealg.IndexByteString", "internal/bytealg.IndexString"], named := ["unicode/utf8.first", "unicode/utf8.acceptRanges", "internal/bytealg.MaxLen"], apart := false, laid := [("unicode/utf8.acceptRanges", laid_unicode_utf8_acceptRanges), ("unicode/utf8.first", laid_unicode_utf8_first)], narrowed := true }
def FnExactWarnedWheelsUptoSaid : Prop := fnExactWarnedWheelsUptoRow.holds Tryd.pinned (OpenSpec.upto fnExactWarnedWheelsSpec)

/-- 'laws.FnExactCarryOnce', WHERE WHAT IT READS IS OF BULK AT MOST 1048576: true; the input reads as it did. -/
def fnExactCarryOnceUptoRow : OpenClaim := { program := "ytandeibpmmnlaaadoor", sum := "f3bc189ade7dfb83de0a7d0ba87b0f3de6b18217b1f27203b66bfa566bf68508", func := "loop.example/differenceengine/laws.FnExactCarryOnce", spec := "fnExactCarryOnce", inPlace := ["internal/bytealg.IndexByteString", "internal/bytealg.IndexString"], named := ["unicode/utf8.first", "unicode/utf8.acceptRanges", "internal/bytealg.MaxLen"], apart := false, laid := [("unicode/utf8.acceptRanges", laid_unicode_utf8_acceptRanges), ("unicode/utf8.first", laid_unicode_utf8_first)], narrowed := true }
def FnExactCarryOnceUptoSaid : Prop := fnExactCarryOnceUptoRow.holds Tryd.pinned (OpenSpec.upto fnExactCarryOnceSpec)

/-- 'laws.FnExactCarryAll', WHERE WHAT IT READS IS OF BULK AT MOST 1048576: true; the input reads as it did. -/
def fnExactCarryAllUptoRow : OpenClaim := { program := "ytandeibpmmnlaaadoor", sum := "f3bc189ade7dfb83de0a7d0ba87b0f3de6b18217b1f27203b66bfa566bf68508", func := "loop.example/differenceengine/laws.FnExactCarryAll", spec := "fnExactCarryAll", inPlace := ["internal/bytealg.IndexByteString", "internal/bytealg.IndexString"], named := ["unicode/utf8.first", "unicode/utf8.acceptRanges", "internal/bytealg.MaxLen"], apart := false, laid := [("unicode/utf8.acceptRanges", laid_unicode_utf8_acceptRanges), ("unicode/utf8.first", laid_unicode_utf8_first)], narrowed := true }
def FnExactCarryAllUptoSaid : Prop := fnExactCarryAllUptoRow.holds Tryd.pinned (OpenSpec.upto fnExactCarryAllSpec)

/-- 'laws.FnExactCarryAhead', WHERE WHAT IT READS IS OF BULK AT MOST 1048576: true; the input reads as it did. -/
def fnExactCarryAheadUptoRow : OpenClaim := { program := "ytandeibpmmnlaaadoor", sum := "f3bc189ade7dfb83de0a7d0ba87b0f3de6b18217b1f27203b66bfa566bf68508", func := "loop.example/differenceengine/laws.FnExactCarryAhead", spec := "fnExactCarryAhead", inPlace := ["internal/bytealg.IndexByteString", "internal/bytealg.IndexString"], named := ["unicode/utf8.first", "unicode/utf8.acceptRanges", "internal/bytealg.MaxLen"], apart := false, laid := [("unicode/utf8.acceptRanges", laid_unicode_utf8_acceptRanges), ("unicode/utf8.first", laid_unicode_utf8_first)], narrowed := true }
def FnExactCarryAheadUptoSaid : Prop := fnExactCarryAheadUptoRow.holds Tryd.pinned (OpenSpec.upto fnExactCarryAheadSpec)

/-- 'laws.FnExactCarryTimes', WHERE WHAT IT READS IS OF BULK AT MOST 1048576: true; the input reads as it did. -/
def fnExactCarryTimesUptoRow : OpenClaim := { program := "ytandeibpmmnlaaadoor", sum := "f3bc189ade7dfb83de0a7d0ba87b0f3de6b18217b1f27203b66bfa566bf68508", func := "loop.example/differenceengine/laws.FnExactCarryTimes", spec := "fnExactCarryTimes", inPlace := ["internal/bytealg.IndexByteString", "internal/bytealg.IndexString"], named := ["unicode/utf8.first", "unicode/utf8.acceptRanges", "internal/bytealg.MaxLen"], apart := false, laid := [("unicode/utf8.acceptRanges", laid_unicode_utf8_acceptRanges), ("unicode/utf8.first", laid_unicode_utf8_first)], narrowed := true }
def FnExactCarryTimesUptoSaid : Prop := fnExactCarryTimesUptoRow.holds Tryd.pinned (OpenSpec.upto fnExactCarryTimesSpec)

end Rows
end Go.Proofs.YtandeibpmmnlaaaDoor
