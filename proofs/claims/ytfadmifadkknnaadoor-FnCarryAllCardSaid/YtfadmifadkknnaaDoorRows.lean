/-
  NARROWER THAN 'FOR EVERY INPUT', by the rows' own cells (each row's printed sentence says how): FnTurnCarry: laid · FnWarned: laid · FnCarryOnce: laid · FnCarryAll: laid · FnCarryChain: laid · FnCast: laid.
  DERIVED. THE GIVEN ROWS OF THIS SEAT. 6 by the template 'for every input the law returns true; each argument reads behind the call as it read before'; 0 by the template 'total and deterministic' (their statements: YtfadmifadkknnaaDoorTotals.lean).
  GIVEN WITH THE SEED: the statements are not yours to turn. If you find one false, say at which input.
  Laid BY PROGRAM, IN A SANDBOX (cutbox-rows.mjs): the forced cells as the released guide's own fill.sh prints them over the translation 834ab13e7e0b6e4c… (all of the seat's roots in one cut). By AI agents, Wed Nov 11 2026. No macro, syntax, notation, axiom, sorry.
-/
import Derived.Test.YtfadmifadkknnaaDoorChecked
import GoSem.PinnedTables
import GoSem.Claim
import GoSem.ClaimJoined
import GoSem.ClaimMapViews
import Derived.JoinedTies
import Derived.KernelRfl
namespace Go.Proofs.YtfadmifadkknnaaDoor
/- THE CELL 'sum', in the pinned program and in every row, IS THE sha256 OF THE DUMP (.gsa) THAT YtfadmifadkknnaaDoorProg.lean LOADS. Nothing in Lean hashes anything: it is a label: what it is worth is what the hold of that sum in a sandbox is worth. -/
noncomputable def Tryd.pinned : Pinned := { name := "ytfadmifadkknnaadoor", sum := "834ab13e7e0b6e4c25d7d4aba8a5dffd1de76566c386c8e12f1a530ba2cdb73e", checked := Tryd.checked }
namespace Rows
def none {H : Type} : Left H := { results := [], args := [] }

/- WHAT THE LISTED PACKAGE-LEVEL VARIABLES READ AS WHEN THE CALL BEGINS. Each datum BY PROGRAM (the guide's laid-datum.mjs) off the statement by which the dump's own 'gosem.cut.vars' lays the variable. In a bare row this is a premise. The card (YtfadmifadkknnaaDoorCards.lean) ties it to the program's text. -/
def laid_unicode_utf8_acceptRanges {H : Type} : DataW H := .agg [.agg [.lit (.int .u8 128), .lit (.int .u8 191)], .agg [.lit (.int .u8 160), .lit (.int .u8 191)], .agg [.lit (.int .u8 128), .lit (.int .u8 159)], .agg [.lit (.int .u8 144), .lit (.int .u8 191)], .agg [.lit (.int .u8 128), .lit (.int .u8 143)], .agg [.lit (.int .u8 0), .lit (.int .u8 0)], .agg [.lit (.int .u8 0), .lit (.int .u8 0)], .agg [.lit (.int .u8 0), .lit (.int .u8 0)], .agg [.lit (.int .u8 0), .lit (.int .u8 0)], .agg [.lit (.int .u8 0), .lit (.int .u8 0)], .agg [.lit (.int .u8 0), .lit (.int .u8 0)], .agg [.lit (.int .u8 0), .lit (.int .u8 0)], .agg [.lit (.int .u8 0), .lit (.int .u8 0)], .agg [.lit (.int .u8 0), .lit (.int .u8 0)], .agg [.lit (.int .u8 0), .lit (.int .u8 0)], .agg [.lit (.int .u8 0), .lit (.int .u8 0)]]
/-- One of Go's own tables, pinned by name: the form's constant. -/
def laid_unicode_utf8_first : DataW Unit := Go.Pinned.utf8First

/-- 'laws.FnTurnCarry': WHATEVER THE INPUT: true; the input reads as it did. -/
def fnTurnCarrySpec : ChangeSpec := { name := "fnTurnCarry", fn := fun _ => fun
  | [d] => { results := [.lit (.bool true)], args := [d] }
  | _ => none }
def fnTurnCarryRow : OpenClaim := { program := "ytfadmifadkknnaadoor", sum := "834ab13e7e0b6e4c25d7d4aba8a5dffd1de76566c386c8e12f1a530ba2cdb73e", func := "loop.example/differenceengine/laws.FnTurnCarry", spec := "fnTurnCarry", inPlace := ["internal/bytealg.IndexByteString", "internal/bytealg.IndexString"], named := ["unicode/utf8.first", "unicode/utf8.acceptRanges", "internal/bytealg.MaxLen"], apart := false, laid := [("unicode/utf8.acceptRanges", laid_unicode_utf8_acceptRanges), ("unicode/utf8.first", laid_unicode_utf8_first)] }
def FnTurnCarrySaid : Prop := fnTurnCarryRow.holds Tryd.pinned (OpenSpec.ofChange fnTurnCarrySpec)

/-- ITS FALSE NEIGHBOUR: 'it returns false'. Refute it at one input. -/
def fnTurnCarryWrong : ChangeSpec := { name := "fnTurnCarry", fn := fun _ => fun
  | [d] => { results := [.lit (.bool false)], args := [d] }
  | _ => none }
def FnTurnCarryWrongFalsely : Prop := fnTurnCarryRow.holds Tryd.pinned (OpenSpec.ofChange fnTurnCarryWrong)

/-- 'laws.FnWarned': WHATEVER THE INPUT: true; the input reads as it did. -/
def fnWarnedSpec : ChangeSpec := { name := "fnWarned", fn := fun _ => fun
  | [d] => { results := [.lit (.bool true)], args := [d] }
  | _ => none }
def fnWarnedRow : OpenClaim := { program := "ytfadmifadkknnaadoor", sum := "834ab13e7e0b6e4c25d7d4aba8a5dffd1de76566c386c8e12f1a530ba2cdb73e", func := "loop.example/differenceengine/laws.FnWarned", spec := "fnWarned", inPlace := ["internal/bytealg.IndexByteString", "internal/bytealg.IndexString"], named := ["unicode/utf8.first", "unicode/utf8.acceptRanges", "internal/bytealg.MaxLen"], apart := false, laid := [("unicode/utf8.acceptRanges", laid_unicode_utf8_acceptRanges), ("unicode/utf8.first", laid_unicode_utf8_first)] }
def FnWarnedSaid : Prop := fnWarnedRow.holds Tryd.pinned (OpenSpec.ofChange fnWarnedSpec)

/-- ITS FALSE NEIGHBOUR: 'it returns false'. Refute it at one input. -/
def fnWarnedWrong : ChangeSpec := { name := "fnWarned", fn := fun _ => fun
  | [d] => { results := [.lit (.bool false)], args := [d] }
  | _ => none }
def FnWarnedWrongFalsely : Prop := fnWarnedRow.holds Tryd.pinned (OpenSpec.ofChange fnWarnedWrong)

/-- 'laws.FnCarryOnce': WHATEVER THE INPUT: true; the input reads as it did. -/
def fnCarryOnceSpec : ChangeSpec := { name := "fnCarryOnce", fn := fun _ => fun
  | [d] => { results := [.lit (.bool true)], args := [d] }
  | _ => none }
def fnCarryOnceRow : OpenClaim := { program := "ytfadmifadkknnaadoor", sum := "834ab13e7e0b6e4c25d7d4aba8a5dffd1de76566c386c8e12f1a530ba2cdb73e", func := "loop.example/differenceengine/laws.FnCarryOnce", spec := "fnCarryOnce", inPlace := ["internal/bytealg.IndexByteString", "internal/bytealg.IndexString"], named := ["unicode/utf8.first", "unicode/utf8.acceptRanges", "internal/bytealg.MaxLen"], apart := false, laid := [("unicode/utf8.acceptRanges", laid_unicode_utf8_acceptRanges), ("unicode/utf8.first", laid_unicode_utf8_first)] }
def FnCarryOnceSaid : Prop := fnCarryOnceRow.holds Tryd.pinned (OpenSpec.ofChange fnCarryOnceSpec)

/-- ITS FALSE NEIGHBOUR: 'it returns false'. Refute it at one input. -/
def fnCarryOnceWrong : ChangeSpec := { name := "fnCarryOnce", fn := fun _ => fun
  | [d] => { results := [.lit (.bool false)], args := [d] }
  | _ => none }
def FnCarryOnceWrongFalsely : Prop := fnCarryOnceRow.holds Tryd.pinned (OpenSpec.ofChange fnCarryOnceWrong)

/-- 'laws.FnCarryAll': WHATEVER THE INPUT: true; the input reads as it did. -/
def fnCarryAllSpec : ChangeSpec := { name := "fnCarryAll", fn := fun _ => fun
  | [d] => { results := [.lit (.bool true)], args := [d] }
  | _ => none }
def fnCarryAllRow : OpenClaim := { program := "ytfadmifadkknnaadoor", sum := "834ab13e7e0b6e4c25d7d4aba8a5dffd1de76566c386c8e12f1a530ba2cdb73e", func := "loop.example/differenceengine/laws.FnCarryAll", spec := "fnCarryAll", inPlace := ["internal/bytealg.IndexByteString", "internal/bytealg.IndexString"], named := ["unicode/utf8.first", "unicode/utf8.acceptRanges", "internal/bytealg.MaxLen"], apart := false, laid := [("unicode/utf8.acceptRanges", laid_unicode_utf8_acceptRanges), ("unicode/utf8.first", laid_unicode_utf8_first)] }
def FnCarryAllSaid : Prop := fnCarryAllRow.holds Tryd.pinned (OpenSpec.ofChange fnCarryAllSpec)

/-- ITS FALSE NEIGHBOUR: 'it returns false'. Refute it at one input. -/
def fnCarryAllWrong : ChangeSpec := { name := "fnCarryAll", fn := fun _ => fun
  | [d] => { results := [.lit (.bool false)], args := [d] }
  | _ => none }
def FnCarryAllWrongFalsely : Prop := fnCarryAllRow.holds Tryd.pinned (OpenSpec.ofChange fnCarryAllWrong)

/-- 'laws.FnCarryChain': WHATEVER THE INPUT: true; the input reads as it did. -/
def fnCarryChainSpec : ChangeSpec := { name := "fnCarryChain", fn := fun _ => fun
  | [d] => { results := [.lit (.bool true)], args := [d] }
  | _ => none }
def fnCarryChainRow : OpenClaim := { program := "ytfadmifadkknnaadoor", sum := "834ab13e7e0b6e4c25d7d4aba8a5dffd1de76566c386c8e12f1a530ba2cdb73e", func := "loop.example/differenceengine/laws.FnCarryChain", spec := "fnCarryChain", inPlace := ["internal/bytealg.IndexByteString", "internal/bytealg.IndexString"], named := ["unicode/utf8.first", "unicode/utf8.acceptRanges", "internal/bytealg.MaxLen"], apart := false, laid := [("unicode/utf8.acceptRanges", laid_unicode_utf8_acceptRanges), ("unicode/utf8.first", laid_unicode_utf8_first)] }
def FnCarryChainSaid : Prop := fnCarryChainRow.holds Tryd.pinned (OpenSpec.ofChange fnCarryChainSpec)

/-- ITS FALSE NEIGHBOUR: 'it returns false'. Refute it at one input. -/
def fnCarryChainWrong : ChangeSpec := { name := "fnCarryChain", fn := fun _ => fun
  | [d] => { results := [.lit (.bool false)], args := [d] }
  | _ => none }
def FnCarryChainWrongFalsely : Prop := fnCarryChainRow.holds Tryd.pinned (OpenSpec.ofChange fnCarryChainWrong)

/-- 'laws.FnCast': WHATEVER THE INPUT: true; the input reads as it did. -/
def fnCastSpec : ChangeSpec := { name := "fnCast", fn := fun _ => fun
  | [d] => { results := [.lit (.bool true)], args := [d] }
  | _ => none }
def fnCastRow : OpenClaim := { program := "ytfadmifadkknnaadoor", sum := "834ab13e7e0b6e4c25d7d4aba8a5dffd1de76566c386c8e12f1a530ba2cdb73e", func := "loop.example/differenceengine/laws.FnCast", spec := "fnCast", inPlace := ["internal/bytealg.IndexByteString", "internal/bytealg.IndexString"], named := ["unicode/utf8.first", "unicode/utf8.acceptRanges", "internal/bytealg.MaxLen"], apart := false, laid := [("unicode/utf8.acceptRanges", laid_unicode_utf8_acceptRanges), ("unicode/utf8.first", laid_unicode_utf8_first)] }
def FnCastSaid : Prop := fnCastRow.holds Tryd.pinned (OpenSpec.ofChange fnCastSpec)

/-- ITS FALSE NEIGHBOUR: 'it returns false'. Refute it at one input. -/
def fnCastWrong : ChangeSpec := { name := "fnCast", fn := fun _ => fun
  | [d] => { results := [.lit (.bool false)], args := [d] }
  | _ => none }
def FnCastWrongFalsely : Prop := fnCastRow.holds Tryd.pinned (OpenSpec.ofChange fnCastWrong)

/- THE SECOND FORM. 'bulk': how many values and letters a reading holds, each counted each time it is reached (what is shared counts as often as it is met; a slice's spare places count too). A statement '..UptoSaid' is the law's where the arguments, and the package variables that the reading takes, are together of bulk at most 1048576: NARROWER than '..Said'. Prove '..Said' where nothing that the law and all that it calls make is longer than what came in: it says more and counts as full. Else prove '..UptoSaid'. A law counts once. -/
mutual
def uptoBulk {H : Type} : DataW H → Nat
  | .lit (.string bytes) => bytes.length + 1
  | .lit _ => 1
  | .nil => 1
  | .ptr d => uptoBulk d + 1
  | .slice elems spare => uptoBulkAll elems + uptoBulkAll spare + 1
  | .agg parts => uptoBulkAll parts + 1
  | .iface _ d => uptoBulk d + 1
  | .map entries => uptoBulkEntries entries + 1
  | .held _ => 1
def uptoBulkAll {H : Type} : List (DataW H) → Nat
  | [] => 0
  | d :: r => uptoBulk d + uptoBulkAll r
def uptoBulkEntries {H : Type} : List (Lit × DataW H) → Nat
  | [] => 0
  | x :: r => uptoBulkEntry x + uptoBulkEntries r
def uptoBulkEntry {H : Type} : Lit × DataW H → Nat
  | (.string bytes, d) => bytes.length + uptoBulk d + 1
  | (_, d) => uptoBulk d + 1
 end
def uptoSmall : (H : Type) → List (DataW H) → Bool := fun _ ds => decide (uptoBulkAll ds ≤ 1048576)
def OpenSpec.upto (s : _root_.Go.ChangeSpec) : _root_.Go.OpenSpec := { _root_.Go.OpenSpec.ofChange s with cond := some uptoSmall }

/-- 'laws.FnTurnCarry', WHERE WHAT IT READS IS OF BULK AT MOST 1048576: true; the input reads as it did. -/
def fnTurnCarryUptoRow : OpenClaim := { program := "ytfadmifadkknnaadoor", sum := "834ab13e7e0b6e4c25d7d4aba8a5dffd1de76566c386c8e12f1a530ba2cdb73e", func := "loop.example/differenceengine/laws.FnTurnCarry", spec := "fnTurnCarry", inPlace := ["internal/bytealg.IndexByteString", "internal/bytealg.IndexString"], named := ["unicode/utf8.first", "unicode/utf8.acceptRanges", "internal/bytealg.MaxLen"], apart := false, laid := [("unicode/utf8.acceptRanges", laid_unicode_utf8_acceptRanges), ("unicode/utf8.first", laid_unicode_utf8_first)], narrowed := true }
def FnTurnCarryUptoSaid : Prop := fnTurnCarryUptoRow.holds Tryd.pinned (OpenSpec.upto fnTurnCarrySpec)

/-- 'laws.FnWarned', WHERE WHAT IT READS IS OF BULK AT MOST 1048576: true; the input reads as it did. -/
def fnWarnedUptoRow : OpenClaim := { program := "ytfadmifadkknnaadoor", sum := "834ab13e7e0b6e4c25d7d4aba8a5dffd1de76566c386c8e12f1a530ba2cdb73e", func := "loop.example/differenceengine/laws.FnWarned", spec := "fnWarned", inPlace := ["internal/bytealg.IndexByteString", "internal/bytealg.IndexString"], named := ["unicode/utf8.first", "unicode/utf8.acceptRanges", "internal/bytealg.MaxLen"], apart := false, laid := [("unicode/utf8.acceptRanges", laid_unicode_utf8_acceptRanges), ("unicode/utf8.first", laid_unicode_utf8_first)], narrowed := true }
def FnWarnedUptoSaid : Prop := fnWarnedUptoRow.holds Tryd.pinned (OpenSpec.upto fnWarnedSpec)

/-- 'laws.FnCarryOnce', WHERE WHAT IT READS IS OF BULK AT MOST 1048576: true; the input reads as it did. -/
def fnCarryOnceUptoRow : OpenClaim := { program := "ytfadmifadkknnaadoor", sum := "834ab13e7e0b6e4c25d7d4aba8a5dffd1de76566c386c8e12f1a530ba2cdb73e", func := "loop.example/differenceengine/laws.FnCarryOnce", spec := "fnCarryOnce", inPlace := ["internal/bytealg.IndexByteString", "internal/bytealg.IndexString"], named := ["unicode/utf8.first", "unicode/utf8.acceptRanges", "internal/bytealg.MaxLen"], apart := false, laid := [("unicode/utf8.acceptRanges", laid_unicode_utf8_acceptRanges), ("unicode/utf8.first", laid_unicode_utf8_first)], narrowed := true }
def FnCarryOnceUptoSaid : Prop := fnCarryOnceUptoRow.holds Tryd.pinned (OpenSpec.upto fnCarryOnceSpec)

/-- 'laws.FnCarryAll', WHERE WHAT IT READS IS OF BULK AT MOST 1048576: true; the input reads as it did. -/
def fnCarryAllUptoRow : OpenClaim := { program := "ytfadmifadkknnaadoor", sum := "834ab13e7e0b6e4c25d7d4aba8a5dffd1de76566c386c8e12f1a530ba2cdb73e", func := "loop.example/differenceengine/laws.FnCarryAll", spec := "fnCarryAll", inPlace := ["internal/bytealg.IndexByteString", "internal/bytealg.IndexString"], named := ["unicode/utf8.first", "unicode/utf8.acceptRanges", "internal/bytealg.MaxLen"], apart := false, laid := [("unicode/utf8.acceptRanges", laid_unicode_utf8_acceptRanges), ("unicode/utf8.first", laid_unicode_utf8_first)], narrowed := true }
def FnCarryAllUptoSaid : Prop := fnCarryAllUptoRow.holds Tryd.pinned (OpenSpec.upto fnCarryAllSpec)

/-- 'laws.FnCarryChain', WHERE WHAT IT READS IS OF BULK AT MOST 1048576: true; the input reads as it did. -/
def fnCarryChainUptoRow : OpenClaim := { program := "ytfadmifadkknnaadoor", sum := "834ab13e7e0b6e4c25d7d4aba8a5dffd1de76566c386c8e12f1a530ba2cdb73e", func := "loop.example/differenceengine/laws.FnCarryChain", spec := "fnCarryChain", inPlace := ["internal/bytealg.IndexByteString", "internal/bytealg.IndexString"], named := ["unicode/utf8.first", "unicode/utf8.acceptRanges", "internal/bytealg.MaxLen"], apart := false, laid := [("unicode/utf8.acceptRanges", laid_unicode_utf8_acceptRanges), ("unicode/utf8.first", laid_unicode_utf8_first)], narrowed := true }
def FnCarryChainUptoSaid : Prop := fnCarryChainUptoRow.holds Tryd.pinned (OpenSpec.upto fnCarryChainSpec)

/-- 'laws.FnCast', WHERE WHAT IT READS IS OF BULK AT MOST 1048576: true; the input reads as it did. -/
def fnCastUptoRow : OpenClaim := { program := "ytfadmifadkknnaadoor", sum := "834ab13e7e0b6e4c25d7d4aba8a5dffd1de76566c386c8e12f1a530ba2cdb73e", func := "loop.example/differenceengine/laws.FnCast", spec := "fnCast", inPlace := ["internal/bytealg.IndexByteString", "internal/bytealg.IndexString"], named := ["unicode/utf8.first", "unicode/utf8.acceptRanges", "internal/bytealg.MaxLen"], apart := false, laid := [("unicode/utf8.acceptRanges", laid_unicode_utf8_acceptRanges), ("unicode/utf8.first", laid_unicode_utf8_first)], narrowed := true }
def FnCastUptoSaid : Prop := fnCastUptoRow.holds Tryd.pinned (OpenSpec.upto fnCastSpec)

end Rows
end Go.Proofs.YtfadmifadkknnaaDoor
