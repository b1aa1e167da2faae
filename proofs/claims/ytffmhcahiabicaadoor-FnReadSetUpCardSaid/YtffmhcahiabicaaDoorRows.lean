/-
  NARROWER THAN 'FOR EVERY INPUT', by the rows' own cells (each row's printed sentence says how): FnExactSkewEngine: laid · FnExactFormatEngine: laid · FnExactParseEngine: laid · FnEngineText: laid · FnSetUpRead: laid · FnReadSetUp: laid · FnWidenEngine: laid.
  DERIVED. THE GIVEN ROWS OF THIS SEAT. 7 by the template 'for every input the law returns true; each argument reads behind the call as it read before'; 0 by the template 'total and deterministic' (their statements: YtffmhcahiabicaaDoorTotals.lean).
  GIVEN WITH THE SEED: the statements are not yours to turn. If you find one false, say at which input.
  Laid BY PROGRAM, IN A SANDBOX (cutbox-rows.mjs): the forced cells as the released guide's own fill.sh prints them over the translation 1e3db75c2d46ad41… (all of the seat's roots in one cut). By AI agents, Wed Nov 11 2026. No macro, syntax, notation, axiom, sorry.
-/
import Derived.Test.YtffmhcahiabicaaDoorChecked
import GoSem.PinnedTables
import GoSem.Claim
import GoSem.ClaimJoined
import GoSem.ClaimMapViews
import Derived.JoinedTies
import Derived.KernelRfl
namespace Go.Proofs.YtffmhcahiabicaaDoor
/- THE CELL 'sum', in the pinned program and in every row, IS THE sha256 OF THE DUMP (.gsa) THAT YtffmhcahiabicaaDoorProg.lean LOADS. Nothing in Lean hashes anything: it is a label: what it is worth is what the hold of that sum in a sandbox is worth. -/
noncomputable def Tryd.pinned : Pinned := { name := "ytffmhcahiabicaadoor", sum := "1e3db75c2d46ad411f998564287965b1c449e8ad826cef23e6a1747511857b8d", checked := Tryd.checked }
namespace Rows
def none {H : Type} : Left H := { results := [], args := [] }

/- WHAT THE LISTED PACKAGE-LEVEL VARIABLES READ AS WHEN THE CALL BEGINS. Each datum BY PROGRAM (the guide's laid-datum.mjs) off the statement by which the dump's own 'gosem.cut.vars' lays the variable. In a bare row this is a premise. The card (YtffmhcahiabicaaDoorCards.lean) ties it to the program's text. -/
def laid_unicode_utf8_acceptRanges {H : Type} : DataW H := .agg [.agg [.lit (.int .u8 128), .lit (.int .u8 191)], .agg [.lit (.int .u8 160), .lit (.int .u8 191)], .agg [.lit (.int .u8 128), .lit (.int .u8 159)], .agg [.lit (.int .u8 144), .lit (.int .u8 191)], .agg [.lit (.int .u8 128), .lit (.int .u8 143)], .agg [.lit (.int .u8 0), .lit (.int .u8 0)], .agg [.lit (.int .u8 0), .lit (.int .u8 0)], .agg [.lit (.int .u8 0), .lit (.int .u8 0)], .agg [.lit (.int .u8 0), .lit (.int .u8 0)], .agg [.lit (.int .u8 0), .lit (.int .u8 0)], .agg [.lit (.int .u8 0), .lit (.int .u8 0)], .agg [.lit (.int .u8 0), .lit (.int .u8 0)], .agg [.lit (.int .u8 0), .lit (.int .u8 0)], .agg [.lit (.int .u8 0), .lit (.int .u8 0)], .agg [.lit (.int .u8 0), .lit (.int .u8 0)], .agg [.lit (.int .u8 0), .lit (.int .u8 0)]]
/-- One of Go's own tables, pinned by name: the form's constant. -/
def laid_unicode_utf8_first : DataW Unit := Go.Pinned.utf8First

/-- 'laws.FnExactSkewEngine': WHATEVER THE INPUT: true; the input reads as it did. -/
def fnExactSkewEngineSpec : ChangeSpec := { name := "fnExactSkewEngine", fn := fun _ => fun
  | [d] => { results := [.lit (.bool true)], args := [d] }
  | _ => none }
def fnExactSkewEngineRow : OpenClaim := { program := "ytffmhcahiabicaadoor", sum := "1e3db75c2d46ad411f998564287965b1c449e8ad826cef23e6a1747511857b8d", func := "loop.example/differenceengine/laws.FnExactSkewEngine", spec := "fnExactSkewEngine", inPlace := ["internal/bytealg.IndexByteString", "internal/bytealg.IndexString"], unfollowed := true, recurses := true, named := ["unicode/utf8.first", "unicode/utf8.acceptRanges", "internal/bytealg.MaxLen"], apart := false, laid := [("unicode/utf8.acceptRanges", laid_unicode_utf8_acceptRanges), ("unicode/utf8.first", laid_unicode_utf8_first)] }
def FnExactSkewEngineSaid : Prop := fnExactSkewEngineRow.holds Tryd.pinned (OpenSpec.ofChange fnExactSkewEngineSpec)

/-- ITS FALSE NEIGHBOUR: 'it returns false'. Refute it at one input. -/
def fnExactSkewEngineWrong : ChangeSpec := { name := "fnExactSkewEngine", fn := fun _ => fun
  | [d] => { results := [.lit (.bool false)], args := [d] }
  | _ => none }
def FnExactSkewEngineWrongFalsely : Prop := fnExactSkewEngineRow.holds Tryd.pinned (OpenSpec.ofChange fnExactSkewEngineWrong)

/-- 'laws.FnExactFormatEngine': WHATEVER THE INPUT: true; the input reads as it did. -/
def fnExactFormatEngineSpec : ChangeSpec := { name := "fnExactFormatEngine", fn := fun _ => fun
  | [d] => { results := [.lit (.bool true)], args := [d] }
  | _ => none }
def fnExactFormatEngineRow : OpenClaim := { program := "ytffmhcahiabicaadoor", sum := "1e3db75c2d46ad411f998564287965b1c449e8ad826cef23e6a1747511857b8d", func := "loop.example/differenceengine/laws.FnExactFormatEngine", spec := "fnExactFormatEngine", inPlace := ["internal/bytealg.IndexByteString", "internal/bytealg.IndexString", "internal/abi.NoEscape", "internal/bytealg.MakeNoZero"], unfollowed := true, recurses := true, named := ["unicode/utf8.first", "unicode/utf8.acceptRanges", "internal/bytealg.MaxLen"], apart := false, laid := [("unicode/utf8.acceptRanges", laid_unicode_utf8_acceptRanges), ("unicode/utf8.first", laid_unicode_utf8_first)] }
def FnExactFormatEngineSaid : Prop := fnExactFormatEngineRow.holds Tryd.pinned (OpenSpec.ofChange fnExactFormatEngineSpec)

/-- ITS FALSE NEIGHBOUR: 'it returns false'. Refute it at one input. -/
def fnExactFormatEngineWrong : ChangeSpec := { name := "fnExactFormatEngine", fn := fun _ => fun
  | [d] => { results := [.lit (.bool false)], args := [d] }
  | _ => none }
def FnExactFormatEngineWrongFalsely : Prop := fnExactFormatEngineRow.holds Tryd.pinned (OpenSpec.ofChange fnExactFormatEngineWrong)

/-- 'laws.FnExactParseEngine': WHATEVER THE INPUT: true; the input reads as it did. -/
def fnExactParseEngineSpec : ChangeSpec := { name := "fnExactParseEngine", fn := fun _ => fun
  | [d] => { results := [.lit (.bool true)], args := [d] }
  | _ => none }
def fnExactParseEngineRow : OpenClaim := { program := "ytffmhcahiabicaadoor", sum := "1e3db75c2d46ad411f998564287965b1c449e8ad826cef23e6a1747511857b8d", func := "loop.example/differenceengine/laws.FnExactParseEngine", spec := "fnExactParseEngine", inPlace := ["internal/bytealg.CountString", "internal/bytealg.IndexByteString", "internal/bytealg.IndexString"], unfollowed := true, recurses := true, named := ["unicode/utf8.first", "unicode/utf8.acceptRanges", "internal/bytealg.MaxLen"], apart := false, laid := [("unicode/utf8.acceptRanges", laid_unicode_utf8_acceptRanges), ("unicode/utf8.first", laid_unicode_utf8_first)] }
def FnExactParseEngineSaid : Prop := fnExactParseEngineRow.holds Tryd.pinned (OpenSpec.ofChange fnExactParseEngineSpec)

/-- ITS FALSE NEIGHBOUR: 'it returns false'. Refute it at one input. -/
def fnExactParseEngineWrong : ChangeSpec := { name := "fnExactParseEngine", fn := fun _ => fun
  | [d] => { results := [.lit (.bool false)], args := [d] }
  | _ => none }
def FnExactParseEngineWrongFalsely : Prop := fnExactParseEngineRow.holds Tryd.pinned (OpenSpec.ofChange fnExactParseEngineWrong)

/-- 'laws.FnEngineText': WHATEVER THE INPUT: true; the input reads as it did. -/
def fnEngineTextSpec : ChangeSpec := { name := "fnEngineText", fn := fun _ => fun
  | [d1, d2] => { results := [.lit (.bool true)], args := [d1, d2] }
  | _ => none }
def fnEngineTextRow : OpenClaim := { program := "ytffmhcahiabicaadoor", sum := "1e3db75c2d46ad411f998564287965b1c449e8ad826cef23e6a1747511857b8d", func := "loop.example/differenceengine/laws.FnEngineText", spec := "fnEngineText", inPlace := ["internal/bytealg.IndexByteString", "internal/bytealg.IndexString", "internal/abi.NoEscape", "internal/bytealg.MakeNoZero", "internal/bytealg.CountString"], unfollowed := true, recurses := true, named := ["unicode/utf8.first", "unicode/utf8.acceptRanges", "internal/bytealg.MaxLen"], apart := false, laid := [("unicode/utf8.acceptRanges", laid_unicode_utf8_acceptRanges), ("unicode/utf8.first", laid_unicode_utf8_first)] }
def FnEngineTextSaid : Prop := fnEngineTextRow.holds Tryd.pinned (OpenSpec.ofChange fnEngineTextSpec)

/-- ITS FALSE NEIGHBOUR: 'it returns false'. Refute it at one input. -/
def fnEngineTextWrong : ChangeSpec := { name := "fnEngineText", fn := fun _ => fun
  | [d1, d2] => { results := [.lit (.bool false)], args := [d1, d2] }
  | _ => none }
def FnEngineTextWrongFalsely : Prop := fnEngineTextRow.holds Tryd.pinned (OpenSpec.ofChange fnEngineTextWrong)

/-- 'laws.FnSetUpRead': WHATEVER THE INPUT: true; the input reads as it did. -/
def fnSetUpReadSpec : ChangeSpec := { name := "fnSetUpRead", fn := fun _ => fun
  | [d] => { results := [.lit (.bool true)], args := [d] }
  | _ => none }
def fnSetUpReadRow : OpenClaim := { program := "ytffmhcahiabicaadoor", sum := "1e3db75c2d46ad411f998564287965b1c449e8ad826cef23e6a1747511857b8d", func := "loop.example/differenceengine/laws.FnSetUpRead", spec := "fnSetUpRead", inPlace := ["internal/bytealg.IndexByteString", "internal/bytealg.IndexString"], unfollowed := true, recurses := true, named := ["unicode/utf8.first", "unicode/utf8.acceptRanges", "internal/bytealg.MaxLen"], apart := false, laid := [("unicode/utf8.acceptRanges", laid_unicode_utf8_acceptRanges), ("unicode/utf8.first", laid_unicode_utf8_first)] }
def FnSetUpReadSaid : Prop := fnSetUpReadRow.holds Tryd.pinned (OpenSpec.ofChange fnSetUpReadSpec)

/-- ITS FALSE NEIGHBOUR: 'it returns false'. Refute it at one input. -/
def fnSetUpReadWrong : ChangeSpec := { name := "fnSetUpRead", fn := fun _ => fun
  | [d] => { results := [.lit (.bool false)], args := [d] }
  | _ => none }
def FnSetUpReadWrongFalsely : Prop := fnSetUpReadRow.holds Tryd.pinned (OpenSpec.ofChange fnSetUpReadWrong)

/-- 'laws.FnReadSetUp': WHATEVER THE INPUT: true; the input reads as it did. -/
def fnReadSetUpSpec : ChangeSpec := { name := "fnReadSetUp", fn := fun _ => fun
  | [d] => { results := [.lit (.bool true)], args := [d] }
  | _ => none }
def fnReadSetUpRow : OpenClaim := { program := "ytffmhcahiabicaadoor", sum := "1e3db75c2d46ad411f998564287965b1c449e8ad826cef23e6a1747511857b8d", func := "loop.example/differenceengine/laws.FnReadSetUp", spec := "fnReadSetUp", inPlace := ["internal/bytealg.IndexByteString", "internal/bytealg.IndexString"], unfollowed := true, recurses := true, named := ["unicode/utf8.first", "unicode/utf8.acceptRanges", "internal/bytealg.MaxLen"], apart := false, laid := [("unicode/utf8.acceptRanges", laid_unicode_utf8_acceptRanges), ("unicode/utf8.first", laid_unicode_utf8_first)] }
def FnReadSetUpSaid : Prop := fnReadSetUpRow.holds Tryd.pinned (OpenSpec.ofChange fnReadSetUpSpec)

/-- ITS FALSE NEIGHBOUR: 'it returns false'. Refute it at one input. -/
def fnReadSetUpWrong : ChangeSpec := { name := "fnReadSetUp", fn := fun _ => fun
  | [d] => { results := [.lit (.bool false)], args := [d] }
  | _ => none }
def FnReadSetUpWrongFalsely : Prop := fnReadSetUpRow.holds Tryd.pinned (OpenSpec.ofChange fnReadSetUpWrong)

/-- 'laws.FnWidenEngine': WHATEVER THE INPUT: true; the input reads as it did. -/
def fnWidenEngineSpec : ChangeSpec := { name := "fnWidenEngine", fn := fun _ => fun
  | [d] => { results := [.lit (.bool true)], args := [d] }
  | _ => none }
def fnWidenEngineRow : OpenClaim := { program := "ytffmhcahiabicaadoor", sum := "1e3db75c2d46ad411f998564287965b1c449e8ad826cef23e6a1747511857b8d", func := "loop.example/differenceengine/laws.FnWidenEngine", spec := "fnWidenEngine", inPlace := ["internal/bytealg.IndexByteString", "internal/bytealg.IndexString"], unfollowed := true, recurses := true, named := ["unicode/utf8.first", "unicode/utf8.acceptRanges", "internal/bytealg.MaxLen"], apart := false, laid := [("unicode/utf8.acceptRanges", laid_unicode_utf8_acceptRanges), ("unicode/utf8.first", laid_unicode_utf8_first)] }
def FnWidenEngineSaid : Prop := fnWidenEngineRow.holds Tryd.pinned (OpenSpec.ofChange fnWidenEngineSpec)

/-- ITS FALSE NEIGHBOUR: 'it returns false'. Refute it at one input. -/
def fnWidenEngineWrong : ChangeSpec := { name := "fnWidenEngine", fn := fun _ => fun
  | [d] => { results := [.lit (.bool false)], args := [d] }
  | _ => none }
def FnWidenEngineWrongFalsely : Prop := fnWidenEngineRow.holds Tryd.pinned (OpenSpec.ofChange fnWidenEngineWrong)

/- THE SECOND FORM. 'bulk': how many values and letters a reading holds, each counted each time it is reached (what is shared counts as often as it is met; a slice's spare places count too). A statement '..UptoSaid' is the law's where the arguments, and the package variables that the reading takes, are together of bulk at most 1048576: NARROWER than '..Said'. Prove '..Said' where nothing that the law and all that it calls make is longer than what came in: it says more and counts as full. Else prove '..UptoSaid'. A law counts once. -/
mutual
def uptoBulk {H : Type} : DataW H → Nat
  | .lit (.string bytes) => bytes.length + 1
  | .lit _ => 1
  | .nil => 1
  | .ptr d => uptoBulk d + 1
  | .slice elems spare => uptoBulkAll elems + uptoBulkAll spare + 1
  | .agg parts => uptoBulkAll parts + 1
  | .iface _ d => uptoBulk d + 1
  | .map entries => uptoBulkEntries entries + 1
  | .held _ => 1
def uptoBulkAll {H : Type} : List (DataW H) → Nat
  | [] => 0
  | d :: r => uptoBulk d + uptoBulkAll r
def uptoBulkEntries {H : Type} : List (Lit × DataW H) → Nat
  | [] => 0
  | x :: r => uptoBulkEntry x + uptoBulkEntries r
def uptoBulkEntry {H : Type} : Lit × DataW H → Nat
  | (.string bytes, d) => bytes.length + uptoBulk d + 1
  | (_, d) => uptoBulk d + 1
 end
def uptoSmall : (H : Type) → List (DataW H) → Bool := fun _ ds => decide (uptoBulkAll ds ≤ 1048576)
def OpenSpec.upto (s : _root_.Go.ChangeSpec) : _root_.Go.OpenSpec := { _root_.Go.OpenSpec.ofChange s with cond := some uptoSmall }

/-- 'laws.FnExactSkewEngine', WHERE WHAT IT READS IS OF BULK AT MOST 1048576: true; the input reads as it did. -/
def fnExactSkewEngineUptoRow : OpenClaim := { program := "ytffmhcahiabicaadoor", sum := "1e3db75c2d46ad411f998564287965b1c449e8ad826cef23e6a1747511857b8d", func := "loop.example/differenceengine/laws.FnExactSkewEngine", spec := "fnExactSkewEngine", inPlace := ["internal/bytealg.IndexByteString", "internal/bytealg.IndexString"], unfollowed := true, recurses := true, named := ["unicode/utf8.first", "unicode/utf8.acceptRanges", "internal/bytealg.MaxLen"], apart := false, laid := [("unicode/utf8.acceptRanges", laid_unicode_utf8_acceptRanges), ("unicode/utf8.first", laid_unicode_utf8_first)], narrowed := true }
def FnExactSkewEngineUptoSaid : Prop := fnExactSkewEngineUptoRow.holds Tryd.pinned (OpenSpec.upto fnExactSkewEngineSpec)

/-- 'laws.FnExactFormatEngine', WHERE WHAT IT READS IS OF BULK AT MOST 1048576: true; the input reads as it did. -/
def fnExactFormatEngineUptoRow : OpenClaim := { program := "ytffmhcahiabicaadoor", sum := "1e3db75c2d46ad411f998564287965b1c449e8ad826cef23e6a1747511857b8d", func := "loop.example/differenceengine/laws.FnExactFormatEngine", spec := "fnExactFormatEngine", inPlace := ["internal/bytealg.IndexByteString", "internal/bytealg.IndexString", "internal/abi.NoEscape", "internal/bytealg.MakeNoZero"], unfollowed := true, recurses := true, named := ["unicode/utf8.first", "unicode/utf8.acceptRanges", "internal/bytealg.MaxLen"], apart := false, laid := [("unicode/utf8.acceptRanges", laid_unicode_utf8_acceptRanges), ("unicode/utf8.first", laid_unicode_utf8_first)], narrowed := true }
def FnExactFormatEngineUptoSaid : Prop := fnExactFormatEngineUptoRow.holds Tryd.pinned (OpenSpec.upto fnExactFormatEngineSpec)

/-- 'laws.FnExactParseEngine', WHERE WHAT IT READS IS OF BULK AT MOST 1048576: true; the input reads as it did. -/
def fnExactParseEngineUptoRow : OpenClaim := { program := "ytffmhcahiabicaadoor", sum := "1e3db75c2d46ad411f998564287965b1c449e8ad826cef23e6a1747511857b8d", func := "loop.example/differenceengine/laws.FnExactParseEngine", spec := "fnExactParseEngine", inPlace := ["internal/bytealg.CountString", "internal/bytealg.IndexByteString", "internal/bytealg.IndexString"], unfollowed := true, recurses := true, named := ["unicode/utf8.first", "unicode/utf8.acceptRanges", "internal/bytealg.MaxLen"], apart := false, laid := [("unicode/utf8.acceptRanges", laid_unicode_utf8_acceptRanges), ("unicode/utf8.first", laid_unicode_utf8_first)], narrowed := true }
def FnExactParseEngineUptoSaid : Prop := fnExactParseEngineUptoRow.holds Tryd.pinned (OpenSpec.upto fnExactParseEngineSpec)

/-- 'laws.FnEngineText', WHERE WHAT IT READS IS OF BULK AT MOST 1048576: true; the input reads as it did. -/
def fnEngineTextUptoRow : OpenClaim := { program := "ytffmhcahiabicaadoor", sum := "1e3db75c2d46ad411f998564287965b1c449e8ad826cef23e6a1747511857b8d", func := "loop.example/differenceengine/laws.FnEngineText", spec := "fnEngineText", inPlace := ["internal/bytealg.IndexByteString", "internal/bytealg.IndexString", "internal/abi.NoEscape", "internal/bytealg.MakeNoZero", "internal/bytealg.CountString"], unfollowed := true, recurses := true, named := ["unicode/utf8.first", "unicode/utf8.acceptRanges", "internal/bytealg.MaxLen"], apart := false, laid := [("unicode/utf8.acceptRanges", laid_unicode_utf8_acceptRanges), ("unicode/utf8.first", laid_unicode_utf8_first)], narrowed := true }
def FnEngineTextUptoSaid : Prop := fnEngineTextUptoRow.holds Tryd.pinned (OpenSpec.upto fnEngineTextSpec)

/-- 'laws.FnSetUpRead', WHERE WHAT IT READS IS OF BULK AT MOST 1048576: true; the input reads as it did. -/
def fnSetUpReadUptoRow : OpenClaim := { program := "ytffmhcahiabicaadoor", sum := "1e3db75c2d46ad411f998564287965b1c449e8ad826cef23e6a1747511857b8d", func := "loop.example/differenceengine/laws.FnSetUpRead", spec := "fnSetUpRead", inPlace := ["internal/bytealg.IndexByteString", "internal/bytealg.IndexString"], unfollowed := true, recurses := true, named := ["unicode/utf8.first", "unicode/utf8.acceptRanges", "internal/bytealg.MaxLen"], apart := false, laid := [("unicode/utf8.acceptRanges", laid_unicode_utf8_acceptRanges), ("unicode/utf8.first", laid_unicode_utf8_first)], narrowed := true }
def FnSetUpReadUptoSaid : Prop := fnSetUpReadUptoRow.holds Tryd.pinned (OpenSpec.upto fnSetUpReadSpec)

/-- 'laws.FnReadSetUp', WHERE WHAT IT READS IS OF BULK AT MOST 1048576: true; the input reads as it did. -/
def fnReadSetUpUptoRow : OpenClaim := { program := "ytffmhcahiabicaadoor", sum := "1e3db75c2d46ad411f998564287965b1c449e8ad826cef23e6a1747511857b8d", func := "loop.example/differenceengine/laws.FnReadSetUp", spec := "fnReadSetUp", inPlace := ["internal/bytealg.IndexByteString", "internal/bytealg.IndexString"], unfollowed := true, recurses := true, named := ["unicode/utf8.first", "unicode/utf8.acceptRanges", "internal/bytealg.MaxLen"], apart := false, laid := [("unicode/utf8.acceptRanges", laid_unicode_utf8_acceptRanges), ("unicode/utf8.first", laid_unicode_utf8_first)], narrowed := true }
def FnReadSetUpUptoSaid : Prop := fnReadSetUpUptoRow.holds Tryd.pinned (OpenSpec.upto fnReadSetUpSpec)

/-- 'laws.FnWidenEngine', WHERE WHAT IT READS IS OF BULK AT MOST 1048576: true; the input reads as it did. -/
def fnWidenEngineUptoRow : OpenClaim := { program := "ytffmhcahiabicaadoor", sum := "1e3db75c2d46ad411f998564287965b1c449e8ad826cef23e6a1747511857b8d", func := "loop.example/differenceengine/laws.FnWidenEngine", spec := "fnWidenEngine", inPlace := ["internal/bytealg.IndexByteString", "internal/bytealg.IndexString"], unfollowed := true, recurses := true, named := ["unicode/utf8.first", "unicode/utf8.acceptRanges", "internal/bytealg.MaxLen"], apart := false, laid := [("unicode/utf8.acceptRanges", laid_unicode_utf8_acceptRanges), ("unicode/utf8.first", laid_unicode_utf8_first)], narrowed := true }
def FnWidenEngineUptoSaid : Prop := fnWidenEngineUptoRow.holds Tryd.pinned (OpenSpec.upto fnWidenEngineSpec)

end Rows
end Go.Proofs.YtffmhcahiabicaaDoor
