/-
  No cell of these rows narrows 'for every input' (looked for: loops, veiled, ifaces, maps, wideKeys, modest, calm, conditions, laid).
  DERIVED. THE GIVEN ROWS OF THIS SEAT. 8 by the template 'for every input the law returns true; each argument reads behind the call as it read before'; 0 by the template 'total and deterministic' (their statements: YtlhinfjgabacnaaTotals.lean).
  GIVEN WITH THE SEED: the statements are not yours to turn. If you find one false, say at which input.
  Laid BY PROGRAM, IN A SANDBOX (cutbox-rows.mjs): the forced cells as the released guide's own fill.sh prints them over the translation dbd99d4aed299dc1… (all of the seat's roots in one cut). By AI agents, Wed Nov 11 2026. No macro, syntax, notation, axiom, sorry.
-/
import Derived.Test.YtlhinfjgabacnaaChecked
import GoSem.Claim
import GoSem.ClaimJoined
import GoSem.ClaimMapViews
import Derived.JoinedTies
import Derived.KernelRfl
namespace Go.Proofs.Ytlhinfjgabacnaa
/- THE CELL 'sum', in the pinned program and in every row, IS THE sha256 OF THE DUMP (.gsa) THAT YtlhinfjgabacnaaProg.lean LOADS. Nothing in Lean hashes anything: it is a label: what it is worth is what the hold of that sum in a sandbox is worth. -/
noncomputable def Try.pinned : Pinned := { name := "ytlhinfjgabacnaa", sum := "dbd99d4aed299dc18a3557456943134ea1fcfa1e7aafea36c8ace5262d4edab6", checked := Try.checked }
namespace Rows
def none {H : Type} : Left H := { results := [], args := [] }

/-- 'laws.FnExactRoundEntry': WHATEVER THE INPUT: true; the input reads as it did. -/
def fnExactRoundEntrySpec : ChangeSpec := { name := "fnExactRoundEntry", fn := fun _ => fun
  | [d1, d2, d3] => { results := [.lit (.bool true)], args := [d1, d2, d3] }
  | _ => none }
def fnExactRoundEntryRow : OpenClaim := { program := "ytlhinfjgabacnaa", sum := "dbd99d4aed299dc18a3557456943134ea1fcfa1e7aafea36c8ace5262d4edab6", func := "loop.example/differenceengine/laws.FnExactRoundEntry", spec := "fnExactRoundEntry", unfollowed := true, recurses := true, apart := false }
def FnExactRoundEntrySaid : Prop := fnExactRoundEntryRow.holds Try.pinned (OpenSpec.ofChange fnExactRoundEntrySpec)

/-- ITS FALSE NEIGHBOUR: 'it returns false'. Refute it at one input. -/
def fnExactRoundEntryWrong : ChangeSpec := { name := "fnExactRoundEntry", fn := fun _ => fun
  | [d1, d2, d3] => { results := [.lit (.bool false)], args := [d1, d2, d3] }
  | _ => none }
def FnExactRoundEntryWrongFalsely : Prop := fnExactRoundEntryRow.holds Try.pinned (OpenSpec.ofChange fnExactRoundEntryWrong)

/-- 'laws.FnExactRoundTable': WHATEVER THE INPUT: true; the input reads as it did. -/
def fnExactRoundTableSpec : ChangeSpec := { name := "fnExactRoundTable", fn := fun _ => fun
  | [d1, d2, d3] => { results := [.lit (.bool true)], args := [d1, d2, d3] }
  | _ => none }
def fnExactRoundTableRow : OpenClaim := { program := "ytlhinfjgabacnaa", sum := "dbd99d4aed299dc18a3557456943134ea1fcfa1e7aafea36c8ace5262d4edab6", func := "loop.example/differenceengine/laws.FnExactRoundTable", spec := "fnExactRoundTable", unfollowed := true, recurses := true, apart := false }
def FnExactRoundTableSaid : Prop := fnExactRoundTableRow.holds Try.pinned (OpenSpec.ofChange fnExactRoundTableSpec)

/-- ITS FALSE NEIGHBOUR: 'it returns false'. Refute it at one input. -/
def fnExactRoundTableWrong : ChangeSpec := { name := "fnExactRoundTable", fn := fun _ => fun
  | [d1, d2, d3] => { results := [.lit (.bool false)], args := [d1, d2, d3] }
  | _ => none }
def FnExactRoundTableWrongFalsely : Prop := fnExactRoundTableRow.holds Try.pinned (OpenSpec.ofChange fnExactRoundTableWrong)

/-- 'laws.FnExactRoundError': WHATEVER THE INPUT: true; the input reads as it did. -/
def fnExactRoundErrorSpec : ChangeSpec := { name := "fnExactRoundError", fn := fun _ => fun
  | [d1, d2, d3] => { results := [.lit (.bool true)], args := [d1, d2, d3] }
  | _ => none }
def fnExactRoundErrorRow : OpenClaim := { program := "ytlhinfjgabacnaa", sum := "dbd99d4aed299dc18a3557456943134ea1fcfa1e7aafea36c8ace5262d4edab6", func := "loop.example/differenceengine/laws.FnExactRoundError", spec := "fnExactRoundError", unfollowed := true, recurses := true, apart := false }
def FnExactRoundErrorSaid : Prop := fnExactRoundErrorRow.holds Try.pinned (OpenSpec.ofChange fnExactRoundErrorSpec)

/-- ITS FALSE NEIGHBOUR: 'it returns false'. Refute it at one input. -/
def fnExactRoundErrorWrong : ChangeSpec := { name := "fnExactRoundError", fn := fun _ => fun
  | [d1, d2, d3] => { results := [.lit (.bool false)], args := [d1, d2, d3] }
  | _ => none }
def FnExactRoundErrorWrongFalsely : Prop := fnExactRoundErrorRow.holds Try.pinned (OpenSpec.ofChange fnExactRoundErrorWrong)

/-- 'laws.FnExactLayoutValid': WHATEVER THE INPUT: true; the input reads as it did. -/
def fnExactLayoutValidSpec : ChangeSpec := { name := "fnExactLayoutValid", fn := fun _ => fun
  | [d] => { results := [.lit (.bool true)], args := [d] }
  | _ => none }
def fnExactLayoutValidRow : OpenClaim := { program := "ytlhinfjgabacnaa", sum := "dbd99d4aed299dc18a3557456943134ea1fcfa1e7aafea36c8ace5262d4edab6", func := "loop.example/differenceengine/laws.FnExactLayoutValid", spec := "fnExactLayoutValid", apart := false }
def FnExactLayoutValidSaid : Prop := fnExactLayoutValidRow.holds Try.pinned (OpenSpec.ofChange fnExactLayoutValidSpec)

/-- ITS FALSE NEIGHBOUR: 'it returns false'. Refute it at one input. -/
def fnExactLayoutValidWrong : ChangeSpec := { name := "fnExactLayoutValid", fn := fun _ => fun
  | [d] => { results := [.lit (.bool false)], args := [d] }
  | _ => none }
def FnExactLayoutValidWrongFalsely : Prop := fnExactLayoutValidRow.holds Try.pinned (OpenSpec.ofChange fnExactLayoutValidWrong)

/-- 'laws.FnExactPagesNeeded': WHATEVER THE INPUT: true; the input reads as it did. -/
def fnExactPagesNeededSpec : ChangeSpec := { name := "fnExactPagesNeeded", fn := fun _ => fun
  | [d1, d2] => { results := [.lit (.bool true)], args := [d1, d2] }
  | _ => none }
def fnExactPagesNeededRow : OpenClaim := { program := "ytlhinfjgabacnaa", sum := "dbd99d4aed299dc18a3557456943134ea1fcfa1e7aafea36c8ace5262d4edab6", func := "loop.example/differenceengine/laws.FnExactPagesNeeded", spec := "fnExactPagesNeeded", apart := false }
def FnExactPagesNeededSaid : Prop := fnExactPagesNeededRow.holds Try.pinned (OpenSpec.ofChange fnExactPagesNeededSpec)

/-- ITS FALSE NEIGHBOUR: 'it returns false'. Refute it at one input. -/
def fnExactPagesNeededWrong : ChangeSpec := { name := "fnExactPagesNeeded", fn := fun _ => fun
  | [d1, d2] => { results := [.lit (.bool false)], args := [d1, d2] }
  | _ => none }
def FnExactPagesNeededWrongFalsely : Prop := fnExactPagesNeededRow.holds Try.pinned (OpenSpec.ofChange fnExactPagesNeededWrong)

/-- 'laws.FnExactPlaceOf': WHATEVER THE INPUT: true; the input reads as it did. -/
def fnExactPlaceOfSpec : ChangeSpec := { name := "fnExactPlaceOf", fn := fun _ => fun
  | [d1, d2] => { results := [.lit (.bool true)], args := [d1, d2] }
  | _ => none }
def fnExactPlaceOfRow : OpenClaim := { program := "ytlhinfjgabacnaa", sum := "dbd99d4aed299dc18a3557456943134ea1fcfa1e7aafea36c8ace5262d4edab6", func := "loop.example/differenceengine/laws.FnExactPlaceOf", spec := "fnExactPlaceOf", apart := false }
def FnExactPlaceOfSaid : Prop := fnExactPlaceOfRow.holds Try.pinned (OpenSpec.ofChange fnExactPlaceOfSpec)

/-- ITS FALSE NEIGHBOUR: 'it returns false'. Refute it at one input. -/
def fnExactPlaceOfWrong : ChangeSpec := { name := "fnExactPlaceOf", fn := fun _ => fun
  | [d1, d2] => { results := [.lit (.bool false)], args := [d1, d2] }
  | _ => none }
def FnExactPlaceOfWrongFalsely : Prop := fnExactPlaceOfRow.holds Try.pinned (OpenSpec.ofChange fnExactPlaceOfWrong)

/-- 'laws.FnExactIndexOfPlace': WHATEVER THE INPUT: true; the input reads as it did. -/
def fnExactIndexOfPlaceSpec : ChangeSpec := { name := "fnExactIndexOfPlace", fn := fun _ => fun
  | [d1, d2, d3, d4] => { results := [.lit (.bool true)], args := [d1, d2, d3, d4] }
  | _ => none }
def fnExactIndexOfPlaceRow : OpenClaim := { program := "ytlhinfjgabacnaa", sum := "dbd99d4aed299dc18a3557456943134ea1fcfa1e7aafea36c8ace5262d4edab6", func := "loop.example/differenceengine/laws.FnExactIndexOfPlace", spec := "fnExactIndexOfPlace", apart := false }
def FnExactIndexOfPlaceSaid : Prop := fnExactIndexOfPlaceRow.holds Try.pinned (OpenSpec.ofChange fnExactIndexOfPlaceSpec)

/-- ITS FALSE NEIGHBOUR: 'it returns false'. Refute it at one input. -/
def fnExactIndexOfPlaceWrong : ChangeSpec := { name := "fnExactIndexOfPlace", fn := fun _ => fun
  | [d1, d2, d3, d4] => { results := [.lit (.bool false)], args := [d1, d2, d3, d4] }
  | _ => none }
def FnExactIndexOfPlaceWrongFalsely : Prop := fnExactIndexOfPlaceRow.holds Try.pinned (OpenSpec.ofChange fnExactIndexOfPlaceWrong)

/-- 'laws.FnExactPageSums': WHATEVER THE INPUT: true; the input reads as it did. -/
def fnExactPageSumsSpec : ChangeSpec := { name := "fnExactPageSums", fn := fun _ => fun
  | [d1, d2, d3] => { results := [.lit (.bool true)], args := [d1, d2, d3] }
  | _ => none }
def fnExactPageSumsRow : OpenClaim := { program := "ytlhinfjgabacnaa", sum := "dbd99d4aed299dc18a3557456943134ea1fcfa1e7aafea36c8ace5262d4edab6", func := "loop.example/differenceengine/laws.FnExactPageSums", spec := "fnExactPageSums", unfollowed := true, recurses := true, apart := false }
def FnExactPageSumsSaid : Prop := fnExactPageSumsRow.holds Try.pinned (OpenSpec.ofChange fnExactPageSumsSpec)

/-- ITS FALSE NEIGHBOUR: 'it returns false'. Refute it at one input. -/
def fnExactPageSumsWrong : ChangeSpec := { name := "fnExactPageSums", fn := fun _ => fun
  | [d1, d2, d3] => { results := [.lit (.bool false)], args := [d1, d2, d3] }
  | _ => none }
def FnExactPageSumsWrongFalsely : Prop := fnExactPageSumsRow.holds Try.pinned (OpenSpec.ofChange fnExactPageSumsWrong)

/- THE SECOND FORM. 'bulk': how many values and letters a reading holds, each counted each time it is reached (what is shared counts as often as it is met; a slice's spare places count too). A statement '..UptoSaid' is the law's where the arguments, and the package variables that the reading takes, are together of bulk at most 1048576: NARROWER than '..Said'. Prove '..Said' where nothing that the law and all that it calls make is longer than what came in: it says more and counts as full. Else prove '..UptoSaid'. A law counts once. -/
mutual
def uptoBulk {H : Type} : DataW H → Nat
  | .lit (.string bytes) => bytes.length + 1
  | .lit _ => 1
  | .nil => 1
  | .ptr d => uptoBulk d + 1
  | .slice elems spare => uptoBulkAll elems + uptoBulkAll spare + 1
  | .agg parts => uptoBulkAll parts + 1
  | .iface _ d => uptoBulk d + 1
  | .map entries => uptoBulkEntries entries + 1
  | .held _ => 1
def uptoBulkAll {H : Type} : List (DataW H) → Nat
  | [] => 0
  | d :: r => uptoBulk d + uptoBulkAll r
def uptoBulkEntries {H : Type} : List (Lit × DataW H) → Nat
  | [] => 0
  | x :: r => uptoBulkEntry x + uptoBulkEntries r
def uptoBulkEntry {H : Type} : Lit × DataW H → Nat
  | (.string bytes, d) => bytes.length + uptoBulk d + 1
  | (_, d) => uptoBulk d + 1
 end
def uptoSmall : (H : Type) → List (DataW H) → Bool := fun _ ds => decide (uptoBulkAll ds ≤ 1048576)
def OpenSpec.upto (s : _root_.Go.ChangeSpec) : _root_.Go.OpenSpec := { _root_.Go.OpenSpec.ofChange s with cond := some uptoSmall }

/-- 'laws.FnExactRoundEntry', WHERE WHAT IT READS IS OF BULK AT MOST 1048576: true; the input reads as it did. -/
def fnExactRoundEntryUptoRow : OpenClaim := { program := "ytlhinfjgabacnaa", sum := "dbd99d4aed299dc18a3557456943134ea1fcfa1e7aafea36c8ace5262d4edab6", func := "loop.example/differenceengine/laws.FnExactRoundEntry", spec := "fnExactRoundEntry", unfollowed := true, recurses := true, apart := false, narrowed := true }
def FnExactRoundEntryUptoSaid : Prop := fnExactRoundEntryUptoRow.holds Try.pinned (OpenSpec.upto fnExactRoundEntrySpec)

/-- 'laws.FnExactRoundTable', WHERE WHAT IT READS IS OF BULK AT MOST 1048576: true; the input reads as it did. -/
def fnExactRoundTableUptoRow : OpenClaim := { program := "ytlhinfjgabacnaa", sum := "dbd99d4aed299dc18a3557456943134ea1fcfa1e7aafea36c8ace5262d4edab6", func := "loop.example/differenceengine/laws.FnExactRoundTable", spec := "fnExactRoundTable", unfollowed := true, recurses := true, apart := false, narrowed := true }
def FnExactRoundTableUptoSaid : Prop := fnExactRoundTableUptoRow.holds Try.pinned (OpenSpec.upto fnExactRoundTableSpec)

/-- 'laws.FnExactRoundError', WHERE WHAT IT READS IS OF BULK AT MOST 1048576: true; the input reads as it did. -/
def fnExactRoundErrorUptoRow : OpenClaim := { program := "ytlhinfjgabacnaa", sum := "dbd99d4aed299dc18a3557456943134ea1fcfa1e7aafea36c8ace5262d4edab6", func := "loop.example/differenceengine/laws.FnExactRoundError", spec := "fnExactRoundError", unfollowed := true, recurses := true, apart := false, narrowed := true }
def FnExactRoundErrorUptoSaid : Prop := fnExactRoundErrorUptoRow.holds Try.pinned (OpenSpec.upto fnExactRoundErrorSpec)

/-- 'laws.FnExactLayoutValid', WHERE WHAT IT READS IS OF BULK AT MOST 1048576: true; the input reads as it did. -/
def fnExactLayoutValidUptoRow : OpenClaim := { program := "ytlhinfjgabacnaa", sum := "dbd99d4aed299dc18a3557456943134ea1fcfa1e7aafea36c8ace5262d4edab6", func := "loop.example/differenceengine/laws.FnExactLayoutValid", spec := "fnExactLayoutValid", apart := false, narrowed := true }
def FnExactLayoutValidUptoSaid : Prop := fnExactLayoutValidUptoRow.holds Try.pinned (OpenSpec.upto fnExactLayoutValidSpec)

/-- 'laws.FnExactPagesNeeded', WHERE WHAT IT READS IS OF BULK AT MOST 1048576: true; the input reads as it did. -/
def fnExactPagesNeededUptoRow : OpenClaim := { program := "ytlhinfjgabacnaa", sum := "dbd99d4aed299dc18a3557456943134ea1fcfa1e7aafea36c8ace5262d4edab6", func := "loop.example/differenceengine/laws.FnExactPagesNeeded", spec := "fnExactPagesNeeded", apart := false, narrowed := true }
def FnExactPagesNeededUptoSaid : Prop := fnExactPagesNeededUptoRow.holds Try.pinned (OpenSpec.upto fnExactPagesNeededSpec)

/-- 'laws.FnExactPlaceOf', WHERE WHAT IT READS IS OF BULK AT MOST 1048576: true; the input reads as it did. -/
def fnExactPlaceOfUptoRow : OpenClaim := { program := "ytlhinfjgabacnaa", sum := "dbd99d4aed299dc18a3557456943134ea1fcfa1e7aafea36c8ace5262d4edab6", func := "loop.example/differenceengine/laws.FnExactPlaceOf", spec := "fnExactPlaceOf", apart := false, narrowed := true }
def FnExactPlaceOfUptoSaid : Prop := fnExactPlaceOfUptoRow.holds Try.pinned (OpenSpec.upto fnExactPlaceOfSpec)

/-- 'laws.FnExactIndexOfPlace', WHERE WHAT IT READS IS OF BULK AT MOST 1048576: true; the input reads as it did. -/
def fnExactIndexOfPlaceUptoRow : OpenClaim := { program := "ytlhinfjgabacnaa", sum := "dbd99d4aed299dc18a3557456943134ea1fcfa1e7aafea36c8ace5262d4edab6", func := "loop.example/differenceengine/laws.FnExactIndexOfPlace", spec := "fnExactIndexOfPlace", apart := false, narrowed := true }
def FnExactIndexOfPlaceUptoSaid : Prop := fnExactIndexOfPlaceUptoRow.holds Try.pinned (OpenSpec.upto fnExactIndexOfPlaceSpec)

/-- 'laws.FnExactPageSums', WHERE WHAT IT READS IS OF BULK AT MOST 1048576: true; the input reads as it did. -/
def fnExactPageSumsUptoRow : OpenClaim := { program := "ytlhinfjgabacnaa", sum := "dbd99d4aed299dc18a3557456943134ea1fcfa1e7aafea36c8ace5262d4edab6", func := "loop.example/differenceengine/laws.FnExactPageSums", spec := "fnExactPageSums", unfollowed := true, recurses := true, apart := false, narrowed := true }
def FnExactPageSumsUptoSaid : Prop := fnExactPageSumsUptoRow.holds Try.pinned (OpenSpec.upto fnExactPageSumsSpec)

end Rows
end Go.Proofs.Ytlhinfjgabacnaa
