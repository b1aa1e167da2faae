/-
  No cell of these rows narrows 'for every input' (looked for: loops, veiled, ifaces, maps, wideKeys, modest, calm, conditions, laid).
  DERIVED. THE GIVEN ROWS OF THIS SEAT. 4 by the template 'for every input the law returns true; each argument reads behind the call as it read before'; 0 by the template 'total and deterministic' (their statements: YtiehkjidcnnncaaTotals.lean).
  GIVEN WITH THE SEED: the statements are not yours to turn. If you find one false, say at which input.
  Laid BY PROGRAM, IN A SANDBOX (cutbox-rows.mjs): the forced cells as the released guide's own fill.sh prints them over the translation c8073ef9542072d3… (all of the seat's roots in one cut). By AI agents, Wed Nov 11 2026. No macro, syntax, notation, axiom, sorry.
-/
import Derived.Test.YtiehkjidcnnncaaChecked
import GoSem.Claim
import GoSem.ClaimJoined
import GoSem.ClaimMapViews
import Derived.JoinedTies
import Derived.KernelRfl
namespace Go.Proofs.Ytiehkjidcnnncaa
/- THE CELL 'sum', in the pinned program and in every row, IS THE sha256 OF THE DUMP (.gsa) THAT YtiehkjidcnnncaaProg.lean LOADS. Nothing in Lean hashes anything: it is a label: what it is worth is what the hold of that sum in a sandbox is worth. -/
noncomputable def Try.pinned : Pinned := { name := "ytiehkjidcnnncaa", sum := "c8073ef9542072d35563d17fee5a46eb36f13a2363f7eaa9e698e2c137f87732", checked := Try.checked }
namespace Rows
def none {H : Type} : Left H := { results := [], args := [] }

/-- 'laws.FnExactFindError': WHATEVER THE INPUT: true; the input reads as it did. -/
def fnExactFindErrorSpec : ChangeSpec := { name := "fnExactFindError", fn := fun _ => fun
  | [d1, d2] => { results := [.lit (.bool true)], args := [d1, d2] }
  | _ => none }
def fnExactFindErrorRow : OpenClaim := { program := "ytiehkjidcnnncaa", sum := "c8073ef9542072d35563d17fee5a46eb36f13a2363f7eaa9e698e2c137f87732", func := "loop.example/differenceengine/laws.FnExactFindError", spec := "fnExactFindError", unfollowed := true, recurses := true, plainKeys := false, apart := false }
def FnExactFindErrorSaid : Prop := fnExactFindErrorRow.holds Try.pinned (OpenSpec.ofChange fnExactFindErrorSpec)

/-- ITS FALSE NEIGHBOUR: 'it returns false'. Refute it at one input. -/
def fnExactFindErrorWrong : ChangeSpec := { name := "fnExactFindError", fn := fun _ => fun
  | [d1, d2] => { results := [.lit (.bool false)], args := [d1, d2] }
  | _ => none }
def FnExactFindErrorWrongFalsely : Prop := fnExactFindErrorRow.holds Try.pinned (OpenSpec.ofChange fnExactFindErrorWrong)

/-- 'laws.FnExactCorrectTable': WHATEVER THE INPUT: true; the input reads as it did. -/
def fnExactCorrectTableSpec : ChangeSpec := { name := "fnExactCorrectTable", fn := fun _ => fun
  | [d1, d2] => { results := [.lit (.bool true)], args := [d1, d2] }
  | _ => none }
def fnExactCorrectTableRow : OpenClaim := { program := "ytiehkjidcnnncaa", sum := "c8073ef9542072d35563d17fee5a46eb36f13a2363f7eaa9e698e2c137f87732", func := "loop.example/differenceengine/laws.FnExactCorrectTable", spec := "fnExactCorrectTable", unfollowed := true, recurses := true, plainKeys := false, apart := false }
def FnExactCorrectTableSaid : Prop := fnExactCorrectTableRow.holds Try.pinned (OpenSpec.ofChange fnExactCorrectTableSpec)

/-- ITS FALSE NEIGHBOUR: 'it returns false'. Refute it at one input. -/
def fnExactCorrectTableWrong : ChangeSpec := { name := "fnExactCorrectTable", fn := fun _ => fun
  | [d1, d2] => { results := [.lit (.bool false)], args := [d1, d2] }
  | _ => none }
def FnExactCorrectTableWrongFalsely : Prop := fnExactCorrectTableRow.holds Try.pinned (OpenSpec.ofChange fnExactCorrectTableWrong)

/-- 'laws.FnExactErrataOf': WHATEVER THE INPUT: true; the input reads as it did. -/
def fnExactErrataOfSpec : ChangeSpec := { name := "fnExactErrataOf", fn := fun _ => fun
  | [d1, d2] => { results := [.lit (.bool true)], args := [d1, d2] }
  | _ => none }
def fnExactErrataOfRow : OpenClaim := { program := "ytiehkjidcnnncaa", sum := "c8073ef9542072d35563d17fee5a46eb36f13a2363f7eaa9e698e2c137f87732", func := "loop.example/differenceengine/laws.FnExactErrataOf", spec := "fnExactErrataOf", unfollowed := true, recurses := true, plainKeys := false, apart := false }
def FnExactErrataOfSaid : Prop := fnExactErrataOfRow.holds Try.pinned (OpenSpec.ofChange fnExactErrataOfSpec)

/-- ITS FALSE NEIGHBOUR: 'it returns false'. Refute it at one input. -/
def fnExactErrataOfWrong : ChangeSpec := { name := "fnExactErrataOf", fn := fun _ => fun
  | [d1, d2] => { results := [.lit (.bool false)], args := [d1, d2] }
  | _ => none }
def FnExactErrataOfWrongFalsely : Prop := fnExactErrataOfRow.holds Try.pinned (OpenSpec.ofChange fnExactErrataOfWrong)

/-- 'laws.FnExactApplyErrata': WHATEVER THE INPUT: true; the input reads as it did. -/
def fnExactApplyErrataSpec : ChangeSpec := { name := "fnExactApplyErrata", fn := fun _ => fun
  | [d1, d2] => { results := [.lit (.bool true)], args := [d1, d2] }
  | _ => none }
def fnExactApplyErrataRow : OpenClaim := { program := "ytiehkjidcnnncaa", sum := "c8073ef9542072d35563d17fee5a46eb36f13a2363f7eaa9e698e2c137f87732", func := "loop.example/differenceengine/laws.FnExactApplyErrata", spec := "fnExactApplyErrata", unfollowed := true, recurses := true, plainKeys := false, apart := false }
def FnExactApplyErrataSaid : Prop := fnExactApplyErrataRow.holds Try.pinned (OpenSpec.ofChange fnExactApplyErrataSpec)

/-- ITS FALSE NEIGHBOUR: 'it returns false'. Refute it at one input. -/
def fnExactApplyErrataWrong : ChangeSpec := { name := "fnExactApplyErrata", fn := fun _ => fun
  | [d1, d2] => { results := [.lit (.bool false)], args := [d1, d2] }
  | _ => none }
def FnExactApplyErrataWrongFalsely : Prop := fnExactApplyErrataRow.holds Try.pinned (OpenSpec.ofChange fnExactApplyErrataWrong)

/- THE SECOND FORM. 'bulk': how many values and letters a reading holds, each counted each time it is reached (what is shared counts as often as it is met; a slice's spare places count too). A statement '..UptoSaid' is the law's where the arguments, and the package variables that the reading takes, are together of bulk at most 1048576: NARROWER than '..Said'. Prove '..Said' where nothing that the law and all that it calls make is longer than what came in: it says more and counts as full. Else prove '..UptoSaid'. A law counts once. -/
mutual
def uptoBulk {H : Type} : DataW H → Nat
  | .lit (.string bytes) => bytes.length + 1
  | .lit _ => 1
  | .nil => 1
  | .ptr d => uptoBulk d + 1
  | .slice elems spare => uptoBulkAll elems + uptoBulkAll spare + 1
  | .agg parts => uptoBulkAll parts + 1
  | .iface _ d => uptoBulk d + 1
  | .map entries => uptoBulkEntries entries + 1
  | .held _ => 1
def uptoBulkAll {H : Type} : List (DataW H) → Nat
  | [] => 0
  | d :: r => uptoBulk d + uptoBulkAll r
def uptoBulkEntries {H : Type} : List (Lit × DataW H) → Nat
  | [] => 0
  | x :: r => uptoBulkEntry x + uptoBulkEntries r
def uptoBulkEntry {H : Type} : Lit × DataW H → Nat
  | (.string bytes, d) => bytes.length + uptoBulk d + 1
  | (_, d) => uptoBulk d + 1
 end
def uptoSmall : (H : Type) → List (DataW H) → Bool := fun _ ds => decide (uptoBulkAll ds ≤ 1048576)
def OpenSpec.upto (s : _root_.Go.ChangeSpec) : _root_.Go.OpenSpec := { _root_.Go.OpenSpec.ofChange s with cond := some uptoSmall }

/-- 'laws.FnExactFindError', WHERE WHAT IT READS IS OF BULK AT MOST 1048576: true; the input reads as it did. -/
def fnExactFindErrorUptoRow : OpenClaim := { program := "ytiehkjidcnnncaa", sum := "c8073ef9542072d35563d17fee5a46eb36f13a2363f7eaa9e698e2c137f87732", func := "loop.example/differenceengine/laws.FnExactFindError", spec := "fnExactFindError", unfollowed := true, recurses := true, plainKeys := false, apart := false, narrowed := true }
def FnExactFindErrorUptoSaid : Prop := fnExactFindErrorUptoRow.holds Try.pinned (OpenSpec.upto fnExactFindErrorSpec)

/-- 'laws.FnExactCorrectTable', WHERE WHAT IT READS IS OF BULK AT MOST 1048576: true; the input reads as it did. -/
def fnExactCorrectTableUptoRow : OpenClaim := { program := "ytiehkjidcnnncaa", sum := "c8073ef9542072d35563d17fee5a46eb36f13a2363f7eaa9e698e2c137f87732", func := "loop.example/differenceengine/laws.FnExactCorrectTable", spec := "fnExactCorrectTable", unfollowed := true, recurses := true, plainKeys := false, apart := false, narrowed := true }
def FnExactCorrectTableUptoSaid : Prop := fnExactCorrectTableUptoRow.holds Try.pinned (OpenSpec.upto fnExactCorrectTableSpec)

/-- 'laws.FnExactErrataOf', WHERE WHAT IT READS IS OF BULK AT MOST 1048576: true; the input reads as it did. -/
def fnExactErrataOfUptoRow : OpenClaim := { program := "ytiehkjidcnnncaa", sum := "c8073ef9542072d35563d17fee5a46eb36f13a2363f7eaa9e698e2c137f87732", func := "loop.example/differenceengine/laws.FnExactErrataOf", spec := "fnExactErrataOf", unfollowed := true, recurses := true, plainKeys := false, apart := false, narrowed := true }
def FnExactErrataOfUptoSaid : Prop := fnExactErrataOfUptoRow.holds Try.pinned (OpenSpec.upto fnExactErrataOfSpec)

/-- 'laws.FnExactApplyErrata', WHERE WHAT IT READS IS OF BULK AT MOST 1048576: true; the input reads as it did. -/
def fnExactApplyErrataUptoRow : OpenClaim := { program := "ytiehkjidcnnncaa", sum := "c8073ef9542072d35563d17fee5a46eb36f13a2363f7eaa9e698e2c137f87732", func := "loop.example/differenceengine/laws.FnExactApplyErrata", spec := "fnExactApplyErrata", unfollowed := true, recurses := true, plainKeys := false, apart := false, narrowed := true }
def FnExactApplyErrataUptoSaid : Prop := fnExactApplyErrataUptoRow.holds Try.pinned (OpenSpec.upto fnExactApplyErrataSpec)

end Rows
end Go.Proofs.Ytiehkjidcnnncaa
