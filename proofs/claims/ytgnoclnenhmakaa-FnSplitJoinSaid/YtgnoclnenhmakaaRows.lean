/-
  No cell of these rows narrows 'for every input' (looked for: loops, veiled, ifaces, maps, wideKeys, modest, calm, conditions, laid).
  DERIVED. THE GIVEN ROWS OF THIS SEAT. 5 by the template 'for every input the law returns true; each argument reads behind the call as it read before'; 0 by the template 'total and deterministic' (their statements: YtgnoclnenhmakaaTotals.lean).
  GIVEN WITH THE SEED: the statements are not yours to turn. If you find one false, say at which input.
  Laid BY PROGRAM, IN A SANDBOX (cutbox-rows.mjs): the forced cells as the released guide's own fill.sh prints them over the translation f4761cf75f7c68a9… (all of the seat's roots in one cut). By AI agents, Wed Nov 11 2026. No macro, syntax, notation, axiom, sorry.
-/
import Derived.Test.YtgnoclnenhmakaaChecked
import GoSem.Claim
import GoSem.ClaimJoined
import GoSem.ClaimMapViews
import Derived.JoinedTies
import Derived.KernelRfl
namespace Go.Proofs.Ytgnoclnenhmakaa
/- THE CELL 'sum', in the pinned program and in every row, IS THE sha256 OF THE DUMP (.gsa) THAT YtgnoclnenhmakaaProg.lean LOADS. Nothing in Lean hashes anything: it is a label: what it is worth is what the hold of that sum in a sandbox is worth. -/
noncomputable def Try.pinned : Pinned := { name := "ytgnoclnenhmakaa", sum := "f4761cf75f7c68a92c1c91bc9f8d2901be8de943ce79e0326dbe8f159762cd91", checked := Try.checked }
namespace Rows
def none {H : Type} : Left H := { results := [], args := [] }

/-- 'laws.FnPlanCost': WHATEVER THE INPUT: true; the input reads as it did. -/
def fnPlanCostSpec : ChangeSpec := { name := "fnPlanCost", fn := fun _ => fun
  | [d] => { results := [.lit (.bool true)], args := [d] }
  | _ => none }
def fnPlanCostRow : OpenClaim := { program := "ytgnoclnenhmakaa", sum := "f4761cf75f7c68a92c1c91bc9f8d2901be8de943ce79e0326dbe8f159762cd91", func := "loop.example/differenceengine/laws.FnPlanCost", spec := "fnPlanCost", unfollowed := true, recurses := true, apart := false }
def FnPlanCostSaid : Prop := fnPlanCostRow.holds Try.pinned (OpenSpec.ofChange fnPlanCostSpec)

/-- ITS FALSE NEIGHBOUR: 'it returns false'. Refute it at one input. -/
def fnPlanCostWrong : ChangeSpec := { name := "fnPlanCost", fn := fun _ => fun
  | [d] => { results := [.lit (.bool false)], args := [d] }
  | _ => none }
def FnPlanCostWrongFalsely : Prop := fnPlanCostRow.holds Try.pinned (OpenSpec.ofChange fnPlanCostWrong)

/-- 'laws.FnCheapest': WHATEVER THE INPUT: true; the input reads as it did. -/
def fnCheapestSpec : ChangeSpec := { name := "fnCheapest", fn := fun _ => fun
  | [d1, d2] => { results := [.lit (.bool true)], args := [d1, d2] }
  | _ => none }
def fnCheapestRow : OpenClaim := { program := "ytgnoclnenhmakaa", sum := "f4761cf75f7c68a92c1c91bc9f8d2901be8de943ce79e0326dbe8f159762cd91", func := "loop.example/differenceengine/laws.FnCheapest", spec := "fnCheapest", unfollowed := true, recurses := true, apart := false }
def FnCheapestSaid : Prop := fnCheapestRow.holds Try.pinned (OpenSpec.ofChange fnCheapestSpec)

/-- ITS FALSE NEIGHBOUR: 'it returns false'. Refute it at one input. -/
def fnCheapestWrong : ChangeSpec := { name := "fnCheapest", fn := fun _ => fun
  | [d1, d2] => { results := [.lit (.bool false)], args := [d1, d2] }
  | _ => none }
def FnCheapestWrongFalsely : Prop := fnCheapestRow.holds Try.pinned (OpenSpec.ofChange fnCheapestWrong)

/-- 'laws.FnCheapestParts': WHATEVER THE INPUT: true; the input reads as it did. -/
def fnCheapestPartsSpec : ChangeSpec := { name := "fnCheapestParts", fn := fun _ => fun
  | [d] => { results := [.lit (.bool true)], args := [d] }
  | _ => none }
def fnCheapestPartsRow : OpenClaim := { program := "ytgnoclnenhmakaa", sum := "f4761cf75f7c68a92c1c91bc9f8d2901be8de943ce79e0326dbe8f159762cd91", func := "loop.example/differenceengine/laws.FnCheapestParts", spec := "fnCheapestParts", unfollowed := true, recurses := true, apart := false }
def FnCheapestPartsSaid : Prop := fnCheapestPartsRow.holds Try.pinned (OpenSpec.ofChange fnCheapestPartsSpec)

/-- ITS FALSE NEIGHBOUR: 'it returns false'. Refute it at one input. -/
def fnCheapestPartsWrong : ChangeSpec := { name := "fnCheapestParts", fn := fun _ => fun
  | [d] => { results := [.lit (.bool false)], args := [d] }
  | _ => none }
def FnCheapestPartsWrongFalsely : Prop := fnCheapestPartsRow.holds Try.pinned (OpenSpec.ofChange fnCheapestPartsWrong)

/-- 'laws.FnSplitJoin': WHATEVER THE INPUT: true; the input reads as it did. -/
def fnSplitJoinSpec : ChangeSpec := { name := "fnSplitJoin", fn := fun _ => fun
  | [d] => { results := [.lit (.bool true)], args := [d] }
  | _ => none }
def fnSplitJoinRow : OpenClaim := { program := "ytgnoclnenhmakaa", sum := "f4761cf75f7c68a92c1c91bc9f8d2901be8de943ce79e0326dbe8f159762cd91", func := "loop.example/differenceengine/laws.FnSplitJoin", spec := "fnSplitJoin", unfollowed := true, recurses := true, apart := false }
def FnSplitJoinSaid : Prop := fnSplitJoinRow.holds Try.pinned (OpenSpec.ofChange fnSplitJoinSpec)

/-- ITS FALSE NEIGHBOUR: 'it returns false'. Refute it at one input. -/
def fnSplitJoinWrong : ChangeSpec := { name := "fnSplitJoin", fn := fun _ => fun
  | [d] => { results := [.lit (.bool false)], args := [d] }
  | _ => none }
def FnSplitJoinWrongFalsely : Prop := fnSplitJoinRow.holds Try.pinned (OpenSpec.ofChange fnSplitJoinWrong)

/-- 'laws.FnJoinTrue': WHATEVER THE INPUT: true; the input reads as it did. -/
def fnJoinTrueSpec : ChangeSpec := { name := "fnJoinTrue", fn := fun _ => fun
  | [d] => { results := [.lit (.bool true)], args := [d] }
  | _ => none }
def fnJoinTrueRow : OpenClaim := { program := "ytgnoclnenhmakaa", sum := "f4761cf75f7c68a92c1c91bc9f8d2901be8de943ce79e0326dbe8f159762cd91", func := "loop.example/differenceengine/laws.FnJoinTrue", spec := "fnJoinTrue", unfollowed := true, recurses := true, apart := false }
def FnJoinTrueSaid : Prop := fnJoinTrueRow.holds Try.pinned (OpenSpec.ofChange fnJoinTrueSpec)

/-- ITS FALSE NEIGHBOUR: 'it returns false'. Refute it at one input. -/
def fnJoinTrueWrong : ChangeSpec := { name := "fnJoinTrue", fn := fun _ => fun
  | [d] => { results := [.lit (.bool false)], args := [d] }
  | _ => none }
def FnJoinTrueWrongFalsely : Prop := fnJoinTrueRow.holds Try.pinned (OpenSpec.ofChange fnJoinTrueWrong)

/- THE SECOND FORM. 'bulk': how many values and letters a reading holds, each counted each time it is reached (what is shared counts as often as it is met; a slice's spare places count too). A statement '..UptoSaid' is the law's where the arguments, and the package variables that the reading takes, are together of bulk at most 1048576: NARROWER than '..Said'. Prove '..Said' where nothing that the law and all that it calls make is longer than what came in: it says more and counts as full. Else prove '..UptoSaid'. A law counts once. -/
mutual
def uptoBulk {H : Type} : DataW H → Nat
  | .lit (.string bytes) => bytes.length + 1
  | .lit _ => 1
  | .nil => 1
  | .ptr d => uptoBulk d + 1
  | .slice elems spare => uptoBulkAll elems + uptoBulkAll spare + 1
  | .agg parts => uptoBulkAll parts + 1
  | .iface _ d => uptoBulk d + 1
  | .map entries => uptoBulkEntries entries + 1
  | .held _ => 1
def uptoBulkAll {H : Type} : List (DataW H) → Nat
  | [] => 0
  | d :: r => uptoBulk d + uptoBulkAll r
def uptoBulkEntries {H : Type} : List (Lit × DataW H) → Nat
  | [] => 0
  | x :: r => uptoBulkEntry x + uptoBulkEntries r
def uptoBulkEntry {H : Type} : Lit × DataW H → Nat
  | (.string bytes, d) => bytes.length + uptoBulk d + 1
  | (_, d) => uptoBulk d + 1
 end
def uptoSmall : (H : Type) → List (DataW H) → Bool := fun _ ds => decide (uptoBulkAll ds ≤ 1048576)
def OpenSpec.upto (s : _root_.Go.ChangeSpec) : _root_.Go.OpenSpec := { _root_.Go.OpenSpec.ofChange s with cond := some uptoSmall }

/-- 'laws.FnPlanCost', WHERE WHAT IT READS IS OF BULK AT MOST 1048576: true; the input reads as it did. -/
def fnPlanCostUptoRow : OpenClaim := { program := "ytgnoclnenhmakaa", sum := "f4761cf75f7c68a92c1c91bc9f8d2901be8de943ce79e0326dbe8f159762cd91", func := "loop.example/differenceengine/laws.FnPlanCost", spec := "fnPlanCost", unfollowed := true, recurses := true, apart := false, narrowed := true }
def FnPlanCostUptoSaid : Prop := fnPlanCostUptoRow.holds Try.pinned (OpenSpec.upto fnPlanCostSpec)

/-- 'laws.FnCheapest', WHERE WHAT IT READS IS OF BULK AT MOST 1048576: true; the input reads as it did. -/
def fnCheapestUptoRow : OpenClaim := { program := "ytgnoclnenhmakaa", sum := "f4761cf75f7c68a92c1c91bc9f8d2901be8de943ce79e0326dbe8f159762cd91", func := "loop.example/differenceengine/laws.FnCheapest", spec := "fnCheapest", unfollowed := true, recurses := true, apart := false, narrowed := true }
def FnCheapestUptoSaid : Prop := fnCheapestUptoRow.holds Try.pinned (OpenSpec.upto fnCheapestSpec)

/-- 'laws.FnCheapestParts', WHERE WHAT IT READS IS OF BULK AT MOST 1048576: true; the input reads as it did. -/
def fnCheapestPartsUptoRow : OpenClaim := { program := "ytgnoclnenhmakaa", sum := "f4761cf75f7c68a92c1c91bc9f8d2901be8de943ce79e0326dbe8f159762cd91", func := "loop.example/differenceengine/laws.FnCheapestParts", spec := "fnCheapestParts", unfollowed := true, recurses := true, apart := false, narrowed := true }
def FnCheapestPartsUptoSaid : Prop := fnCheapestPartsUptoRow.holds Try.pinned (OpenSpec.upto fnCheapestPartsSpec)

/-- 'laws.FnSplitJoin', WHERE WHAT IT READS IS OF BULK AT MOST 1048576: true; the input reads as it did. -/
def fnSplitJoinUptoRow : OpenClaim := { program := "ytgnoclnenhmakaa", sum := "f4761cf75f7c68a92c1c91bc9f8d2901be8de943ce79e0326dbe8f159762cd91", func := "loop.example/differenceengine/laws.FnSplitJoin", spec := "fnSplitJoin", unfollowed := true, recurses := true, apart := false, narrowed := true }
def FnSplitJoinUptoSaid : Prop := fnSplitJoinUptoRow.holds Try.pinned (OpenSpec.upto fnSplitJoinSpec)

/-- 'laws.FnJoinTrue', WHERE WHAT IT READS IS OF BULK AT MOST 1048576: true; the input reads as it did. -/
def fnJoinTrueUptoRow : OpenClaim := { program := "ytgnoclnenhmakaa", sum := "f4761cf75f7c68a92c1c91bc9f8d2901be8de943ce79e0326dbe8f159762cd91", func := "loop.example/differenceengine/laws.FnJoinTrue", spec := "fnJoinTrue", unfollowed := true, recurses := true, apart := false, narrowed := true }
def FnJoinTrueUptoSaid : Prop := fnJoinTrueUptoRow.holds Try.pinned (OpenSpec.upto fnJoinTrueSpec)

end Rows
end Go.Proofs.Ytgnoclnenhmakaa
