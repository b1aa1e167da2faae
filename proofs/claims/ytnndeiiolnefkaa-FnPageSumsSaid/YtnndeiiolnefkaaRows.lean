/-
  No cell of these rows narrows 'for every input' (looked for: loops, veiled, ifaces, maps, wideKeys, modest, calm, conditions, laid).
  DERIVED. THE GIVEN ROWS OF THIS SEAT. 7 by the template 'for every input the law returns true; each argument reads behind the call as it read before'; 0 by the template 'total and deterministic' (their statements: YtnndeiiolnefkaaTotals.lean).
  GIVEN WITH THE SEED: the statements are not yours to turn. If you find one false, say at which input.
  Laid BY PROGRAM, IN A SANDBOX (cutbox-rows.mjs): the forced cells as the released guide's own fill.sh prints them over the translation c27429479ab61b9e… (all of the seat's roots in one cut). By AI agents, Wed Nov 11 2026. No macro, syntax, notation, axiom, sorry.
-/
import Derived.Test.YtnndeiiolnefkaaChecked
import GoSem.Claim
import GoSem.ClaimJoined
import GoSem.ClaimMapViews
import Derived.JoinedTies
import Derived.KernelRfl
namespace Go.Proofs.Ytnndeiiolnefkaa
/- THE CELL 'sum', in the pinned program and in every row, IS THE sha256 OF THE DUMP (.gsa) THAT YtnndeiiolnefkaaProg.lean LOADS. Nothing in Lean hashes anything: it is a label: what it is worth is what the hold of that sum in a sandbox is worth. -/
noncomputable def Try.pinned : Pinned := { name := "ytnndeiiolnefkaa", sum := "c27429479ab61b9e41304067f547922a296c93e88402fd4602cf260ff1c6ecfd", checked := Try.checked }
namespace Rows
def none {H : Type} : Left H := { results := [], args := [] }

/-- 'laws.FnRoundBounds': WHATEVER THE INPUT: true; the input reads as it did. -/
def fnRoundBoundsSpec : ChangeSpec := { name := "fnRoundBounds", fn := fun _ => fun
  | [d] => { results := [.lit (.bool true)], args := [d] }
  | _ => none }
def fnRoundBoundsRow : OpenClaim := { program := "ytnndeiiolnefkaa", sum := "c27429479ab61b9e41304067f547922a296c93e88402fd4602cf260ff1c6ecfd", func := "loop.example/differenceengine/laws.FnRoundBounds", spec := "fnRoundBounds", unfollowed := true, recurses := true, apart := false }
def FnRoundBoundsSaid : Prop := fnRoundBoundsRow.holds Try.pinned (OpenSpec.ofChange fnRoundBoundsSpec)

/-- ITS FALSE NEIGHBOUR: 'it returns false'. Refute it at one input. -/
def fnRoundBoundsWrong : ChangeSpec := { name := "fnRoundBounds", fn := fun _ => fun
  | [d] => { results := [.lit (.bool false)], args := [d] }
  | _ => none }
def FnRoundBoundsWrongFalsely : Prop := fnRoundBoundsRow.holds Try.pinned (OpenSpec.ofChange fnRoundBoundsWrong)

/-- 'laws.FnRoundOrder': WHATEVER THE INPUT: true; the input reads as it did. -/
def fnRoundOrderSpec : ChangeSpec := { name := "fnRoundOrder", fn := fun _ => fun
  | [d1, d2] => { results := [.lit (.bool true)], args := [d1, d2] }
  | _ => none }
def fnRoundOrderRow : OpenClaim := { program := "ytnndeiiolnefkaa", sum := "c27429479ab61b9e41304067f547922a296c93e88402fd4602cf260ff1c6ecfd", func := "loop.example/differenceengine/laws.FnRoundOrder", spec := "fnRoundOrder", unfollowed := true, recurses := true, apart := false }
def FnRoundOrderSaid : Prop := fnRoundOrderRow.holds Try.pinned (OpenSpec.ofChange fnRoundOrderSpec)

/-- ITS FALSE NEIGHBOUR: 'it returns false'. Refute it at one input. -/
def fnRoundOrderWrong : ChangeSpec := { name := "fnRoundOrder", fn := fun _ => fun
  | [d1, d2] => { results := [.lit (.bool false)], args := [d1, d2] }
  | _ => none }
def FnRoundOrderWrongFalsely : Prop := fnRoundOrderRow.holds Try.pinned (OpenSpec.ofChange fnRoundOrderWrong)

/-- 'laws.FnRoundOpposite': WHATEVER THE INPUT: true; the input reads as it did. -/
def fnRoundOppositeSpec : ChangeSpec := { name := "fnRoundOpposite", fn := fun _ => fun
  | [d] => { results := [.lit (.bool true)], args := [d] }
  | _ => none }
def fnRoundOppositeRow : OpenClaim := { program := "ytnndeiiolnefkaa", sum := "c27429479ab61b9e41304067f547922a296c93e88402fd4602cf260ff1c6ecfd", func := "loop.example/differenceengine/laws.FnRoundOpposite", spec := "fnRoundOpposite", unfollowed := true, recurses := true, apart := false }
def FnRoundOppositeSaid : Prop := fnRoundOppositeRow.holds Try.pinned (OpenSpec.ofChange fnRoundOppositeSpec)

/-- ITS FALSE NEIGHBOUR: 'it returns false'. Refute it at one input. -/
def fnRoundOppositeWrong : ChangeSpec := { name := "fnRoundOpposite", fn := fun _ => fun
  | [d] => { results := [.lit (.bool false)], args := [d] }
  | _ => none }
def FnRoundOppositeWrongFalsely : Prop := fnRoundOppositeRow.holds Try.pinned (OpenSpec.ofChange fnRoundOppositeWrong)

/-- 'laws.FnRoundTable': WHATEVER THE INPUT: true; the input reads as it did. -/
def fnRoundTableSpec : ChangeSpec := { name := "fnRoundTable", fn := fun _ => fun
  | [d] => { results := [.lit (.bool true)], args := [d] }
  | _ => none }
def fnRoundTableRow : OpenClaim := { program := "ytnndeiiolnefkaa", sum := "c27429479ab61b9e41304067f547922a296c93e88402fd4602cf260ff1c6ecfd", func := "loop.example/differenceengine/laws.FnRoundTable", spec := "fnRoundTable", unfollowed := true, recurses := true, apart := false }
def FnRoundTableSaid : Prop := fnRoundTableRow.holds Try.pinned (OpenSpec.ofChange fnRoundTableSpec)

/-- ITS FALSE NEIGHBOUR: 'it returns false'. Refute it at one input. -/
def fnRoundTableWrong : ChangeSpec := { name := "fnRoundTable", fn := fun _ => fun
  | [d] => { results := [.lit (.bool false)], args := [d] }
  | _ => none }
def FnRoundTableWrongFalsely : Prop := fnRoundTableRow.holds Try.pinned (OpenSpec.ofChange fnRoundTableWrong)

/-- 'laws.FnPlace': WHATEVER THE INPUT: true; the input reads as it did. -/
def fnPlaceSpec : ChangeSpec := { name := "fnPlace", fn := fun _ => fun
  | [d] => { results := [.lit (.bool true)], args := [d] }
  | _ => none }
def fnPlaceRow : OpenClaim := { program := "ytnndeiiolnefkaa", sum := "c27429479ab61b9e41304067f547922a296c93e88402fd4602cf260ff1c6ecfd", func := "loop.example/differenceengine/laws.FnPlace", spec := "fnPlace", apart := false }
def FnPlaceSaid : Prop := fnPlaceRow.holds Try.pinned (OpenSpec.ofChange fnPlaceSpec)

/-- ITS FALSE NEIGHBOUR: 'it returns false'. Refute it at one input. -/
def fnPlaceWrong : ChangeSpec := { name := "fnPlace", fn := fun _ => fun
  | [d] => { results := [.lit (.bool false)], args := [d] }
  | _ => none }
def FnPlaceWrongFalsely : Prop := fnPlaceRow.holds Try.pinned (OpenSpec.ofChange fnPlaceWrong)

/-- 'laws.FnIndexOfPlace': WHATEVER THE INPUT: true; the input reads as it did. -/
def fnIndexOfPlaceSpec : ChangeSpec := { name := "fnIndexOfPlace", fn := fun _ => fun
  | [d] => { results := [.lit (.bool true)], args := [d] }
  | _ => none }
def fnIndexOfPlaceRow : OpenClaim := { program := "ytnndeiiolnefkaa", sum := "c27429479ab61b9e41304067f547922a296c93e88402fd4602cf260ff1c6ecfd", func := "loop.example/differenceengine/laws.FnIndexOfPlace", spec := "fnIndexOfPlace", apart := false }
def FnIndexOfPlaceSaid : Prop := fnIndexOfPlaceRow.holds Try.pinned (OpenSpec.ofChange fnIndexOfPlaceSpec)

/-- ITS FALSE NEIGHBOUR: 'it returns false'. Refute it at one input. -/
def fnIndexOfPlaceWrong : ChangeSpec := { name := "fnIndexOfPlace", fn := fun _ => fun
  | [d] => { results := [.lit (.bool false)], args := [d] }
  | _ => none }
def FnIndexOfPlaceWrongFalsely : Prop := fnIndexOfPlaceRow.holds Try.pinned (OpenSpec.ofChange fnIndexOfPlaceWrong)

/-- 'laws.FnPageSums': WHATEVER THE INPUT: true; the input reads as it did. -/
def fnPageSumsSpec : ChangeSpec := { name := "fnPageSums", fn := fun _ => fun
  | [d] => { results := [.lit (.bool true)], args := [d] }
  | _ => none }
def fnPageSumsRow : OpenClaim := { program := "ytnndeiiolnefkaa", sum := "c27429479ab61b9e41304067f547922a296c93e88402fd4602cf260ff1c6ecfd", func := "loop.example/differenceengine/laws.FnPageSums", spec := "fnPageSums", unfollowed := true, recurses := true, apart := false }
def FnPageSumsSaid : Prop := fnPageSumsRow.holds Try.pinned (OpenSpec.ofChange fnPageSumsSpec)

/-- ITS FALSE NEIGHBOUR: 'it returns false'. Refute it at one input. -/
def fnPageSumsWrong : ChangeSpec := { name := "fnPageSums", fn := fun _ => fun
  | [d] => { results := [.lit (.bool false)], args := [d] }
  | _ => none }
def FnPageSumsWrongFalsely : Prop := fnPageSumsRow.holds Try.pinned (OpenSpec.ofChange fnPageSumsWrong)

/- THE SECOND FORM. 'bulk': how many values and letters a reading holds, each counted each time it is reached (what is shared counts as often as it is met; a slice's spare places count too). A statement '..UptoSaid' is the law's where the arguments, and the package variables that the reading takes, are together of bulk at most 1048576: NARROWER than '..Said'. Prove '..Said' where nothing that the law and all that it calls make is longer than what came in: it says more and counts as full. Else prove '..UptoSaid'. A law counts once. -/
mutual
def uptoBulk {H : Type} : DataW H → Nat
  | .lit (.string bytes) => bytes.length + 1
  | .lit _ => 1
  | .nil => 1
  | .ptr d => uptoBulk d + 1
  | .slice elems spare => uptoBulkAll elems + uptoBulkAll spare + 1
  | .agg parts => uptoBulkAll parts + 1
  | .iface _ d => uptoBulk d + 1
  | .map entries => uptoBulkEntries entries + 1
  | .held _ => 1
def uptoBulkAll {H : Type} : List (DataW H) → Nat
  | [] => 0
  | d :: r => uptoBulk d + uptoBulkAll r
def uptoBulkEntries {H : Type} : List (Lit × DataW H) → Nat
  | [] => 0
  | x :: r => uptoBulkEntry x + uptoBulkEntries r
def uptoBulkEntry {H : Type} : Lit × DataW H → Nat
  | (.string bytes, d) => bytes.length + uptoBulk d + 1
  | (_, d) => uptoBulk d + 1
 end
def uptoSmall : (H : Type) → List (DataW H) → Bool := fun _ ds => decide (uptoBulkAll ds ≤ 1048576)
def OpenSpec.upto (s : _root_.Go.ChangeSpec) : _root_.Go.OpenSpec := { _root_.Go.OpenSpec.ofChange s with cond := some uptoSmall }

/-- 'laws.FnRoundBounds', WHERE WHAT IT READS IS OF BULK AT MOST 1048576: true; the input reads as it did. -/
def fnRoundBoundsUptoRow : OpenClaim := { program := "ytnndeiiolnefkaa", sum := "c27429479ab61b9e41304067f547922a296c93e88402fd4602cf260ff1c6ecfd", func := "loop.example/differenceengine/laws.FnRoundBounds", spec := "fnRoundBounds", unfollowed := true, recurses := true, apart := false, narrowed := true }
def FnRoundBoundsUptoSaid : Prop := fnRoundBoundsUptoRow.holds Try.pinned (OpenSpec.upto fnRoundBoundsSpec)

/-- 'laws.FnRoundOrder', WHERE WHAT IT READS IS OF BULK AT MOST 1048576: true; the input reads as it did. -/
def fnRoundOrderUptoRow : OpenClaim := { program := "ytnndeiiolnefkaa", sum := "c27429479ab61b9e41304067f547922a296c93e88402fd4602cf260ff1c6ecfd", func := "loop.example/differenceengine/laws.FnRoundOrder", spec := "fnRoundOrder", unfollowed := true, recurses := true, apart := false, narrowed := true }
def FnRoundOrderUptoSaid : Prop := fnRoundOrderUptoRow.holds Try.pinned (OpenSpec.upto fnRoundOrderSpec)

/-- 'laws.FnRoundOpposite', WHERE WHAT IT READS IS OF BULK AT MOST 1048576: true; the input reads as it did. -/
def fnRoundOppositeUptoRow : OpenClaim := { program := "ytnndeiiolnefkaa", sum := "c27429479ab61b9e41304067f547922a296c93e88402fd4602cf260ff1c6ecfd", func := "loop.example/differenceengine/laws.FnRoundOpposite", spec := "fnRoundOpposite", unfollowed := true, recurses := true, apart := false, narrowed := true }
def FnRoundOppositeUptoSaid : Prop := fnRoundOppositeUptoRow.holds Try.pinned (OpenSpec.upto fnRoundOppositeSpec)

/-- 'laws.FnRoundTable', WHERE WHAT IT READS IS OF BULK AT MOST 1048576: true; the input reads as it did. -/
def fnRoundTableUptoRow : OpenClaim := { program := "ytnndeiiolnefkaa", sum := "c27429479ab61b9e41304067f547922a296c93e88402fd4602cf260ff1c6ecfd", func := "loop.example/differenceengine/laws.FnRoundTable", spec := "fnRoundTable", unfollowed := true, recurses := true, apart := false, narrowed := true }
def FnRoundTableUptoSaid : Prop := fnRoundTableUptoRow.holds Try.pinned (OpenSpec.upto fnRoundTableSpec)

/-- 'laws.FnPlace', WHERE WHAT IT READS IS OF BULK AT MOST 1048576: true; the input reads as it did. -/
def fnPlaceUptoRow : OpenClaim := { program := "ytnndeiiolnefkaa", sum := "c27429479ab61b9e41304067f547922a296c93e88402fd4602cf260ff1c6ecfd", func := "loop.example/differenceengine/laws.FnPlace", spec := "fnPlace", apart := false, narrowed := true }
def FnPlaceUptoSaid : Prop := fnPlaceUptoRow.holds Try.pinned (OpenSpec.upto fnPlaceSpec)

/-- 'laws.FnIndexOfPlace', WHERE WHAT IT READS IS OF BULK AT MOST 1048576: true; the input reads as it did. -/
def fnIndexOfPlaceUptoRow : OpenClaim := { program := "ytnndeiiolnefkaa", sum := "c27429479ab61b9e41304067f547922a296c93e88402fd4602cf260ff1c6ecfd", func := "loop.example/differenceengine/laws.FnIndexOfPlace", spec := "fnIndexOfPlace", apart := false, narrowed := true }
def FnIndexOfPlaceUptoSaid : Prop := fnIndexOfPlaceUptoRow.holds Try.pinned (OpenSpec.upto fnIndexOfPlaceSpec)

/-- 'laws.FnPageSums', WHERE WHAT IT READS IS OF BULK AT MOST 1048576: true; the input reads as it did. -/
def fnPageSumsUptoRow : OpenClaim := { program := "ytnndeiiolnefkaa", sum := "c27429479ab61b9e41304067f547922a296c93e88402fd4602cf260ff1c6ecfd", func := "loop.example/differenceengine/laws.FnPageSums", spec := "fnPageSums", unfollowed := true, recurses := true, apart := false, narrowed := true }
def FnPageSumsUptoSaid : Prop := fnPageSumsUptoRow.holds Try.pinned (OpenSpec.upto fnPageSumsSpec)

end Rows
end Go.Proofs.Ytnndeiiolnefkaa
