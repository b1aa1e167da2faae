/-
  No cell of these rows narrows 'for every input' (looked for: loops, veiled, ifaces, maps, wideKeys, modest, calm, conditions, laid).
  DERIVED. THE GIVEN ROWS OF THIS SEAT. 5 by the template 'for every input the law returns true; each argument reads behind the call as it read before'; 0 by the template 'total and deterministic' (their statements: YthinpmhoklehaaaTotals.lean).
  GIVEN WITH THE SEED: the statements are not yours to turn. If you find one false, say at which input.
  Laid BY PROGRAM, IN A SANDBOX (cutbox-rows.mjs): the forced cells as the released guide's own fill.sh prints them over the translation 1e017dd1f09a374f… (all of the seat's roots in one cut). By AI agents, Wed Nov 11 2026. No macro, syntax, notation, axiom, sorry.
-/
import Derived.Test.YthinpmhoklehaaaChecked
import GoSem.Claim
import GoSem.ClaimJoined
import GoSem.ClaimMapViews
import Derived.JoinedTies
import Derived.KernelRfl
namespace Go.Proofs.Ythinpmhoklehaaa
/- THE CELL 'sum', in the pinned program and in every row, IS THE sha256 OF THE DUMP (.gsa) THAT YthinpmhoklehaaaProg.lean LOADS. Nothing in Lean hashes anything: it is a label: what it is worth is what the hold of that sum in a sandbox is worth. -/
noncomputable def Try.pinned : Pinned := { name := "ythinpmhoklehaaa", sum := "1e017dd1f09a374fb748e7524b2290ac3350aba26ce6866018d2b81f9d5d93e7", checked := Try.checked }
namespace Rows
def none {H : Type} : Left H := { results := [], args := [] }

/-- 'laws.FnInterleave': WHATEVER THE INPUT: true; the input reads as it did. -/
def fnInterleaveSpec : ChangeSpec := { name := "fnInterleave", fn := fun _ => fun
  | [d] => { results := [.lit (.bool true)], args := [d] }
  | _ => none }
def fnInterleaveRow : OpenClaim := { program := "ythinpmhoklehaaa", sum := "1e017dd1f09a374fb748e7524b2290ac3350aba26ce6866018d2b81f9d5d93e7", func := "loop.example/differenceengine/laws.FnInterleave", spec := "fnInterleave", apart := false }
def FnInterleaveSaid : Prop := fnInterleaveRow.holds Try.pinned (OpenSpec.ofChange fnInterleaveSpec)

/-- ITS FALSE NEIGHBOUR: 'it returns false'. Refute it at one input. -/
def fnInterleaveWrong : ChangeSpec := { name := "fnInterleave", fn := fun _ => fun
  | [d] => { results := [.lit (.bool false)], args := [d] }
  | _ => none }
def FnInterleaveWrongFalsely : Prop := fnInterleaveRow.holds Try.pinned (OpenSpec.ofChange fnInterleaveWrong)

/-- 'laws.FnDeal': WHATEVER THE INPUT: true; the input reads as it did. -/
def fnDealSpec : ChangeSpec := { name := "fnDeal", fn := fun _ => fun
  | [d] => { results := [.lit (.bool true)], args := [d] }
  | _ => none }
def fnDealRow : OpenClaim := { program := "ythinpmhoklehaaa", sum := "1e017dd1f09a374fb748e7524b2290ac3350aba26ce6866018d2b81f9d5d93e7", func := "loop.example/differenceengine/laws.FnDeal", spec := "fnDeal", apart := false }
def FnDealSaid : Prop := fnDealRow.holds Try.pinned (OpenSpec.ofChange fnDealSpec)

/-- ITS FALSE NEIGHBOUR: 'it returns false'. Refute it at one input. -/
def fnDealWrong : ChangeSpec := { name := "fnDeal", fn := fun _ => fun
  | [d] => { results := [.lit (.bool false)], args := [d] }
  | _ => none }
def FnDealWrongFalsely : Prop := fnDealRow.holds Try.pinned (OpenSpec.ofChange fnDealWrong)

/-- 'laws.FnProduct': WHATEVER THE INPUT: true; the input reads as it did. -/
def fnProductSpec : ChangeSpec := { name := "fnProduct", fn := fun _ => fun
  | [d] => { results := [.lit (.bool true)], args := [d] }
  | _ => none }
def fnProductRow : OpenClaim := { program := "ythinpmhoklehaaa", sum := "1e017dd1f09a374fb748e7524b2290ac3350aba26ce6866018d2b81f9d5d93e7", func := "loop.example/differenceengine/laws.FnProduct", spec := "fnProduct", unfollowed := true, recurses := true, apart := false }
def FnProductSaid : Prop := fnProductRow.holds Try.pinned (OpenSpec.ofChange fnProductSpec)

/-- ITS FALSE NEIGHBOUR: 'it returns false'. Refute it at one input. -/
def fnProductWrong : ChangeSpec := { name := "fnProduct", fn := fun _ => fun
  | [d] => { results := [.lit (.bool false)], args := [d] }
  | _ => none }
def FnProductWrongFalsely : Prop := fnProductRow.holds Try.pinned (OpenSpec.ofChange fnProductWrong)

/-- 'laws.FnVote': WHATEVER THE INPUT: true; the input reads as it did. -/
def fnVoteSpec : ChangeSpec := { name := "fnVote", fn := fun _ => fun
  | [d] => { results := [.lit (.bool true)], args := [d] }
  | _ => none }
def fnVoteRow : OpenClaim := { program := "ythinpmhoklehaaa", sum := "1e017dd1f09a374fb748e7524b2290ac3350aba26ce6866018d2b81f9d5d93e7", func := "loop.example/differenceengine/laws.FnVote", spec := "fnVote", unfollowed := true, recurses := true, apart := false }
def FnVoteSaid : Prop := fnVoteRow.holds Try.pinned (OpenSpec.ofChange fnVoteSpec)

/-- ITS FALSE NEIGHBOUR: 'it returns false'. Refute it at one input. -/
def fnVoteWrong : ChangeSpec := { name := "fnVote", fn := fun _ => fun
  | [d] => { results := [.lit (.bool false)], args := [d] }
  | _ => none }
def FnVoteWrongFalsely : Prop := fnVoteRow.holds Try.pinned (OpenSpec.ofChange fnVoteWrong)

/-- 'laws.FnFaulty': WHATEVER THE INPUT: true; the input reads as it did. -/
def fnFaultySpec : ChangeSpec := { name := "fnFaulty", fn := fun _ => fun
  | [d] => { results := [.lit (.bool true)], args := [d] }
  | _ => none }
def fnFaultyRow : OpenClaim := { program := "ythinpmhoklehaaa", sum := "1e017dd1f09a374fb748e7524b2290ac3350aba26ce6866018d2b81f9d5d93e7", func := "loop.example/differenceengine/laws.FnFaulty", spec := "fnFaulty", unfollowed := true, recurses := true, apart := false }
def FnFaultySaid : Prop := fnFaultyRow.holds Try.pinned (OpenSpec.ofChange fnFaultySpec)

/-- ITS FALSE NEIGHBOUR: 'it returns false'. Refute it at one input. -/
def fnFaultyWrong : ChangeSpec := { name := "fnFaulty", fn := fun _ => fun
  | [d] => { results := [.lit (.bool false)], args := [d] }
  | _ => none }
def FnFaultyWrongFalsely : Prop := fnFaultyRow.holds Try.pinned (OpenSpec.ofChange fnFaultyWrong)

/- THE SECOND FORM. 'bulk': how many values and letters a reading holds, each counted each time it is reached (what is shared counts as often as it is met; a slice's spare places count too). A statement '..UptoSaid' is the law's where the arguments, and the package variables that the reading takes, are together of bulk at most 1048576: NARROWER than '..Said'. Prove '..Said' where nothing that the law and all that it calls make is longer than what came in: it says more and counts as full. Else prove '..UptoSaid'. A law counts once. -/
mutual
def uptoBulk {H : Type} : DataW H → Nat
  | .lit (.string bytes) => bytes.length + 1
  | .lit _ => 1
  | .nil => 1
  | .ptr d => uptoBulk d + 1
  | .slice elems spare => uptoBulkAll elems + uptoBulkAll spare + 1
  | .agg parts => uptoBulkAll parts + 1
  | .iface _ d => uptoBulk d + 1
  | .map entries => uptoBulkEntries entries + 1
  | .held _ => 1
def uptoBulkAll {H : Type} : List (DataW H) → Nat
  | [] => 0
  | d :: r => uptoBulk d + uptoBulkAll r
def uptoBulkEntries {H : Type} : List (Lit × DataW H) → Nat
  | [] => 0
  | x :: r => uptoBulkEntry x + uptoBulkEntries r
def uptoBulkEntry {H : Type} : Lit × DataW H → Nat
  | (.string bytes, d) => bytes.length + uptoBulk d + 1
  | (_, d) => uptoBulk d + 1
 end
def uptoSmall : (H : Type) → List (DataW H) → Bool := fun _ ds => decide (uptoBulkAll ds ≤ 1048576)
def OpenSpec.upto (s : _root_.Go.ChangeSpec) : _root_.Go.OpenSpec := { _root_.Go.OpenSpec.ofChange s with cond := some uptoSmall }

/-- 'laws.FnInterleave', WHERE WHAT IT READS IS OF BULK AT MOST 1048576: true; the input reads as it did. -/
def fnInterleaveUptoRow : OpenClaim := { program := "ythinpmhoklehaaa", sum := "1e017dd1f09a374fb748e7524b2290ac3350aba26ce6866018d2b81f9d5d93e7", func := "loop.example/differenceengine/laws.FnInterleave", spec := "fnInterleave", apart := false, narrowed := true }
def FnInterleaveUptoSaid : Prop := fnInterleaveUptoRow.holds Try.pinned (OpenSpec.upto fnInterleaveSpec)

/-- 'laws.FnDeal', WHERE WHAT IT READS IS OF BULK AT MOST 1048576: true; the input reads as it did. -/
def fnDealUptoRow : OpenClaim := { program := "ythinpmhoklehaaa", sum := "1e017dd1f09a374fb748e7524b2290ac3350aba26ce6866018d2b81f9d5d93e7", func := "loop.example/differenceengine/laws.FnDeal", spec := "fnDeal", apart := false, narrowed := true }
def FnDealUptoSaid : Prop := fnDealUptoRow.holds Try.pinned (OpenSpec.upto fnDealSpec)

/-- 'laws.FnProduct', WHERE WHAT IT READS IS OF BULK AT MOST 1048576: true; the input reads as it did. -/
def fnProductUptoRow : OpenClaim := { program := "ythinpmhoklehaaa", sum := "1e017dd1f09a374fb748e7524b2290ac3350aba26ce6866018d2b81f9d5d93e7", func := "loop.example/differenceengine/laws.FnProduct", spec := "fnProduct", unfollowed := true, recurses := true, apart := false, narrowed := true }
def FnProductUptoSaid : Prop := fnProductUptoRow.holds Try.pinned (OpenSpec.upto fnProductSpec)

/-- 'laws.FnVote', WHERE WHAT IT READS IS OF BULK AT MOST 1048576: true; the input reads as it did. -/
def fnVoteUptoRow : OpenClaim := { program := "ythinpmhoklehaaa", sum := "1e017dd1f09a374fb748e7524b2290ac3350aba26ce6866018d2b81f9d5d93e7", func := "loop.example/differenceengine/laws.FnVote", spec := "fnVote", unfollowed := true, recurses := true, apart := false, narrowed := true }
def FnVoteUptoSaid : Prop := fnVoteUptoRow.holds Try.pinned (OpenSpec.upto fnVoteSpec)

/-- 'laws.FnFaulty', WHERE WHAT IT READS IS OF BULK AT MOST 1048576: true; the input reads as it did. -/
def fnFaultyUptoRow : OpenClaim := { program := "ythinpmhoklehaaa", sum := "1e017dd1f09a374fb748e7524b2290ac3350aba26ce6866018d2b81f9d5d93e7", func := "loop.example/differenceengine/laws.FnFaulty", spec := "fnFaulty", unfollowed := true, recurses := true, apart := false, narrowed := true }
def FnFaultyUptoSaid : Prop := fnFaultyUptoRow.holds Try.pinned (OpenSpec.upto fnFaultySpec)

end Rows
end Go.Proofs.Ythinpmhoklehaaa
