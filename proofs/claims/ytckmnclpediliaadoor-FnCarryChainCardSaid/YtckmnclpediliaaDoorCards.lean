/-
  DERIVED. GIVEN WITH THE SEED: THE CARDS: each row of YtckmnclpediliaaDoorRows.lean that lists a variable, with what it lists TIED to the program's text (the seventh form; the later family's looks); each row that meets fmt, with fmt's text TOLD by the authors' own Lean function (tested against real Go, not proved from fmt's source: count such statements apart). THE CARD IS WHAT COUNTS. Prove the row's statement (the work); the ties are given (YtckmnclpediliaaDoorTie.lean); close each card by the builder's one call (the guide's Derived/Test/ToyasCard.lean, 'card_holds'). Laid BY PROGRAM, IN A SANDBOX (cutbox-door.mjs). By AI agents, Wed Nov 11 2026. No macro, syntax, notation, axiom, sorry.
-/
import Derived.Test.YtckmnclpediliaaDoorRows
import GoSem.ClaimSeven
namespace Go.Proofs.YtckmnclpediliaaDoor
namespace Rows

/-- THE TIED CARD OF 'laws.FnCarryChain'. -/
def fnCarryChainCard : Claim7 := { stood := { row := fnCarryChainRow, standIns := [], harness := (true, "7ea218ea77594cd646cdeb719d550b55f9fd1e45987a1d4b36566fd3dade2155"), looks := false }, kinds := [], alts := [], laidByText := true, laidKinds := [.data, .pinned], laidTests := true, laidLooks := .later }
def FnCarryChainCardSaid : Prop := Claim7.holds Tryd.pinned (.plain (OpenSpec.ofChange fnCarryChainSpec)) fnCarryChainCard

/-- THE SECOND FORM's CARD OF 'laws.FnCarryChain'. -/
def fnCarryChainUptoCard : Claim7 := { stood := { row := fnCarryChainUptoRow, standIns := [], harness := (true, "7ea218ea77594cd646cdeb719d550b55f9fd1e45987a1d4b36566fd3dade2155"), looks := false }, kinds := [], alts := [], laidByText := true, laidKinds := [.data, .pinned], laidTests := true, laidLooks := .later }
def FnCarryChainUptoCardSaid : Prop := Claim7.holds Tryd.pinned (.plain (OpenSpec.upto fnCarryChainSpec)) fnCarryChainUptoCard
end Rows
end Go.Proofs.YtckmnclpediliaaDoor
