/-
  DERIVED. GIVEN WITH THE SEED: THE CARDS: each row of YtoannmpbjaaaoaaDoorRows.lean that lists a variable, with what it lists TIED to the program's text (the seventh form; the later family's looks); each row that meets fmt, with fmt's text TOLD by the authors' own Lean function (tested against real Go, not proved from fmt's source: count such statements apart). THE CARD IS WHAT COUNTS. Prove the row's statement (the work); the ties are given (YtoannmpbjaaaoaaDoorTie.lean); close each card by the builder's one call (the guide's Derived/Test/ToyasCard.lean, 'card_holds'). Laid BY PROGRAM, IN A SANDBOX (cutbox-door.mjs). By AI agents, Wed Nov 11 2026. No macro, syntax, notation, axiom, sorry.
-/
import Derived.Test.YtoannmpbjaaaoaaDoorRows
import GoSem.ClaimSeven
namespace Go.Proofs.YtoannmpbjaaaoaaDoor
namespace Rows

/-- THE TIED CARD OF 'laws.FnColumnOf'. -/
def fnColumnOfCard : Claim7 := { stood := { row := fnColumnOfRow, standIns := [], harness := (true, "f055bca553dc63aab81615e31071aba8be13ba41b9e8d1e6440cafb8a9ea5090"), looks := false }, kinds := [], alts := [], laidByText := true, laidKinds := [.data, .pinned], laidTests := true, laidLooks := .later }
def FnColumnOfCardSaid : Prop := Claim7.holds Tryd.pinned (.plain (OpenSpec.ofChange fnColumnOfSpec)) fnColumnOfCard

/-- THE TIED CARD OF 'laws.FnWiden'. -/
def fnWidenCard : Claim7 := { stood := { row := fnWidenRow, standIns := [], harness := (true, "f055bca553dc63aab81615e31071aba8be13ba41b9e8d1e6440cafb8a9ea5090"), looks := false }, kinds := [], alts := [], laidByText := true, laidKinds := [.data, .pinned], laidTests := true, laidLooks := .later }
def FnWidenCardSaid : Prop := Claim7.holds Tryd.pinned (.plain (OpenSpec.ofChange fnWidenSpec)) fnWidenCard

/-- THE TIED CARD OF 'laws.FnNegate'. -/
def fnNegateCard : Claim7 := { stood := { row := fnNegateRow, standIns := [], harness := (true, "f055bca553dc63aab81615e31071aba8be13ba41b9e8d1e6440cafb8a9ea5090"), looks := false }, kinds := [], alts := [], laidByText := true, laidKinds := [.data, .pinned], laidTests := true, laidLooks := .later }
def FnNegateCardSaid : Prop := Claim7.holds Tryd.pinned (.plain (OpenSpec.ofChange fnNegateSpec)) fnNegateCard

/-- THE TIED CARD OF 'laws.FnAddTurned'. -/
def fnAddTurnedCard : Claim7 := { stood := { row := fnAddTurnedRow, standIns := [], harness := (true, "f055bca553dc63aab81615e31071aba8be13ba41b9e8d1e6440cafb8a9ea5090"), looks := false }, kinds := [], alts := [], laidByText := true, laidKinds := [.data, .pinned], laidTests := true, laidLooks := .later }
def FnAddTurnedCardSaid : Prop := Claim7.holds Tryd.pinned (.plain (OpenSpec.ofChange fnAddTurnedSpec)) fnAddTurnedCard

/-- THE TIED CARD OF 'laws.FnAddSigned'. -/
def fnAddSignedCard : Claim7 := { stood := { row := fnAddSignedRow, standIns := [], harness := (true, "f055bca553dc63aab81615e31071aba8be13ba41b9e8d1e6440cafb8a9ea5090"), looks := false }, kinds := [], alts := [], laidByText := true, laidKinds := [.data, .pinned], laidTests := true, laidLooks := .later }
def FnAddSignedCardSaid : Prop := Claim7.holds Tryd.pinned (.plain (OpenSpec.ofChange fnAddSignedSpec)) fnAddSignedCard

/-- THE TIED CARD OF 'laws.FnAddThree'. -/
def fnAddThreeCard : Claim7 := { stood := { row := fnAddThreeRow, standIns := [], harness := (true, "f055bca553dc63aab81615e31071aba8be13ba41b9e8d1e6440cafb8a9ea5090"), looks := false }, kinds := [], alts := [], laidByText := true, laidKinds := [.data, .pinned], laidTests := true, laidLooks := .later }
def FnAddThreeCardSaid : Prop := Claim7.holds Tryd.pinned (.plain (OpenSpec.ofChange fnAddThreeSpec)) fnAddThreeCard

/-- THE SECOND FORM's CARD OF 'laws.FnColumnOf'. -/
def fnColumnOfUptoCard : Claim7 := { stood := { row := fnColumnOfUptoRow, standIns := [], harness := (true, "f055bca553dc63aab81615e31071aba8be13ba41b9e8d1e6440cafb8a9ea5090"), looks := false }, kinds := [], alts := [], laidByText := true, laidKinds := [.data, .pinned], laidTests := true, laidLooks := .later }
def FnColumnOfUptoCardSaid : Prop := Claim7.holds Tryd.pinned (.plain (OpenSpec.upto fnColumnOfSpec)) fnColumnOfUptoCard

/-- THE SECOND FORM's CARD OF 'laws.FnWiden'. -/
def fnWidenUptoCard : Claim7 := { stood := { row := fnWidenUptoRow, standIns := [], harness := (true, "f055bca553dc63aab81615e31071aba8be13ba41b9e8d1e6440cafb8a9ea5090"), looks := false }, kinds := [], alts := [], laidByText := true, laidKinds := [.data, .pinned], laidTests := true, laidLooks := .later }
def FnWidenUptoCardSaid : Prop := Claim7.holds Tryd.pinned (.plain (OpenSpec.upto fnWidenSpec)) fnWidenUptoCard

/-- THE SECOND FORM's CARD OF 'laws.FnNegate'. -/
def fnNegateUptoCard : Claim7 := { stood := { row := fnNegateUptoRow, standIns := [], harness := (true, "f055bca553dc63aab81615e31071aba8be13ba41b9e8d1e6440cafb8a9ea5090"), looks := false }, kinds := [], alts := [], laidByText := true, laidKinds := [.data, .pinned], laidTests := true, laidLooks := .later }
def FnNegateUptoCardSaid : Prop := Claim7.holds Tryd.pinned (.plain (OpenSpec.upto fnNegateSpec)) fnNegateUptoCard

/-- THE SECOND FORM's CARD OF 'laws.FnAddTurned'. -/
def fnAddTurnedUptoCard : Claim7 := { stood := { row := fnAddTurnedUptoRow, standIns := [], harness := (true, "f055bca553dc63aab81615e31071aba8be13ba41b9e8d1e6440cafb8a9ea5090"), looks := false }, kinds := [], alts := [], laidByText := true, laidKinds := [.data, .pinned], laidTests := true, laidLooks := .later }
def FnAddTurnedUptoCardSaid : Prop := Claim7.holds Tryd.pinned (.plain (OpenSpec.upto fnAddTurnedSpec)) fnAddTurnedUptoCard

/-- THE SECOND FORM's CARD OF 'laws.FnAddSigned'. -/
def fnAddSignedUptoCard : Claim7 := { stood := { row := fnAddSignedUptoRow, standIns := [], harness := (true, "f055bca553dc63aab81615e31071aba8be13ba41b9e8d1e6440cafb8a9ea5090"), looks := false }, kinds := [], alts := [], laidByText := true, laidKinds := [.data, .pinned], laidTests := true, laidLooks := .later }
def FnAddSignedUptoCardSaid : Prop := Claim7.holds Tryd.pinned (.plain (OpenSpec.upto fnAddSignedSpec)) fnAddSignedUptoCard

/-- THE SECOND FORM's CARD OF 'laws.FnAddThree'. -/
def fnAddThreeUptoCard : Claim7 := { stood := { row := fnAddThreeUptoRow, standIns := [], harness := (true, "f055bca553dc63aab81615e31071aba8be13ba41b9e8d1e6440cafb8a9ea5090"), looks := false }, kinds := [], alts := [], laidByText := true, laidKinds := [.data, .pinned], laidTests := true, laidLooks := .later }
def FnAddThreeUptoCardSaid : Prop := Claim7.holds Tryd.pinned (.plain (OpenSpec.upto fnAddThreeSpec)) fnAddThreeUptoCard
end Rows
end Go.Proofs.YtoannmpbjaaaoaaDoor
