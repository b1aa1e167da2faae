/-
  DERIVED. GIVEN WITH THE SEED: THE CARDS: each row of YtliakbgigkajnaaDoorRows.lean that lists a variable, with what it lists TIED to the program's text (the seventh form; the later family's looks); each row that meets fmt, with fmt's text TOLD by the authors' own Lean function (tested against real Go, not proved from fmt's source: count such statements apart). THE CARD IS WHAT COUNTS. Prove the row's statement (the work); the ties are given (YtliakbgigkajnaaDoorTie.lean); close each card by the builder's one call (the guide's Derived/Test/ToyasCard.lean, 'card_holds'). Laid BY PROGRAM, IN A SANDBOX (cutbox-door.mjs). By AI agents, Wed Nov 11 2026. No macro, syntax, notation, axiom, sorry.
-/
import Derived.Test.YtliakbgigkajnaaDoorRows
import GoSem.ClaimSeven
namespace Go.Proofs.YtliakbgigkajnaaDoor
namespace Rows

/-- THE TIED CARD OF 'laws.FnExactEngineValid'. -/
def fnExactEngineValidCard : Claim7 := { stood := { row := fnExactEngineValidRow, standIns := [], harness := (true, "9623ad2c06e63fdab940eb27d0cfe7d3515201341553dcfe1af2b3c159b929e0"), looks := false }, kinds := [], alts := [], laidByText := true, laidKinds := [.data, .pinned], laidTests := true, laidLooks := .later }
def FnExactEngineValidCardSaid : Prop := Claim7.holds Tryd.pinned (.plain (OpenSpec.ofChange fnExactEngineValidSpec)) fnExactEngineValidCard

/-- THE TIED CARD OF 'laws.FnExactResultOf'. -/
def fnExactResultOfCard : Claim7 := { stood := { row := fnExactResultOfRow, standIns := [], harness := (true, "9623ad2c06e63fdab940eb27d0cfe7d3515201341553dcfe1af2b3c159b929e0"), looks := false }, kinds := [], alts := [], laidByText := true, laidKinds := [.data, .pinned], laidTests := true, laidLooks := .later }
def FnExactResultOfCardSaid : Prop := Claim7.holds Tryd.pinned (.plain (OpenSpec.ofChange fnExactResultOfSpec)) fnExactResultOfCard

/-- THE TIED CARD OF 'laws.FnExactReadEngine'. -/
def fnExactReadEngineCard : Claim7 := { stood := { row := fnExactReadEngineRow, standIns := [], harness := (true, "9623ad2c06e63fdab940eb27d0cfe7d3515201341553dcfe1af2b3c159b929e0"), looks := false }, kinds := [], alts := [], laidByText := true, laidKinds := [.data, .pinned], laidTests := true, laidLooks := .later }
def FnExactReadEngineCardSaid : Prop := Claim7.holds Tryd.pinned (.plain (OpenSpec.ofChange fnExactReadEngineSpec)) fnExactReadEngineCard

/-- THE TIED CARD OF 'laws.FnExactTurnBack'. -/
def fnExactTurnBackCard : Claim7 := { stood := { row := fnExactTurnBackRow, standIns := [], harness := (true, "9623ad2c06e63fdab940eb27d0cfe7d3515201341553dcfe1af2b3c159b929e0"), looks := false }, kinds := [], alts := [], laidByText := true, laidKinds := [.data, .pinned], laidTests := true, laidLooks := .later }
def FnExactTurnBackCardSaid : Prop := Claim7.holds Tryd.pinned (.plain (OpenSpec.ofChange fnExactTurnBackSpec)) fnExactTurnBackCard

/-- THE TIED CARD OF 'laws.FnExactAddEngines'. -/
def fnExactAddEnginesCard : Claim7 := { stood := { row := fnExactAddEnginesRow, standIns := [], harness := (true, "9623ad2c06e63fdab940eb27d0cfe7d3515201341553dcfe1af2b3c159b929e0"), looks := false }, kinds := [], alts := [], laidByText := true, laidKinds := [.data, .pinned], laidTests := true, laidLooks := .later }
def FnExactAddEnginesCardSaid : Prop := Claim7.holds Tryd.pinned (.plain (OpenSpec.ofChange fnExactAddEnginesSpec)) fnExactAddEnginesCard

/-- THE TIED CARD OF 'laws.FnExactWidenEngine'. -/
def fnExactWidenEngineCard : Claim7 := { stood := { row := fnExactWidenEngineRow, standIns := [], harness := (true, "9623ad2c06e63fdab940eb27d0cfe7d3515201341553dcfe1af2b3c159b929e0"), looks := false }, kinds := [], alts := [], laidByText := true, laidKinds := [.data, .pinned], laidTests := true, laidLooks := .later }
def FnExactWidenEngineCardSaid : Prop := Claim7.holds Tryd.pinned (.plain (OpenSpec.ofChange fnExactWidenEngineSpec)) fnExactWidenEngineCard

/-- THE SECOND FORM's CARD OF 'laws.FnExactEngineValid'. -/
def fnExactEngineValidUptoCard : Claim7 := { stood := { row := fnExactEngineValidUptoRow, standIns := [], harness := (true, "9623ad2c06e63fdab940eb27d0cfe7d3515201341553dcfe1af2b3c159b929e0"), looks := false }, kinds := [], alts := [], laidByText := true, laidKinds := [.data, .pinned], laidTests := true, laidLooks := .later }
def FnExactEngineValidUptoCardSaid : Prop := Claim7.holds Tryd.pinned (.plain (OpenSpec.upto fnExactEngineValidSpec)) fnExactEngineValidUptoCard

/-- THE SECOND FORM's CARD OF 'laws.FnExactResultOf'. -/
def fnExactResultOfUptoCard : Claim7 := { stood := { row := fnExactResultOfUptoRow, standIns := [], harness := (true, "9623ad2c06e63fdab940eb27d0cfe7d3515201341553dcfe1af2b3c159b929e0"), looks := false }, kinds := [], alts := [], laidByText := true, laidKinds := [.data, .pinned], laidTests := true, laidLooks := .later }
def FnExactResultOfUptoCardSaid : Prop := Claim7.holds Tryd.pinned (.plain (OpenSpec.upto fnExactResultOfSpec)) fnExactResultOfUptoCard

/-- THE SECOND FORM's CARD OF 'laws.FnExactReadEngine'. -/
def fnExactReadEngineUptoCard : Claim7 := { stood := { row := fnExactReadEngineUptoRow, standIns := [], harness := (true, "9623ad2c06e63fdab940eb27d0cfe7d3515201341553dcfe1af2b3c159b929e0"), looks := false }, kinds := [], alts := [], laidByText := true, laidKinds := [.data, .pinned], laidTests := true, laidLooks := .later }
def FnExactReadEngineUptoCardSaid : Prop := Claim7.holds Tryd.pinned (.plain (OpenSpec.upto fnExactReadEngineSpec)) fnExactReadEngineUptoCard

/-- THE SECOND FORM's CARD OF 'laws.FnExactTurnBack'. -/
def fnExactTurnBackUptoCard : Claim7 := { stood := { row := fnExactTurnBackUptoRow, standIns := [], harness := (true, "9623ad2c06e63fdab940eb27d0cfe7d3515201341553dcfe1af2b3c159b929e0"), looks := false }, kinds := [], alts := [], laidByText := true, laidKinds := [.data, .pinned], laidTests := true, laidLooks := .later }
def FnExactTurnBackUptoCardSaid : Prop := Claim7.holds Tryd.pinned (.plain (OpenSpec.upto fnExactTurnBackSpec)) fnExactTurnBackUptoCard

/-- THE SECOND FORM's CARD OF 'laws.FnExactAddEngines'. -/
def fnExactAddEnginesUptoCard : Claim7 := { stood := { row := fnExactAddEnginesUptoRow, standIns := [], harness := (true, "9623ad2c06e63fdab940eb27d0cfe7d3515201341553dcfe1af2b3c159b929e0"), looks := false }, kinds := [], alts := [], laidByText := true, laidKinds := [.data, .pinned], laidTests := true, laidLooks := .later }
def FnExactAddEnginesUptoCardSaid : Prop := Claim7.holds Tryd.pinned (.plain (OpenSpec.upto fnExactAddEnginesSpec)) fnExactAddEnginesUptoCard

/-- THE SECOND FORM's CARD OF 'laws.FnExactWidenEngine'. -/
def fnExactWidenEngineUptoCard : Claim7 := { stood := { row := fnExactWidenEngineUptoRow, standIns := [], harness := (true, "9623ad2c06e63fdab940eb27d0cfe7d3515201341553dcfe1af2b3c159b929e0"), looks := false }, kinds := [], alts := [], laidByText := true, laidKinds := [.data, .pinned], laidTests := true, laidLooks := .later }
def FnExactWidenEngineUptoCardSaid : Prop := Claim7.holds Tryd.pinned (.plain (OpenSpec.upto fnExactWidenEngineSpec)) fnExactWidenEngineUptoCard
end Rows
end Go.Proofs.YtliakbgigkajnaaDoor
