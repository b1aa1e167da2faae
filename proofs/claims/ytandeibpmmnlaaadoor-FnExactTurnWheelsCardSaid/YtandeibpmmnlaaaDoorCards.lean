/-
  DERIVED. GIVEN WITH THE SEED: THE CARDS: each row of YtandeibpmmnlaaaDoorRows.lean that lists a variable, with what it lists TIED to the program's text (the seventh form; the later family's looks); each row that meets fmt, with fmt's text TOLD by the authors' own Lean function (tested against real Go, not proved from fmt's source: count such statements apart). THE CARD IS WHAT COUNTS. Prove the row's statement (the work); the ties are given (YtandeibpmmnlaaaDoorTie.lean); close each card by the builder's one call (the guide's Derived/Test/ToyasCard.lean, 'card_holds'). Laid BY PROGRAM, IN A SANDBOX (cutbox-door.mjs). By AI agents, Wed Nov 11 2026. No macro, syntax, notation, axiom, sorry.
-/
import Derived.Test.YtandeibpmmnlaaaDoorRows
import GoSem.ClaimSeven
namespace Go.Proofs.YtandeibpmmnlaaaDoor
namespace Rows

/-- THE TIED CARD OF 'laws.FnExactAddColumns'. -/
def fnExactAddColumnsCard : Claim7 := { stood := { row := fnExactAddColumnsRow, standIns := [], harness := (true, "fe5d4729c5babd389e2e0867dfa65680c015af6a052261955e7508137238ece6"), looks := false }, kinds := [], alts := [], laidByText := true, laidKinds := [.data, .pinned], laidTests := true, laidLooks := .later }
def FnExactAddColumnsCardSaid : Prop := Claim7.holds Tryd.pinned (.plain (OpenSpec.ofChange fnExactAddColumnsSpec)) fnExactAddColumnsCard

/-- THE TIED CARD OF 'laws.FnExactSubtractColumns'. -/
def fnExactSubtractColumnsCard : Claim7 := { stood := { row := fnExactSubtractColumnsRow, standIns := [], harness := (true, "fe5d4729c5babd389e2e0867dfa65680c015af6a052261955e7508137238ece6"), looks := false }, kinds := [], alts := [], laidByText := true, laidKinds := [.data, .pinned], laidTests := true, laidLooks := .later }
def FnExactSubtractColumnsCardSaid : Prop := Claim7.holds Tryd.pinned (.plain (OpenSpec.ofChange fnExactSubtractColumnsSpec)) fnExactSubtractColumnsCard

/-- THE TIED CARD OF 'laws.FnExactTurnWheels'. -/
def fnExactTurnWheelsCard : Claim7 := { stood := { row := fnExactTurnWheelsRow, standIns := [], harness := (true, "fe5d4729c5babd389e2e0867dfa65680c015af6a052261955e7508137238ece6"), looks := false }, kinds := [], alts := [], laidByText := true, laidKinds := [.data, .pinned], laidTests := true, laidLooks := .later }
def FnExactTurnWheelsCardSaid : Prop := Claim7.holds Tryd.pinned (.plain (OpenSpec.ofChange fnExactTurnWheelsSpec)) fnExactTurnWheelsCard

/-- THE TIED CARD OF 'laws.FnExactWarnedWheels'. -/
def fnExactWarnedWheelsCard : Claim7 := { stood := { row := fnExactWarnedWheelsRow, standIns := [], harness := (true, "fe5d4729c5babd389e2e0867dfa65680c015af6a052261955e7508137238ece6"), looks := false }, kinds := [], alts := [], laidByText := true, laidKinds := [.data, .pinned], laidTests := true, laidLooks := .later }
def FnExactWarnedWheelsCardSaid : Prop := Claim7.holds Tryd.pinned (.plain (OpenSpec.ofChange fnExactWarnedWheelsSpec)) fnExactWarnedWheelsCard

/-- THE TIED CARD OF 'laws.FnExactCarryOnce'. -/
def fnExactCarryOnceCard : Claim7 := { stood := { row := fnExactCarryOnceRow, standIns := [], harness := (true, "fe5d4729c5babd389e2e0867dfa65680c015af6a052261955e7508137238ece6"), looks := false }, kinds := [], alts := [], laidByText := true, laidKinds := [.data, .pinned], laidTests := true, laidLooks := .later }
def FnExactCarryOnceCardSaid : Prop := Claim7.holds Tryd.pinned (.plain (OpenSpec.ofChange fnExactCarryOnceSpec)) fnExactCarryOnceCard

/-- THE TIED CARD OF 'laws.FnExactCarryAll'. -/
def fnExactCarryAllCard : Claim7 := { stood := { row := fnExactCarryAllRow, standIns := [], harness := (true, "fe5d4729c5babd389e2e0867dfa65680c015af6a052261955e7508137238ece6"), looks := false }, kinds := [], alts := [], laidByText := true, laidKinds := [.data, .pinned], laidTests := true, laidLooks := .later }
def FnExactCarryAllCardSaid : Prop := Claim7.holds Tryd.pinned (.plain (OpenSpec.ofChange fnExactCarryAllSpec)) fnExactCarryAllCard

/-- THE TIED CARD OF 'laws.FnExactCarryAhead'. -/
def fnExactCarryAheadCard : Claim7 := { stood := { row := fnExactCarryAheadRow, standIns := [], harness := (true, "fe5d4729c5babd389e2e0867dfa65680c015af6a052261955e7508137238ece6"), looks := false }, kinds := [], alts := [], laidByText := true, laidKinds := [.data, .pinned], laidTests := true, laidLooks := .later }
def FnExactCarryAheadCardSaid : Prop := Claim7.holds Tryd.pinned (.plain (OpenSpec.ofChange fnExactCarryAheadSpec)) fnExactCarryAheadCard

/-- THE TIED CARD OF 'laws.FnExactCarryTimes'. -/
def fnExactCarryTimesCard : Claim7 := { stood := { row := fnExactCarryTimesRow, standIns := [], harness := (true, "fe5d4729c5babd389e2e0867dfa65680c015af6a052261955e7508137238ece6"), looks := false }, kinds := [], alts := [], laidByText := true, laidKinds := [.data, .pinned], laidTests := true, laidLooks := .later }
def FnExactCarryTimesCardSaid : Prop := Claim7.holds Tryd.pinned (.plain (OpenSpec.ofChange fnExactCarryTimesSpec)) fnExactCarryTimesCard

/-- THE SECOND FORM's CARD OF 'laws.FnExactAddColumns'. -/
def fnExactAddColumnsUptoCard : Claim7 := { stood := { row := fnExactAddColumnsUptoRow, standIns := [], harness := (true, "fe5d4729c5babd389e2e0867dfa65680c015af6a052261955e7508137238ece6"), looks := false }, kinds := [], alts := [], laidByText := true, laidKinds := [.data, .pinned], laidTests := true, laidLooks := .later }
def FnExactAddColumnsUptoCardSaid : Prop := Claim7.holds Tryd.pinned (.plain (OpenSpec.upto fnExactAddColumnsSpec)) fnExactAddColumnsUptoCard

/-- THE SECOND FORM's CARD OF 'laws.FnExactSubtractColumns'. -/
def fnExactSubtractColumnsUptoCard : Claim7 := { stood := { row := fnExactSubtractColumnsUptoRow, standIns := [], harness := (true, "fe5d4729c5babd389e2e0867dfa65680c015af6a052261955e7508137238ece6"), looks := false }, kinds := [], alts := [], laidByText := true, laidKinds := [.data, .pinned], laidTests := true, laidLooks := .later }
def FnExactSubtractColumnsUptoCardSaid : Prop := Claim7.holds Tryd.pinned (.plain (OpenSpec.upto fnExactSubtractColumnsSpec)) fnExactSubtractColumnsUptoCard

/-- THE SECOND FORM's CARD OF 'laws.FnExactTurnWheels'. -/
def fnExactTurnWheelsUptoCard : Claim7 := { stood := { row := fnExactTurnWheelsUptoRow, standIns := [], harness := (true, "fe5d4729c5babd389e2e0867dfa65680c015af6a052261955e7508137238ece6"), looks := false }, kinds := [], alts := [], laidByText := true, laidKinds := [.data, .pinned], laidTests := true, laidLooks := .later }
def FnExactTurnWheelsUptoCardSaid : Prop := Claim7.holds Tryd.pinned (.plain (OpenSpec.upto fnExactTurnWheelsSpec)) fnExactTurnWheelsUptoCard

/-- THE SECOND FORM's CARD OF 'laws.FnExactWarnedWheels'. -/
def fnExactWarnedWheelsUptoCard : Claim7 := { stood := { row := fnExactWarnedWheelsUptoRow, standIns := [], harness := (true, "fe5d4729c5babd389e2e0867dfa65680c015af6a052261955e7508137238ece6"), looks := false }, kinds := [], alts := [], laidByText := true, laidKinds := [.data, .pinned], laidTests := true, laidLooks := .later }
def FnExactWarnedWheelsUptoCardSaid : Prop := Claim7.holds Tryd.pinned (.plain (OpenSpec.upto fnExactWarnedWheelsSpec)) fnExactWarnedWheelsUptoCard

/-- THE SECOND FORM's CARD OF 'laws.FnExactCarryOnce'. -/
def fnExactCarryOnceUptoCard : Claim7 := { stood := { row := fnExactCarryOnceUptoRow, standIns := [], harness := (true, "fe5d4729c5babd389e2e0867dfa65680c015af6a052261955e7508137238ece6"), looks := false }, kinds := [], alts := [], laidByText := true, laidKinds := [.data, .pinned], laidTests := true, laidLooks := .later }
def FnExactCarryOnceUptoCardSaid : Prop := Claim7.holds Tryd.pinned (.plain (OpenSpec.upto fnExactCarryOnceSpec)) fnExactCarryOnceUptoCard

/-- THE SECOND FORM's CARD OF 'laws.FnExactCarryAll'. -/
def fnExactCarryAllUptoCard : Claim7 := { stood := { row := fnExactCarryAllUptoRow, standIns := [], harness := (true, "fe5d4729c5babd389e2e0867dfa65680c015af6a052261955e7508137238ece6"), looks := false }, kinds := [], alts := [], laidByText := true, laidKinds := [.data, .pinned], laidTests := true, laidLooks := .later }
def FnExactCarryAllUptoCardSaid : Prop := Claim7.holds Tryd.pinned (.plain (OpenSpec.upto fnExactCarryAllSpec)) fnExactCarryAllUptoCard

/-- THE SECOND FORM's CARD OF 'laws.FnExactCarryAhead'. -/
def fnExactCarryAheadUptoCard : Claim7 := { stood := { row := fnExactCarryAheadUptoRow, standIns := [], harness := (true, "fe5d4729c5babd389e2e0867dfa65680c015af6a052261955e7508137238ece6"), looks := false }, kinds := [], alts := [], laidByText := true, laidKinds := [.data, .pinned], laidTests := true, laidLooks := .later }
def FnExactCarryAheadUptoCardSaid : Prop := Claim7.holds Tryd.pinned (.plain (OpenSpec.upto fnExactCarryAheadSpec)) fnExactCarryAheadUptoCard

/-- THE SECOND FORM's CARD OF 'laws.FnExactCarryTimes'. -/
def fnExactCarryTimesUptoCard : Claim7 := { stood := { row := fnExactCarryTimesUptoRow, standIns := [], harness := (true, "fe5d4729c5babd389e2e0867dfa65680c015af6a052261955e7508137238ece6"), looks := false }, kinds := [], alts := [], laidByText := true, laidKinds := [.data, .pinned], laidTests := true, laidLooks := .later }
def FnExactCarryTimesUptoCardSaid : Prop := Claim7.holds Tryd.pinned (.plain (OpenSpec.upto fnExactCarryTimesSpec)) fnExactCarryTimesUptoCard
end Rows
end Go.Proofs.YtandeibpmmnlaaaDoor
