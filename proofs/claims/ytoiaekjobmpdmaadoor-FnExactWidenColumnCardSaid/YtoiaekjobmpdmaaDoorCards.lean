/-
  DERIVED. GIVEN WITH THE SEED: THE CARDS: each row of YtoiaekjobmpdmaaDoorRows.lean that lists a variable, with what it lists TIED to the program's text (the seventh form; the later family's looks); each row that meets fmt, with fmt's text TOLD by the authors' own Lean function (tested against real Go, not proved from fmt's source: count such statements apart). THE CARD IS WHAT COUNTS. Prove the row's statement (the work); the ties are given (YtoiaekjobmpdmaaDoorTie.lean); close each card by the builder's one call (the guide's Derived/Test/ToyasCard.lean, 'card_holds'). Laid BY PROGRAM, IN A SANDBOX (cutbox-door.mjs). By AI agents, Wed Nov 11 2026. No macro, syntax, notation, axiom, sorry.
-/
import Derived.Test.YtoiaekjobmpdmaaDoorRows
import GoSem.ClaimSeven
namespace Go.Proofs.YtoiaekjobmpdmaaDoor
namespace Rows

/-- THE TIED CARD OF 'laws.FnExactColumnValid'. -/
def fnExactColumnValidCard : Claim7 := { stood := { row := fnExactColumnValidRow, standIns := [], harness := (true, "4cab2aee81e3990f967b8508983330bc4286a4e882d96a04b4c41c9fef0b548f"), looks := false }, kinds := [], alts := [], laidByText := true, laidKinds := [.data, .pinned], laidTests := true, laidLooks := .later }
def FnExactColumnValidCardSaid : Prop := Claim7.holds Tryd.pinned (.plain (OpenSpec.ofChange fnExactColumnValidSpec)) fnExactColumnValidCard

/-- THE TIED CARD OF 'laws.FnExactValueOf'. -/
def fnExactValueOfCard : Claim7 := { stood := { row := fnExactValueOfRow, standIns := [], harness := (true, "4cab2aee81e3990f967b8508983330bc4286a4e882d96a04b4c41c9fef0b548f"), looks := false }, kinds := [], alts := [], laidByText := true, laidKinds := [.data, .pinned], laidTests := true, laidLooks := .later }
def FnExactValueOfCardSaid : Prop := Claim7.holds Tryd.pinned (.plain (OpenSpec.ofChange fnExactValueOfSpec)) fnExactValueOfCard

/-- THE TIED CARD OF 'laws.FnExactSignedOf'. -/
def fnExactSignedOfCard : Claim7 := { stood := { row := fnExactSignedOfRow, standIns := [], harness := (true, "4cab2aee81e3990f967b8508983330bc4286a4e882d96a04b4c41c9fef0b548f"), looks := false }, kinds := [], alts := [], laidByText := true, laidKinds := [.data, .pinned], laidTests := true, laidLooks := .later }
def FnExactSignedOfCardSaid : Prop := Claim7.holds Tryd.pinned (.plain (OpenSpec.ofChange fnExactSignedOfSpec)) fnExactSignedOfCard

/-- THE TIED CARD OF 'laws.FnExactWidenColumn'. -/
def fnExactWidenColumnCard : Claim7 := { stood := { row := fnExactWidenColumnRow, standIns := [], harness := (true, "4cab2aee81e3990f967b8508983330bc4286a4e882d96a04b4c41c9fef0b548f"), looks := false }, kinds := [], alts := [], laidByText := true, laidKinds := [.data, .pinned], laidTests := true, laidLooks := .later }
def FnExactWidenColumnCardSaid : Prop := Claim7.holds Tryd.pinned (.plain (OpenSpec.ofChange fnExactWidenColumnSpec)) fnExactWidenColumnCard

/-- THE TIED CARD OF 'laws.FnExactNegateColumn'. -/
def fnExactNegateColumnCard : Claim7 := { stood := { row := fnExactNegateColumnRow, standIns := [], harness := (true, "4cab2aee81e3990f967b8508983330bc4286a4e882d96a04b4c41c9fef0b548f"), looks := false }, kinds := [], alts := [], laidByText := true, laidKinds := [.data, .pinned], laidTests := true, laidLooks := .later }
def FnExactNegateColumnCardSaid : Prop := Claim7.holds Tryd.pinned (.plain (OpenSpec.ofChange fnExactNegateColumnSpec)) fnExactNegateColumnCard

/-- THE TIED CARD OF 'laws.FnExactCastNines'. -/
def fnExactCastNinesCard : Claim7 := { stood := { row := fnExactCastNinesRow, standIns := [], harness := (true, "4cab2aee81e3990f967b8508983330bc4286a4e882d96a04b4c41c9fef0b548f"), looks := false }, kinds := [], alts := [], laidByText := true, laidKinds := [.data, .pinned], laidTests := true, laidLooks := .later }
def FnExactCastNinesCardSaid : Prop := Claim7.holds Tryd.pinned (.plain (OpenSpec.ofChange fnExactCastNinesSpec)) fnExactCastNinesCard

/-- THE TIED CARD OF 'laws.FnExactCastElevens'. -/
def fnExactCastElevensCard : Claim7 := { stood := { row := fnExactCastElevensRow, standIns := [], harness := (true, "4cab2aee81e3990f967b8508983330bc4286a4e882d96a04b4c41c9fef0b548f"), looks := false }, kinds := [], alts := [], laidByText := true, laidKinds := [.data, .pinned], laidTests := true, laidLooks := .later }
def FnExactCastElevensCardSaid : Prop := Claim7.holds Tryd.pinned (.plain (OpenSpec.ofChange fnExactCastElevensSpec)) fnExactCastElevensCard

/-- THE SECOND FORM's CARD OF 'laws.FnExactColumnValid'. -/
def fnExactColumnValidUptoCard : Claim7 := { stood := { row := fnExactColumnValidUptoRow, standIns := [], harness := (true, "4cab2aee81e3990f967b8508983330bc4286a4e882d96a04b4c41c9fef0b548f"), looks := false }, kinds := [], alts := [], laidByText := true, laidKinds := [.data, .pinned], laidTests := true, laidLooks := .later }
def FnExactColumnValidUptoCardSaid : Prop := Claim7.holds Tryd.pinned (.plain (OpenSpec.upto fnExactColumnValidSpec)) fnExactColumnValidUptoCard

/-- THE SECOND FORM's CARD OF 'laws.FnExactValueOf'. -/
def fnExactValueOfUptoCard : Claim7 := { stood := { row := fnExactValueOfUptoRow, standIns := [], harness := (true, "4cab2aee81e3990f967b8508983330bc4286a4e882d96a04b4c41c9fef0b548f"), looks := false }, kinds := [], alts := [], laidByText := true, laidKinds := [.data, .pinned], laidTests := true, laidLooks := .later }
def FnExactValueOfUptoCardSaid : Prop := Claim7.holds Tryd.pinned (.plain (OpenSpec.upto fnExactValueOfSpec)) fnExactValueOfUptoCard

/-- THE SECOND FORM's CARD OF 'laws.FnExactSignedOf'. -/
def fnExactSignedOfUptoCard : Claim7 := { stood := { row := fnExactSignedOfUptoRow, standIns := [], harness := (true, "4cab2aee81e3990f967b8508983330bc4286a4e882d96a04b4c41c9fef0b548f"), looks := false }, kinds := [], alts := [], laidByText := true, laidKinds := [.data, .pinned], laidTests := true, laidLooks := .later }
def FnExactSignedOfUptoCardSaid : Prop := Claim7.holds Tryd.pinned (.plain (OpenSpec.upto fnExactSignedOfSpec)) fnExactSignedOfUptoCard

/-- THE SECOND FORM's CARD OF 'laws.FnExactWidenColumn'. -/
def fnExactWidenColumnUptoCard : Claim7 := { stood := { row := fnExactWidenColumnUptoRow, standIns := [], harness := (true, "4cab2aee81e3990f967b8508983330bc4286a4e882d96a04b4c41c9fef0b548f"), looks := false }, kinds := [], alts := [], laidByText := true, laidKinds := [.data, .pinned], laidTests := true, laidLooks := .later }
def FnExactWidenColumnUptoCardSaid : Prop := Claim7.holds Tryd.pinned (.plain (OpenSpec.upto fnExactWidenColumnSpec)) fnExactWidenColumnUptoCard

/-- THE SECOND FORM's CARD OF 'laws.FnExactNegateColumn'. -/
def fnExactNegateColumnUptoCard : Claim7 := { stood := { row := fnExactNegateColumnUptoRow, standIns := [], harness := (true, "4cab2aee81e3990f967b8508983330bc4286a4e882d96a04b4c41c9fef0b548f"), looks := false }, kinds := [], alts := [], laidByText := true, laidKinds := [.data, .pinned], laidTests := true, laidLooks := .later }
def FnExactNegateColumnUptoCardSaid : Prop := Claim7.holds Tryd.pinned (.plain (OpenSpec.upto fnExactNegateColumnSpec)) fnExactNegateColumnUptoCard

/-- THE SECOND FORM's CARD OF 'laws.FnExactCastNines'. -/
def fnExactCastNinesUptoCard : Claim7 := { stood := { row := fnExactCastNinesUptoRow, standIns := [], harness := (true, "4cab2aee81e3990f967b8508983330bc4286a4e882d96a04b4c41c9fef0b548f"), looks := false }, kinds := [], alts := [], laidByText := true, laidKinds := [.data, .pinned], laidTests := true, laidLooks := .later }
def FnExactCastNinesUptoCardSaid : Prop := Claim7.holds Tryd.pinned (.plain (OpenSpec.upto fnExactCastNinesSpec)) fnExactCastNinesUptoCard

/-- THE SECOND FORM's CARD OF 'laws.FnExactCastElevens'. -/
def fnExactCastElevensUptoCard : Claim7 := { stood := { row := fnExactCastElevensUptoRow, standIns := [], harness := (true, "4cab2aee81e3990f967b8508983330bc4286a4e882d96a04b4c41c9fef0b548f"), looks := false }, kinds := [], alts := [], laidByText := true, laidKinds := [.data, .pinned], laidTests := true, laidLooks := .later }
def FnExactCastElevensUptoCardSaid : Prop := Claim7.holds Tryd.pinned (.plain (OpenSpec.upto fnExactCastElevensSpec)) fnExactCastElevensUptoCard
end Rows
end Go.Proofs.YtoiaekjobmpdmaaDoor
