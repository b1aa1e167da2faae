/-
  DERIVED. GIVEN WITH THE SEED: THE CARDS: each row of YtihjfbjbfegkjaaDoorRows.lean that lists a variable, with what it lists TIED to the program's text (the seventh form; the later family's looks); each row that meets fmt, with fmt's text TOLD by the authors' own Lean function (tested against real Go, not proved from fmt's source: count such statements apart). THE CARD IS WHAT COUNTS. Prove the row's statement (the work); the ties are given (YtihjfbjbfegkjaaDoorTie.lean); close each card by the builder's one call (the guide's Derived/Test/ToyasCard.lean, 'card_holds'). Laid BY PROGRAM, IN A SANDBOX (cutbox-door.mjs). By AI agents, Wed Nov 11 2026. No macro, syntax, notation, axiom, sorry.
-/
import Derived.Test.YtihjfbjbfegkjaaDoorRows
import GoSem.ClaimSeven
namespace Go.Proofs.YtihjfbjbfegkjaaDoor
namespace Rows

/-- THE TIED CARD OF 'laws.FnExactGroupDigits'. -/
def fnExactGroupDigitsCard : Claim7 := { stood := { row := fnExactGroupDigitsRow, standIns := [], harness := (true, "ec2980bf0ef2136990d83c382887ab3e80e5b60232ad5c0891b660dbb49013e8"), looks := true }, kinds := [], alts := [], laidByText := true, laidKinds := [.data, .data, .data], laidTests := true, laidLooks := .later }
def FnExactGroupDigitsCardSaid : Prop := Claim7.holds Tryd.pinned (.plain (OpenSpec.ofChange fnExactGroupDigitsSpec)) fnExactGroupDigitsCard

/-- THE TIED CARD OF 'laws.FnExactParseGrouped'. -/
def fnExactParseGroupedCard : Claim7 := { stood := { row := fnExactParseGroupedRow, standIns := [], harness := (true, "ec2980bf0ef2136990d83c382887ab3e80e5b60232ad5c0891b660dbb49013e8"), looks := true }, kinds := [], alts := [], laidByText := true, laidKinds := [.data, .data, .data, .data, .sentinel, .sentinel, .pinned], laidTests := true, laidLooks := .later }
def FnExactParseGroupedCardSaid : Prop := Claim7.holds Tryd.pinned (.plain (OpenSpec.ofChange fnExactParseGroupedSpec)) fnExactParseGroupedCard

/-- THE TIED CARD OF 'laws.FnExactShortenColumn'. -/
def fnExactShortenColumnCard : Claim7 := { stood := { row := fnExactShortenColumnRow, standIns := [], harness := (true, "ec2980bf0ef2136990d83c382887ab3e80e5b60232ad5c0891b660dbb49013e8"), looks := true }, kinds := [], alts := [], laidByText := true, laidKinds := [.data, .pinned], laidTests := true, laidLooks := .later }
def FnExactShortenColumnCardSaid : Prop := Claim7.holds Tryd.pinned (.plain (OpenSpec.ofChange fnExactShortenColumnSpec)) fnExactShortenColumnCard

/-- THE TIED CARD OF 'laws.FnExactRestoreColumn'. -/
def fnExactRestoreColumnCard : Claim7 := { stood := { row := fnExactRestoreColumnRow, standIns := [], harness := (true, "ec2980bf0ef2136990d83c382887ab3e80e5b60232ad5c0891b660dbb49013e8"), looks := true }, kinds := [], alts := [], laidByText := true, laidKinds := [.data, .pinned], laidTests := true, laidLooks := .later }
def FnExactRestoreColumnCardSaid : Prop := Claim7.holds Tryd.pinned (.plain (OpenSpec.ofChange fnExactRestoreColumnSpec)) fnExactRestoreColumnCard

/-- THE TIED CARD OF 'laws.FnExactReadStereotype'. -/
def fnExactReadStereotypeCard : Claim7 := { stood := { row := fnExactReadStereotypeRow, standIns := [], harness := (true, "ec2980bf0ef2136990d83c382887ab3e80e5b60232ad5c0891b660dbb49013e8"), looks := true }, kinds := [], alts := [], laidByText := true, laidKinds := [.data, .pinned], laidTests := true, laidLooks := .later }
def FnExactReadStereotypeCardSaid : Prop := Claim7.holds Tryd.pinned (.plain (OpenSpec.ofChange fnExactReadStereotypeSpec)) fnExactReadStereotypeCard

/-- THE SECOND FORM's CARD OF 'laws.FnExactGroupDigits'. -/
def fnExactGroupDigitsUptoCard : Claim7 := { stood := { row := fnExactGroupDigitsUptoRow, standIns := [], harness := (true, "ec2980bf0ef2136990d83c382887ab3e80e5b60232ad5c0891b660dbb49013e8"), looks := true }, kinds := [], alts := [], laidByText := true, laidKinds := [.data, .data, .data], laidTests := true, laidLooks := .later }
def FnExactGroupDigitsUptoCardSaid : Prop := Claim7.holds Tryd.pinned (.plain (OpenSpec.upto fnExactGroupDigitsSpec)) fnExactGroupDigitsUptoCard

/-- THE SECOND FORM's CARD OF 'laws.FnExactParseGrouped'. -/
def fnExactParseGroupedUptoCard : Claim7 := { stood := { row := fnExactParseGroupedUptoRow, standIns := [], harness := (true, "ec2980bf0ef2136990d83c382887ab3e80e5b60232ad5c0891b660dbb49013e8"), looks := true }, kinds := [], alts := [], laidByText := true, laidKinds := [.data, .data, .data, .data, .sentinel, .sentinel, .pinned], laidTests := true, laidLooks := .later }
def FnExactParseGroupedUptoCardSaid : Prop := Claim7.holds Tryd.pinned (.plain (OpenSpec.upto fnExactParseGroupedSpec)) fnExactParseGroupedUptoCard

/-- THE SECOND FORM's CARD OF 'laws.FnExactShortenColumn'. -/
def fnExactShortenColumnUptoCard : Claim7 := { stood := { row := fnExactShortenColumnUptoRow, standIns := [], harness := (true, "ec2980bf0ef2136990d83c382887ab3e80e5b60232ad5c0891b660dbb49013e8"), looks := true }, kinds := [], alts := [], laidByText := true, laidKinds := [.data, .pinned], laidTests := true, laidLooks := .later }
def FnExactShortenColumnUptoCardSaid : Prop := Claim7.holds Tryd.pinned (.plain (OpenSpec.upto fnExactShortenColumnSpec)) fnExactShortenColumnUptoCard

/-- THE SECOND FORM's CARD OF 'laws.FnExactRestoreColumn'. -/
def fnExactRestoreColumnUptoCard : Claim7 := { stood := { row := fnExactRestoreColumnUptoRow, standIns := [], harness := (true, "ec2980bf0ef2136990d83c382887ab3e80e5b60232ad5c0891b660dbb49013e8"), looks := true }, kinds := [], alts := [], laidByText := true, laidKinds := [.data, .pinned], laidTests := true, laidLooks := .later }
def FnExactRestoreColumnUptoCardSaid : Prop := Claim7.holds Tryd.pinned (.plain (OpenSpec.upto fnExactRestoreColumnSpec)) fnExactRestoreColumnUptoCard

/-- THE SECOND FORM's CARD OF 'laws.FnExactReadStereotype'. -/
def fnExactReadStereotypeUptoCard : Claim7 := { stood := { row := fnExactReadStereotypeUptoRow, standIns := [], harness := (true, "ec2980bf0ef2136990d83c382887ab3e80e5b60232ad5c0891b660dbb49013e8"), looks := true }, kinds := [], alts := [], laidByText := true, laidKinds := [.data, .pinned], laidTests := true, laidLooks := .later }
def FnExactReadStereotypeUptoCardSaid : Prop := Claim7.holds Tryd.pinned (.plain (OpenSpec.upto fnExactReadStereotypeSpec)) fnExactReadStereotypeUptoCard
end Rows
end Go.Proofs.YtihjfbjbfegkjaaDoor
