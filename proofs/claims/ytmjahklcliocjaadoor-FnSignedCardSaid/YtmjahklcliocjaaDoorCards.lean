/-
  DERIVED. GIVEN WITH THE SEED: THE CARDS: each row of YtmjahklcliocjaaDoorRows.lean that lists a variable, with what it lists TIED to the program's text (the seventh form; the later family's looks); each row that meets fmt, with fmt's text TOLD by the authors' own Lean function (tested against real Go, not proved from fmt's source: count such statements apart). THE CARD IS WHAT COUNTS. Prove the row's statement (the work); the ties are given (YtmjahklcliocjaaDoorTie.lean); close each card by the builder's one call (the guide's Derived/Test/ToyasCard.lean, 'card_holds'). Laid BY PROGRAM, IN A SANDBOX (cutbox-door.mjs). By AI agents, Wed Nov 11 2026. No macro, syntax, notation, axiom, sorry.
-/
import Derived.Test.YtmjahklcliocjaaDoorRows
import GoSem.ClaimSeven
namespace Go.Proofs.YtmjahklcliocjaaDoor
namespace Rows

/-- THE TIED CARD OF 'laws.FnSigned'. -/
def fnSignedCard : Claim7 := { stood := { row := fnSignedRow, standIns := [], harness := (true, "2a14d3f9c20980faa1b34d415990573d052314d9136e44cda2867563b596a128"), looks := true }, kinds := [], alts := [], laidByText := true, laidKinds := [.data, .data, .data, .data, .sentinel, .sentinel, .pinned], laidTests := true, laidLooks := .later }
def FnSignedCardSaid : Prop := Claim7.holds Tryd.pinned (.plain (OpenSpec.ofChange fnSignedSpec)) fnSignedCard

/-- THE TIED CARD OF 'laws.FnExactFormatSigned'. -/
def fnExactFormatSignedCard : Claim7 := { stood := { row := fnExactFormatSignedRow, standIns := [], harness := (true, "2a14d3f9c20980faa1b34d415990573d052314d9136e44cda2867563b596a128"), looks := true }, kinds := [], alts := [], laidByText := true, laidKinds := [.data, .data, .data, .data, .pinned], laidTests := true, laidLooks := .later }
def FnExactFormatSignedCardSaid : Prop := Claim7.holds Tryd.pinned (.plain (OpenSpec.ofChange fnExactFormatSignedSpec)) fnExactFormatSignedCard

/-- THE TIED CARD OF 'laws.FnExactParseSigned'. -/
def fnExactParseSignedCard : Claim7 := { stood := { row := fnExactParseSignedRow, standIns := [], harness := (true, "2a14d3f9c20980faa1b34d415990573d052314d9136e44cda2867563b596a128"), looks := true }, kinds := [], alts := [], laidByText := true, laidKinds := [.data, .data, .data, .sentinel, .sentinel], laidTests := true, laidLooks := .later }
def FnExactParseSignedCardSaid : Prop := Claim7.holds Tryd.pinned (.plain (OpenSpec.ofChange fnExactParseSignedSpec)) fnExactParseSignedCard

/-- THE SECOND FORM's CARD OF 'laws.FnSigned'. -/
def fnSignedUptoCard : Claim7 := { stood := { row := fnSignedUptoRow, standIns := [], harness := (true, "2a14d3f9c20980faa1b34d415990573d052314d9136e44cda2867563b596a128"), looks := true }, kinds := [], alts := [], laidByText := true, laidKinds := [.data, .data, .data, .data, .sentinel, .sentinel, .pinned], laidTests := true, laidLooks := .later }
def FnSignedUptoCardSaid : Prop := Claim7.holds Tryd.pinned (.plain (OpenSpec.upto fnSignedSpec)) fnSignedUptoCard

/-- THE SECOND FORM's CARD OF 'laws.FnExactFormatSigned'. -/
def fnExactFormatSignedUptoCard : Claim7 := { stood := { row := fnExactFormatSignedUptoRow, standIns := [], harness := (true, "2a14d3f9c20980faa1b34d415990573d052314d9136e44cda2867563b596a128"), looks := true }, kinds := [], alts := [], laidByText := true, laidKinds := [.data, .data, .data, .data, .pinned], laidTests := true, laidLooks := .later }
def FnExactFormatSignedUptoCardSaid : Prop := Claim7.holds Tryd.pinned (.plain (OpenSpec.upto fnExactFormatSignedSpec)) fnExactFormatSignedUptoCard

/-- THE SECOND FORM's CARD OF 'laws.FnExactParseSigned'. -/
def fnExactParseSignedUptoCard : Claim7 := { stood := { row := fnExactParseSignedUptoRow, standIns := [], harness := (true, "2a14d3f9c20980faa1b34d415990573d052314d9136e44cda2867563b596a128"), looks := true }, kinds := [], alts := [], laidByText := true, laidKinds := [.data, .data, .data, .sentinel, .sentinel], laidTests := true, laidLooks := .later }
def FnExactParseSignedUptoCardSaid : Prop := Claim7.holds Tryd.pinned (.plain (OpenSpec.upto fnExactParseSignedSpec)) fnExactParseSignedUptoCard
end Rows
end Go.Proofs.YtmjahklcliocjaaDoor
