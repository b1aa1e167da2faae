/-
  DERIVED. GIVEN WITH THE SEED: THE CARDS: each row of YtgafhkjcdddhcaaDoorRows.lean that lists a variable, with what it lists TIED to the program's text (the seventh form; the later family's looks); each row that meets fmt, with fmt's text TOLD by the authors' own Lean function (tested against real Go, not proved from fmt's source: count such statements apart). THE CARD IS WHAT COUNTS. Prove the row's statement (the work); the ties are given (YtgafhkjcdddhcaaDoorTie.lean); close each card by the builder's one call (the guide's Derived/Test/ToyasCard.lean, 'card_holds'). Laid BY PROGRAM, IN A SANDBOX (cutbox-door.mjs). By AI agents, Wed Nov 11 2026. No macro, syntax, notation, axiom, sorry.
-/
import Derived.Test.YtgafhkjcdddhcaaDoorRows
import GoSem.ClaimSeven
namespace Go.Proofs.YtgafhkjcdddhcaaDoor
namespace Rows

/-- THE TIED CARD OF 'laws.FnGrouped'. -/
def fnGroupedCard : Claim7 := { stood := { row := fnGroupedRow, standIns := [], harness := (true, "a696957bcf3f31435a7a6ca773fe0a8eab7b0d167b8cfe56e2540ea1bad15ae5"), looks := true }, kinds := [], alts := [], laidByText := true, laidKinds := [.data, .data, .data, .data, .sentinel, .sentinel, .pinned], laidTests := true, laidLooks := .later }
def FnGroupedCardSaid : Prop := Claim7.holds Tryd.pinned (.plain (OpenSpec.ofChange fnGroupedSpec)) fnGroupedCard

/-- THE TIED CARD OF 'laws.FnGroupedShape'. -/
def fnGroupedShapeCard : Claim7 := { stood := { row := fnGroupedShapeRow, standIns := [], harness := (true, "a696957bcf3f31435a7a6ca773fe0a8eab7b0d167b8cfe56e2540ea1bad15ae5"), looks := true }, kinds := [], alts := [], laidByText := true, laidKinds := [.data, .data, .data], laidTests := true, laidLooks := .later }
def FnGroupedShapeCardSaid : Prop := Claim7.holds Tryd.pinned (.plain (OpenSpec.ofChange fnGroupedShapeSpec)) fnGroupedShapeCard

/-- THE TIED CARD OF 'laws.FnShorten'. -/
def fnShortenCard : Claim7 := { stood := { row := fnShortenRow, standIns := [], harness := (true, "a696957bcf3f31435a7a6ca773fe0a8eab7b0d167b8cfe56e2540ea1bad15ae5"), looks := true }, kinds := [], alts := [], laidByText := true, laidKinds := [.data, .pinned], laidTests := true, laidLooks := .later }
def FnShortenCardSaid : Prop := Claim7.holds Tryd.pinned (.plain (OpenSpec.ofChange fnShortenSpec)) fnShortenCard

/-- THE TIED CARD OF 'laws.FnRestore'. -/
def fnRestoreCard : Claim7 := { stood := { row := fnRestoreRow, standIns := [], harness := (true, "a696957bcf3f31435a7a6ca773fe0a8eab7b0d167b8cfe56e2540ea1bad15ae5"), looks := true }, kinds := [], alts := [], laidByText := true, laidKinds := [.data, .pinned], laidTests := true, laidLooks := .later }
def FnRestoreCardSaid : Prop := Claim7.holds Tryd.pinned (.plain (OpenSpec.ofChange fnRestoreSpec)) fnRestoreCard

/-- THE TIED CARD OF 'laws.FnStereotype'. -/
def fnStereotypeCard : Claim7 := { stood := { row := fnStereotypeRow, standIns := [], harness := (true, "a696957bcf3f31435a7a6ca773fe0a8eab7b0d167b8cfe56e2540ea1bad15ae5"), looks := true }, kinds := [], alts := [], laidByText := true, laidKinds := [.data, .pinned], laidTests := true, laidLooks := .later }
def FnStereotypeCardSaid : Prop := Claim7.holds Tryd.pinned (.plain (OpenSpec.ofChange fnStereotypeSpec)) fnStereotypeCard

/-- THE TIED CARD OF 'laws.FnReadStereotype'. -/
def fnReadStereotypeCard : Claim7 := { stood := { row := fnReadStereotypeRow, standIns := [], harness := (true, "a696957bcf3f31435a7a6ca773fe0a8eab7b0d167b8cfe56e2540ea1bad15ae5"), looks := true }, kinds := [], alts := [], laidByText := true, laidKinds := [.data, .pinned], laidTests := true, laidLooks := .later }
def FnReadStereotypeCardSaid : Prop := Claim7.holds Tryd.pinned (.plain (OpenSpec.ofChange fnReadStereotypeSpec)) fnReadStereotypeCard

/-- THE SECOND FORM's CARD OF 'laws.FnGrouped'. -/
def fnGroupedUptoCard : Claim7 := { stood := { row := fnGroupedUptoRow, standIns := [], harness := (true, "a696957bcf3f31435a7a6ca773fe0a8eab7b0d167b8cfe56e2540ea1bad15ae5"), looks := true }, kinds := [], alts := [], laidByText := true, laidKinds := [.data, .data, .data, .data, .sentinel, .sentinel, .pinned], laidTests := true, laidLooks := .later }
def FnGroupedUptoCardSaid : Prop := Claim7.holds Tryd.pinned (.plain (OpenSpec.upto fnGroupedSpec)) fnGroupedUptoCard

/-- THE SECOND FORM's CARD OF 'laws.FnGroupedShape'. -/
def fnGroupedShapeUptoCard : Claim7 := { stood := { row := fnGroupedShapeUptoRow, standIns := [], harness := (true, "a696957bcf3f31435a7a6ca773fe0a8eab7b0d167b8cfe56e2540ea1bad15ae5"), looks := true }, kinds := [], alts := [], laidByText := true, laidKinds := [.data, .data, .data], laidTests := true, laidLooks := .later }
def FnGroupedShapeUptoCardSaid : Prop := Claim7.holds Tryd.pinned (.plain (OpenSpec.upto fnGroupedShapeSpec)) fnGroupedShapeUptoCard

/-- THE SECOND FORM's CARD OF 'laws.FnShorten'. -/
def fnShortenUptoCard : Claim7 := { stood := { row := fnShortenUptoRow, standIns := [], harness := (true, "a696957bcf3f31435a7a6ca773fe0a8eab7b0d167b8cfe56e2540ea1bad15ae5"), looks := true }, kinds := [], alts := [], laidByText := true, laidKinds := [.data, .pinned], laidTests := true, laidLooks := .later }
def FnShortenUptoCardSaid : Prop := Claim7.holds Tryd.pinned (.plain (OpenSpec.upto fnShortenSpec)) fnShortenUptoCard

/-- THE SECOND FORM's CARD OF 'laws.FnRestore'. -/
def fnRestoreUptoCard : Claim7 := { stood := { row := fnRestoreUptoRow, standIns := [], harness := (true, "a696957bcf3f31435a7a6ca773fe0a8eab7b0d167b8cfe56e2540ea1bad15ae5"), looks := true }, kinds := [], alts := [], laidByText := true, laidKinds := [.data, .pinned], laidTests := true, laidLooks := .later }
def FnRestoreUptoCardSaid : Prop := Claim7.holds Tryd.pinned (.plain (OpenSpec.upto fnRestoreSpec)) fnRestoreUptoCard

/-- THE SECOND FORM's CARD OF 'laws.FnStereotype'. -/
def fnStereotypeUptoCard : Claim7 := { stood := { row := fnStereotypeUptoRow, standIns := [], harness := (true, "a696957bcf3f31435a7a6ca773fe0a8eab7b0d167b8cfe56e2540ea1bad15ae5"), looks := true }, kinds := [], alts := [], laidByText := true, laidKinds := [.data, .pinned], laidTests := true, laidLooks := .later }
def FnStereotypeUptoCardSaid : Prop := Claim7.holds Tryd.pinned (.plain (OpenSpec.upto fnStereotypeSpec)) fnStereotypeUptoCard

/-- THE SECOND FORM's CARD OF 'laws.FnReadStereotype'. -/
def fnReadStereotypeUptoCard : Claim7 := { stood := { row := fnReadStereotypeUptoRow, standIns := [], harness := (true, "a696957bcf3f31435a7a6ca773fe0a8eab7b0d167b8cfe56e2540ea1bad15ae5"), looks := true }, kinds := [], alts := [], laidByText := true, laidKinds := [.data, .pinned], laidTests := true, laidLooks := .later }
def FnReadStereotypeUptoCardSaid : Prop := Claim7.holds Tryd.pinned (.plain (OpenSpec.upto fnReadStereotypeSpec)) fnReadStereotypeUptoCard
end Rows
end Go.Proofs.YtgafhkjcdddhcaaDoor
