/-
  DERIVED. GIVEN WITH THE SEED: THE CARDS: each row of YtffmhcahiabicaaDoorRows.lean that lists a variable, with what it lists TIED to the program's text (the seventh form; the later family's looks); each row that meets fmt, with fmt's text TOLD by the authors' own Lean function (tested against real Go, not proved from fmt's source: count such statements apart). THE CARD IS WHAT COUNTS. Prove the row's statement (the work); the ties are given (YtffmhcahiabicaaDoorTie.lean); close each card by the builder's one call (the guide's Derived/Test/ToyasCard.lean, 'card_holds'). Laid BY PROGRAM, IN A SANDBOX (cutbox-door.mjs). By AI agents, Wed Nov 11 2026. No macro, syntax, notation, axiom, sorry.
-/
import Derived.Test.YtffmhcahiabicaaDoorRows
import GoSem.ClaimSeven
namespace Go.Proofs.YtffmhcahiabicaaDoor
namespace Rows

/-- THE TIED CARD OF 'laws.FnExactSkewEngine'. -/
def fnExactSkewEngineCard : Claim7 := { stood := { row := fnExactSkewEngineRow, standIns := [], harness := (true, "0ad572075b9b3ec138d79cd30136bd7a2a986a65f5fa80cb001f48dca4d3c0dc"), looks := false }, kinds := [], alts := [], laidByText := true, laidKinds := [.data, .pinned], laidTests := true, laidLooks := .later }
def FnExactSkewEngineCardSaid : Prop := Claim7.holds Tryd.pinned (.plain (OpenSpec.ofChange fnExactSkewEngineSpec)) fnExactSkewEngineCard

/-- THE TIED CARD OF 'laws.FnExactFormatEngine'. -/
def fnExactFormatEngineCard : Claim7 := { stood := { row := fnExactFormatEngineRow, standIns := [], harness := (true, "0ad572075b9b3ec138d79cd30136bd7a2a986a65f5fa80cb001f48dca4d3c0dc"), looks := false }, kinds := [], alts := [], laidByText := true, laidKinds := [.data, .pinned], laidTests := true, laidLooks := .later }
def FnExactFormatEngineCardSaid : Prop := Claim7.holds Tryd.pinned (.plain (OpenSpec.ofChange fnExactFormatEngineSpec)) fnExactFormatEngineCard

/-- THE TIED CARD OF 'laws.FnExactParseEngine'. -/
def fnExactParseEngineCard : Claim7 := { stood := { row := fnExactParseEngineRow, standIns := [], harness := (true, "0ad572075b9b3ec138d79cd30136bd7a2a986a65f5fa80cb001f48dca4d3c0dc"), looks := false }, kinds := [], alts := [], laidByText := true, laidKinds := [.data, .pinned], laidTests := true, laidLooks := .later }
def FnExactParseEngineCardSaid : Prop := Claim7.holds Tryd.pinned (.plain (OpenSpec.ofChange fnExactParseEngineSpec)) fnExactParseEngineCard

/-- THE TIED CARD OF 'laws.FnEngineText'. -/
def fnEngineTextCard : Claim7 := { stood := { row := fnEngineTextRow, standIns := [], harness := (true, "0ad572075b9b3ec138d79cd30136bd7a2a986a65f5fa80cb001f48dca4d3c0dc"), looks := false }, kinds := [], alts := [], laidByText := true, laidKinds := [.data, .pinned], laidTests := true, laidLooks := .later }
def FnEngineTextCardSaid : Prop := Claim7.holds Tryd.pinned (.plain (OpenSpec.ofChange fnEngineTextSpec)) fnEngineTextCard

/-- THE TIED CARD OF 'laws.FnSetUpRead'. -/
def fnSetUpReadCard : Claim7 := { stood := { row := fnSetUpReadRow, standIns := [], harness := (true, "0ad572075b9b3ec138d79cd30136bd7a2a986a65f5fa80cb001f48dca4d3c0dc"), looks := false }, kinds := [], alts := [], laidByText := true, laidKinds := [.data, .pinned], laidTests := true, laidLooks := .later }
def FnSetUpReadCardSaid : Prop := Claim7.holds Tryd.pinned (.plain (OpenSpec.ofChange fnSetUpReadSpec)) fnSetUpReadCard

/-- THE TIED CARD OF 'laws.FnReadSetUp'. -/
def fnReadSetUpCard : Claim7 := { stood := { row := fnReadSetUpRow, standIns := [], harness := (true, "0ad572075b9b3ec138d79cd30136bd7a2a986a65f5fa80cb001f48dca4d3c0dc"), looks := false }, kinds := [], alts := [], laidByText := true, laidKinds := [.data, .pinned], laidTests := true, laidLooks := .later }
def FnReadSetUpCardSaid : Prop := Claim7.holds Tryd.pinned (.plain (OpenSpec.ofChange fnReadSetUpSpec)) fnReadSetUpCard

/-- THE TIED CARD OF 'laws.FnWidenEngine'. -/
def fnWidenEngineCard : Claim7 := { stood := { row := fnWidenEngineRow, standIns := [], harness := (true, "0ad572075b9b3ec138d79cd30136bd7a2a986a65f5fa80cb001f48dca4d3c0dc"), looks := false }, kinds := [], alts := [], laidByText := true, laidKinds := [.data, .pinned], laidTests := true, laidLooks := .later }
def FnWidenEngineCardSaid : Prop := Claim7.holds Tryd.pinned (.plain (OpenSpec.ofChange fnWidenEngineSpec)) fnWidenEngineCard

/-- THE SECOND FORM's CARD OF 'laws.FnExactSkewEngine'. -/
def fnExactSkewEngineUptoCard : Claim7 := { stood := { row := fnExactSkewEngineUptoRow, standIns := [], harness := (true, "0ad572075b9b3ec138d79cd30136bd7a2a986a65f5fa80cb001f48dca4d3c0dc"), looks := false }, kinds := [], alts := [], laidByText := true, laidKinds := [.data, .pinned], laidTests := true, laidLooks := .later }
def FnExactSkewEngineUptoCardSaid : Prop := Claim7.holds Tryd.pinned (.plain (OpenSpec.upto fnExactSkewEngineSpec)) fnExactSkewEngineUptoCard

/-- THE SECOND FORM's CARD OF 'laws.FnExactFormatEngine'. -/
def fnExactFormatEngineUptoCard : Claim7 := { stood := { row := fnExactFormatEngineUptoRow, standIns := [], harness := (true, "0ad572075b9b3ec138d79cd30136bd7a2a986a65f5fa80cb001f48dca4d3c0dc"), looks := false }, kinds := [], alts := [], laidByText := true, laidKinds := [.data, .pinned], laidTests := true, laidLooks := .later }
def FnExactFormatEngineUptoCardSaid : Prop := Claim7.holds Tryd.pinned (.plain (OpenSpec.upto fnExactFormatEngineSpec)) fnExactFormatEngineUptoCard

/-- THE SECOND FORM's CARD OF 'laws.FnExactParseEngine'. -/
def fnExactParseEngineUptoCard : Claim7 := { stood := { row := fnExactParseEngineUptoRow, standIns := [], harness := (true, "0ad572075b9b3ec138d79cd30136bd7a2a986a65f5fa80cb001f48dca4d3c0dc"), looks := false }, kinds := [], alts := [], laidByText := true, laidKinds := [.data, .pinned], laidTests := true, laidLooks := .later }
def FnExactParseEngineUptoCardSaid : Prop := Claim7.holds Tryd.pinned (.plain (OpenSpec.upto fnExactParseEngineSpec)) fnExactParseEngineUptoCard

/-- THE SECOND FORM's CARD OF 'laws.FnEngineText'. -/
def fnEngineTextUptoCard : Claim7 := { stood := { row := fnEngineTextUptoRow, standIns := [], harness := (true, "0ad572075b9b3ec138d79cd30136bd7a2a986a65f5fa80cb001f48dca4d3c0dc"), looks := false }, kinds := [], alts := [], laidByText := true, laidKinds := [.data, .pinned], laidTests := true, laidLooks := .later }
def FnEngineTextUptoCardSaid : Prop := Claim7.holds Tryd.pinned (.plain (OpenSpec.upto fnEngineTextSpec)) fnEngineTextUptoCard

/-- THE SECOND FORM's CARD OF 'laws.FnSetUpRead'. -/
def fnSetUpReadUptoCard : Claim7 := { stood := { row := fnSetUpReadUptoRow, standIns := [], harness := (true, "0ad572075b9b3ec138d79cd30136bd7a2a986a65f5fa80cb001f48dca4d3c0dc"), looks := false }, kinds := [], alts := [], laidByText := true, laidKinds := [.data, .pinned], laidTests := true, laidLooks := .later }
def FnSetUpReadUptoCardSaid : Prop := Claim7.holds Tryd.pinned (.plain (OpenSpec.upto fnSetUpReadSpec)) fnSetUpReadUptoCard

/-- THE SECOND FORM's CARD OF 'laws.FnReadSetUp'. -/
def fnReadSetUpUptoCard : Claim7 := { stood := { row := fnReadSetUpUptoRow, standIns := [], harness := (true, "0ad572075b9b3ec138d79cd30136bd7a2a986a65f5fa80cb001f48dca4d3c0dc"), looks := false }, kinds := [], alts := [], laidByText := true, laidKinds := [.data, .pinned], laidTests := true, laidLooks := .later }
def FnReadSetUpUptoCardSaid : Prop := Claim7.holds Tryd.pinned (.plain (OpenSpec.upto fnReadSetUpSpec)) fnReadSetUpUptoCard

/-- THE SECOND FORM's CARD OF 'laws.FnWidenEngine'. -/
def fnWidenEngineUptoCard : Claim7 := { stood := { row := fnWidenEngineUptoRow, standIns := [], harness := (true, "0ad572075b9b3ec138d79cd30136bd7a2a986a65f5fa80cb001f48dca4d3c0dc"), looks := false }, kinds := [], alts := [], laidByText := true, laidKinds := [.data, .pinned], laidTests := true, laidLooks := .later }
def FnWidenEngineUptoCardSaid : Prop := Claim7.holds Tryd.pinned (.plain (OpenSpec.upto fnWidenEngineSpec)) fnWidenEngineUptoCard
end Rows
end Go.Proofs.YtffmhcahiabicaaDoor
