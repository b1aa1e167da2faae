/-
  DERIVED. GIVEN WITH THE SEED: THE CARDS: each row of YtfadmifadkknnaaDoorRows.lean that lists a variable, with what it lists TIED to the program's text (the seventh form; the later family's looks); each row that meets fmt, with fmt's text TOLD by the authors' own Lean function (tested against real Go, not proved from fmt's source: count such statements apart). THE CARD IS WHAT COUNTS. Prove the row's statement (the work); the ties are given (YtfadmifadkknnaaDoorTie.lean); close each card by the builder's one call (the guide's Derived/Test/ToyasCard.lean, 'card_holds'). Laid BY PROGRAM, IN A SANDBOX (cutbox-door.mjs). By AI agents, Wed Nov 11 2026. No macro, syntax, notation, axiom, sorry.
-/
import Derived.Test.YtfadmifadkknnaaDoorRows
import GoSem.ClaimSeven
namespace Go.Proofs.YtfadmifadkknnaaDoor
namespace Rows

/-- THE TIED CARD OF 'laws.FnTurnCarry'. -/
def fnTurnCarryCard : Claim7 := { stood := { row := fnTurnCarryRow, standIns := [], harness := (true, "c5de535fd689beb9ca07b34f2634deb87eec13a68536cca26feab68f3f291d5d"), looks := false }, kinds := [], alts := [], laidByText := true, laidKinds := [.data, .pinned], laidTests := true, laidLooks := .later }
def FnTurnCarryCardSaid : Prop := Claim7.holds Tryd.pinned (.plain (OpenSpec.ofChange fnTurnCarrySpec)) fnTurnCarryCard

/-- THE TIED CARD OF 'laws.FnWarned'. -/
def fnWarnedCard : Claim7 := { stood := { row := fnWarnedRow, standIns := [], harness := (true, "c5de535fd689beb9ca07b34f2634deb87eec13a68536cca26feab68f3f291d5d"), looks := false }, kinds := [], alts := [], laidByText := true, laidKinds := [.data, .pinned], laidTests := true, laidLooks := .later }
def FnWarnedCardSaid : Prop := Claim7.holds Tryd.pinned (.plain (OpenSpec.ofChange fnWarnedSpec)) fnWarnedCard

/-- THE TIED CARD OF 'laws.FnCarryOnce'. -/
def fnCarryOnceCard : Claim7 := { stood := { row := fnCarryOnceRow, standIns := [], harness := (true, "c5de535fd689beb9ca07b34f2634deb87eec13a68536cca26feab68f3f291d5d"), looks := false }, kinds := [], alts := [], laidByText := true, laidKinds := [.data, .pinned], laidTests := true, laidLooks := .later }
def FnCarryOnceCardSaid : Prop := Claim7.holds Tryd.pinned (.plain (OpenSpec.ofChange fnCarryOnceSpec)) fnCarryOnceCard

/-- THE TIED CARD OF 'laws.FnCarryAll'. -/
def fnCarryAllCard : Claim7 := { stood := { row := fnCarryAllRow, standIns := [], harness := (true, "c5de535fd689beb9ca07b34f2634deb87eec13a68536cca26feab68f3f291d5d"), looks := false }, kinds := [], alts := [], laidByText := true, laidKinds := [.data, .pinned], laidTests := true, laidLooks := .later }
def FnCarryAllCardSaid : Prop := Claim7.holds Tryd.pinned (.plain (OpenSpec.ofChange fnCarryAllSpec)) fnCarryAllCard

/-- THE TIED CARD OF 'laws.FnCarryChain'. -/
def fnCarryChainCard : Claim7 := { stood := { row := fnCarryChainRow, standIns := [], harness := (true, "c5de535fd689beb9ca07b34f2634deb87eec13a68536cca26feab68f3f291d5d"), looks := false }, kinds := [], alts := [], laidByText := true, laidKinds := [.data, .pinned], laidTests := true, laidLooks := .later }
def FnCarryChainCardSaid : Prop := Claim7.holds Tryd.pinned (.plain (OpenSpec.ofChange fnCarryChainSpec)) fnCarryChainCard

/-- THE TIED CARD OF 'laws.FnCast'. -/
def fnCastCard : Claim7 := { stood := { row := fnCastRow, standIns := [], harness := (true, "c5de535fd689beb9ca07b34f2634deb87eec13a68536cca26feab68f3f291d5d"), looks := false }, kinds := [], alts := [], laidByText := true, laidKinds := [.data, .pinned], laidTests := true, laidLooks := .later }
def FnCastCardSaid : Prop := Claim7.holds Tryd.pinned (.plain (OpenSpec.ofChange fnCastSpec)) fnCastCard

/-- THE SECOND FORM's CARD OF 'laws.FnTurnCarry'. -/
def fnTurnCarryUptoCard : Claim7 := { stood := { row := fnTurnCarryUptoRow, standIns := [], harness := (true, "c5de535fd689beb9ca07b34f2634deb87eec13a68536cca26feab68f3f291d5d"), looks := false }, kinds := [], alts := [], laidByText := true, laidKinds := [.data, .pinned], laidTests := true, laidLooks := .later }
def FnTurnCarryUptoCardSaid : Prop := Claim7.holds Tryd.pinned (.plain (OpenSpec.upto fnTurnCarrySpec)) fnTurnCarryUptoCard

/-- THE SECOND FORM's CARD OF 'laws.FnWarned'. -/
def fnWarnedUptoCard : Claim7 := { stood := { row := fnWarnedUptoRow, standIns := [], harness := (true, "c5de535fd689beb9ca07b34f2634deb87eec13a68536cca26feab68f3f291d5d"), looks := false }, kinds := [], alts := [], laidByText := true, laidKinds := [.data, .pinned], laidTests := true, laidLooks := .later }
def FnWarnedUptoCardSaid : Prop := Claim7.holds Tryd.pinned (.plain (OpenSpec.upto fnWarnedSpec)) fnWarnedUptoCard

/-- THE SECOND FORM's CARD OF 'laws.FnCarryOnce'. -/
def fnCarryOnceUptoCard : Claim7 := { stood := { row := fnCarryOnceUptoRow, standIns := [], harness := (true, "c5de535fd689beb9ca07b34f2634deb87eec13a68536cca26feab68f3f291d5d"), looks := false }, kinds := [], alts := [], laidByText := true, laidKinds := [.data, .pinned], laidTests := true, laidLooks := .later }
def FnCarryOnceUptoCardSaid : Prop := Claim7.holds Tryd.pinned (.plain (OpenSpec.upto fnCarryOnceSpec)) fnCarryOnceUptoCard

/-- THE SECOND FORM's CARD OF 'laws.FnCarryAll'. -/
def fnCarryAllUptoCard : Claim7 := { stood := { row := fnCarryAllUptoRow, standIns := [], harness := (true, "c5de535fd689beb9ca07b34f2634deb87eec13a68536cca26feab68f3f291d5d"), looks := false }, kinds := [], alts := [], laidByText := true, laidKinds := [.data, .pinned], laidTests := true, laidLooks := .later }
def FnCarryAllUptoCardSaid : Prop := Claim7.holds Tryd.pinned (.plain (OpenSpec.upto fnCarryAllSpec)) fnCarryAllUptoCard

/-- THE SECOND FORM's CARD OF 'laws.FnCarryChain'. -/
def fnCarryChainUptoCard : Claim7 := { stood := { row := fnCarryChainUptoRow, standIns := [], harness := (true, "c5de535fd689beb9ca07b34f2634deb87eec13a68536cca26feab68f3f291d5d"), looks := false }, kinds := [], alts := [], laidByText := true, laidKinds := [.data, .pinned], laidTests := true, laidLooks := .later }
def FnCarryChainUptoCardSaid : Prop := Claim7.holds Tryd.pinned (.plain (OpenSpec.upto fnCarryChainSpec)) fnCarryChainUptoCard

/-- THE SECOND FORM's CARD OF 'laws.FnCast'. -/
def fnCastUptoCard : Claim7 := { stood := { row := fnCastUptoRow, standIns := [], harness := (true, "c5de535fd689beb9ca07b34f2634deb87eec13a68536cca26feab68f3f291d5d"), looks := false }, kinds := [], alts := [], laidByText := true, laidKinds := [.data, .pinned], laidTests := true, laidLooks := .later }
def FnCastUptoCardSaid : Prop := Claim7.holds Tryd.pinned (.plain (OpenSpec.upto fnCastSpec)) fnCastUptoCard
end Rows
end Go.Proofs.YtfadmifadkknnaaDoor
