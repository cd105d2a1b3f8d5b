/-
  DERIVED. GIVEN WITH THE SEED: THE CARDS: each row of YtngondeaeipcfaaGreatDoorRows.lean that lists a variable, with what it lists TIED to the program's text (the seventh form; the later family's looks); each row that meets fmt, with fmt's text TOLD by the authors' own Lean function (tested against real Go, not proved from fmt's source: count such statements apart). THE CARD IS WHAT COUNTS. Prove the row's statement (the work); the ties are given (YtngondeaeipcfaaGreatDoorTie.lean); close each card by the builder's one call (the guide's Derived/Test/ToyasCard.lean, 'card_holds'). Laid BY PROGRAM, IN A SANDBOX (cutbox-door.mjs). By AI agents, Wed Nov 11 2026. No macro, syntax, notation, axiom, sorry.
-/
import Derived.Test.YtngondeaeipcfaaGreatDoorRows
import GoSem.ClaimSeven
namespace Go.Proofs.YtngondeaeipcfaaGreatDoor
namespace Rows

/-- THE TIED CARD OF 'laws.FnWidths'. -/
def fnWidthsCard : Claim7 := { stood := { row := fnWidthsRow, standIns := [], harness := (true, "8ec31db7322f916bc040b53ef4313919b8f37249126a30eaed934098febe0291"), looks := true }, kinds := [], alts := [], laidByText := true, laidKinds := [.data, .pinned], laidTests := true, laidLooks := .later }
def FnWidthsCardSaid : Prop := Claim7.holds Tryz.pinned (.plain (OpenSpec.ofChange fnWidthsSpec)) fnWidthsCard

/-- THE TIED CARD OF 'laws.FnWorn'. -/
def fnWornCard : Claim7 := { stood := { row := fnWornRow, standIns := [], harness := (true, "8ec31db7322f916bc040b53ef4313919b8f37249126a30eaed934098febe0291"), looks := true }, kinds := [], alts := [], laidByText := true, laidKinds := [.handle], laidTests := true, laidLooks := .later }
def FnWornCardSaid : Prop := Claim7.holds Tryz.pinned (.plain (OpenSpec.ofChange fnWornSpec)) fnWornCard

/-- THE TIED CARD OF 'laws.FnFilled'. -/
def fnFilledCard : Claim7 := { stood := { row := fnFilledRow, standIns := [], harness := (true, "8ec31db7322f916bc040b53ef4313919b8f37249126a30eaed934098febe0291"), looks := true }, kinds := [], alts := [], laidByText := true, laidKinds := [.data, .pinned], laidTests := true, laidLooks := .later }
def FnFilledCardSaid : Prop := Claim7.holds Tryz.pinned (.plain (OpenSpec.ofChange fnFilledSpec)) fnFilledCard

/-- THE TIED CARD OF 'laws.FnRecut'. -/
def fnRecutCard : Claim7 := { stood := { row := fnRecutRow, standIns := [], harness := (true, "8ec31db7322f916bc040b53ef4313919b8f37249126a30eaed934098febe0291"), looks := true }, kinds := [], alts := [], laidByText := true, laidKinds := [.data, .pinned], laidTests := true, laidLooks := .later }
def FnRecutCardSaid : Prop := Claim7.holds Tryz.pinned (.plain (OpenSpec.ofChange fnRecutSpec)) fnRecutCard

/-- THE TIED CARD OF 'laws.FnExactRecutPrice'. -/
def fnExactRecutPriceCard : Claim7 := { stood := { row := fnExactRecutPriceRow, standIns := [], harness := (true, "8ec31db7322f916bc040b53ef4313919b8f37249126a30eaed934098febe0291"), looks := true }, kinds := [], alts := [], laidByText := true, laidKinds := [.data, .pinned], laidTests := true, laidLooks := .later }
def FnExactRecutPriceCardSaid : Prop := Claim7.holds Tryz.pinned (.plain (OpenSpec.ofChange fnExactRecutPriceSpec)) fnExactRecutPriceCard

/-- THE SECOND FORM's CARD OF 'laws.FnWidths'. -/
def fnWidthsUptoCard : Claim7 := { stood := { row := fnWidthsUptoRow, standIns := [], harness := (true, "8ec31db7322f916bc040b53ef4313919b8f37249126a30eaed934098febe0291"), looks := true }, kinds := [], alts := [], laidByText := true, laidKinds := [.data, .pinned], laidTests := true, laidLooks := .later }
def FnWidthsUptoCardSaid : Prop := Claim7.holds Tryz.pinned (.plain (OpenSpec.upto fnWidthsSpec)) fnWidthsUptoCard

/-- THE SECOND FORM's CARD OF 'laws.FnWorn'. -/
def fnWornUptoCard : Claim7 := { stood := { row := fnWornUptoRow, standIns := [], harness := (true, "8ec31db7322f916bc040b53ef4313919b8f37249126a30eaed934098febe0291"), looks := true }, kinds := [], alts := [], laidByText := true, laidKinds := [.handle], laidTests := true, laidLooks := .later }
def FnWornUptoCardSaid : Prop := Claim7.holds Tryz.pinned (.plain (OpenSpec.upto fnWornSpec)) fnWornUptoCard

/-- THE SECOND FORM's CARD OF 'laws.FnFilled'. -/
def fnFilledUptoCard : Claim7 := { stood := { row := fnFilledUptoRow, standIns := [], harness := (true, "8ec31db7322f916bc040b53ef4313919b8f37249126a30eaed934098febe0291"), looks := true }, kinds := [], alts := [], laidByText := true, laidKinds := [.data, .pinned], laidTests := true, laidLooks := .later }
def FnFilledUptoCardSaid : Prop := Claim7.holds Tryz.pinned (.plain (OpenSpec.upto fnFilledSpec)) fnFilledUptoCard

/-- THE SECOND FORM's CARD OF 'laws.FnRecut'. -/
def fnRecutUptoCard : Claim7 := { stood := { row := fnRecutUptoRow, standIns := [], harness := (true, "8ec31db7322f916bc040b53ef4313919b8f37249126a30eaed934098febe0291"), looks := true }, kinds := [], alts := [], laidByText := true, laidKinds := [.data, .pinned], laidTests := true, laidLooks := .later }
def FnRecutUptoCardSaid : Prop := Claim7.holds Tryz.pinned (.plain (OpenSpec.upto fnRecutSpec)) fnRecutUptoCard

/-- THE SECOND FORM's CARD OF 'laws.FnExactRecutPrice'. -/
def fnExactRecutPriceUptoCard : Claim7 := { stood := { row := fnExactRecutPriceUptoRow, standIns := [], harness := (true, "8ec31db7322f916bc040b53ef4313919b8f37249126a30eaed934098febe0291"), looks := true }, kinds := [], alts := [], laidByText := true, laidKinds := [.data, .pinned], laidTests := true, laidLooks := .later }
def FnExactRecutPriceUptoCardSaid : Prop := Claim7.holds Tryz.pinned (.plain (OpenSpec.upto fnExactRecutPriceSpec)) fnExactRecutPriceUptoCard
end Rows
end Go.Proofs.YtngondeaeipcfaaGreatDoor
