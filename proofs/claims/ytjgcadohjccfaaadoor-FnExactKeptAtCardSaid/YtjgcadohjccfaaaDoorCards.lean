/-
  DERIVED. GIVEN WITH THE SEED: THE CARDS: each row of YtjgcadohjccfaaaDoorRows.lean that lists a variable, with what it lists TIED to the program's text (the seventh form; the later family's looks); each row that meets fmt, with fmt's text TOLD by the authors' own Lean function (tested against real Go, not proved from fmt's source: count such statements apart). THE CARD IS WHAT COUNTS. Prove the row's statement (the work); the ties are given (YtjgcadohjccfaaaDoorTie.lean); close each card by the builder's one call (the guide's Derived/Test/ToyasCard.lean, 'card_holds'). Laid BY PROGRAM, IN A SANDBOX (cutbox-door.mjs). By AI agents, Wed Nov 11 2026. No macro, syntax, notation, axiom, sorry.
-/
import Derived.Test.YtjgcadohjccfaaaDoorRows
import GoSem.ClaimSeven
namespace Go.Proofs.YtjgcadohjccfaaaDoor
namespace Rows

/-- THE TIED CARD OF 'laws.FnExactPriceOf'. -/
def fnExactPriceOfCard : Claim7 := { stood := { row := fnExactPriceOfRow, standIns := [], harness := (true, "2367a9b5d30c738bdb562959bfa760724aa51a5ee077ef242c225716cb49883c"), looks := true }, kinds := [], alts := [], laidByText := true, laidKinds := [.data, .pinned], laidTests := true, laidLooks := .later }
def FnExactPriceOfCardSaid : Prop := Claim7.holds Tryd.pinned (.plain (OpenSpec.ofChange fnExactPriceOfSpec)) fnExactPriceOfCard

/-- THE TIED CARD OF 'laws.FnExactWordsFor'. -/
def fnExactWordsForCard : Claim7 := { stood := { row := fnExactWordsForRow, standIns := [], harness := (true, "2367a9b5d30c738bdb562959bfa760724aa51a5ee077ef242c225716cb49883c"), looks := true }, kinds := [], alts := [], laidByText := true, laidKinds := [.data, .pinned], laidTests := true, laidLooks := .later }
def FnExactWordsForCardSaid : Prop := Claim7.holds Tryd.pinned (.plain (OpenSpec.ofChange fnExactWordsForSpec)) fnExactWordsForCard

/-- THE TIED CARD OF 'laws.FnExactCheapestOf'. -/
def fnExactCheapestOfCard : Claim7 := { stood := { row := fnExactCheapestOfRow, standIns := [], harness := (true, "2367a9b5d30c738bdb562959bfa760724aa51a5ee077ef242c225716cb49883c"), looks := true }, kinds := [], alts := [], laidByText := true, laidKinds := [.data, .pinned], laidTests := true, laidLooks := .later }
def FnExactCheapestOfCardSaid : Prop := Claim7.holds Tryd.pinned (.plain (OpenSpec.ofChange fnExactCheapestOfSpec)) fnExactCheapestOfCard

/-- THE TIED CARD OF 'laws.FnExactKeptAt'. -/
def fnExactKeptAtCard : Claim7 := { stood := { row := fnExactKeptAtRow, standIns := [], harness := (true, "2367a9b5d30c738bdb562959bfa760724aa51a5ee077ef242c225716cb49883c"), looks := true }, kinds := [], alts := [], laidByText := true, laidKinds := [.data, .pinned], laidTests := true, laidLooks := .later }
def FnExactKeptAtCardSaid : Prop := Claim7.holds Tryd.pinned (.plain (OpenSpec.ofChange fnExactKeptAtSpec)) fnExactKeptAtCard

/-- THE TIED CARD OF 'laws.FnExactBestShift'. -/
def fnExactBestShiftCard : Claim7 := { stood := { row := fnExactBestShiftRow, standIns := [], harness := (true, "2367a9b5d30c738bdb562959bfa760724aa51a5ee077ef242c225716cb49883c"), looks := true }, kinds := [], alts := [], laidByText := true, laidKinds := [.data, .pinned], laidTests := true, laidLooks := .later }
def FnExactBestShiftCardSaid : Prop := Claim7.holds Tryd.pinned (.plain (OpenSpec.ofChange fnExactBestShiftSpec)) fnExactBestShiftCard

/-- THE TIED CARD OF 'laws.FnExactPricesText'. -/
def fnExactPricesTextCard : Claim7 := { stood := { row := fnExactPricesTextRow, standIns := [], harness := (true, "2367a9b5d30c738bdb562959bfa760724aa51a5ee077ef242c225716cb49883c"), looks := true }, kinds := [], alts := [], laidByText := true, laidKinds := [.data, .data, .data], laidTests := true, laidLooks := .later }
def FnExactPricesTextCardSaid : Prop := Claim7.holds Tryd.pinned (.plain (OpenSpec.ofChange fnExactPricesTextSpec)) fnExactPricesTextCard

/-- THE TIED CARD OF 'laws.FnExactReadPrices'. -/
def fnExactReadPricesCard : Claim7 := { stood := { row := fnExactReadPricesRow, standIns := [], harness := (true, "2367a9b5d30c738bdb562959bfa760724aa51a5ee077ef242c225716cb49883c"), looks := true }, kinds := [], alts := [], laidByText := true, laidKinds := [.data, .data, .data, .data, .sentinel, .sentinel, .pinned], laidTests := true, laidLooks := .later }
def FnExactReadPricesCardSaid : Prop := Claim7.holds Tryd.pinned (.plain (OpenSpec.ofChange fnExactReadPricesSpec)) fnExactReadPricesCard

/-- THE SECOND FORM's CARD OF 'laws.FnExactPriceOf'. -/
def fnExactPriceOfUptoCard : Claim7 := { stood := { row := fnExactPriceOfUptoRow, standIns := [], harness := (true, "2367a9b5d30c738bdb562959bfa760724aa51a5ee077ef242c225716cb49883c"), looks := true }, kinds := [], alts := [], laidByText := true, laidKinds := [.data, .pinned], laidTests := true, laidLooks := .later }
def FnExactPriceOfUptoCardSaid : Prop := Claim7.holds Tryd.pinned (.plain (OpenSpec.upto fnExactPriceOfSpec)) fnExactPriceOfUptoCard

/-- THE SECOND FORM's CARD OF 'laws.FnExactWordsFor'. -/
def fnExactWordsForUptoCard : Claim7 := { stood := { row := fnExactWordsForUptoRow, standIns := [], harness := (true, "2367a9b5d30c738bdb562959bfa760724aa51a5ee077ef242c225716cb49883c"), looks := true }, kinds := [], alts := [], laidByText := true, laidKinds := [.data, .pinned], laidTests := true, laidLooks := .later }
def FnExactWordsForUptoCardSaid : Prop := Claim7.holds Tryd.pinned (.plain (OpenSpec.upto fnExactWordsForSpec)) fnExactWordsForUptoCard

/-- THE SECOND FORM's CARD OF 'laws.FnExactCheapestOf'. -/
def fnExactCheapestOfUptoCard : Claim7 := { stood := { row := fnExactCheapestOfUptoRow, standIns := [], harness := (true, "2367a9b5d30c738bdb562959bfa760724aa51a5ee077ef242c225716cb49883c"), looks := true }, kinds := [], alts := [], laidByText := true, laidKinds := [.data, .pinned], laidTests := true, laidLooks := .later }
def FnExactCheapestOfUptoCardSaid : Prop := Claim7.holds Tryd.pinned (.plain (OpenSpec.upto fnExactCheapestOfSpec)) fnExactCheapestOfUptoCard

/-- THE SECOND FORM's CARD OF 'laws.FnExactKeptAt'. -/
def fnExactKeptAtUptoCard : Claim7 := { stood := { row := fnExactKeptAtUptoRow, standIns := [], harness := (true, "2367a9b5d30c738bdb562959bfa760724aa51a5ee077ef242c225716cb49883c"), looks := true }, kinds := [], alts := [], laidByText := true, laidKinds := [.data, .pinned], laidTests := true, laidLooks := .later }
def FnExactKeptAtUptoCardSaid : Prop := Claim7.holds Tryd.pinned (.plain (OpenSpec.upto fnExactKeptAtSpec)) fnExactKeptAtUptoCard

/-- THE SECOND FORM's CARD OF 'laws.FnExactBestShift'. -/
def fnExactBestShiftUptoCard : Claim7 := { stood := { row := fnExactBestShiftUptoRow, standIns := [], harness := (true, "2367a9b5d30c738bdb562959bfa760724aa51a5ee077ef242c225716cb49883c"), looks := true }, kinds := [], alts := [], laidByText := true, laidKinds := [.data, .pinned], laidTests := true, laidLooks := .later }
def FnExactBestShiftUptoCardSaid : Prop := Claim7.holds Tryd.pinned (.plain (OpenSpec.upto fnExactBestShiftSpec)) fnExactBestShiftUptoCard

/-- THE SECOND FORM's CARD OF 'laws.FnExactPricesText'. -/
def fnExactPricesTextUptoCard : Claim7 := { stood := { row := fnExactPricesTextUptoRow, standIns := [], harness := (true, "2367a9b5d30c738bdb562959bfa760724aa51a5ee077ef242c225716cb49883c"), looks := true }, kinds := [], alts := [], laidByText := true, laidKinds := [.data, .data, .data], laidTests := true, laidLooks := .later }
def FnExactPricesTextUptoCardSaid : Prop := Claim7.holds Tryd.pinned (.plain (OpenSpec.upto fnExactPricesTextSpec)) fnExactPricesTextUptoCard

/-- THE SECOND FORM's CARD OF 'laws.FnExactReadPrices'. -/
def fnExactReadPricesUptoCard : Claim7 := { stood := { row := fnExactReadPricesUptoRow, standIns := [], harness := (true, "2367a9b5d30c738bdb562959bfa760724aa51a5ee077ef242c225716cb49883c"), looks := true }, kinds := [], alts := [], laidByText := true, laidKinds := [.data, .data, .data, .data, .sentinel, .sentinel, .pinned], laidTests := true, laidLooks := .later }
def FnExactReadPricesUptoCardSaid : Prop := Claim7.holds Tryd.pinned (.plain (OpenSpec.upto fnExactReadPricesSpec)) fnExactReadPricesUptoCard
end Rows
end Go.Proofs.YtjgcadohjccfaaaDoor
