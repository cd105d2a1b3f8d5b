/-
  DERIVED. GIVEN WITH THE SEED: THE CARDS: each row of YtngondeaeipcfaaDoorRows.lean that lists a variable, with what it lists TIED to the program's text (the seventh form; the later family's looks); each row that meets fmt, with fmt's text TOLD by the authors' own Lean function (tested against real Go, not proved from fmt's source: count such statements apart). THE CARD IS WHAT COUNTS. Prove the row's statement (the work); the ties are given (YtngondeaeipcfaaDoorTie.lean); close each card by the builder's one call (the guide's Derived/Test/ToyasCard.lean, 'card_holds'). Laid BY PROGRAM, IN A SANDBOX (cutbox-door.mjs). By AI agents, Wed Nov 11 2026. No macro, syntax, notation, axiom, sorry.
-/
import Derived.Test.YtngondeaeipcfaaDoorRows
import GoSem.ClaimSeven
namespace Go.Proofs.YtngondeaeipcfaaDoor
namespace Rows

/-- THE TIED CARD OF 'laws.FnRubbings'. -/
def fnRubbingsCard : Claim7 := { stood := { row := fnRubbingsRow, standIns := [], harness := (true, "c45647b369fc6d0ae09534926dec52555996c64264d95905a6bc510399084e53"), looks := true }, kinds := [], alts := [], laidByText := true, laidKinds := [.handle], laidTests := true, laidLooks := .later }
def FnRubbingsCardSaid : Prop := Claim7.holds Tryd.pinned (.plain (OpenSpec.ofChange fnRubbingsSpec)) fnRubbingsCard

/-- THE TIED CARD OF 'laws.FnExactFaceText'. -/
def fnExactFaceTextCard : Claim7 := { stood := { row := fnExactFaceTextRow, standIns := [], harness := (true, "c45647b369fc6d0ae09534926dec52555996c64264d95905a6bc510399084e53"), looks := true }, kinds := [], alts := [], laidByText := true, laidKinds := [.data, .data, .data], laidTests := true, laidLooks := .later }
def FnExactFaceTextCardSaid : Prop := Claim7.holds Tryd.pinned (.plain (OpenSpec.ofChange fnExactFaceTextSpec)) fnExactFaceTextCard

/-- THE TIED CARD OF 'laws.FnExactValueOf'. -/
def fnExactValueOfCard : Claim7 := { stood := { row := fnExactValueOfRow, standIns := [], harness := (true, "c45647b369fc6d0ae09534926dec52555996c64264d95905a6bc510399084e53"), looks := true }, kinds := [], alts := [], laidByText := true, laidKinds := [.handle], laidTests := true, laidLooks := .later }
def FnExactValueOfCardSaid : Prop := Claim7.holds Tryd.pinned (.plain (OpenSpec.ofChange fnExactValueOfSpec)) fnExactValueOfCard

/-- THE TIED CARD OF 'laws.FnExactPartsOf'. -/
def fnExactPartsOfCard : Claim7 := { stood := { row := fnExactPartsOfRow, standIns := [], harness := (true, "c45647b369fc6d0ae09534926dec52555996c64264d95905a6bc510399084e53"), looks := true }, kinds := [], alts := [], laidByText := true, laidKinds := [.handle], laidTests := true, laidLooks := .later }
def FnExactPartsOfCardSaid : Prop := Claim7.holds Tryd.pinned (.plain (OpenSpec.ofChange fnExactPartsOfSpec)) fnExactPartsOfCard

/-- THE TIED CARD OF 'laws.FnExactIsRight'. -/
def fnExactIsRightCard : Claim7 := { stood := { row := fnExactIsRightRow, standIns := [], harness := (true, "c45647b369fc6d0ae09534926dec52555996c64264d95905a6bc510399084e53"), looks := true }, kinds := [], alts := [], laidByText := true, laidKinds := [.handle], laidTests := true, laidLooks := .later }
def FnExactIsRightCardSaid : Prop := Claim7.holds Tryd.pinned (.plain (OpenSpec.ofChange fnExactIsRightSpec)) fnExactIsRightCard

/-- THE TIED CARD OF 'laws.FnExactCutInOrder'. -/
def fnExactCutInOrderCard : Claim7 := { stood := { row := fnExactCutInOrderRow, standIns := [], harness := (true, "c45647b369fc6d0ae09534926dec52555996c64264d95905a6bc510399084e53"), looks := true }, kinds := [], alts := [], laidByText := true, laidKinds := [.data, .pinned], laidTests := true, laidLooks := .later }
def FnExactCutInOrderCardSaid : Prop := Claim7.holds Tryd.pinned (.plain (OpenSpec.ofChange fnExactCutInOrderSpec)) fnExactCutInOrderCard

/-- THE TIED CARD OF 'laws.FnExactBestShift'. -/
def fnExactBestShiftCard : Claim7 := { stood := { row := fnExactBestShiftRow, standIns := [], harness := (true, "c45647b369fc6d0ae09534926dec52555996c64264d95905a6bc510399084e53"), looks := true }, kinds := [], alts := [], laidByText := true, laidKinds := [.data, .pinned], laidTests := true, laidLooks := .later }
def FnExactBestShiftCardSaid : Prop := Claim7.holds Tryd.pinned (.plain (OpenSpec.ofChange fnExactBestShiftSpec)) fnExactBestShiftCard

/-- THE SECOND FORM's CARD OF 'laws.FnRubbings'. -/
def fnRubbingsUptoCard : Claim7 := { stood := { row := fnRubbingsUptoRow, standIns := [], harness := (true, "c45647b369fc6d0ae09534926dec52555996c64264d95905a6bc510399084e53"), looks := true }, kinds := [], alts := [], laidByText := true, laidKinds := [.handle], laidTests := true, laidLooks := .later }
def FnRubbingsUptoCardSaid : Prop := Claim7.holds Tryd.pinned (.plain (OpenSpec.upto fnRubbingsSpec)) fnRubbingsUptoCard

/-- THE SECOND FORM's CARD OF 'laws.FnExactFaceText'. -/
def fnExactFaceTextUptoCard : Claim7 := { stood := { row := fnExactFaceTextUptoRow, standIns := [], harness := (true, "c45647b369fc6d0ae09534926dec52555996c64264d95905a6bc510399084e53"), looks := true }, kinds := [], alts := [], laidByText := true, laidKinds := [.data, .data, .data], laidTests := true, laidLooks := .later }
def FnExactFaceTextUptoCardSaid : Prop := Claim7.holds Tryd.pinned (.plain (OpenSpec.upto fnExactFaceTextSpec)) fnExactFaceTextUptoCard

/-- THE SECOND FORM's CARD OF 'laws.FnExactValueOf'. -/
def fnExactValueOfUptoCard : Claim7 := { stood := { row := fnExactValueOfUptoRow, standIns := [], harness := (true, "c45647b369fc6d0ae09534926dec52555996c64264d95905a6bc510399084e53"), looks := true }, kinds := [], alts := [], laidByText := true, laidKinds := [.handle], laidTests := true, laidLooks := .later }
def FnExactValueOfUptoCardSaid : Prop := Claim7.holds Tryd.pinned (.plain (OpenSpec.upto fnExactValueOfSpec)) fnExactValueOfUptoCard

/-- THE SECOND FORM's CARD OF 'laws.FnExactPartsOf'. -/
def fnExactPartsOfUptoCard : Claim7 := { stood := { row := fnExactPartsOfUptoRow, standIns := [], harness := (true, "c45647b369fc6d0ae09534926dec52555996c64264d95905a6bc510399084e53"), looks := true }, kinds := [], alts := [], laidByText := true, laidKinds := [.handle], laidTests := true, laidLooks := .later }
def FnExactPartsOfUptoCardSaid : Prop := Claim7.holds Tryd.pinned (.plain (OpenSpec.upto fnExactPartsOfSpec)) fnExactPartsOfUptoCard

/-- THE SECOND FORM's CARD OF 'laws.FnExactIsRight'. -/
def fnExactIsRightUptoCard : Claim7 := { stood := { row := fnExactIsRightUptoRow, standIns := [], harness := (true, "c45647b369fc6d0ae09534926dec52555996c64264d95905a6bc510399084e53"), looks := true }, kinds := [], alts := [], laidByText := true, laidKinds := [.handle], laidTests := true, laidLooks := .later }
def FnExactIsRightUptoCardSaid : Prop := Claim7.holds Tryd.pinned (.plain (OpenSpec.upto fnExactIsRightSpec)) fnExactIsRightUptoCard

/-- THE SECOND FORM's CARD OF 'laws.FnExactCutInOrder'. -/
def fnExactCutInOrderUptoCard : Claim7 := { stood := { row := fnExactCutInOrderUptoRow, standIns := [], harness := (true, "c45647b369fc6d0ae09534926dec52555996c64264d95905a6bc510399084e53"), looks := true }, kinds := [], alts := [], laidByText := true, laidKinds := [.data, .pinned], laidTests := true, laidLooks := .later }
def FnExactCutInOrderUptoCardSaid : Prop := Claim7.holds Tryd.pinned (.plain (OpenSpec.upto fnExactCutInOrderSpec)) fnExactCutInOrderUptoCard

/-- THE SECOND FORM's CARD OF 'laws.FnExactBestShift'. -/
def fnExactBestShiftUptoCard : Claim7 := { stood := { row := fnExactBestShiftUptoRow, standIns := [], harness := (true, "c45647b369fc6d0ae09534926dec52555996c64264d95905a6bc510399084e53"), looks := true }, kinds := [], alts := [], laidByText := true, laidKinds := [.data, .pinned], laidTests := true, laidLooks := .later }
def FnExactBestShiftUptoCardSaid : Prop := Claim7.holds Tryd.pinned (.plain (OpenSpec.upto fnExactBestShiftSpec)) fnExactBestShiftUptoCard
end Rows
end Go.Proofs.YtngondeaeipcfaaDoor
