/-
  DERIVED. GIVEN WITH THE SEED: THE CARDS: each row of YtcbijfbeapeliaaDoorRows.lean that lists a variable, with what it lists TIED to the program's text (the seventh form; the later family's looks); each row that meets fmt, with fmt's text TOLD by the authors' own Lean function (tested against real Go, not proved from fmt's source: count such statements apart). THE CARD IS WHAT COUNTS. Prove the row's statement (the work); the ties are given (YtcbijfbeapeliaaDoorTie.lean); close each card by the builder's one call (the guide's Derived/Test/ToyasCard.lean, 'card_holds'). Laid BY PROGRAM, IN A SANDBOX (cutbox-door.mjs). By AI agents, Wed Nov 11 2026. No macro, syntax, notation, axiom, sorry.
-/
import Derived.Test.YtcbijfbeapeliaaDoorRows
import GoSem.ClaimSeven
namespace Go.Proofs.YtcbijfbeapeliaaDoor
namespace Rows

/-- THE TIED CARD OF 'laws.FnExactMoveRubbing'. -/
def fnExactMoveRubbingCard : Claim7 := { stood := { row := fnExactMoveRubbingRow, standIns := [], harness := (true, "543b7f1da95beaeac8a4890fd30391e6870cc2a2e371e05d3a3f2f09a5431ea1"), looks := true }, kinds := [], alts := [], laidByText := true, laidKinds := [.handle], laidTests := true, laidLooks := .later }
def FnExactMoveRubbingCardSaid : Prop := Claim7.holds Tryd.pinned (.plain (OpenSpec.ofChange fnExactMoveRubbingSpec)) fnExactMoveRubbingCard

/-- THE TIED CARD OF 'laws.FnExactMatchAt'. -/
def fnExactMatchAtCard : Claim7 := { stood := { row := fnExactMatchAtRow, standIns := [], harness := (true, "543b7f1da95beaeac8a4890fd30391e6870cc2a2e371e05d3a3f2f09a5431ea1"), looks := true }, kinds := [], alts := [], laidByText := true, laidKinds := [.handle], laidTests := true, laidLooks := .later }
def FnExactMatchAtCardSaid : Prop := Claim7.holds Tryd.pinned (.plain (OpenSpec.ofChange fnExactMatchAtSpec)) fnExactMatchAtCard

/-- THE TIED CARD OF 'laws.FnExactWearOnce'. -/
def fnExactWearOnceCard : Claim7 := { stood := { row := fnExactWearOnceRow, standIns := [], harness := (true, "543b7f1da95beaeac8a4890fd30391e6870cc2a2e371e05d3a3f2f09a5431ea1"), looks := true }, kinds := [], alts := [], laidByText := true, laidKinds := [.handle], laidTests := true, laidLooks := .later }
def FnExactWearOnceCardSaid : Prop := Claim7.holds Tryd.pinned (.plain (OpenSpec.ofChange fnExactWearOnceSpec)) fnExactWearOnceCard

/-- THE TIED CARD OF 'laws.FnExactWearUntil'. -/
def fnExactWearUntilCard : Claim7 := { stood := { row := fnExactWearUntilRow, standIns := [], harness := (true, "543b7f1da95beaeac8a4890fd30391e6870cc2a2e371e05d3a3f2f09a5431ea1"), looks := true }, kinds := [], alts := [], laidByText := true, laidKinds := [.handle], laidTests := true, laidLooks := .later }
def FnExactWearUntilCardSaid : Prop := Claim7.holds Tryd.pinned (.plain (OpenSpec.ofChange fnExactWearUntilSpec)) fnExactWearUntilCard

/-- THE TIED CARD OF 'laws.FnExactJoinRubbings'. -/
def fnExactJoinRubbingsCard : Claim7 := { stood := { row := fnExactJoinRubbingsRow, standIns := [], harness := (true, "543b7f1da95beaeac8a4890fd30391e6870cc2a2e371e05d3a3f2f09a5431ea1"), looks := true }, kinds := [], alts := [], laidByText := true, laidKinds := [.handle], laidTests := true, laidLooks := .later }
def FnExactJoinRubbingsCardSaid : Prop := Claim7.holds Tryd.pinned (.plain (OpenSpec.ofChange fnExactJoinRubbingsSpec)) fnExactJoinRubbingsCard

/-- THE TIED CARD OF 'laws.FnExactSureDark'. -/
def fnExactSureDarkCard : Claim7 := { stood := { row := fnExactSureDarkRow, standIns := [], harness := (true, "543b7f1da95beaeac8a4890fd30391e6870cc2a2e371e05d3a3f2f09a5431ea1"), looks := true }, kinds := [], alts := [], laidByText := true, laidKinds := [.handle], laidTests := true, laidLooks := .later }
def FnExactSureDarkCardSaid : Prop := Claim7.holds Tryd.pinned (.plain (OpenSpec.ofChange fnExactSureDarkSpec)) fnExactSureDarkCard

/-- THE TIED CARD OF 'laws.FnExactGapsApart'. -/
def fnExactGapsApartCard : Claim7 := { stood := { row := fnExactGapsApartRow, standIns := [], harness := (true, "543b7f1da95beaeac8a4890fd30391e6870cc2a2e371e05d3a3f2f09a5431ea1"), looks := true }, kinds := [], alts := [], laidByText := true, laidKinds := [.handle], laidTests := true, laidLooks := .later }
def FnExactGapsApartCardSaid : Prop := Claim7.holds Tryd.pinned (.plain (OpenSpec.ofChange fnExactGapsApartSpec)) fnExactGapsApartCard

/-- THE TIED CARD OF 'laws.FnExactNearestHand'. -/
def fnExactNearestHandCard : Claim7 := { stood := { row := fnExactNearestHandRow, standIns := [], harness := (true, "543b7f1da95beaeac8a4890fd30391e6870cc2a2e371e05d3a3f2f09a5431ea1"), looks := true }, kinds := [], alts := [], laidByText := true, laidKinds := [.handle], laidTests := true, laidLooks := .later }
def FnExactNearestHandCardSaid : Prop := Claim7.holds Tryd.pinned (.plain (OpenSpec.ofChange fnExactNearestHandSpec)) fnExactNearestHandCard

/-- THE TIED CARD OF 'laws.FnExactGroupHands'. -/
def fnExactGroupHandsCard : Claim7 := { stood := { row := fnExactGroupHandsRow, standIns := [], harness := (true, "543b7f1da95beaeac8a4890fd30391e6870cc2a2e371e05d3a3f2f09a5431ea1"), looks := true }, kinds := [], alts := [], laidByText := true, laidKinds := [.handle], laidTests := true, laidLooks := .later }
def FnExactGroupHandsCardSaid : Prop := Claim7.holds Tryd.pinned (.plain (OpenSpec.ofChange fnExactGroupHandsSpec)) fnExactGroupHandsCard

/-- THE TIED CARD OF 'laws.FnExactBestShift'. -/
def fnExactBestShiftCard : Claim7 := { stood := { row := fnExactBestShiftRow, standIns := [], harness := (true, "543b7f1da95beaeac8a4890fd30391e6870cc2a2e371e05d3a3f2f09a5431ea1"), looks := true }, kinds := [], alts := [], laidByText := true, laidKinds := [.data, .pinned], laidTests := true, laidLooks := .later }
def FnExactBestShiftCardSaid : Prop := Claim7.holds Tryd.pinned (.plain (OpenSpec.ofChange fnExactBestShiftSpec)) fnExactBestShiftCard

/-- THE TIED CARD OF 'laws.FnExactPricesText'. -/
def fnExactPricesTextCard : Claim7 := { stood := { row := fnExactPricesTextRow, standIns := [], harness := (true, "543b7f1da95beaeac8a4890fd30391e6870cc2a2e371e05d3a3f2f09a5431ea1"), looks := true }, kinds := [], alts := [], laidByText := true, laidKinds := [.data, .data, .data], laidTests := true, laidLooks := .later }
def FnExactPricesTextCardSaid : Prop := Claim7.holds Tryd.pinned (.plain (OpenSpec.ofChange fnExactPricesTextSpec)) fnExactPricesTextCard

/-- THE SECOND FORM's CARD OF 'laws.FnExactMoveRubbing'. -/
def fnExactMoveRubbingUptoCard : Claim7 := { stood := { row := fnExactMoveRubbingUptoRow, standIns := [], harness := (true, "543b7f1da95beaeac8a4890fd30391e6870cc2a2e371e05d3a3f2f09a5431ea1"), looks := true }, kinds := [], alts := [], laidByText := true, laidKinds := [.handle], laidTests := true, laidLooks := .later }
def FnExactMoveRubbingUptoCardSaid : Prop := Claim7.holds Tryd.pinned (.plain (OpenSpec.upto fnExactMoveRubbingSpec)) fnExactMoveRubbingUptoCard

/-- THE SECOND FORM's CARD OF 'laws.FnExactMatchAt'. -/
def fnExactMatchAtUptoCard : Claim7 := { stood := { row := fnExactMatchAtUptoRow, standIns := [], harness := (true, "543b7f1da95beaeac8a4890fd30391e6870cc2a2e371e05d3a3f2f09a5431ea1"), looks := true }, kinds := [], alts := [], laidByText := true, laidKinds := [.handle], laidTests := true, laidLooks := .later }
def FnExactMatchAtUptoCardSaid : Prop := Claim7.holds Tryd.pinned (.plain (OpenSpec.upto fnExactMatchAtSpec)) fnExactMatchAtUptoCard

/-- THE SECOND FORM's CARD OF 'laws.FnExactWearOnce'. -/
def fnExactWearOnceUptoCard : Claim7 := { stood := { row := fnExactWearOnceUptoRow, standIns := [], harness := (true, "543b7f1da95beaeac8a4890fd30391e6870cc2a2e371e05d3a3f2f09a5431ea1"), looks := true }, kinds := [], alts := [], laidByText := true, laidKinds := [.handle], laidTests := true, laidLooks := .later }
def FnExactWearOnceUptoCardSaid : Prop := Claim7.holds Tryd.pinned (.plain (OpenSpec.upto fnExactWearOnceSpec)) fnExactWearOnceUptoCard

/-- THE SECOND FORM's CARD OF 'laws.FnExactWearUntil'. -/
def fnExactWearUntilUptoCard : Claim7 := { stood := { row := fnExactWearUntilUptoRow, standIns := [], harness := (true, "543b7f1da95beaeac8a4890fd30391e6870cc2a2e371e05d3a3f2f09a5431ea1"), looks := true }, kinds := [], alts := [], laidByText := true, laidKinds := [.handle], laidTests := true, laidLooks := .later }
def FnExactWearUntilUptoCardSaid : Prop := Claim7.holds Tryd.pinned (.plain (OpenSpec.upto fnExactWearUntilSpec)) fnExactWearUntilUptoCard

/-- THE SECOND FORM's CARD OF 'laws.FnExactJoinRubbings'. -/
def fnExactJoinRubbingsUptoCard : Claim7 := { stood := { row := fnExactJoinRubbingsUptoRow, standIns := [], harness := (true, "543b7f1da95beaeac8a4890fd30391e6870cc2a2e371e05d3a3f2f09a5431ea1"), looks := true }, kinds := [], alts := [], laidByText := true, laidKinds := [.handle], laidTests := true, laidLooks := .later }
def FnExactJoinRubbingsUptoCardSaid : Prop := Claim7.holds Tryd.pinned (.plain (OpenSpec.upto fnExactJoinRubbingsSpec)) fnExactJoinRubbingsUptoCard

/-- THE SECOND FORM's CARD OF 'laws.FnExactSureDark'. -/
def fnExactSureDarkUptoCard : Claim7 := { stood := { row := fnExactSureDarkUptoRow, standIns := [], harness := (true, "543b7f1da95beaeac8a4890fd30391e6870cc2a2e371e05d3a3f2f09a5431ea1"), looks := true }, kinds := [], alts := [], laidByText := true, laidKinds := [.handle], laidTests := true, laidLooks := .later }
def FnExactSureDarkUptoCardSaid : Prop := Claim7.holds Tryd.pinned (.plain (OpenSpec.upto fnExactSureDarkSpec)) fnExactSureDarkUptoCard

/-- THE SECOND FORM's CARD OF 'laws.FnExactGapsApart'. -/
def fnExactGapsApartUptoCard : Claim7 := { stood := { row := fnExactGapsApartUptoRow, standIns := [], harness := (true, "543b7f1da95beaeac8a4890fd30391e6870cc2a2e371e05d3a3f2f09a5431ea1"), looks := true }, kinds := [], alts := [], laidByText := true, laidKinds := [.handle], laidTests := true, laidLooks := .later }
def FnExactGapsApartUptoCardSaid : Prop := Claim7.holds Tryd.pinned (.plain (OpenSpec.upto fnExactGapsApartSpec)) fnExactGapsApartUptoCard

/-- THE SECOND FORM's CARD OF 'laws.FnExactNearestHand'. -/
def fnExactNearestHandUptoCard : Claim7 := { stood := { row := fnExactNearestHandUptoRow, standIns := [], harness := (true, "543b7f1da95beaeac8a4890fd30391e6870cc2a2e371e05d3a3f2f09a5431ea1"), looks := true }, kinds := [], alts := [], laidByText := true, laidKinds := [.handle], laidTests := true, laidLooks := .later }
def FnExactNearestHandUptoCardSaid : Prop := Claim7.holds Tryd.pinned (.plain (OpenSpec.upto fnExactNearestHandSpec)) fnExactNearestHandUptoCard

/-- THE SECOND FORM's CARD OF 'laws.FnExactGroupHands'. -/
def fnExactGroupHandsUptoCard : Claim7 := { stood := { row := fnExactGroupHandsUptoRow, standIns := [], harness := (true, "543b7f1da95beaeac8a4890fd30391e6870cc2a2e371e05d3a3f2f09a5431ea1"), looks := true }, kinds := [], alts := [], laidByText := true, laidKinds := [.handle], laidTests := true, laidLooks := .later }
def FnExactGroupHandsUptoCardSaid : Prop := Claim7.holds Tryd.pinned (.plain (OpenSpec.upto fnExactGroupHandsSpec)) fnExactGroupHandsUptoCard

/-- THE SECOND FORM's CARD OF 'laws.FnExactBestShift'. -/
def fnExactBestShiftUptoCard : Claim7 := { stood := { row := fnExactBestShiftUptoRow, standIns := [], harness := (true, "543b7f1da95beaeac8a4890fd30391e6870cc2a2e371e05d3a3f2f09a5431ea1"), looks := true }, kinds := [], alts := [], laidByText := true, laidKinds := [.data, .pinned], laidTests := true, laidLooks := .later }
def FnExactBestShiftUptoCardSaid : Prop := Claim7.holds Tryd.pinned (.plain (OpenSpec.upto fnExactBestShiftSpec)) fnExactBestShiftUptoCard

/-- THE SECOND FORM's CARD OF 'laws.FnExactPricesText'. -/
def fnExactPricesTextUptoCard : Claim7 := { stood := { row := fnExactPricesTextUptoRow, standIns := [], harness := (true, "543b7f1da95beaeac8a4890fd30391e6870cc2a2e371e05d3a3f2f09a5431ea1"), looks := true }, kinds := [], alts := [], laidByText := true, laidKinds := [.data, .data, .data], laidTests := true, laidLooks := .later }
def FnExactPricesTextUptoCardSaid : Prop := Claim7.holds Tryd.pinned (.plain (OpenSpec.upto fnExactPricesTextSpec)) fnExactPricesTextUptoCard
end Rows
end Go.Proofs.YtcbijfbeapeliaaDoor
