/-
  DERIVED. GIVEN WITH THE SEED: THE CARDS: each row of YtjmkbdghenjlaaaDoorRows.lean that lists a variable, with what it lists TIED to the program's text (the seventh form; the later family's looks); each row that meets fmt, with fmt's text TOLD by the authors' own Lean function (tested against real Go, not proved from fmt's source: count such statements apart). THE CARD IS WHAT COUNTS. Prove the row's statement (the work); the ties are given (YtjmkbdghenjlaaaDoorTie.lean); close each card by the builder's one call (the guide's Derived/Test/ToyasCard.lean, 'card_holds'). Laid BY PROGRAM, IN A SANDBOX (cutbox-door.mjs). By AI agents, Wed Nov 11 2026. No macro, syntax, notation, axiom, sorry.
-/
import Derived.Test.YtjmkbdghenjlaaaDoorRows
import GoSem.ClaimSeven
namespace Go.Proofs.YtjmkbdghenjlaaaDoor
namespace Rows

/-- THE TIED CARD OF 'laws.FnExactSureDark'. -/
def fnExactSureDarkCard : Claim7 := { stood := { row := fnExactSureDarkRow, standIns := [], harness := (true, "deacf30ac010a04f5145cdec51788bc62896bf0301a7bc8bc2cba2628202078b"), looks := true }, kinds := [], alts := [], laidByText := true, laidKinds := [.handle], laidTests := true, laidLooks := .later }
def FnExactSureDarkCardSaid : Prop := Claim7.holds Tryd.pinned (.plain (OpenSpec.ofChange fnExactSureDarkSpec)) fnExactSureDarkCard

/-- THE TIED CARD OF 'laws.FnExactWearUntil'. -/
def fnExactWearUntilCard : Claim7 := { stood := { row := fnExactWearUntilRow, standIns := [], harness := (true, "deacf30ac010a04f5145cdec51788bc62896bf0301a7bc8bc2cba2628202078b"), looks := true }, kinds := [], alts := [], laidByText := true, laidKinds := [.handle], laidTests := true, laidLooks := .later }
def FnExactWearUntilCardSaid : Prop := Claim7.holds Tryd.pinned (.plain (OpenSpec.ofChange fnExactWearUntilSpec)) fnExactWearUntilCard

/-- THE TIED CARD OF 'laws.FnExactNearestHand'. -/
def fnExactNearestHandCard : Claim7 := { stood := { row := fnExactNearestHandRow, standIns := [], harness := (true, "deacf30ac010a04f5145cdec51788bc62896bf0301a7bc8bc2cba2628202078b"), looks := true }, kinds := [], alts := [], laidByText := true, laidKinds := [.handle], laidTests := true, laidLooks := .later }
def FnExactNearestHandCardSaid : Prop := Claim7.holds Tryd.pinned (.plain (OpenSpec.ofChange fnExactNearestHandSpec)) fnExactNearestHandCard

/-- THE TIED CARD OF 'laws.FnExactGroupHands'. -/
def fnExactGroupHandsCard : Claim7 := { stood := { row := fnExactGroupHandsRow, standIns := [], harness := (true, "deacf30ac010a04f5145cdec51788bc62896bf0301a7bc8bc2cba2628202078b"), looks := true }, kinds := [], alts := [], laidByText := true, laidKinds := [.handle], laidTests := true, laidLooks := .later }
def FnExactGroupHandsCardSaid : Prop := Claim7.holds Tryd.pinned (.plain (OpenSpec.ofChange fnExactGroupHandsSpec)) fnExactGroupHandsCard

/-- THE TIED CARD OF 'laws.FnExactPricesText'. -/
def fnExactPricesTextCard : Claim7 := { stood := { row := fnExactPricesTextRow, standIns := [], harness := (true, "deacf30ac010a04f5145cdec51788bc62896bf0301a7bc8bc2cba2628202078b"), looks := true }, kinds := [], alts := [], laidByText := true, laidKinds := [.data, .data, .data], laidTests := true, laidLooks := .later }
def FnExactPricesTextCardSaid : Prop := Claim7.holds Tryd.pinned (.plain (OpenSpec.ofChange fnExactPricesTextSpec)) fnExactPricesTextCard

/-- THE TIED CARD OF 'laws.FnExactBestShift'. -/
def fnExactBestShiftCard : Claim7 := { stood := { row := fnExactBestShiftRow, standIns := [], harness := (true, "deacf30ac010a04f5145cdec51788bc62896bf0301a7bc8bc2cba2628202078b"), looks := true }, kinds := [], alts := [], laidByText := true, laidKinds := [.data, .pinned], laidTests := true, laidLooks := .later }
def FnExactBestShiftCardSaid : Prop := Claim7.holds Tryd.pinned (.plain (OpenSpec.ofChange fnExactBestShiftSpec)) fnExactBestShiftCard

/-- THE SECOND FORM's CARD OF 'laws.FnExactSureDark'. -/
def fnExactSureDarkUptoCard : Claim7 := { stood := { row := fnExactSureDarkUptoRow, standIns := [], harness := (true, "deacf30ac010a04f5145cdec51788bc62896bf0301a7bc8bc2cba2628202078b"), looks := true }, kinds := [], alts := [], laidByText := true, laidKinds := [.handle], laidTests := true, laidLooks := .later }
def FnExactSureDarkUptoCardSaid : Prop := Claim7.holds Tryd.pinned (.plain (OpenSpec.upto fnExactSureDarkSpec)) fnExactSureDarkUptoCard

/-- THE SECOND FORM's CARD OF 'laws.FnExactWearUntil'. -/
def fnExactWearUntilUptoCard : Claim7 := { stood := { row := fnExactWearUntilUptoRow, standIns := [], harness := (true, "deacf30ac010a04f5145cdec51788bc62896bf0301a7bc8bc2cba2628202078b"), looks := true }, kinds := [], alts := [], laidByText := true, laidKinds := [.handle], laidTests := true, laidLooks := .later }
def FnExactWearUntilUptoCardSaid : Prop := Claim7.holds Tryd.pinned (.plain (OpenSpec.upto fnExactWearUntilSpec)) fnExactWearUntilUptoCard

/-- THE SECOND FORM's CARD OF 'laws.FnExactNearestHand'. -/
def fnExactNearestHandUptoCard : Claim7 := { stood := { row := fnExactNearestHandUptoRow, standIns := [], harness := (true, "deacf30ac010a04f5145cdec51788bc62896bf0301a7bc8bc2cba2628202078b"), looks := true }, kinds := [], alts := [], laidByText := true, laidKinds := [.handle], laidTests := true, laidLooks := .later }
def FnExactNearestHandUptoCardSaid : Prop := Claim7.holds Tryd.pinned (.plain (OpenSpec.upto fnExactNearestHandSpec)) fnExactNearestHandUptoCard

/-- THE SECOND FORM's CARD OF 'laws.FnExactGroupHands'. -/
def fnExactGroupHandsUptoCard : Claim7 := { stood := { row := fnExactGroupHandsUptoRow, standIns := [], harness := (true, "deacf30ac010a04f5145cdec51788bc62896bf0301a7bc8bc2cba2628202078b"), looks := true }, kinds := [], alts := [], laidByText := true, laidKinds := [.handle], laidTests := true, laidLooks := .later }
def FnExactGroupHandsUptoCardSaid : Prop := Claim7.holds Tryd.pinned (.plain (OpenSpec.upto fnExactGroupHandsSpec)) fnExactGroupHandsUptoCard

/-- THE SECOND FORM's CARD OF 'laws.FnExactPricesText'. -/
def fnExactPricesTextUptoCard : Claim7 := { stood := { row := fnExactPricesTextUptoRow, standIns := [], harness := (true, "deacf30ac010a04f5145cdec51788bc62896bf0301a7bc8bc2cba2628202078b"), looks := true }, kinds := [], alts := [], laidByText := true, laidKinds := [.data, .data, .data], laidTests := true, laidLooks := .later }
def FnExactPricesTextUptoCardSaid : Prop := Claim7.holds Tryd.pinned (.plain (OpenSpec.upto fnExactPricesTextSpec)) fnExactPricesTextUptoCard

/-- THE SECOND FORM's CARD OF 'laws.FnExactBestShift'. -/
def fnExactBestShiftUptoCard : Claim7 := { stood := { row := fnExactBestShiftUptoRow, standIns := [], harness := (true, "deacf30ac010a04f5145cdec51788bc62896bf0301a7bc8bc2cba2628202078b"), looks := true }, kinds := [], alts := [], laidByText := true, laidKinds := [.data, .pinned], laidTests := true, laidLooks := .later }
def FnExactBestShiftUptoCardSaid : Prop := Claim7.holds Tryd.pinned (.plain (OpenSpec.upto fnExactBestShiftSpec)) fnExactBestShiftUptoCard
end Rows
end Go.Proofs.YtjmkbdghenjlaaaDoor
