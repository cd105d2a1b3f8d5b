/-
  DERIVED. GIVEN WITH THE SEED: THE CARDS: each row of YtnanminbnfgcfaaDoorRows.lean that lists a variable, with what it lists TIED to the program's text (the seventh form; the later family's looks); each row that meets fmt, with fmt's text TOLD by the authors' own Lean function (tested against real Go, not proved from fmt's source: count such statements apart). THE CARD IS WHAT COUNTS. Prove the row's statement (the work); the ties are given (YtnanminbnfgcfaaDoorTie.lean); close each card by the builder's one call (the guide's Derived/Test/ToyasCard.lean, 'card_holds'). Laid BY PROGRAM, IN A SANDBOX (cutbox-door.mjs). By AI agents, Wed Nov 11 2026. No macro, syntax, notation, axiom, sorry.
-/
import Derived.Test.YtnanminbnfgcfaaDoorRows
import GoSem.ClaimSeven
namespace Go.Proofs.YtnanminbnfgcfaaDoor
namespace Rows

/-- THE TIED CARD OF 'laws.FnExactLetterAt'. -/
def fnExactLetterAtCard : Claim7 := { stood := { row := fnExactLetterAtRow, standIns := [], harness := (true, "b4ffa363e4119c77d444bd1a28a64e1411359722fddec837a197d83b4c826f21"), looks := false }, kinds := [], alts := [], laidByText := true, laidKinds := [.data, .pinned], laidTests := true, laidLooks := .later }
def FnExactLetterAtCardSaid : Prop := Claim7.holds Tryd.pinned (.plain (OpenSpec.ofChange fnExactLetterAtSpec)) fnExactLetterAtCard

/-- THE TIED CARD OF 'laws.FnExactCountLetters'. -/
def fnExactCountLettersCard : Claim7 := { stood := { row := fnExactCountLettersRow, standIns := [], harness := (true, "b4ffa363e4119c77d444bd1a28a64e1411359722fddec837a197d83b4c826f21"), looks := false }, kinds := [], alts := [], laidByText := true, laidKinds := [.data, .pinned], laidTests := true, laidLooks := .later }
def FnExactCountLettersCardSaid : Prop := Claim7.holds Tryd.pinned (.plain (OpenSpec.ofChange fnExactCountLettersSpec)) fnExactCountLettersCard

/-- THE TIED CARD OF 'laws.FnExactCutAgain'. -/
def fnExactCutAgainCard : Claim7 := { stood := { row := fnExactCutAgainRow, standIns := [], harness := (true, "b4ffa363e4119c77d444bd1a28a64e1411359722fddec837a197d83b4c826f21"), looks := false }, kinds := [], alts := [], laidByText := true, laidKinds := [.data, .pinned], laidTests := true, laidLooks := .later }
def FnExactCutAgainCardSaid : Prop := Claim7.holds Tryd.pinned (.plain (OpenSpec.ofChange fnExactCutAgainSpec)) fnExactCutAgainCard

/-- THE TIED CARD OF 'laws.FnExactBestStone'. -/
def fnExactBestStoneCard : Claim7 := { stood := { row := fnExactBestStoneRow, standIns := [], harness := (true, "b4ffa363e4119c77d444bd1a28a64e1411359722fddec837a197d83b4c826f21"), looks := false }, kinds := [], alts := [], laidByText := true, laidKinds := [.data, .pinned], laidTests := true, laidLooks := .later }
def FnExactBestStoneCardSaid : Prop := Claim7.holds Tryd.pinned (.plain (OpenSpec.ofChange fnExactBestStoneSpec)) fnExactBestStoneCard

/-- THE SECOND FORM's CARD OF 'laws.FnExactLetterAt'. -/
def fnExactLetterAtUptoCard : Claim7 := { stood := { row := fnExactLetterAtUptoRow, standIns := [], harness := (true, "b4ffa363e4119c77d444bd1a28a64e1411359722fddec837a197d83b4c826f21"), looks := false }, kinds := [], alts := [], laidByText := true, laidKinds := [.data, .pinned], laidTests := true, laidLooks := .later }
def FnExactLetterAtUptoCardSaid : Prop := Claim7.holds Tryd.pinned (.plain (OpenSpec.upto fnExactLetterAtSpec)) fnExactLetterAtUptoCard

/-- THE SECOND FORM's CARD OF 'laws.FnExactCountLetters'. -/
def fnExactCountLettersUptoCard : Claim7 := { stood := { row := fnExactCountLettersUptoRow, standIns := [], harness := (true, "b4ffa363e4119c77d444bd1a28a64e1411359722fddec837a197d83b4c826f21"), looks := false }, kinds := [], alts := [], laidByText := true, laidKinds := [.data, .pinned], laidTests := true, laidLooks := .later }
def FnExactCountLettersUptoCardSaid : Prop := Claim7.holds Tryd.pinned (.plain (OpenSpec.upto fnExactCountLettersSpec)) fnExactCountLettersUptoCard

/-- THE SECOND FORM's CARD OF 'laws.FnExactCutAgain'. -/
def fnExactCutAgainUptoCard : Claim7 := { stood := { row := fnExactCutAgainUptoRow, standIns := [], harness := (true, "b4ffa363e4119c77d444bd1a28a64e1411359722fddec837a197d83b4c826f21"), looks := false }, kinds := [], alts := [], laidByText := true, laidKinds := [.data, .pinned], laidTests := true, laidLooks := .later }
def FnExactCutAgainUptoCardSaid : Prop := Claim7.holds Tryd.pinned (.plain (OpenSpec.upto fnExactCutAgainSpec)) fnExactCutAgainUptoCard

/-- THE SECOND FORM's CARD OF 'laws.FnExactBestStone'. -/
def fnExactBestStoneUptoCard : Claim7 := { stood := { row := fnExactBestStoneUptoRow, standIns := [], harness := (true, "b4ffa363e4119c77d444bd1a28a64e1411359722fddec837a197d83b4c826f21"), looks := false }, kinds := [], alts := [], laidByText := true, laidKinds := [.data, .pinned], laidTests := true, laidLooks := .later }
def FnExactBestStoneUptoCardSaid : Prop := Claim7.holds Tryd.pinned (.plain (OpenSpec.upto fnExactBestStoneSpec)) fnExactBestStoneUptoCard
end Rows
end Go.Proofs.YtnanminbnfgcfaaDoor
