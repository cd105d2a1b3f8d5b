/- Closed facts of the whole program, asked once: no row of its own is spoken of here but for its cells that all rows share. -/
import Derived.Test.YtjgcadohjccfaaaDoorRows
import Derived.ProofKit
namespace Go.Proofs.YtjgcadohjccfaaaDoor
open Go.ChangeShapes Go.WideShapes Go.ChangeAt Go.RowKit
theorem pf_own : ownKnob Tryd.prog.godebug = none := by kernel_rfl
theorem pf_laidOut : laidOutB Tryd.prog = true := by kernel_rfl
theorem pf_maps : mapsRowed Tryd.prog = true := by kernel_rfl
theorem pf_plainKeys : (Rows.fnExactPriceOfRow.plainKeys == Tryd.prog.plainKeys) = true := by kernel_rfl
theorem pf_heard : Tryd.prog.stopsHeard = true := by kernel_rfl
/-- The words at the program's head, letter by letter: so they are read without the text's bytes. -/
def ioL : List Char := ([104, 97, 114, 110, 101, 115, 115, 32, 50, 51, 54, 55, 97, 57, 98, 53, 100, 51, 48, 99, 55, 51, 56, 98, 100, 98, 53, 54, 50, 57, 53, 57, 98, 102, 97, 55, 54, 48, 55, 50, 52, 97, 97, 53, 49, 97, 53, 101, 101, 48, 55, 55, 101, 102, 50, 52, 50, 99, 50, 50, 53, 55, 49, 54, 99, 98, 52, 57, 56, 56, 51, 99, 32, 99, 117, 116, 32, 97, 116, 32, 108, 111, 111, 112, 46, 101, 120, 97, 109, 112, 108, 101, 47, 103, 48, 49, 51, 57, 56, 47, 108, 97, 119, 115, 46, 70, 110, 69, 120, 97, 99, 116, 80, 114, 105, 99, 101, 79, 102, 32, 108, 111, 111, 112, 46, 101, 120, 97, 109, 112, 108, 101, 47, 103, 48, 49, 51, 57, 56, 47, 108, 97, 119, 115, 46, 70, 110, 69, 120, 97, 99, 116, 87, 111, 114, 100, 115, 70, 111, 114, 32, 108, 111, 111, 112, 46, 101, 120, 97, 109, 112, 108, 101, 47, 103, 48, 49, 51, 57, 56, 47, 108, 97, 119, 115, 46, 70, 110, 69, 120, 97, 99, 116, 67, 104, 101, 97, 112, 101, 115, 116, 79, 102, 32, 108, 111, 111, 112, 46, 101, 120, 97, 109, 112, 108, 101, 47, 103, 48, 49, 51, 57, 56, 47, 108, 97, 119, 115, 46, 70, 110, 69, 120, 97, 99, 116, 75, 101, 112, 116, 65, 116, 32, 108, 111, 111, 112, 46, 101, 120, 97, 109, 112, 108, 101, 47, 103, 48, 49, 51, 57, 56, 47, 108, 97, 119, 115, 46, 70, 110, 69, 120, 97, 99, 116, 66, 101, 115, 116, 83, 104, 105, 102, 116, 32, 108, 111, 111, 112, 46, 101, 120, 97, 109, 112, 108, 101, 47, 103, 48, 49, 51, 57, 56, 47, 108, 97, 119, 115, 46, 70, 110, 69, 120, 97, 99, 116, 80, 114, 105, 99, 101, 115, 84, 101, 120, 116, 32, 108, 111, 111, 112, 46, 101, 120, 97, 109, 112, 108, 101, 47, 103, 48, 49, 51, 57, 56, 47, 108, 97, 119, 115, 46, 70, 110, 69, 120, 97, 99, 116, 82, 101, 97, 100, 80, 114, 105, 99, 101, 115] : List Nat).map Char.ofNat
theorem pf_io : Tryd.prog.initOrder = String.ofList ioL := by kernel_rfl
theorem pf_letters : Tryd.prog.initOrder.toList = ioL := by rw [pf_io]; exact String.toList_ofList
theorem pf_lifts : Tryd.prog.headLifts = [] := by unfold Program.headLifts; rw [pf_letters]; kernel_rfl
theorem pf_cut : behindMainWord (wordsSigns ioL) = [Char.ofNat 99, Char.ofNat 117, Char.ofNat 116] :: (behindMainWord (wordsSigns ioL)).tail := by kernel_rfl
theorem pf_enter : Tryd.prog.mayEnter = true := (Program.mayEnter.eq_1 _).trans (by rw [pf_letters, pf_cut]; generalize (behindMainWord (wordsSigns ioL)).tail = R; kernel_rfl)
theorem pf_lifted : (Rows.fnExactPriceOfRow.lifted == Tryd.prog.liftsFinal) = true := by unfold Program.liftsFinal; rw [pf_letters, pf_lifts]; kernel_rfl
theorem pf_make0 : Tryd.prog.make = some .cut := (Program.make.eq_1 _).trans (by rw [pf_letters, pf_cut]; generalize (behindMainWord (wordsSigns ioL)).tail = R; kernel_rfl)
theorem pf_make : (Tryd.prog.make == some Rows.fnExactPriceOfRow.make) = true := by rw [pf_make0]; kernel_rfl
theorem pf_stops : (Tryd.prog.stops == []) = true := by kernel_rfl
theorem pf_knobs : (Tryd.prog.stopKnobs == []) = true := by kernel_rfl
end Go.Proofs.YtjgcadohjccfaaaDoor
