/- Closed facts of the whole program, asked once: no row of its own is spoken of here but for its cells that all rows share. -/
import Derived.Test.YtngondeaeipcfaaGreatDoorRows
import Derived.ProofKit
namespace Go.Proofs.YtngondeaeipcfaaGreatDoor
open Go.ChangeShapes Go.WideShapes Go.ChangeAt Go.RowKit
theorem pf_own : ownKnob Tryz.prog.godebug = none := by kernel_rfl
theorem pf_laidOut : laidOutB Tryz.prog = true := by kernel_rfl
theorem pf_maps : mapsRowed Tryz.prog = true := by kernel_rfl
theorem pf_plainKeys : (Rows.fnWidthsRow.plainKeys == Tryz.prog.plainKeys) = true := by kernel_rfl
theorem pf_heard : Tryz.prog.stopsHeard = true := by kernel_rfl
/-- The words at the program's head, letter by letter: so they are read without the text's bytes. -/
def ioL : List Char := ([104, 97, 114, 110, 101, 115, 115, 32, 56, 101, 99, 51, 49, 100, 98, 55, 51, 50, 50, 102, 57, 49, 54, 98, 99, 48, 52, 48, 98, 53, 51, 101, 102, 52, 51, 49, 51, 57, 49, 57, 98, 56, 102, 51, 55, 50, 52, 57, 49, 50, 54, 97, 51, 48, 101, 97, 101, 100, 57, 51, 52, 48, 57, 56, 102, 101, 98, 101, 48, 50, 57, 49, 32, 99, 117, 116, 32, 97, 116, 32, 108, 111, 111, 112, 46, 101, 120, 97, 109, 112, 108, 101, 47, 103, 48, 49, 51, 57, 56, 47, 108, 97, 119, 115, 46, 70, 110, 87, 105, 100, 116, 104, 115, 32, 108, 111, 111, 112, 46, 101, 120, 97, 109, 112, 108, 101, 47, 103, 48, 49, 51, 57, 56, 47, 108, 97, 119, 115, 46, 70, 110, 87, 111, 114, 110, 32, 108, 111, 111, 112, 46, 101, 120, 97, 109, 112, 108, 101, 47, 103, 48, 49, 51, 57, 56, 47, 108, 97, 119, 115, 46, 70, 110, 70, 105, 108, 108, 101, 100, 32, 108, 111, 111, 112, 46, 101, 120, 97, 109, 112, 108, 101, 47, 103, 48, 49, 51, 57, 56, 47, 108, 97, 119, 115, 46, 70, 110, 82, 101, 99, 117, 116, 32, 108, 111, 111, 112, 46, 101, 120, 97, 109, 112, 108, 101, 47, 103, 48, 49, 51, 57, 56, 47, 108, 97, 119, 115, 46, 70, 110, 69, 120, 97, 99, 116, 82, 101, 99, 117, 116, 80, 114, 105, 99, 101] : List Nat).map Char.ofNat
theorem pf_io : Tryz.prog.initOrder = String.ofList ioL := by kernel_rfl
theorem pf_letters : Tryz.prog.initOrder.toList = ioL := by rw [pf_io]; exact String.toList_ofList
theorem pf_lifts : Tryz.prog.headLifts = [] := by unfold Program.headLifts; rw [pf_letters]; kernel_rfl
theorem pf_cut : behindMainWord (wordsSigns ioL) = [Char.ofNat 99, Char.ofNat 117, Char.ofNat 116] :: (behindMainWord (wordsSigns ioL)).tail := by kernel_rfl
theorem pf_enter : Tryz.prog.mayEnter = true := (Program.mayEnter.eq_1 _).trans (by rw [pf_letters, pf_cut]; generalize (behindMainWord (wordsSigns ioL)).tail = R; kernel_rfl)
theorem pf_lifted : (Rows.fnWidthsRow.lifted == Tryz.prog.liftsFinal) = true := by unfold Program.liftsFinal; rw [pf_letters, pf_lifts]; kernel_rfl
theorem pf_make0 : Tryz.prog.make = some .cut := (Program.make.eq_1 _).trans (by rw [pf_letters, pf_cut]; generalize (behindMainWord (wordsSigns ioL)).tail = R; kernel_rfl)
theorem pf_make : (Tryz.prog.make == some Rows.fnWidthsRow.make) = true := by rw [pf_make0]; kernel_rfl
theorem pf_stops : (Tryz.prog.stops == []) = true := by kernel_rfl
theorem pf_knobs : (Tryz.prog.stopKnobs == []) = true := by kernel_rfl
end Go.Proofs.YtngondeaeipcfaaGreatDoor
