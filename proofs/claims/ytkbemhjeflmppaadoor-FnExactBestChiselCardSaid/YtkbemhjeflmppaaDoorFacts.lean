/- Closed facts of the whole program, asked once: no row of its own is spoken of here but for its cells that all rows share. -/
import Derived.Test.YtkbemhjeflmppaaDoorRows
import Derived.ProofKit
namespace Go.Proofs.YtkbemhjeflmppaaDoor
open Go.ChangeShapes Go.WideShapes Go.ChangeAt Go.RowKit
theorem pf_own : ownKnob Tryd.prog.godebug = none := by kernel_rfl
theorem pf_laidOut : laidOutB Tryd.prog = true := by kernel_rfl
theorem pf_maps : mapsRowed Tryd.prog = true := by kernel_rfl
theorem pf_plainKeys : (Rows.fnExactStrokesOfRow.plainKeys == Tryd.prog.plainKeys) = true := by kernel_rfl
theorem pf_heard : Tryd.prog.stopsHeard = true := by kernel_rfl
/-- The words at the program's head, letter by letter: so they are read without the text's bytes. -/
def ioL : List Char := ([104, 97, 114, 110, 101, 115, 115, 32, 50, 51, 55, 102, 98, 55, 57, 53, 52, 49, 49, 51, 53, 57, 99, 50, 50, 57, 55, 54, 49, 56, 101, 57, 53, 57, 99, 48, 54, 56, 101, 100, 98, 99, 97, 54, 55, 98, 99, 99, 48, 53, 102, 99, 57, 102, 54, 52, 54, 50, 102, 53, 99, 56, 48, 50, 49, 51, 100, 57, 53, 56, 99, 52, 32, 99, 117, 116, 32, 97, 116, 32, 108, 111, 111, 112, 46, 101, 120, 97, 109, 112, 108, 101, 47, 103, 48, 49, 51, 57, 56, 47, 108, 97, 119, 115, 46, 70, 110, 69, 120, 97, 99, 116, 83, 116, 114, 111, 107, 101, 115, 79, 102, 32, 108, 111, 111, 112, 46, 101, 120, 97, 109, 112, 108, 101, 47, 103, 48, 49, 51, 57, 56, 47, 108, 97, 119, 115, 46, 70, 110, 69, 120, 97, 99, 116, 83, 104, 97, 114, 112, 101, 110, 115, 70, 111, 114, 32, 108, 111, 111, 112, 46, 101, 120, 97, 109, 112, 108, 101, 47, 103, 48, 49, 51, 57, 56, 47, 108, 97, 119, 115, 46, 70, 110, 69, 120, 97, 99, 116, 84, 105, 109, 101, 70, 111, 114, 32, 108, 111, 111, 112, 46, 101, 120, 97, 109, 112, 108, 101, 47, 103, 48, 49, 51, 57, 56, 47, 108, 97, 119, 115, 46, 70, 110, 69, 120, 97, 99, 116, 67, 117, 116, 85, 110, 116, 105, 108, 32, 108, 111, 111, 112, 46, 101, 120, 97, 109, 112, 108, 101, 47, 103, 48, 49, 51, 57, 56, 47, 108, 97, 119, 115, 46, 70, 110, 69, 120, 97, 99, 116, 77, 105, 100, 100, 108, 101, 79, 117, 116, 32, 108, 111, 111, 112, 46, 101, 120, 97, 109, 112, 108, 101, 47, 103, 48, 49, 51, 57, 56, 47, 108, 97, 119, 115, 46, 70, 110, 69, 120, 97, 99, 116, 67, 117, 116, 73, 110, 79, 114, 100, 101, 114, 32, 108, 111, 111, 112, 46, 101, 120, 97, 109, 112, 108, 101, 47, 103, 48, 49, 51, 57, 56, 47, 108, 97, 119, 115, 46, 70, 110, 69, 120, 97, 99, 116, 66, 101, 115, 116, 67, 104, 105, 115, 101, 108, 32, 108, 111, 111, 112, 46, 101, 120, 97, 109, 112, 108, 101, 47, 103, 48, 49, 51, 57, 56, 47, 108, 97, 119, 115, 46, 70, 110, 69, 120, 97, 99, 116, 83, 116, 114, 111, 107, 101, 115, 84, 101, 120, 116, 32, 108, 111, 111, 112, 46, 101, 120, 97, 109, 112, 108, 101, 47, 103, 48, 49, 51, 57, 56, 47, 108, 97, 119, 115, 46, 70, 110, 69, 120, 97, 99, 116, 76, 101, 97, 115, 116, 84, 105, 109, 101] : List Nat).map Char.ofNat
theorem pf_io : Tryd.prog.initOrder = String.ofList ioL := by kernel_rfl
theorem pf_letters : Tryd.prog.initOrder.toList = ioL := by rw [pf_io]; exact String.toList_ofList
theorem pf_lifts : Tryd.prog.headLifts = [] := by unfold Program.headLifts; rw [pf_letters]; kernel_rfl
theorem pf_cut : behindMainWord (wordsSigns ioL) = [Char.ofNat 99, Char.ofNat 117, Char.ofNat 116] :: (behindMainWord (wordsSigns ioL)).tail := by kernel_rfl
theorem pf_enter : Tryd.prog.mayEnter = true := (Program.mayEnter.eq_1 _).trans (by rw [pf_letters, pf_cut]; generalize (behindMainWord (wordsSigns ioL)).tail = R; kernel_rfl)
theorem pf_lifted : (Rows.fnExactStrokesOfRow.lifted == Tryd.prog.liftsFinal) = true := by unfold Program.liftsFinal; rw [pf_letters, pf_lifts]; kernel_rfl
theorem pf_make0 : Tryd.prog.make = some .cut := (Program.make.eq_1 _).trans (by rw [pf_letters, pf_cut]; generalize (behindMainWord (wordsSigns ioL)).tail = R; kernel_rfl)
theorem pf_make : (Tryd.prog.make == some Rows.fnExactStrokesOfRow.make) = true := by rw [pf_make0]; kernel_rfl
theorem pf_stops : (Tryd.prog.stops == []) = true := by kernel_rfl
theorem pf_knobs : (Tryd.prog.stopKnobs == []) = true := by kernel_rfl
end Go.Proofs.YtkbemhjeflmppaaDoor
