/- Closed facts of the whole program, asked once: no row of its own is spoken of here but for its cells that all rows share. -/
import Derived.Test.YtnanminbnfgcfaaDoorRows
import Derived.ProofKit
namespace Go.Proofs.YtnanminbnfgcfaaDoor
open Go.ChangeShapes Go.WideShapes Go.ChangeAt Go.RowKit
theorem pf_own : ownKnob Tryd.prog.godebug = none := by kernel_rfl
theorem pf_laidOut : laidOutB Tryd.prog = true := by kernel_rfl
theorem pf_maps : mapsRowed Tryd.prog = true := by kernel_rfl
theorem pf_plainKeys : (Rows.fnExactLetterAtRow.plainKeys == Tryd.prog.plainKeys) = true := by kernel_rfl
theorem pf_heard : Tryd.prog.stopsHeard = true := by kernel_rfl
/-- The words at the program's head, letter by letter: so they are read without the text's bytes. -/
def ioL : List Char := ([104, 97, 114, 110, 101, 115, 115, 32, 98, 52, 102, 102, 97, 51, 54, 51, 101, 52, 49, 49, 57, 99, 55, 55, 100, 52, 52, 52, 98, 100, 49, 97, 50, 56, 97, 54, 52, 101, 49, 52, 49, 49, 51, 53, 57, 55, 50, 50, 102, 100, 100, 101, 99, 56, 51, 55, 97, 49, 57, 55, 100, 56, 51, 98, 52, 99, 56, 50, 54, 102, 50, 49, 32, 99, 117, 116, 32, 97, 116, 32, 108, 111, 111, 112, 46, 101, 120, 97, 109, 112, 108, 101, 47, 103, 48, 49, 51, 57, 56, 47, 108, 97, 119, 115, 46, 70, 110, 69, 120, 97, 99, 116, 76, 101, 116, 116, 101, 114, 65, 116, 32, 108, 111, 111, 112, 46, 101, 120, 97, 109, 112, 108, 101, 47, 103, 48, 49, 51, 57, 56, 47, 108, 97, 119, 115, 46, 70, 110, 69, 120, 97, 99, 116, 67, 111, 117, 110, 116, 76, 101, 116, 116, 101, 114, 115, 32, 108, 111, 111, 112, 46, 101, 120, 97, 109, 112, 108, 101, 47, 103, 48, 49, 51, 57, 56, 47, 108, 97, 119, 115, 46, 70, 110, 69, 120, 97, 99, 116, 67, 117, 116, 65, 103, 97, 105, 110, 32, 108, 111, 111, 112, 46, 101, 120, 97, 109, 112, 108, 101, 47, 103, 48, 49, 51, 57, 56, 47, 108, 97, 119, 115, 46, 70, 110, 69, 120, 97, 99, 116, 66, 101, 115, 116, 83, 116, 111, 110, 101] : List Nat).map Char.ofNat
theorem pf_io : Tryd.prog.initOrder = String.ofList ioL := by kernel_rfl
theorem pf_letters : Tryd.prog.initOrder.toList = ioL := by rw [pf_io]; exact String.toList_ofList
theorem pf_lifts : Tryd.prog.headLifts = [] := by unfold Program.headLifts; rw [pf_letters]; kernel_rfl
theorem pf_cut : behindMainWord (wordsSigns ioL) = [Char.ofNat 99, Char.ofNat 117, Char.ofNat 116] :: (behindMainWord (wordsSigns ioL)).tail := by kernel_rfl
theorem pf_enter : Tryd.prog.mayEnter = true := (Program.mayEnter.eq_1 _).trans (by rw [pf_letters, pf_cut]; generalize (behindMainWord (wordsSigns ioL)).tail = R; kernel_rfl)
theorem pf_lifted : (Rows.fnExactLetterAtRow.lifted == Tryd.prog.liftsFinal) = true := by unfold Program.liftsFinal; rw [pf_letters, pf_lifts]; kernel_rfl
theorem pf_make0 : Tryd.prog.make = some .cut := (Program.make.eq_1 _).trans (by rw [pf_letters, pf_cut]; generalize (behindMainWord (wordsSigns ioL)).tail = R; kernel_rfl)
theorem pf_make : (Tryd.prog.make == some Rows.fnExactLetterAtRow.make) = true := by rw [pf_make0]; kernel_rfl
theorem pf_stops : (Tryd.prog.stops == []) = true := by kernel_rfl
theorem pf_knobs : (Tryd.prog.stopKnobs == []) = true := by kernel_rfl
end Go.Proofs.YtnanminbnfgcfaaDoor
