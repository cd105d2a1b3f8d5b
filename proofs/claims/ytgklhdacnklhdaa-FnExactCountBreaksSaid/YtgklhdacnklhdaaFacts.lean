/- Closed facts of the whole program, asked once: no row of its own is spoken of here but for its cells that all rows share. -/
import Derived.Test.YtgklhdacnklhdaaRows
import Derived.ProofKit
namespace Go.Proofs.Ytgklhdacnklhdaa
open Go.ChangeShapes Go.WideShapes Go.ChangeAt Go.RowKit
theorem pf_own : ownKnob Try.prog.godebug = none := by kernel_rfl
theorem pf_laidOut : laidOutB Try.prog = true := by kernel_rfl
theorem pf_maps : mapsRowed Try.prog = true := by kernel_rfl
theorem pf_plainKeys : (Rows.fnExactWithPairRow.plainKeys == Try.prog.plainKeys) = true := by kernel_rfl
theorem pf_heard : Try.prog.stopsHeard = true := by kernel_rfl
/-- The words at the program's head, letter by letter: so they are read without the text's bytes. -/
def ioL : List Char := ([104, 97, 114, 110, 101, 115, 115, 32, 102, 50, 102, 48, 100, 102, 51, 49, 98, 49, 50, 51, 49, 100, 56, 48, 57, 52, 54, 97, 102, 50, 55, 50, 57, 55, 101, 100, 55, 55, 56, 100, 99, 57, 98, 54, 54, 54, 100, 100, 51, 55, 52, 52, 101, 54, 52, 100, 48, 49, 48, 52, 102, 102, 56, 97, 101, 102, 100, 97, 97, 50, 48, 53, 32, 99, 117, 116, 32, 97, 116, 32, 108, 111, 111, 112, 46, 101, 120, 97, 109, 112, 108, 101, 47, 103, 48, 49, 51, 57, 56, 47, 108, 97, 119, 115, 46, 70, 110, 69, 120, 97, 99, 116, 87, 105, 116, 104, 80, 97, 105, 114, 32, 108, 111, 111, 112, 46, 101, 120, 97, 109, 112, 108, 101, 47, 103, 48, 49, 51, 57, 56, 47, 108, 97, 119, 115, 46, 70, 110, 69, 120, 97, 99, 116, 66, 101, 115, 116, 66, 114, 101, 97, 107, 115, 32, 108, 111, 111, 112, 46, 101, 120, 97, 109, 112, 108, 101, 47, 103, 48, 49, 51, 57, 56, 47, 108, 97, 119, 115, 46, 70, 110, 69, 120, 97, 99, 116, 67, 111, 117, 110, 116, 66, 114, 101, 97, 107, 115, 32, 108, 111, 111, 112, 46, 101, 120, 97, 109, 112, 108, 101, 47, 103, 48, 49, 51, 57, 56, 47, 108, 97, 119, 115, 46, 70, 110, 69, 120, 97, 99, 116, 76, 101, 110, 103, 116, 104, 101, 110, 65, 108, 108, 32, 108, 111, 111, 112, 46, 101, 120, 97, 109, 112, 108, 101, 47, 103, 48, 49, 51, 57, 56, 47, 108, 97, 119, 115, 46, 70, 110, 69, 120, 97, 99, 116, 86, 97, 108, 105, 100, 83, 121, 115, 116, 101, 109, 32, 108, 111, 111, 112, 46, 101, 120, 97, 109, 112, 108, 101, 47, 103, 48, 49, 51, 57, 56, 47, 108, 97, 119, 115, 46, 70, 110, 69, 120, 97, 99, 116, 83, 97, 109, 101, 83, 121, 115, 116, 101, 109, 32, 108, 111, 111, 112, 46, 101, 120, 97, 109, 112, 108, 101, 47, 103, 48, 49, 51, 57, 56, 47, 108, 97, 119, 115, 46, 70, 110, 69, 120, 97, 99, 116, 79, 108, 100, 83, 121, 115, 116, 101, 109, 32, 108, 111, 111, 112, 46, 101, 120, 97, 109, 112, 108, 101, 47, 103, 48, 49, 51, 57, 56, 47, 108, 97, 119, 115, 46, 70, 110, 69, 120, 97, 99, 116, 80, 108, 97, 105, 110, 83, 121, 115, 116, 101, 109, 32, 108, 111, 111, 112, 46, 101, 120, 97, 109, 112, 108, 101, 47, 103, 48, 49, 51, 57, 56, 47, 108, 97, 119, 115, 46, 70, 110, 69, 120, 97, 99, 116, 71, 114, 101, 101, 100, 121, 70, 111, 114, 32, 108, 111, 111, 112, 46, 101, 120, 97, 109, 112, 108, 101, 47, 103, 48, 49, 51, 57, 56, 47, 108, 97, 119, 115, 46, 70, 110, 69, 120, 97, 99, 116, 71, 114, 101, 97, 116, 101, 115, 116, 79, 102, 32, 108, 111, 111, 112, 46, 101, 120, 97, 109, 112, 108, 101, 47, 103, 48, 49, 51, 57, 56, 47, 108, 97, 119, 115, 46, 70, 110, 69, 120, 97, 99, 116, 67, 111, 117, 110, 116, 82, 105, 103, 104, 116] : List Nat).map Char.ofNat
theorem pf_io : Try.prog.initOrder = String.ofList ioL := by kernel_rfl
theorem pf_letters : Try.prog.initOrder.toList = ioL := by rw [pf_io]; exact String.toList_ofList
theorem pf_lifts : Try.prog.headLifts = [] := by unfold Program.headLifts; rw [pf_letters]; kernel_rfl
theorem pf_cut : behindMainWord (wordsSigns ioL) = [Char.ofNat 99, Char.ofNat 117, Char.ofNat 116] :: (behindMainWord (wordsSigns ioL)).tail := by kernel_rfl
theorem pf_enter : Try.prog.mayEnter = true := (Program.mayEnter.eq_1 _).trans (by rw [pf_letters, pf_cut]; generalize (behindMainWord (wordsSigns ioL)).tail = R; kernel_rfl)
theorem pf_lifted : (Rows.fnExactWithPairRow.lifted == Try.prog.liftsFinal) = true := by unfold Program.liftsFinal; rw [pf_letters, pf_lifts]; kernel_rfl
theorem pf_make0 : Try.prog.make = some .cut := (Program.make.eq_1 _).trans (by rw [pf_letters, pf_cut]; generalize (behindMainWord (wordsSigns ioL)).tail = R; kernel_rfl)
theorem pf_make : (Try.prog.make == some Rows.fnExactWithPairRow.make) = true := by rw [pf_make0]; kernel_rfl
theorem pf_stops : (Try.prog.stops == []) = true := by kernel_rfl
theorem pf_knobs : (Try.prog.stopKnobs == []) = true := by kernel_rfl
end Go.Proofs.Ytgklhdacnklhdaa
