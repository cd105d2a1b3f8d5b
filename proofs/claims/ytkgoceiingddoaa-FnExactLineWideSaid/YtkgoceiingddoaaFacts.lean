/- Closed facts of the whole program, asked once: no row of its own is spoken of here but for its cells that all rows share. -/
import Derived.Test.YtkgoceiingddoaaRows
import Derived.ProofKit
namespace Go.Proofs.Ytkgoceiingddoaa
open Go.ChangeShapes Go.WideShapes Go.ChangeAt Go.RowKit
theorem pf_own : ownKnob Try.prog.godebug = none := by kernel_rfl
theorem pf_laidOut : laidOutB Try.prog = true := by kernel_rfl
theorem pf_maps : mapsRowed Try.prog = true := by kernel_rfl
theorem pf_plainKeys : (true == Try.prog.plainKeys) = true := by kernel_rfl
theorem pf_heard : Try.prog.stopsHeard = true := by kernel_rfl
theorem pf_great : (Try.prog.mayEnter && (Rows.fnExactCodeNameRow.lifted == Try.prog.liftsFinal) && (Try.prog.make == some Rows.fnExactCodeNameRow.make)) = true := by kernel_rfl
theorem pf_enter : Try.prog.mayEnter = true := by have h := pf_great; simp only [Bool.and_eq_true] at h; exact h.1.1
theorem pf_lifted : (Rows.fnExactCodeNameRow.lifted == Try.prog.liftsFinal) = true := by have h := pf_great; simp only [Bool.and_eq_true] at h; exact h.1.2
theorem pf_make : (Try.prog.make == some Rows.fnExactCodeNameRow.make) = true := by have h := pf_great; simp only [Bool.and_eq_true] at h; exact h.2
theorem pf_stops : (Try.prog.stops == []) = true := by kernel_rfl
theorem pf_knobs : (Try.prog.stopKnobs == []) = true := by kernel_rfl
end Go.Proofs.Ytkgoceiingddoaa
