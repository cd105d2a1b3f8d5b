/- Gold for a line: the widths of its letters. -/
import Derived.Test.YtngondeaeipcfaaDoorGoA
import Derived.Test.YtngondeaeipcfaaDoorGdB
namespace Go.Proofs.YtngondeaeipcfaaDoor
open Go Go.RowKit

theorem map_add0 (R : List Int) : R.map (fun x => x + 0) = R := by
  have : (fun x : Int => x + 0) = id := by funext x; simp
  rw [this, List.map_id]
noncomputable def glB (F : Fc) (L : List UInt8) : Bool := vface F && vtext L
noncomputable def glC (F : Fc) (L : List UInt8) : Int := if glB F L = true then 0 else 1
noncomputable def glR (F : Fc) (L : List UInt8) : List Int := if glB F L = true then lwL F L else []
theorem gl_no {F : Fc} {L : List UInt8} (h : glB F L = false) : glC F L = 1 ∧ glR F L = [] := by unfold glC glR; rw [h]; exact ⟨rfl, rfl⟩
theorem gl_ok {F : Fc} {L : List UInt8} (h : glB F L = true) : glC F L = 0 ∧ glR F L = lwL F L := by unfold glC glR; rw [h]; exact ⟨rfl, rfl⟩
theorem gl_parts {F : Fc} {L : List UInt8} (h : glB F L = true) : vface F = true ∧ vtext L = true := by
  unfold glB at h; simpa only [Bool.and_eq_true] using h

end Go.Proofs.YtngondeaeipcfaaDoor
