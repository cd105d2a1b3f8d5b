/- Strokes and chisels: their copies in the program's own types, and whether they are as they have to be. -/
import Derived.Test.YtngondeaeipcfaaGreatDoorChP
import Derived.Test.YtngondeaeipcfaaGreatDoorArrEq
import Derived.LoopTactic
namespace Go.Proofs.YtngondeaeipcfaaGreatDoor
open Go.RowKit

/-- The model: strokes at an address. -/
theorem wc_at {S : List Int} (hx : ∀ x ∈ S, i8ok x) (k : Nat) : -128 ≤ S.getD k 0 ∧ S.getD k 0 ≤ 127 := by
  by_cases h : k < S.length
  · rw [List.getD_eq_getElem?_getD, List.getElem?_eq_getElem h, Option.getD_some]; exact hx _ (List.getElem_mem h)
  · rw [List.getD_eq_getElem?_getD, List.getElem?_eq_none (by omega)]; exact ⟨by decide, by decide⟩
end Go.Proofs.YtngondeaeipcfaaGreatDoor
