/- The program's lists of numbers: all indices of a list, and those for which something holds. -/
import Derived.Test.YtngondeaeipcfaaDoorIvB
import Derived.Test.YtngondeaeipcfaaDoorWr
namespace Go.Proofs.YtngondeaeipcfaaDoor
open Go.RowKit

/-- The first n indices. -/
def idxL (n : Nat) : List Int := (List.range n).map (fun (i : Nat) => (i : Int))
theorem idxL_len (n : Nat) : (idxL n).length = n := by simp [idxL]
theorem idxL_get {n k : Nat} (h : k < n) : (idxL n)[k]? = some (k : Int) := by simp [idxL, List.getElem?_range h]
theorem idxL_mem {n : Nat} {x : Int} (h : x ∈ idxL n) : ∃ k : Nat, k < n ∧ x = k := by
  obtain ⟨k, hk, rfl⟩ := List.mem_map.1 h
  exact ⟨k, List.mem_range.1 hk, rfl⟩
/-- A list of numbers comes back. -/
def IntsB (R : List Int) (w : World) : Ending → World → Prop := fun e w' => ∃ A' c', e = .returned (.slice A' R.length c') ∧ R.length ≤ c' ∧ IntsIn w' w.heap.size A' R ∧ Below w.heap.size w w'

end Go.Proofs.YtngondeaeipcfaaDoor
