/- Greedy breaks: the program's. -/
import Derived.Test.YtjgcadohjccfaaaMeasW
namespace Go.Proofs.Ytjgcadohjccfaaa
open Go Go.RowKit

theorem gTo_next {F : Fc} {ws : List (List UInt8)} {x : Int} {k : Nat} (h1 : (gTo F ws x k).1 < k) (h2 : x < lineL F (seg ws (gTo F ws x k).1 (k + 1))) : gTo F ws x (k + 1) = (k, (gTo F ws x k).2 ++ [(k : Int)]) := by
  rw [gTo, if_pos ⟨h1, h2⟩]
theorem gTo_same {F : Fc} {ws : List (List UInt8)} {x : Int} {k : Nat} (h : ¬ ((gTo F ws x k).1 < k ∧ x < lineL F (seg ws (gTo F ws x k).1 (k + 1)))) : gTo F ws x (k + 1) = gTo F ws x k := by
  rw [gTo, if_neg h]

/-- Numbers come back, in memory of the call's own. -/
def IntsRet (xs : List Int) (w : World) : Ending → World → Prop := fun e w' =>
  ∃ A c, e = .returned (.slice A xs.length c) ∧ IntsIn w' w.heap.size A xs ∧ Below w.heap.size w w'

end Go.Proofs.Ytjgcadohjccfaaa
