/- A line in which something is missing: the program's tests of it. -/
import Derived.Test.YtngondeaeipcfaaDoorGs
import Derived.Test.YtngondeaeipcfaaDoorFlP
import Derived.Test.YtngondeaeipcfaaDoorIvB
import Derived.Test.YtngondeaeipcfaaDoorIvTh
import Derived.Test.YtngondeaeipcfaaDoorCen
namespace Go.Proofs.YtngondeaeipcfaaDoor
open Go.RowKit


theorem line_kind (b : Int) : (kindN b != 2) = lineC b := by
  unfold kindN lineC
  cases h : cap b
  · by_cases e : b = 32
    · subst e; rfl
    · have : (b == 32) = false := by simpa using e
      rw [this]; simp [e]
  · rfl
/-- The cells of a broken line. -/
def blc (F : Fc) (sl : Value) (l r : ByteArray) (x y : Int) : List Value := fc F sl ++ [.string l, .string r, .int .i64 x, .int .i64 y]
theorem blc_len {F : Fc} (h : F.W.length = 26) (sl : Value) (l r : ByteArray) (x y : Int) : (blc F sl l r x y).length = 33 := by simp [blc, fc_length h]
theorem blc_at {F : Fc} (h : F.W.length = 26) (sl : Value) (l r : ByteArray) (x y : Int) : (blc F sl l r x y)[29]? = some (.string l) ∧ (blc F sl l r x y)[30]? = some (.string r) ∧ (blc F sl l r x y)[31]? = some (.int .i64 x) ∧ (blc F sl l r x y)[32]? = some (.int .i64 y) := by
  have hf := fc_length h sl
  unfold blc
  refine ⟨?_, ?_, ?_, ?_⟩ <;> (rw [List.getElem?_append_right (by rw [hf]; omega), hf]; rfl)

end Go.Proofs.YtngondeaeipcfaaDoor
