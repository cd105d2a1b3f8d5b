/- GreedyBreaks and FewestLines of the program. -/
import Derived.Test.YtjgcadohjccfaaaGreedyW
namespace Go.Proofs.Ytjgcadohjccfaaa
open Go Go.RowKit

noncomputable def gbX (F : Fc) (L : List UInt8) (x : Int) : List Int := if fdC F L x = 0 then greedyL F (wordsL L) x else []
noncomputable def flV (F : Fc) (L : List UInt8) (x : Int) : Int := if fdC F L x = 0 then ((greedyL F (wordsL L) x).length : Int) + 1 else 0
theorem fd_no {F : Fc} {L : List UInt8} {x : Int} (h : askC F L (inB x 0 4000) ≠ 0) : fdC F L x = askC F L (inB x 0 4000) ∧ gbX F L x = [] ∧ flV F L x = 0 := by
  have e : fdC F L x = askC F L (inB x 0 4000) := by unfold fdC; rw [if_neg h]
  exact ⟨e, by unfold gbX; rw [e, if_neg h], by unfold flV; rw [e, if_neg h]⟩
theorem fd_wide {F : Fc} {L : List UInt8} {x : Int} (h : askC F L (inB x 0 4000) = 0) (h2 : fitB F (wordsL L) x = false) : fdC F L x = 6 ∧ gbX F L x = [] ∧ flV F L x = 0 := by
  have e : fdC F L x = 6 := by unfold fdC; rw [if_pos h, h2]; rfl
  exact ⟨e, by unfold gbX; rw [e, if_neg (by decide)], by unfold flV; rw [e, if_neg (by decide)]⟩
theorem fd_ok {F : Fc} {L : List UInt8} {x : Int} (h : askC F L (inB x 0 4000) = 0) (h2 : fitB F (wordsL L) x = true) : fdC F L x = 0 ∧ gbX F L x = greedyL F (wordsL L) x ∧ flV F L x = ((greedyL F (wordsL L) x).length : Int) + 1 := by
  have e : fdC F L x = 0 := by unfold fdC; rw [if_pos h, if_pos h2]
  exact ⟨e, by unfold gbX; rw [e, if_pos rfl], by unfold flV; rw [e, if_pos rfl]⟩
theorem greedyL_len (F : Fc) (ws : List (List UInt8)) (x : Int) : (greedyL F ws x).length ≤ ws.length := (gTo_bd F ws x ws.length).2
theorem gbX_len (F : Fc) (L : List UInt8) (x : Int) : (gbX F L x).length ≤ 1048577 := by
  unfold gbX
  split
  · rename_i h
    have hk : askC F L (inB x 0 4000) = 0 := by
      by_cases h0 : askC F L (inB x 0 4000) = 0
      · exact h0
      · unfold fdC at h; rw [if_neg h0] at h; exact h
    rcases ask_cases F L x with ⟨_, ht, _, _⟩ | ⟨h1, _⟩ | ⟨h1, _⟩
    · have := greedyL_len F (wordsL L) x; have := words_len ht; omega
    · rw [h1] at hk; cases hk
    · rw [h1] at hk; cases hk
  · simp

end Go.Proofs.Ytjgcadohjccfaaa
