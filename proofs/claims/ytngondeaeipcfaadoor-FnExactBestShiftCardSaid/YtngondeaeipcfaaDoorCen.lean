/- CentreLine of the model; what is left of a width beside a line. · CentreLine of the program. -/
import Derived.Test.YtngondeaeipcfaaDoorG7
import Derived.Test.YtngondeaeipcfaaDoorImplLine
import Derived.Test.YtngondeaeipcfaaDoorG6

namespace Go.Proofs.YtngondeaeipcfaaDoor
open Go Go.RowKit

/-- The code of what is left of a width beside a line, and what is left. -/
noncomputable def roomC (F : Fc) (L : List UInt8) (x : Int) : Int := if vface F = true ∧ vtext L = true then (if inB x 0 4000 = true then (if lineL F (wordsL L) ≤ x then 0 else 4) else 2) else 1
noncomputable def roomV (F : Fc) (L : List UInt8) (x : Int) : Int := if roomC F L x = 0 then x - lineL F (wordsL L) else 0
theorem room_inv {F : Fc} {L : List UInt8} (x : Int) (h : ¬ (vface F = true ∧ vtext L = true)) : roomC F L x = 1 ∧ roomV F L x = 0 ∧ askC F L (inB x 0 4000) = 1 := by
  have e : roomC F L x = 1 := by unfold roomC; rw [if_neg h]
  exact ⟨e, by unfold roomV; rw [e, if_neg (by decide)], ask_no h⟩
theorem room_range {F : Fc} {L : List UInt8} {x : Int} (h1 : vface F = true) (h2 : vtext L = true) (h : inB x 0 4000 = false) : roomC F L x = 2 ∧ roomV F L x = 0 ∧ askC F L (inB x 0 4000) = 2 := by
  have e : roomC F L x = 2 := by unfold roomC; rw [if_pos ⟨h1, h2⟩, h]; rfl
  exact ⟨e, by unfold roomV; rw [e, if_neg (by decide)], by rw [ask_ok h1 h2, h]; rfl⟩
theorem room_state {F : Fc} {L : List UInt8} {x : Int} (h1 : vface F = true) (h2 : vtext L = true) (h : inB x 0 4000 = true) (h4 : x < lineL F (wordsL L)) : roomC F L x = 4 ∧ roomV F L x = 0 ∧ askC F L (inB x 0 4000) = 0 := by
  have e : roomC F L x = 4 := by unfold roomC; rw [if_pos ⟨h1, h2⟩, if_pos h, if_neg (by omega)]
  exact ⟨e, by unfold roomV; rw [e, if_neg (by decide)], by rw [ask_ok h1 h2, h]; rfl⟩
theorem room_ok {F : Fc} {L : List UInt8} {x : Int} (h1 : vface F = true) (h2 : vtext L = true) (h : inB x 0 4000 = true) (h4 : lineL F (wordsL L) ≤ x) : roomC F L x = 0 ∧ roomV F L x = x - lineL F (wordsL L) ∧ askC F L (inB x 0 4000) = 0 := by
  have e : roomC F L x = 0 := by unfold roomC; rw [if_pos ⟨h1, h2⟩, if_pos h, if_pos h4]
  exact ⟨e, by unfold roomV; rw [e, if_pos rfl], by rw [ask_ok h1 h2, h]; rfl⟩
theorem room_bd {F : Fc} (hF : F.ok) (L : List UInt8) (x : Int) : 0 ≤ roomV F L x ∧ roomV F L x ≤ 4000 := by
  unfold roomV
  split
  · rename_i h
    unfold roomC at h
    split at h
    · rename_i hv
      split at h
      · rename_i hx
        split at h
        · have h3 := inB_true.1 hx
          have := lineTo_bd hF hv.1 (fun y hy => words_mem hv.2 hy) _ (Nat.le_refl _)
          unfold lineL at *
          omega
        · cases h
      · cases h
    · cases h
  · omega

end Go.Proofs.YtngondeaeipcfaaDoor

namespace Go.Proofs.YtngondeaeipcfaaDoor
open Go.RowKit

end Go.Proofs.YtngondeaeipcfaaDoor
