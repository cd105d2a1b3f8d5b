/- What makes a word, as plain data. -/
import Derived.Test.YtikndeloeeppaaaWideP
import Derived.Lib.IndexLaws
namespace Go.Proofs.Ytikndeloeeppaaa
open Go.RowKit

def hasBlank (L : List UInt8) : Bool := decide (0 ≤ Lib.indexByte L 32)
theorem byteAt_32 {L : List UInt8} {k : Nat} : L[k]? = some 32 ↔ k < L.length ∧ byteAt L k = 32 := by
  unfold byteAt
  by_cases h : k < L.length
  · rw [List.getD_eq_getElem?_getD, List.getElem?_eq_getElem h]
    simp only [Option.some.injEq, Option.getD_some, h, true_and]
    constructor
    · intro e; rw [e]; rfl
    · intro e
      apply UInt8.toNat_inj.1
      have : (L[k].toNat : Int) = 32 := e
      have h32 : (32 : UInt8).toNat = 32 := rfl
      omega
  · simp [h]
theorem hasBlank_true {L : List UInt8} : hasBlank L = true ↔ ∃ k, k < L.length ∧ byteAt L k = 32 := by
  unfold hasBlank
  have hge := Lib.indexByte_ge L 32
  constructor
  · intro h
    obtain ⟨n, hn⟩ : ∃ n : Nat, Lib.indexByte L 32 = n := ⟨(Lib.indexByte L 32).toNat, by have := of_decide_eq_true h; omega⟩
    exact ⟨n, byteAt_32.1 (Lib.indexByte_some hn).1⟩
  · rintro ⟨k, hk⟩
    apply decide_eq_true
    by_cases e : Lib.indexByte L 32 = -1
    · exact ((Lib.indexByte_none e k) (byteAt_32.2 hk)).elim
    · omega
noncomputable def vword (L : List UInt8) : Bool := @decide (0 < L.length ∧ L.length ≤ 60 ∧ allCap L) (Classical.propDecidable _)
theorem vword_true {L : List UInt8} : vword L = true ↔ 0 < L.length ∧ L.length ≤ 60 ∧ allCap L := by simp [vword]
theorem vword_false {L : List UInt8} : vword L = false ↔ ¬ (0 < L.length ∧ L.length ≤ 60 ∧ allCap L) := by simp [vword]
/-- The program's way to say it. -/
theorem vword_impl (L : List UInt8) : vword L = (decide (0 < L.length) && (!hasBlank L && vtext L)) := by
  rw [Bool.eq_iff_iff, vword_true]
  simp only [Bool.and_eq_true, decide_eq_true_eq, Bool.not_eq_true', vtext_true]
  constructor
  · rintro ⟨h1, h2, h3⟩
    refine ⟨h1, ?_, h2, fun i hi => .inr (h3 i hi)⟩
    cases e : hasBlank L
    · rfl
    · obtain ⟨k, hk, hb⟩ := hasBlank_true.1 e
      have := h3 k hk
      rw [cap_32 hb] at this; cases this
  · rintro ⟨h1, h2, h3, h4⟩
    refine ⟨h1, h3, fun i hi => ?_⟩
    rcases h4 i hi with ⟨hb, _⟩ | h
    · rw [hasBlank_true.2 ⟨i, hi, hb⟩] at h2; cases h2
    · exact h
/-- The model's way to say it. -/
noncomputable def capsB (L : List UInt8) : Bool := @decide (0 < L.length ∧ allCap L) (Classical.propDecidable _)
theorem capsB_true {L : List UInt8} : capsB L = true ↔ 0 < L.length ∧ allCap L := by simp [capsB]
theorem capsB_false {L : List UInt8} : capsB L = false ↔ ¬ (0 < L.length ∧ allCap L) := by simp [capsB]
theorem vword_spec (L : List UInt8) : vword L = (vtext L && capsB L) := by
  rw [Bool.eq_iff_iff, vword_true]
  simp only [Bool.and_eq_true, vtext_true, capsB_true]
  exact ⟨fun ⟨h1, h2, h3⟩ => ⟨⟨h2, fun i hi => .inr (h3 i hi)⟩, h1, h3⟩, fun ⟨⟨h2, _⟩, h1, h3⟩ => ⟨h1, h2, h3⟩⟩
end Go.Proofs.Ytikndeloeeppaaa
