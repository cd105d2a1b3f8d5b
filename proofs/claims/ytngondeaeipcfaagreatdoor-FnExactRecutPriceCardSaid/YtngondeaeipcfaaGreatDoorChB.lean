/- Strokes of the program: brought into their bounds, and whether they are as they have to be. -/
import Derived.Test.YtngondeaeipcfaaGreatDoorChA
namespace Go.Proofs.YtngondeaeipcfaaGreatDoor
open Go.RowKit

/-- One number brought into its bounds. -/
def clmp (x : Int) : Int := min (max x 1) 30
def clT (S : List Int) (k : Nat) : List Int := (S.take k).map clmp ++ S.drop k
theorem clT_len {S : List Int} (h : S.length = 26) (k : Nat) : (clT S k).length = 26 := by simp [clT]; omega
theorem clT_zero (S : List Int) : clT S 0 = S := by simp [clT]
theorem clT_succ {S : List Int} (h : S.length = 26) {k : Nat} (hk : k < 26) : (clT S k).set k (clmp (S.getD k 0)) = clT S (k + 1) := by
  apply List.ext_getElem
  · rw [List.length_set, clT_len h, clT_len h]
  · intro i h1 h2
    have hi : i < 26 := by rw [clT_len h] at h2; exact h2
    simp only [clT, List.getElem_set, List.getElem_append, List.length_map, List.length_take, List.getElem_map, List.getElem_take, List.getElem_drop, h]
    by_cases e : k = i
    · subst e
      have : k < min (k + 1) 26 := by omega
      simp [this, List.getD, h, hk]
    · rw [if_neg e]
      by_cases h3 : i < min k 26
      · have : i < min (k + 1) 26 := by omega
        simp [h3, this]
      · have h4 : ¬ i < min (k + 1) 26 := by omega
        simp only [h3, h4, dite_false]
        congr 1
        omega
theorem clT_eq {S : List Int} (h : S.length = 26) : decide (S = clT S 26) = vstr S := by
  rw [Bool.eq_iff_iff, decide_eq_true_iff]
  have e : clT S 26 = S.map clmp := by simp [clT, ← h]
  rw [e]
  constructor
  · intro hS
    refine vstr_true h fun k hk => inB_true.2 ?_
    have : S.getD k 0 = clmp (S.getD k 0) := by
      have h1 : S[k]? = (S.map clmp)[k]? := by rw [← hS]
      rw [List.getElem?_map, List.getElem?_eq_getElem (by omega)] at h1
      simp only [Option.map_some, Option.some.injEq] at h1
      rw [List.getD_eq_getElem?_getD, List.getElem?_eq_getElem (by omega), Option.getD_some]
      exact h1
    unfold clmp at this
    omega
  · intro hv
    apply List.ext_getElem
    · simp
    · intro i h1 h2
      have hb := vstr_at hv h (k := i) (by omega)
      rw [List.getD_eq_getElem?_getD, List.getElem?_eq_getElem h1, Option.getD_some] at hb
      rw [List.getElem_map]
      unfold clmp
      omega

end Go.Proofs.YtngondeaeipcfaaGreatDoor
