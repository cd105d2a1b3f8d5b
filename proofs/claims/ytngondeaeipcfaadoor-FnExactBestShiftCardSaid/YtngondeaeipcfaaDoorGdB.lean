/- Prices: whether they are as they have to be, of both. -/
import Derived.Test.YtngondeaeipcfaaDoorGdA
import Derived.Test.YtngondeaeipcfaaDoorGs
import Derived.LoopTactic
namespace Go.Proofs.YtngondeaeipcfaaDoor
open Go Go.RowKit

/-! The model -/
/-- One number brought into its bounds. -/
def clmq (x : Int) : Int := min (max x 0) 1000
def clQ (S : List Int) (k : Nat) : List Int := (S.take k).map clmq ++ S.drop k
theorem clQ_len {S : List Int} (h : S.length = 26) (k : Nat) : (clQ S k).length = 26 := by simp [clQ]; omega
theorem clQ_zero (S : List Int) : clQ S 0 = S := by simp [clQ]
theorem clQ_succ {S : List Int} (h : S.length = 26) {k : Nat} (hk : k < 26) : (clQ S k).set k (clmq (S.getD k 0)) = clQ S (k + 1) := by
  apply List.ext_getElem
  · rw [List.length_set, clQ_len h, clQ_len h]
  · intro i h1 h2
    have hi : i < 26 := by rw [clQ_len h] at h2; exact h2
    simp only [clQ, List.getElem_set, List.getElem_append, List.length_map, List.length_take, List.getElem_map, List.getElem_take, List.getElem_drop, h]
    by_cases e : k = i
    · subst e
      have : k < min (k + 1) 26 := by omega
      simp [this, List.getD, h, hk]
    · rw [if_neg e]
      by_cases h3 : i < min k 26
      · have : i < min (k + 1) 26 := by omega
        simp [h3, this]
      · have h4 : ¬ i < min (k + 1) 26 := by omega
        simp only [h3, h4, dite_false]
        congr 1
        omega
/-- Prices of letters are as they have to be. -/
def vpl (T : List Int) : Bool := T.all (fun x => inB x 0 1000)
theorem vpl_at {W : List Int} (h : vpl W = true) (hW : W.length = 26) {k : Nat} (hk : k < 26) : 0 ≤ W.getD k 0 ∧ W.getD k 0 ≤ 1000 := vprc_at h (by omega)
theorem vpl_true {W : List Int} (hW : W.length = 26) (h : ∀ k, k < 26 → inB (W.getD k 0) 0 1000 = true) : vpl W = true := vprc_true hW h
theorem clQ_eq {S : List Int} (h : S.length = 26) : decide (S = clQ S 26) = vpl S := by
  rw [Bool.eq_iff_iff, decide_eq_true_iff]
  have e : clQ S 26 = S.map clmq := by simp [clQ, ← h]
  rw [e]
  constructor
  · intro hS
    refine vpl_true h fun k hk => inB_true.2 ?_
    have : S.getD k 0 = clmq (S.getD k 0) := by
      have h1 : S[k]? = (S.map clmq)[k]? := by rw [← hS]
      rw [List.getElem?_map, List.getElem?_eq_getElem (by omega)] at h1
      simp only [Option.map_some, Option.some.injEq] at h1
      rw [List.getD_eq_getElem?_getD, List.getElem?_eq_getElem (by omega), Option.getD_some]
      exact h1
    unfold clmq at this
    omega
  · intro hv
    apply List.ext_getElem
    · simp
    · intro i h1 h2
      have hb := vpl_at hv h (k := i) (by omega)
      rw [List.getD_eq_getElem?_getD, List.getElem?_eq_getElem h1, Option.getD_some] at hb
      rw [List.getElem_map]
      unfold clmq
      omega

theorem vprc_split {P : List Int} (h : P.length = 29) : vprc P = (vpl (P.take 26) && vprc [P.getD 26 0, P.getD 27 0, P.getD 28 0]) := by
  conv => lhs; rw [p29 h]
  unfold vprc vpl
  rw [List.all_append]

end Go.Proofs.YtngondeaeipcfaaDoor
