/- What makes a face valid, as plain data: nothing of the program stands here. -/
import Derived.Test.YtikndeloeeppaaaFace0
namespace Go.Proofs.Ytikndeloeeppaaa
open Go.RowKit

def ahead (p q : Int × Int × Int) : Bool := decide (p.1 < q.1 ∨ p.1 = q.1 ∧ p.2.1 < q.2.1)
theorem ahead_true {p q : Int × Int × Int} : ahead p q = true ↔ p.1 < q.1 ∨ p.1 = q.1 ∧ p.2.1 < q.2.1 := by simp [ahead]
structure pairOk (g : Int) (p : Int × Int × Int) : Prop where
  a : cap p.1 = true
  b : cap p.2.1 = true
  by_ : inB p.2.2 (-10) 10 = true
  ne : p.2.2 ≠ 0
  sum : 0 ≤ g + p.2.2
/-- The pairs before place k are as they have to be. -/
def goodTo (g : Int) (ps : List (Int × Int × Int)) (k : Nat) : Prop :=
  ∀ i p, i < k → ps[i]? = some p → pairOk g p ∧ (∀ q, 0 < i → ps[i - 1]? = some q → ahead q p = true)
structure shape (F : Fc) : Prop where
  W : ∀ x ∈ F.W, inB x 1 40 = true
  sp : inB F.sp 1 40 = true
  gp : inB F.gp 0 10 = true
  ps : goodTo F.gp F.ps F.ps.length
noncomputable def shapeB (F : Fc) : Bool := @decide (shape F) (Classical.propDecidable _)
theorem shapeB_true {F : Fc} : shapeB F = true ↔ shape F := by simp [shapeB]
theorem shapeB_false {F : Fc} : shapeB F = false ↔ ¬ shape F := by simp [shapeB]
/-- A face is valid: its shape is, and there are not too many pairs. -/
noncomputable def vface (F : Fc) : Bool := decide (F.ps.length ≤ 12) && shapeB F
theorem vface_true {F : Fc} : vface F = true ↔ F.ps.length ≤ 12 ∧ shape F := by simp [vface, shapeB_true]

theorem goodTo_zero (g : Int) (ps : List (Int × Int × Int)) : goodTo g ps 0 := fun i _ h => absurd h (Nat.not_lt_zero i)
theorem goodTo_succ {g : Int} {ps : List (Int × Int × Int)} {k : Nat} {p : Int × Int × Int} (h : goodTo g ps k) (hp : ps[k]? = some p) (ho : pairOk g p) (ha : ∀ q, 0 < k → ps[k - 1]? = some q → ahead q p = true) : goodTo g ps (k + 1) := by
  intro i q hi hq
  by_cases e : i = k
  · subst e; rw [hp] at hq; injection hq with hq; subst hq; exact ⟨ho, ha⟩
  · exact h i q (by omega) hq
theorem not_pair {F : Fc} {k : Nat} {p : Int × Int × Int} (hp : F.ps[k]? = some p) (h : ¬ pairOk F.gp p) : shapeB F = false :=
  shapeB_false.2 fun s => h (s.ps k p (List.getElem?_eq_some_iff.1 hp).1 hp).1
theorem not_ahead {F : Fc} {k : Nat} {p q : Int × Int × Int} (hp : F.ps[k]? = some p) (h0 : 0 < k) (hq : F.ps[k - 1]? = some q) (h : ahead q p = false) : shapeB F = false :=
  shapeB_false.2 fun s => by have := (s.ps k p (List.getElem?_eq_some_iff.1 hp).1 hp).2 q h0 hq; rw [h] at this; cases this
theorem not_wide {F : Fc} {k : Nat} (hk : k < F.W.length) (h : inB (F.W.getD k 0) 1 40 = false) : shapeB F = false :=
  shapeB_false.2 fun s => by
    have := s.W (F.W.getD k 0) (by simp [List.getD, hk])
    rw [h] at this; cases this
theorem all_wide {W : List Int} (h : ∀ k, k < W.length → inB (W.getD k 0) 1 40 = true) : ∀ x ∈ W, inB x 1 40 = true := by
  intro x hx
  obtain ⟨k, hk, rfl⟩ := List.getElem_of_mem hx
  have := h k hk
  simpa [List.getD, hk] using this
theorem shape_gap {F : Fc} (h : inB F.gp 0 10 = true) : 0 ≤ F.gp ∧ F.gp ≤ 10 := inB_true.1 h
end Go.Proofs.Ytikndeloeeppaaa
