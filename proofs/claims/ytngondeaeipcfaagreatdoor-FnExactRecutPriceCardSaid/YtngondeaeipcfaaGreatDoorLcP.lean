/- Chapter 4: the most letters that two texts have in common, in their order, as plain data. -/
import Derived.Test.YtngondeaeipcfaaGreatDoorChP
namespace Go.Proofs.YtngondeaeipcfaaGreatDoor
open Go Go.RowKit

/-- The most of the first i and the first j letters. -/
def lc (a b : List UInt8) : Nat → Nat → Nat
  | 0, _ => 0
  | _ + 1, 0 => 0
  | i + 1, j + 1 => if a.getD i 0 = b.getD j 0 then max (max (lc a b i (j + 1)) (lc a b (i + 1) j)) (lc a b i j + 1) else max (lc a b i (j + 1)) (lc a b (i + 1) j)
theorem lc_zero (a b : List UInt8) (i : Nat) : lc a b i 0 = 0 := by cases i <;> simp [lc]
theorem lc_first (a b : List UInt8) (j : Nat) : lc a b 0 j = 0 := by simp [lc]
theorem lc_next (a b : List UInt8) (i j : Nat) : lc a b (i + 1) (j + 1) = if a.getD i 0 = b.getD j 0 then max (max (lc a b i (j + 1)) (lc a b (i + 1) j)) (lc a b i j + 1) else max (lc a b i (j + 1)) (lc a b (i + 1) j) := by rw [lc]
/-- One letter more makes at most one more. -/
theorem lc_step (a b : List UInt8) : ∀ n i j, i + j ≤ n → lc a b (i + 1) j ≤ lc a b i j + 1 ∧ lc a b i (j + 1) ≤ lc a b i j + 1
  | 0, i, j, h => by
    obtain rfl : i = 0 := by omega
    obtain rfl : j = 0 := by omega
    rw [lc_zero, lc_zero, lc_first]; omega
  | n + 1, i, j, h => by
    constructor
    · cases j with
      | zero => rw [lc_zero, lc_zero]; omega
      | succ j =>
        have h1 := (lc_step a b n i j (by omega)).1
        have h2 := (lc_step a b n i j (by omega)).2
        have h3 : lc a b i j ≤ lc a b i (j + 1) := by
          cases i with
          | zero => rw [lc_first]; omega
          | succ i => rw [lc_next]; split <;> omega
        rw [lc_next]
        split <;> omega
    · cases i with
      | zero => rw [lc_first, lc_first]; omega
      | succ i =>
        have h1 := (lc_step a b n i j (by omega)).1
        have h2 := (lc_step a b n i j (by omega)).2
        have h3 : lc a b i j ≤ lc a b (i + 1) j := by
          cases j with
          | zero => rw [lc_zero, lc_zero]; omega
          | succ j => rw [lc_next]; split <;> omega
        rw [lc_next]
        split <;> omega
theorem lc_same {a b : List UInt8} {i j : Nat} (h : a.getD i 0 = b.getD j 0) : lc a b (i + 1) (j + 1) = lc a b i j + 1 := by
  have h1 := (lc_step a b (i + j) i j (Nat.le_refl _)).1
  have h2 := (lc_step a b (i + j) i j (Nat.le_refl _)).2
  rw [lc_next, if_pos h]; omega
theorem lc_other {a b : List UInt8} {i j : Nat} (h : a.getD i 0 ≠ b.getD j 0) : lc a b (i + 1) (j + 1) = max (lc a b i (j + 1)) (lc a b (i + 1) j) := by
  rw [lc_next, if_neg h]
theorem lc_le (a b : List UInt8) : ∀ i j, lc a b i j ≤ i
  | 0, j => by rw [lc_first]; omega
  | i + 1, j => by
    have h1 := (lc_step a b (i + j) i j (Nat.le_refl _)).1
    have h2 := lc_le a b i j
    omega
/-- How many letters are to be cut. -/
def cutL (L M : List UInt8) : Int := ((lettL M).length : Int) - (lc (lettL L) (lettL M) (lettL L).length (lettL M).length : Nat)
noncomputable def caB (L M : List UInt8) : Bool := vtext L && vtext M
noncomputable def caV (L M : List UInt8) : Int := if caB L M = true then cutL L M else 0
noncomputable def caC (L M : List UInt8) : Int := if caB L M = true then 0 else 1
theorem ca_no {L M : List UInt8} (h : caB L M = false) : caV L M = 0 ∧ caC L M = 1 := by unfold caV caC; rw [h]; exact ⟨rfl, rfl⟩
theorem ca_ok {L M : List UInt8} (h : caB L M = true) : caV L M = cutL L M ∧ caC L M = 0 := by unfold caV caC; rw [h]; exact ⟨rfl, rfl⟩
end Go.Proofs.YtngondeaeipcfaaGreatDoor
