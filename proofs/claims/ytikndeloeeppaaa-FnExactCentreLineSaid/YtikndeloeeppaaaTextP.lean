/- What makes a text valid, as plain data. -/
import Derived.Test.YtikndeloeeppaaaBase
namespace Go.Proofs.Ytikndeloeeppaaa
open Go.RowKit

def byteAt (L : List UInt8) (k : Nat) : Int := ((L.getD k 0).toNat : Int)
theorem byteAt_bd (L : List UInt8) (k : Nat) : 0 ≤ byteAt L k ∧ byteAt L k ≤ 255 := by
  unfold byteAt
  have := (L.getD k 0).toNat_lt
  omega
theorem byteAt_get (s : ByteArray) (k : Nat) (h : k < s.size) : (s[k].toNat : Int) = byteAt s.data.toList k := by
  have h' : k < s.data.toList.length := by simpa using h
  unfold byteAt
  simp only [List.getD_eq_getElem?_getD, List.getElem?_eq_getElem h', Option.getD_some]
  rfl
theorem toList_nil {s : ByteArray} (h : s.size = 0) : s.toList = [] := by
  rw [ByteArray.toList_eq]
  exact List.length_eq_zero_iff.1 (by rw [← h]; simp)
theorem toList_cons {s : ByteArray} (h : ¬ s.size = 0) : s.toList.isEmpty = false := by
  rw [ByteArray.toList_eq]
  cases e : s.data.toList with
  | nil => exact (h (by have : s.data.toList.length = 0 := by rw [e]; rfl
                        rw [← this]; simp)).elim
  | cons a l => rfl
/-- The byte at place i is as it has to be. -/
def good (L : List UInt8) (i : Nat) : Prop :=
  (byteAt L i = 32 ∧ 0 < i ∧ i + 1 < L.length ∧ byteAt L (i - 1) ≠ 32) ∨ cap (byteAt L i) = true
noncomputable def vtext (L : List UInt8) : Bool := @decide (L.length ≤ 60 ∧ ∀ i, i < L.length → good L i) (Classical.propDecidable _)
theorem vtext_true {L : List UInt8} : vtext L = true ↔ L.length ≤ 60 ∧ ∀ i, i < L.length → good L i := by simp [vtext]
theorem vtext_false {L : List UInt8} : vtext L = false ↔ ¬ (L.length ≤ 60 ∧ ∀ i, i < L.length → good L i) := by simp [vtext]
theorem cap_32 {b : Int} (h : b = 32) : cap b = false := cap_false.2 (by omega)
end Go.Proofs.Ytikndeloeeppaaa
