/- How wide a word is, as plain data. -/
import Derived.Test.YtikndeloeeppaaaFindP
import Derived.Test.YtikndeloeeppaaaTextP
namespace Go.Proofs.Ytikndeloeeppaaa
open Go.RowKit

/-- How wide the letter at place i is. -/
def letW (F : Fc) (L : List UInt8) (i : Nat) : Int := F.W.getD (byteAt L i - 65).toNat 0
/-- The gap ahead of the letter at place i. -/
def gapL (F : Fc) (L : List UInt8) (i : Nat) : Int := if i = 0 then 0 else F.gp + byL F.ps (byteAt L (i - 1)) (byteAt L i)
def wideTo (F : Fc) (L : List UInt8) : Nat → Int
  | 0 => 0
  | k + 1 => wideTo F L k + letW F L k + gapL F L k
def wideL (F : Fc) (L : List UInt8) : Int := wideTo F L L.length
/-- All bytes are letters. -/
def allCap (L : List UInt8) : Prop := ∀ i, i < L.length → cap (byteAt L i) = true
theorem byL_in (ps : List Tri) (a b : Int) : byL ps a b = 0 ∨ ∃ (k : Nat) (p : Tri), ps[k]? = some p ∧ byL ps a b = p.2.2 := by
  unfold byL
  cases h : ps.find? (fun p => p.1 == a && p.2.1 == b) with
  | none => exact .inl rfl
  | some p =>
    obtain ⟨k, hk⟩ := List.getElem?_of_mem (List.mem_of_find?_eq_some h)
    exact .inr ⟨k, p, hk, rfl⟩
theorem byL_bd {F : Fc} (h : vface F = true) (a b : Int) : -10 ≤ byL F.ps a b ∧ byL F.ps a b ≤ 10 ∧ 0 ≤ F.gp + byL F.ps a b ∧ F.gp + byL F.ps a b ≤ 20 := by
  have hs := (vface_true.1 h).2
  have hg := shape_gap hs.gp
  rcases byL_in F.ps a b with e | ⟨k, p, hp, e⟩
  · rw [e]; omega
  · have hk := (List.getElem?_eq_some_iff.1 hp).1
    have hp1 := (hs.ps k p hk hp).1
    have h1 := inB_true.1 hp1.by_
    have h2 := hp1.sum
    rw [e]; omega
theorem capIdx {b : Int} (h : cap b = true) : (b - 65).toNat < 26 ∧ (((b - 65).toNat : Nat) : Int) = b - 65 := by
  have := cap_true.1 h; omega
theorem W_bd {F : Fc} (hF : F.ok) (h : vface F = true) {k : Nat} (hk : k < 26) : 1 ≤ F.W.getD k 0 ∧ F.W.getD k 0 ≤ 40 := by
  have hm : F.W.getD k 0 ∈ F.W := by
    have h26 := hF.len
    rw [List.getD_eq_getElem?_getD, List.getElem?_eq_getElem (by omega)]
    exact List.getElem_mem _
  exact inB_true.1 ((vface_true.1 h).2.W _ hm)
theorem letW_bd {F : Fc} (hF : F.ok) (h : vface F = true) {L : List UInt8} (hc : allCap L) {i : Nat} (hi : i < L.length) : 1 ≤ letW F L i ∧ letW F L i ≤ 40 :=
  W_bd hF h (capIdx (hc i hi)).1
theorem gapL_bd {F : Fc} (h : vface F = true) (L : List UInt8) (i : Nat) : 0 ≤ gapL F L i ∧ gapL F L i ≤ 20 := by
  unfold gapL
  split
  · omega
  · have := byL_bd h (byteAt L (i - 1)) (byteAt L i); omega
theorem wideTo_bd {F : Fc} (hF : F.ok) (h : vface F = true) {L : List UInt8} (hc : allCap L) : ∀ k, k ≤ L.length → (k : Int) ≤ wideTo F L k ∧ wideTo F L k ≤ 60 * k
  | 0, _ => by simp [wideTo]
  | k + 1, hk => by
    have ih := wideTo_bd hF h hc k (by omega)
    have h1 := letW_bd hF h hc (i := k) (by omega)
    have h2 := gapL_bd h L k
    simp only [wideTo]
    omega
end Go.Proofs.Ytikndeloeeppaaa
