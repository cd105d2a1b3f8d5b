/- What letters cost, and a text: PriceOf of the program. -/
import Derived.Test.YtngondeaeipcfaaDoorPrA
import Derived.Deep.RegionHeld3
namespace Go.Proofs.YtngondeaeipcfaaDoor
open Go Go.RowKit

/-- What a letter costs; the letters of a text. -/
def lpr (F : Fc) (P : List Int) (b : UInt8) : Int := P.getD (b.toNat - 65) 0 + P.getD 26 0 * lwd F b
def lprL (F : Fc) (P : List Int) (L : List UInt8) : List Int := (lettL L).map (lpr F P)
theorem lpr_bd {F : Fc} (hF : F.ok) (h : vface F = true) {P : List Int} (hP : P.length = 29) (hv : vprc P = true) {L : List UInt8} (ht : vtext L = true) {b : UInt8} (hb : b ∈ lettL L) :
    (0 ≤ P.getD (b.toNat - 65) 0 ∧ P.getD (b.toNat - 65) 0 ≤ 1000) ∧ (0 ≤ P.getD 26 0 ∧ P.getD 26 0 ≤ 1000) ∧ (0 ≤ P.getD 26 0 * lwd F b ∧ P.getD 26 0 * lwd F b ≤ 40000) ∧ 0 ≤ lpr F P b ∧ lpr F P b ≤ 41000 := by
  have hc := lett_cap ht hb
  have h1 := vprc_at hv (k := b.toNat - 65) (by omega)
  have h2 := vprc_at hv (k := 26) (by omega)
  have h3 := lw_bd hF h ht b hb
  have h4 : 0 ≤ P.getD 26 0 * lwd F b := Int.mul_nonneg h2.1 (by omega)
  have h5 : P.getD 26 0 * lwd F b ≤ 1000 * 40 := Int.mul_le_mul h2.2 h3.2 (by omega) (by omega)
  unfold lpr
  omega
theorem lprL_bd {F : Fc} (hF : F.ok) (h : vface F = true) {P : List Int} (hP : P.length = 29) (hv : vprc P = true) {L : List UInt8} (ht : vtext L = true) : ∀ x ∈ lprL F P L, 0 ≤ x ∧ x ≤ 41000 := fun x hx => by
  obtain ⟨b, hb, rfl⟩ := List.mem_map.1 hx
  exact (lpr_bd hF h hP hv ht hb).2.2.2
theorem lprL_len (F : Fc) (P : List Int) (L : List UInt8) : (lprL F P L).length = (lettL L).length := List.length_map _
theorem lprL_n {F : Fc} {P : List Int} {L : List UInt8} (ht : vtext L = true) : (lprL F P L).length ≤ 60 := by rw [lprL_len]; exact Nat.le_trans (lettL_len L) (vtext_true.1 ht).1
/-- The prices of the first k letters, the widths of the others. -/
def pqT (F : Fc) (P : List Int) (M : List UInt8) (k : Nat) : List Int := (M.take k).map (lpr F P) ++ (M.drop k).map (lwd F)
theorem pqT_zero (F : Fc) (P : List Int) (M : List UInt8) : pqT F P M 0 = M.map (lwd F) := by simp [pqT]
theorem pqT_all (F : Fc) (P : List Int) (M : List UInt8) : pqT F P M M.length = M.map (lpr F P) := by simp [pqT]
theorem pqT_len (F : Fc) (P : List Int) (M : List UInt8) (k : Nat) : (pqT F P M k).length = M.length := by simp [pqT]; omega
theorem pqT_get {F : Fc} {P : List Int} {M : List UInt8} {k : Nat} {b : UInt8} (h : M[k]? = some b) : (pqT F P M k)[k]? = some (lwd F b) := by
  have hk := (List.getElem?_eq_some_iff.1 h).1
  unfold pqT
  rw [List.getElem?_append_right (by simp; omega)]
  simp only [List.length_map, List.length_take, Nat.min_eq_left (Nat.le_of_lt hk), Nat.sub_self, List.getElem?_map, List.getElem?_drop, Nat.add_zero]
  rw [h]; rfl
theorem pqT_set {F : Fc} {P : List Int} {M : List UInt8} {k : Nat} {b : UInt8} (h : M[k]? = some b) : (pqT F P M k).set k (lpr F P b) = pqT F P M (k + 1) := by
  obtain ⟨hk, e⟩ := List.getElem?_eq_some_iff.1 h
  unfold pqT
  rw [List.set_append_right _ _ (by simp; omega)]
  simp only [List.length_map, List.length_take, Nat.min_eq_left (Nat.le_of_lt hk), Nat.sub_self]
  rw [List.drop_eq_getElem_cons hk, List.map_cons, List.set_cons_zero, List.take_succ_eq_append_getElem hk, List.map_append, e]
  simp
noncomputable def ppB (F : Fc) (P : List Int) (L : List UInt8) : Bool := vface F && vtext L && vprc P
noncomputable def ppC (F : Fc) (P : List Int) (L : List UInt8) : Int := if ppB F P L = true then 0 else 1
noncomputable def ppR (F : Fc) (P : List Int) (L : List UInt8) : List Int := if ppB F P L = true then lprL F P L else []
noncomputable def ppV (F : Fc) (P : List Int) (L : List UInt8) : Int := if ppB F P L = true then P.getD 27 0 + sumT (lprL F P L) (lprL F P L).length else 0
theorem pp_no {F : Fc} {P : List Int} {L : List UInt8} (h : ppB F P L = false) : ppC F P L = 1 ∧ ppR F P L = [] ∧ ppV F P L = 0 := by unfold ppC ppR ppV; rw [h]; exact ⟨rfl, rfl, rfl⟩
theorem pp_ok {F : Fc} {P : List Int} {L : List UInt8} (h : ppB F P L = true) : ppC F P L = 0 ∧ ppR F P L = lprL F P L ∧ ppV F P L = P.getD 27 0 + sumT (lprL F P L) (lprL F P L).length := by unfold ppC ppR ppV; rw [h]; exact ⟨rfl, rfl, rfl⟩
theorem pp_parts {F : Fc} {P : List Int} {L : List UInt8} (h : ppB F P L = true) : vface F = true ∧ vtext L = true ∧ vprc P = true := by
  unfold ppB at h; simp only [Bool.and_eq_true] at h; exact ⟨h.1.1, h.1.2, h.2⟩

end Go.Proofs.YtngondeaeipcfaaDoor
