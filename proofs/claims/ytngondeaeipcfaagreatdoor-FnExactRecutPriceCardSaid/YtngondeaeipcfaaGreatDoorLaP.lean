/- Chapter 1: the letter at a place, as plain data. -/
import Derived.Test.YtngondeaeipcfaaGreatDoorChP
import Derived.Test.YtngondeaeipcfaaGreatDoorPlacesS
namespace Go.Proofs.YtngondeaeipcfaaGreatDoor
open Go.RowKit

theorem glue_flat (c : UInt8) (r : List (List UInt8)) (h : r ≠ []) : (glue [c] r).flatten = c :: r.flatten := by
  cases r with
  | nil => exact (h rfl).elim
  | cons x r => simp [glue]
theorem split_flat : ∀ L : List UInt8, (splitL L).flatten = lettL L
  | [] => rfl
  | c :: cs => by
    have ih := split_flat cs
    by_cases h : c = 32
    · subst h; rw [splitL_32]; simp [lettL] at ih ⊢; exact ih
    · rw [splitL_other cs h, glue_flat c _ (splitL_ne cs), ih]; simp [lettL, h]
theorem words_flat (L : List UInt8) : (wordsL L).flatten = lettL L := by
  unfold wordsL; split
  · rename_i h; subst h; rfl
  · exact split_flat L
/-- How wide a letter is. -/
def lwd (F : Fc) (b : UInt8) : Int := F.W.getD (b.toNat - 65) 0
theorem wdW_map (F : Fc) (L : List UInt8) : wdW F L L.length = L.map (lwd F) := by
  apply List.ext_getElem
  · simp [wdW]
  · intro i h1 h2
    have hi : i < L.length := by simpa using h2
    simp only [wdW, List.getElem_map, List.getElem_range]
    have e : byteAt L i = (L[i].toNat : Int) := by simp [byteAt, List.getElem?_eq_getElem hi]
    have h3 : ((L[i].toNat : Int) - 65).toNat = L[i].toNat - 65 := by omega
    unfold letW lwd
    rw [e, h3]
theorem wdTo_flat (F : Fc) (ws : List (List UInt8)) : ∀ k, k ≤ ws.length → wdTo F ws k = ((ws.take k).flatten).map (lwd F)
  | 0, _ => by simp [wdTo]
  | k + 1, h => by
    have hk : k < ws.length := by omega
    have e : ws.getD k [] = ws[k] := by rw [List.getD_eq_getElem?_getD, List.getElem?_eq_getElem hk]; rfl
    rw [wdTo, wdTo_flat F ws k (by omega), e, wdW_map, List.take_add_one, List.getElem?_eq_getElem hk]
    rw [List.flatten_append, List.map_append]
    congr 1
    show _ = List.map (lwd F) [ws[k]].flatten
    rw [List.flatten_singleton]
theorem wdL_lett (F : Fc) (L : List UInt8) : wdL F (wordsL L) = (lettL L).map (lwd F) := by
  unfold wdL
  rw [wdTo_flat F _ _ (Nat.le_refl _), List.take_length, words_flat]
theorem plL_lett (F : Fc) (L : List UInt8) : (plL F (wordsL L)).length = (lettL L).length := by
  have h := congrArg List.length (wdL_lett F L)
  unfold wdL at h
  rw [wdTo_len, List.length_map] at h
  exact h
theorem plW_bd {F : Fc} (hF : F.ok) (h : vface F = true) {L : List UInt8} (hc : allCap L) (hl : L.length ≤ 60) {p : Int} (hp : 0 ≤ p ∧ p ≤ 230000) : ∀ x ∈ plW F L p L.length, 0 ≤ x ∧ x ≤ 240000 := by
  intro x hx
  unfold plW at hx
  obtain ⟨j, hj, rfl⟩ := List.mem_map.1 hx
  have hj := List.mem_range.1 hj
  have h1 := wideTo_bd hF h hc j (by omega)
  have h2 := gapL_bd h L j
  omega
theorem plTo_bd {F : Fc} (hF : F.ok) (h : vface F = true) {ws : List (List UInt8)} (hw : ∀ x ∈ ws, x.length ≤ 60 ∧ allCap x) (hn : ws.length ≤ 61) : ∀ k, k ≤ ws.length → ∀ x ∈ plTo F ws k, 0 ≤ x ∧ x ≤ 240000
  | 0, _, x, hx => by simp [plTo] at hx
  | k + 1, hk, x, hx => by
    rw [plTo, List.mem_append] at hx
    rcases hx with hx | hx
    · exact plTo_bd hF h hw hn k (by omega) x hx
    · have hm := hw _ (getD_mem (ws := ws) (k := k) (by omega))
      have hp := preL_bd hF h hw k (by omega)
      exact plW_bd hF h hm.2 hm.1 (by omega) x hx
theorem plL_bd {F : Fc} (hF : F.ok) (h : vface F = true) {L : List UInt8} (ht : vtext L = true) : ∀ x ∈ plL F (wordsL L), 0 ≤ x ∧ x ≤ 240000 :=
  plTo_bd hF h (fun _ hx => words_mem ht hx) (words_len ht) _ (Nat.le_refl _)
theorem lw_bd {F : Fc} (hF : F.ok) (h : vface F = true) {L : List UInt8} (ht : vtext L = true) : ∀ b ∈ lettL L, 1 ≤ lwd F b ∧ lwd F b ≤ 40 := fun b hb => by
  have := lett_cap ht hb
  exact W_bd hF h (show b.toNat - 65 < 26 by omega)

/-- Whether a letter covers a place. -/
def hitB (ps ws : List Int) (x : Int) (i : Nat) : Bool := inB x (ps.getD i 0) (ps.getD i 0 + ws.getD i 0 - 1)
/-- The first one that does. -/
def hitL (ps ws : List Int) (x : Int) : Option Nat := (List.range ps.length).find? (hitB ps ws x)
theorem hit_some {ps ws : List Int} {x : Int} {k : Nat} (hk : k < ps.length) (h : hitB ps ws x k = true) (hno : ∀ j, j < k → hitB ps ws x j = false) : hitL ps ws x = some k := by
  unfold hitL
  rw [List.find?_range_eq_some]
  exact ⟨h, List.mem_range.2 hk, fun j hj => by rw [hno j hj]; rfl⟩
theorem hit_none {ps ws : List Int} {x : Int} (hno : ∀ j, j < ps.length → hitB ps ws x j = false) : hitL ps ws x = none := by
  unfold hitL
  rw [List.find?_range_eq_none]
  exact fun j hj => by rw [hno j hj]; rfl
def hitC (o : Option Nat) : Int := match o with | none => 6 | some _ => 0
noncomputable def laIn (F : Fc) (L : List UInt8) (x : Int) : Bool := inB x 0 (lineL F (wordsL L) - 1)
noncomputable def laO (F : Fc) (L : List UInt8) (x : Int) : Option Nat := hitL (plL F (wordsL L)) (wdL F (wordsL L)) x
noncomputable def laC (F : Fc) (L : List UInt8) (x : Int) : Int := if askC F L true = 0 then (if laIn F L x = true then hitC (laO F L x) else 2) else 1
noncomputable def laV (F : Fc) (L : List UInt8) (x : Int) : Int := if askC F L true = 0 then (if laIn F L x = true then ((laO F L x).getD 0 : Nat) else 0) else 0
theorem la_no {F : Fc} {L : List UInt8} {x : Int} (h : askC F L true = 1) : laV F L x = 0 ∧ laC F L x = 1 := by unfold laV laC; rw [h]; exact ⟨rfl, rfl⟩
theorem la_out {F : Fc} {L : List UInt8} {x : Int} (h : askC F L true = 0) (h2 : laIn F L x = false) : laV F L x = 0 ∧ laC F L x = 2 := by unfold laV laC; rw [h, h2]; exact ⟨rfl, rfl⟩
theorem la_in {F : Fc} {L : List UInt8} {x : Int} (h : askC F L true = 0) (h2 : laIn F L x = true) : laV F L x = ((laO F L x).getD 0 : Nat) ∧ laC F L x = hitC (laO F L x) := by unfold laV laC; rw [h, h2]; exact ⟨rfl, rfl⟩
end Go.Proofs.YtngondeaeipcfaaGreatDoor
