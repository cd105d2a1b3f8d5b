/- Chapter 5 as plain data: strokes, chisels, the letters of a text, stints, times. -/
import Derived.Test.YtngondeaeipcfaaGreatDoorIvTh
namespace Go.Proofs.YtngondeaeipcfaaGreatDoor
open Go.RowKit

/-- Strokes are as they have to be. -/
def vstr (W : List Int) : Bool := W.all (fun x => inB x 1 30)
theorem vstr_at {W : List Int} (h : vstr W = true) (hW : W.length = 26) {k : Nat} (hk : k < 26) : 1 ≤ W.getD k 0 ∧ W.getD k 0 ≤ 30 := by
  have hm : W.getD k 0 ∈ W := by
    rw [List.getD_eq_getElem?_getD, List.getElem?_eq_getElem (by omega), Option.getD_some]; exact List.getElem_mem _
  exact inB_true.1 (List.all_eq_true.1 h _ hm)
theorem vstr_true {W : List Int} (hW : W.length = 26) (h : ∀ k, k < 26 → inB (W.getD k 0) 1 30 = true) : vstr W = true := by
  refine List.all_eq_true.2 fun x hx => ?_
  obtain ⟨k, hk, rfl⟩ := List.getElem_of_mem hx
  have := h k (by omega)
  rwa [List.getD_eq_getElem?_getD, List.getElem?_eq_getElem hk, Option.getD_some] at this
theorem vstr_false {W : List Int} (hW : W.length = 26) {k : Nat} (hk : k < 26) (h : inB (W.getD k 0) 1 30 = false) : vstr W = false := by
  cases e : vstr W
  · rfl
  · have := vstr_at e hW hk
    rw [inB_true.2 this] at h; cases h
/-- A chisel is as it has to be. -/
def vchi (h p : Int) : Bool := inB h 30 1000 && inB p 0 100
theorem vchi_true {h p : Int} : vchi h p = true ↔ (30 ≤ h ∧ h ≤ 1000) ∧ 0 ≤ p ∧ p ≤ 100 := by
  unfold vchi; rw [Bool.and_eq_true, inB_true, inB_true]
/-- The letters of a text. -/
def lettL (L : List UInt8) : List UInt8 := L.filter (fun b => b != 32)
theorem lettL_len (L : List UInt8) : (lettL L).length ≤ L.length := List.length_filter_le _ _
/-- Their strokes. -/
def stkL (W : List Int) (L : List UInt8) : List Int := (lettL L).map (fun b => W.getD (b.toNat - 65) 0)
theorem stkL_len (W : List Int) (L : List UInt8) : (stkL W L).length ≤ L.length := by unfold stkL; rw [List.length_map]; exact lettL_len L
theorem stkL_nil (W : List Int) : stkL W [] = [] := rfl
theorem stkL_blank {W : List Int} {L : List UInt8} {k : Nat} {b : UInt8} (h : L[k]? = some b) (hb : b = 32) : stkL W (L.take (k + 1)) = stkL W (L.take k) := by
  unfold stkL lettL; rw [List.take_add_one, h]; subst hb; simp
theorem stkL_letter {W : List Int} {L : List UInt8} {k : Nat} {b : UInt8} (h : L[k]? = some b) (hb : b ≠ 32) : stkL W (L.take (k + 1)) = stkL W (L.take k) ++ [W.getD (b.toNat - 65) 0] := by
  unfold stkL lettL; rw [List.take_add_one, h]; simp [hb]
theorem lett_cap {L : List UInt8} (h : vtext L = true) {b : UInt8} (hb : b ∈ lettL L) : 65 ≤ b.toNat ∧ b.toNat ≤ 90 := by
  obtain ⟨hm, hne⟩ := List.mem_filter.1 hb
  obtain ⟨i, hi, rfl⟩ := List.getElem_of_mem hm
  have hg := (vtext_true.1 h).2 i hi
  have e : byteAt L i = (L[i].toNat : Int) := by simp [byteAt, List.getElem?_eq_getElem hi]
  rcases hg with ⟨h32, _⟩ | hc
  · have : L[i] = 32 := UInt8.toNat_inj.1 (by rw [e] at h32; have : L[i].toNat = 32 := by omega
                                              rw [this]; rfl)
    rw [this] at hne; simp at hne
  · have := cap_true.1 hc; rw [e] at this; omega
theorem stk_bd {W : List Int} {L : List UInt8} (hW : W.length = 26) (hv : vstr W = true) (ht : vtext L = true) : ∀ x ∈ stkL W L, 1 ≤ x ∧ x ≤ 30 := by
  intro x hx
  obtain ⟨b, hb, rfl⟩ := List.mem_map.1 hx
  have := lett_cap ht hb
  exact vstr_at hv hW (by omega)
theorem stk_n {W : List Int} {L : List UInt8} (ht : vtext L = true) : (stkL W L).length ≤ 60 := Nat.le_trans (stkL_len W L) (vtext_true.1 ht).1

/-- The sum of the first k numbers. -/
def sumT (xs : List Int) : Nat → Int
  | 0 => 0
  | k + 1 => sumT xs k + xs.getD k 0
theorem getD_of {xs : List Int} {k : Nat} {x : Int} (h : xs[k]? = some x) : xs.getD k 0 = x := by simp [List.getD, h]
theorem sumT_succ {xs : List Int} {k : Nat} {x : Int} (h : xs[k]? = some x) : sumT xs (k + 1) = sumT xs k + x := by
  show sumT xs k + xs.getD k 0 = _; rw [getD_of h]
theorem sumT_bd {xs : List Int} {M : Int} (h : ∀ x ∈ xs, 0 ≤ x ∧ x ≤ M) : ∀ k, k ≤ xs.length → 0 ≤ sumT xs k ∧ sumT xs k ≤ M * k
  | 0, _ => by simp [sumT]
  | k + 1, hk => by
    have ih := sumT_bd h k (by omega)
    have hx := List.getElem?_eq_getElem (show k < xs.length by omega)
    have hb := h _ (List.getElem_mem (show k < xs.length by omega))
    rw [sumT_succ hx]
    have : M * ((k + 1 : Nat) : Int) = M * k + M := by rw [Int.natCast_add, Int.mul_add]; simp
    omega
theorem getD_take {xs : List Int} {m k : Nat} (h : k < m) : (xs.take m).getD k 0 = xs.getD k 0 := by
  simp [List.getD, List.getElem?_take, h]
theorem sumT_take (xs : List Int) (m : Nat) : ∀ k, k ≤ m → sumT (xs.take m) k = sumT xs k
  | 0, _ => rfl
  | k + 1, hk => by
    show sumT (xs.take m) k + (xs.take m).getD k 0 = sumT xs k + xs.getD k 0
    rw [sumT_take xs m k (by omega), getD_take (by omega)]

/-- One size more: the stint, and what is left of it. -/
def stN (room : Int) (p : Int × Int) (x : Int) : Int × Int := if p.2 < x then (p.1 + 1, room - x) else (p.1, p.2 - x)
/-- Behind k of the sizes. -/
def stS (room : Int) (xs : List Int) : Nat → Int × Int
  | 0 => (0, room)
  | k + 1 => stN room (stS room xs k) (xs.getD k 0)
theorem stS_succ {room : Int} {xs : List Int} {k : Nat} {x : Int} (h : xs[k]? = some x) : stS room xs (k + 1) = stN room (stS room xs k) x := by
  show stN room (stS room xs k) (xs.getD k 0) = _; rw [getD_of h]
theorem stN_new {room : Int} {p : Int × Int} {x : Int} (h : p.2 < x) : stN room p x = (p.1 + 1, room - x) := if_pos h
theorem stN_old {room : Int} {p : Int × Int} {x : Int} (h : ¬ p.2 < x) : stN room p x = (p.1, p.2 - x) := if_neg h
theorem stS_bd {room M : Int} {xs : List Int} (h : ∀ x ∈ xs, 0 ≤ x ∧ x ≤ M) (hr : M ≤ room) (h0 : 0 ≤ room) : ∀ k, k ≤ xs.length → (0 ≤ (stS room xs k).1 ∧ (stS room xs k).1 ≤ k) ∧ 0 ≤ (stS room xs k).2 ∧ (stS room xs k).2 ≤ room
  | 0, _ => by simp [stS]; exact h0
  | k + 1, hk => by
    have ih := stS_bd h hr h0 k (by omega)
    have hx := List.getElem?_eq_getElem (show k < xs.length by omega)
    have hb := h _ (List.getElem_mem (show k < xs.length by omega))
    rw [stS_succ hx]
    unfold stN
    split <;> (simp only []; omega)
theorem stS_take (room : Int) (xs : List Int) (m : Nat) : ∀ k, k ≤ m → stS room (xs.take m) k = stS room xs k
  | 0, _ => rfl
  | k + 1, hk => by
    show stN room (stS room (xs.take m) k) ((xs.take m).getD k 0) = stN room (stS room xs k) (xs.getD k 0)
    rw [stS_take room xs m k (by omega), getD_take (by omega)]
/-- The stints of all sizes. -/
def stnL (room : Int) (xs : List Int) : List Int := (List.range xs.length).map (fun k => (stS room xs (k + 1)).1)
def stnT (room : Int) (xs : List Int) (k : Nat) : List Int := (List.range k).map (fun j => (stS room xs (j + 1)).1)
theorem stnT_all (room : Int) (xs : List Int) : stnT room xs xs.length = stnL room xs := rfl
theorem stnT_len (room : Int) (xs : List Int) (k : Nat) : (stnT room xs k).length = k := by simp [stnT]
theorem stnL_len (room : Int) (xs : List Int) : (stnL room xs).length = xs.length := by simp [stnL]
theorem stnT_succ (room : Int) (xs : List Int) (k : Nat) : stnT room xs (k + 1) = stnT room xs k ++ [(stS room xs (k + 1)).1] := by
  simp [stnT, List.range_succ]
theorem stnL_get {room : Int} {xs : List Int} {k : Nat} (h : k < xs.length) : (stnL room xs)[k]? = some (stS room xs (k + 1)).1 := by
  simp [stnL, List.getElem?_range h]
/-- A chisel is sharpened ahead of the letter i. -/
def shpB (room : Int) (xs : List Int) (i : Int) : Bool := decide ((stS room xs i.toNat).2 < xs.getD i.toNat 0)
def shpT (room : Int) (xs : List Int) (k : Nat) : List Int := (idxL k).filter (shpB room xs)
theorem idxL_succ (k : Nat) : idxL (k + 1) = idxL k ++ [(k : Int)] := by simp [idxL, List.range_succ]
theorem shpB_at {room : Int} {xs : List Int} {k : Nat} {x : Int} (h : xs[k]? = some x) : shpB room xs (k : Int) = decide ((stS room xs k).2 < x) := by
  unfold shpB; rw [Int.toNat_natCast, getD_of h]
theorem shpT_succ (room : Int) (xs : List Int) (k : Nat) : shpT room xs (k + 1) = if shpB room xs (k : Int) = true then shpT room xs k ++ [(k : Int)] else shpT room xs k := by
  unfold shpT; rw [idxL_succ, List.filter_append]
  cases e : shpB room xs (k : Int) <;> simp [List.filter_cons, e]
theorem shpT_len {room : Int} {xs : List Int} : ∀ k, k ≤ xs.length → ((shpT room xs k).length : Int) = (stS room xs k).1
  | 0, _ => by simp [shpT, idxL, stS]
  | k + 1, hk => by
    have ih := shpT_len (room := room) k (show k ≤ xs.length by omega)
    have hx := List.getElem?_eq_getElem (show k < xs.length by omega)
    rw [shpT_succ, shpB_at hx, stS_succ hx]
    by_cases h : (stS room xs k).2 < xs[k]
    · rw [stN_new h, if_pos (by simpa using h)]; simp; omega
    · rw [stN_old h, if_neg (by simpa using h)]; exact ih
/-- How long the first k letters take. -/
def timeT (room sh : Int) (xs : List Int) (k : Nat) : Int := sumT xs k + (stS room xs k).1 * sh
theorem timeT_take (room sh : Int) (xs : List Int) (m : Nat) {k : Nat} (h : k ≤ m) : timeT room sh (xs.take m) k = timeT room sh xs k := by
  unfold timeT; rw [sumT_take xs m k h, stS_take room xs m k h]
theorem timeT_bd {room sh : Int} {xs : List Int} (h : ∀ x ∈ xs, 0 ≤ x ∧ x ≤ 30) (hr : 30 ≤ room) (h0 : 0 ≤ sh) (h1 : sh ≤ 100) {k : Nat} (hk : k ≤ xs.length) :
    0 ≤ timeT room sh xs k ∧ timeT room sh xs k ≤ 130 * k ∧ 0 ≤ (stS room xs k).1 * sh ∧ (stS room xs k).1 * sh ≤ 100 * k := by
  have hs := sumT_bd h k hk
  have ht := stS_bd h hr (by omega) k hk
  have h2 : 0 ≤ (stS room xs k).1 * sh := Int.mul_nonneg ht.1.1 h0
  have h3 : (stS room xs k).1 * sh ≤ (k : Int) * 100 := Int.mul_le_mul ht.1.2 h1 h0 (by omega)
  unfold timeT
  omega
theorem timeT_step {room sh : Int} {xs : List Int} (h : ∀ x ∈ xs, 0 ≤ x ∧ x ≤ 30) (h0 : 0 ≤ sh) {k : Nat} (hk : k < xs.length) : timeT room sh xs k ≤ timeT room sh xs (k + 1) := by
  have hx := List.getElem?_eq_getElem hk
  have hb := h _ (List.getElem_mem hk)
  unfold timeT
  rw [sumT_succ hx, stS_succ hx]
  unfold stN
  split
  · simp only []; rw [Int.add_mul]; omega
  · simp only []; omega
theorem timeT_mono {room sh : Int} {xs : List Int} (h : ∀ x ∈ xs, 0 ≤ x ∧ x ≤ 30) (h0 : 0 ≤ sh) {j : Nat} : ∀ {k : Nat}, j ≤ k → k ≤ xs.length → timeT room sh xs j ≤ timeT room sh xs k
  | 0, hj, _ => by have : j = 0 := by omega
                   subst this; exact Int.le_refl _
  | k + 1, hj, hk => by
    by_cases e : j = k + 1
    · subst e; exact Int.le_refl _
    · exact Int.le_trans (timeT_mono h h0 (show j ≤ k by omega) (by omega)) (timeT_step h h0 (by omega))
/-- The minutes at which letters are cut whole. -/
def doneL (room sh : Int) (xs : List Int) : List Int := (List.range xs.length).map (fun k => timeT room sh xs (k + 1))
theorem doneL_len (room sh : Int) (xs : List Int) : (doneL room sh xs).length = xs.length := by simp [doneL]
theorem doneL_get {room sh : Int} {xs : List Int} {k : Nat} (h : k < xs.length) : (doneL room sh xs)[k]? = some (timeT room sh xs (k + 1)) := by
  simp [doneL, List.getElem?_range h]
/-- How many letters have been cut by a time. -/
def cutN (room sh : Int) (xs : List Int) (t : Int) : Nat := ((doneL room sh xs).filter (fun x => decide (x ≤ t))).length
theorem filter_none {α : Type} {p : α → Bool} {xs : List α} (h : ∀ x ∈ xs, p x = false) : xs.filter p = [] := by
  rw [List.filter_eq_nil_iff]; intro x hx; rw [h x hx]; simp
theorem cutN_of {room sh t : Int} {xs : List Int} (h : ∀ x ∈ xs, 0 ≤ x ∧ x ≤ 30) (h0 : 0 ≤ sh) {m : Nat} (hm : m ≤ xs.length) (hle : 0 < m → timeT room sh xs m ≤ t) (hgt : m < xs.length → t < timeT room sh xs (m + 1)) : cutN room sh xs t = m := by
  have e : doneL room sh xs = (doneL room sh xs).take m ++ (doneL room sh xs).drop m := (List.take_append_drop _ _).symm
  unfold cutN
  rw [e, List.filter_append, List.length_append]
  have h1 : ((doneL room sh xs).take m).filter (fun x => decide (x ≤ t)) = (doneL room sh xs).take m := by
    rw [List.filter_eq_self]
    intro x hx
    obtain ⟨k, hk, rfl⟩ := List.getElem_of_mem hx
    have hk2 : k < m := by rw [List.length_take] at hk; omega
    have hg : ((doneL room sh xs).take m)[k]? = some (timeT room sh xs (k + 1)) := by rw [List.getElem?_take, if_pos hk2, doneL_get (by omega)]
    rw [List.getElem?_eq_getElem hk] at hg
    injection hg with hg
    rw [hg]
    have := timeT_mono (room := room) h h0 (show k + 1 ≤ m by omega) hm
    have := hle (by omega)
    simp; omega
  have h2 : ((doneL room sh xs).drop m).filter (fun x => decide (x ≤ t)) = [] := by
    refine filter_none fun x hx => ?_
    obtain ⟨k, hk, rfl⟩ := List.getElem_of_mem hx
    have hk2 : m + k < xs.length := by rw [List.length_drop, doneL_len] at hk; omega
    have hg : ((doneL room sh xs).drop m)[k]? = some (timeT room sh xs (m + k + 1)) := by rw [List.getElem?_drop, doneL_get hk2]
    rw [List.getElem?_eq_getElem hk] at hg
    injection hg with hg
    rw [hg]
    have := timeT_mono (room := room) h h0 (show m + 1 ≤ m + k + 1 by omega) (by omega)
    have := hgt (by omega)
    simp; omega
  rw [h1, h2, List.length_take, doneL_len]
  simp; omega
end Go.Proofs.YtngondeaeipcfaaGreatDoor
