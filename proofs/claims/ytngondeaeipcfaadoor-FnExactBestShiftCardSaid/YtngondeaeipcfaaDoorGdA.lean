/- Sheets and prices as plain data; whether they are as they have to be; their copies in the program's own types. -/
import Derived.Test.YtngondeaeipcfaaDoorChA
namespace Go.Proofs.YtngondeaeipcfaaDoor
open Go.RowKit

/-- A sheet is as it has to be. -/
def vsht (h p : Int) : Bool := inB h 1 400 && inB p 0 5
theorem vsht_true {h p : Int} : vsht h p = true ↔ (1 ≤ h ∧ h ≤ 400) ∧ 0 ≤ p ∧ p ≤ 5 := by
  unfold vsht; rw [Bool.and_eq_true, inB_true, inB_true]

def pw (P : List Int) : List Value := P.map (.int .i16)
def i16ok (n : Int) : Prop := -32768 ≤ n ∧ n ≤ 32767
theorem pw_length (P : List Int) : (pw P).length = P.length := by simp [pw]
theorem pw_get {P : List Int} {k : Nat} (hk : k < P.length) : (pw P)[k]? = some (.int .i16 (P.getD k 0)) := by simp [pw, hk, List.getD]
theorem pw_set (P : List Int) (k : Nat) (v : Int) : (pw P).set k (.int .i16 v) = pw (P.set k v) := by simp [pw]
theorem pw_one (P : List Int) : (pw P).toArray.all (·.oneCell') = true := all_oneCell_toArray (by simp [pw, Value.oneCell'])
theorem pw_at {P : List Int} (hx : ∀ x ∈ P, i16ok x) (k : Nat) : -32768 ≤ P.getD k 0 ∧ P.getD k 0 ≤ 32767 := by
  by_cases h : k < P.length
  · rw [List.getD_eq_getElem?_getD, List.getElem?_eq_getElem h, Option.getD_some]; exact hx _ (List.getElem_mem h)
  · rw [List.getD_eq_getElem?_getD, List.getElem?_eq_none (by omega)]; exact ⟨by decide, by decide⟩
/-- Prices are as they have to be. -/
def vprc (P : List Int) : Bool := P.all (fun x => inB x 0 1000)
theorem vprc_at {P : List Int} (h : vprc P = true) {k : Nat} (hk : k < P.length) : 0 ≤ P.getD k 0 ∧ P.getD k 0 ≤ 1000 := by
  have hm : P.getD k 0 ∈ P := by
    rw [List.getD_eq_getElem?_getD, List.getElem?_eq_getElem (by omega), Option.getD_some]; exact List.getElem_mem _
  exact inB_true.1 (List.all_eq_true.1 h _ hm)
theorem vprc_true {P : List Int} {n : Nat} (hP : P.length = n) (h : ∀ k, k < n → inB (P.getD k 0) 0 1000 = true) : vprc P = true := by
  refine List.all_eq_true.2 fun x hx => ?_
  obtain ⟨k, hk, rfl⟩ := List.getElem_of_mem hx
  have := h k (by omega)
  rwa [List.getD_eq_getElem?_getD, List.getElem?_eq_getElem hk, Option.getD_some] at this
theorem vprc_false {P : List Int} {k : Nat} (hk : k < P.length) (h : inB (P.getD k 0) 0 1000 = false) : vprc P = false := by
  cases e : vprc P
  · rfl
  · have := vprc_at e hk
    rw [inB_true.2 this] at h; cases h

abbrev zp : Array Value := (pw (List.replicate 29 0)).toArray
theorem pw_append (P Q : List Int) : pw (P ++ Q) = pw P ++ pw Q := by simp [pw]
theorem p29 {P : List Int} (h : P.length = 29) : P = P.take 26 ++ [P.getD 26 0, P.getD 27 0, P.getD 28 0] := by
  apply List.ext_getElem?
  intro i
  by_cases hi : i < 26
  · rw [List.getElem?_append_left (by simp [h]; omega), List.getElem?_take, if_pos hi]
  · rw [List.getElem?_append_right (by simp [h]; omega)]
    have hl : (P.take 26).length = 26 := by simp [h]
    rw [hl]
    by_cases h29 : i < 29
    · have : i = 26 ∨ i = 27 ∨ i = 28 := by omega
      rcases this with rfl | rfl | rfl <;> simp [List.getD, h]
    · rw [List.getElem?_eq_none (by omega), List.getElem?_eq_none (by simp; omega)]

end Go.Proofs.YtngondeaeipcfaaDoor
