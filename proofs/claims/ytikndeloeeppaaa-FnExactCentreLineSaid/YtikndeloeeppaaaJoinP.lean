/- Words that are joined, as plain data. -/
import Derived.Test.YtikndeloeeppaaaWordP
import Derived.Lib.Join
namespace Go.Proofs.Ytikndeloeeppaaa
open Go.RowKit

abbrev byts (x : ByteArray) : List UInt8 := x.data.toList
/-- The text of some words. -/
def J (xs : List (List UInt8)) : List UInt8 := Lib.join xs [32]
theorem J_nil : J [] = [] := rfl
theorem J_one (x : List UInt8) : J [x] = x := Lib.join_one x _
theorem J_cons (x y : List UInt8) (r : List (List UInt8)) : J (x :: y :: r) = x ++ 32 :: J (y :: r) := by
  unfold J
  rw [Lib.join_cons, Lib.join_cons]
  simp [Lib.joinTail]
theorem J_snoc : ∀ (xs : List (List UInt8)) (x : List UInt8), xs ≠ [] → J (xs ++ [x]) = J xs ++ 32 :: x
  | [], _, h => (h rfl).elim
  | [a], x, _ => by simp [J_cons, J_one]
  | a :: b :: r, x, _ => by
    have ih := J_snoc (b :: r) x (by simp)
    rw [List.cons_append, List.cons_append, J_cons, J_cons, ← List.cons_append, ih]
    simp
def sumL (xs : List (List UInt8)) : Nat := (xs.map (·.length)).sum
theorem J_len : ∀ (xs : List (List UInt8)), (J xs).length = sumL xs + (xs.length - 1)
  | [] => rfl
  | [a] => by simp [J_one, sumL]
  | a :: b :: r => by
    have ih := J_len (b :: r)
    rw [J_cons, List.length_append, List.length_cons, ih]
    simp [sumL]
    omega
theorem byteAt_app (A B : List UInt8) (i : Nat) : byteAt (A ++ B) i = if i < A.length then byteAt A i else byteAt B (i - A.length) := by
  unfold byteAt
  simp only [List.getD_eq_getElem?_getD, List.getElem?_append]
  split <;> rfl
theorem byteAt_cons (a : UInt8) (B : List UInt8) (i : Nat) : byteAt (a :: B) (i + 1) = byteAt B i := by
  unfold byteAt; simp
theorem good_word {L : List UInt8} (h : allCap L) : ∀ i, i < L.length → good L i := fun i hi => .inr (h i hi)
theorem good_join {A B : List UInt8} (hA : allCap A) (hA0 : 0 < A.length) (hB0 : 0 < B.length) (hB : ∀ i, i < B.length → good B i) : ∀ i, i < (A ++ 32 :: B).length → good (A ++ 32 :: B) i := by
  intro i hi
  have e : ∀ j, byteAt (A ++ 32 :: B) j = if j < A.length then byteAt A j else byteAt (32 :: B) (j - A.length) := fun j => byteAt_app _ _ _
  have h32 : byteAt (32 :: B) 0 = 32 := rfl
  have hl : (A ++ 32 :: B).length = A.length + B.length + 1 := by simp; omega
  by_cases h1 : i < A.length
  · exact .inr (by rw [e, if_pos h1]; exact hA i h1)
  · by_cases h2 : i = A.length
    · refine .inl ⟨by rw [e, if_neg h1, h2, Nat.sub_self, h32], by omega, by rw [hl]; omega, ?_⟩
      rw [e, if_pos (by omega)]
      intro h
      have := hA (i - 1) (by omega)
      rw [cap_32 h] at this; cases this
    · obtain ⟨j, hj⟩ : ∃ j, i - A.length = j + 1 := ⟨i - A.length - 1, by omega⟩
      have hjl : j < B.length := by omega
      have ei : byteAt (A ++ 32 :: B) i = byteAt B j := by rw [e, if_neg h1, hj, byteAt_cons]
      rcases hB j hjl with ⟨g1, g2, g3, g4⟩ | g
      · refine .inl ⟨by rw [ei]; exact g1, by omega, by rw [hl]; omega, ?_⟩
        have : i - 1 - A.length = (j - 1) + 1 := by omega
        rw [e, if_neg (by omega), this, byteAt_cons]
        exact g4
      · exact .inr (by rw [ei]; exact g)
/-- Each one is letters alone, and has one. -/
def wordsOk (xs : List (List UInt8)) : Prop := ∀ x ∈ xs, 0 < x.length ∧ allCap x
theorem good_J : ∀ (xs : List (List UInt8)), wordsOk xs → ∀ i, i < (J xs).length → good (J xs) i
  | [], _, i, hi => by simp [J_nil] at hi
  | [a], h, i, hi => by rw [J_one] at hi ⊢; exact good_word (h a (by simp)).2 i hi
  | a :: b :: r, h, i, hi => by
    have ih := good_J (b :: r) (fun x hx => h x (List.mem_cons_of_mem _ hx))
    rw [J_cons] at hi ⊢
    have hb := (h b (by simp)).1
    refine good_join (h a (by simp)).2 (h a (by simp)).1 ?_ ih i hi
    rw [J_len]; simp [sumL]; omega
theorem vtext_J {xs : List (List UInt8)} (h : wordsOk xs) : vtext (J xs) = true ↔ (J xs).length ≤ 60 := by
  rw [vtext_true]; exact ⟨fun h => h.1, fun hl => ⟨hl, good_J xs h⟩⟩
theorem sum_ge {xs : List (List UInt8)} (h : wordsOk xs) : xs.length ≤ sumL xs := by
  induction xs with
  | nil => simp
  | cons a r ih =>
    have h1 := (h a (by simp)).1
    have h2 := ih (fun x hx => h x (by simp [hx]))
    simp only [sumL, List.map_cons, List.sum_cons, List.length_cons] at *
    omega
/-- What JoinWords asks. -/
noncomputable def jwB (xs : List (List UInt8)) : Bool := @decide (wordsOk xs ∧ (J xs).length ≤ 60) (Classical.propDecidable _)
theorem jwB_true {xs : List (List UInt8)} : jwB xs = true ↔ wordsOk xs ∧ (J xs).length ≤ 60 := by simp [jwB]
theorem jwB_false {xs : List (List UInt8)} : jwB xs = false ↔ ¬ (wordsOk xs ∧ (J xs).length ≤ 60) := by simp [jwB]
noncomputable def jwV (xs : List (List UInt8)) : ByteArray := if jwB xs = true then ⟨(J xs).toArray⟩ else ⟨#[]⟩
noncomputable def jwC (xs : List (List UInt8)) : Int := if jwB xs = true then 0 else 1
theorem sumL_take (xs : List (List UInt8)) (k : Nat) (x : List UInt8) (h : xs[k]? = some x) : sumL (xs.take (k + 1)) = sumL (xs.take k) + x.length := by
  rw [List.take_add_one, h]; simp [sumL]
theorem sumL_le (xs : List (List UInt8)) (k : Nat) : sumL (xs.take k) ≤ sumL xs := by
  have h : sumL xs = sumL (xs.take k) + sumL (xs.drop k) := by
    have := congrArg sumL (List.take_append_drop k xs).symm
    rw [this]; simp only [sumL, List.map_append, List.sum_append]
  omega
end Go.Proofs.Ytikndeloeeppaaa
