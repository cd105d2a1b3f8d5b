/- Rows of any kind as one list of cells; lists of them that have been appended to. -/
import Derived.Test.YtngondeaeipcfaaDoorLay
import Derived.OwnWalk
import Derived.Laws.OwnMore
import Derived.Lib.SliceRun
namespace Go.Proofs.YtngondeaeipcfaaDoor
open Go.RowKit

section
variable {α : Type} {z : Nat} {c : α → List Value}
theorem flatG_len (hl : ∀ a, (c a).length = z) : ∀ xs : List α, (xs.flatMap c).length = xs.length * z
  | [] => by simp
  | a :: r => by rw [List.flatMap_cons, List.length_append, hl, flatG_len hl r, List.length_cons, Nat.add_mul]; omega
theorem flatG_get (hl : ∀ a, (c a).length = z) {xs : List α} {k j : Nat} {p : α} {v : Value} (hp : xs[k]? = some p) (hv : (c p)[j]? = some v) : (xs.flatMap c)[k * z + j]? = some v := by
  induction xs generalizing k with
  | nil => simp at hp
  | cons q r ih =>
    have hj : j < z := by have := (List.getElem?_eq_some_iff.1 hv).1; rw [hl] at this; exact this
    rw [List.flatMap_cons]
    cases k with
    | zero =>
      simp at hp; subst hp
      rw [Nat.zero_mul, Nat.zero_add, List.getElem?_append_left (by rw [hl]; exact hj)]; exact hv
    | succ k =>
      have e : (k + 1) * z + j - (c q).length = k * z + j := by rw [hl, Nat.add_mul]; omega
      rw [List.getElem?_append_right (by rw [hl, Nat.add_mul]; omega), e]
      exact ih (by simpa using hp)
theorem flatG_inv (hl : ∀ a, (c a).length = z) (hz : 0 < z) {xs : List α} {i : Nat} {v : Value} (h : (xs.flatMap c)[i]? = some v) : ∃ p, xs[i / z]? = some p ∧ (c p)[i % z]? = some v := by
  have hi := (List.getElem?_eq_some_iff.1 h).1
  rw [flatG_len hl] at hi
  have hk : i / z < xs.length := (Nat.div_lt_iff_lt_mul hz).2 hi
  have hp : xs[i / z]? = some (xs[i / z]'hk) := List.getElem?_eq_getElem _
  have hr : i % z < (c (xs[i / z]'hk)).length := by rw [hl]; exact Nat.mod_lt _ hz
  have hv : (c (xs[i / z]'hk))[i % z]? = some ((c (xs[i / z]'hk))[i % z]'hr) := List.getElem?_eq_getElem _
  have hf := flatG_get hl hp hv
  have e : i / z * z + i % z = i := by rw [Nat.mul_comm]; exact Nat.div_add_mod i z
  rw [e, h] at hf
  exact ⟨_, hp, by rw [hv, ← Option.some.inj hf]⟩
theorem flatG_one (h1 : ∀ a, ∀ u ∈ c a, u.oneCell' = true) (xs : List α) : ∀ u ∈ xs.flatMap c, u.oneCell' = true := by
  intro u hu
  obtain ⟨a, _, h⟩ := List.mem_flatMap.1 hu
  exact h1 a u h
theorem rowsIn_of_own (hl : ∀ a, (c a).length = z) (hz : 0 < z) {w : World} {base e n : Nat} {v : Value} {xs : List α} (h : w.ownsRow base e z v n (xs.flatMap c)) (hn : n = xs.length) :
    ∃ A' c', v = .slice A' n c' ∧ n ≤ c' ∧ RowsIn z c w base A' xs := by
  rcases h.2 with ⟨rfl, h0⟩ | ⟨g, cap, cur, rfl, hbg, hg, hnc, _, hsz, htk⟩
  · exact ⟨none, 0, by rw [h0], by omega, fun hne => (hne (List.length_eq_zero_iff.1 (by omega))).elim⟩
  · refine ⟨_, cap, rfl, hnc, fun _ => ⟨g, 0, rfl, hbg, (Array.getElem?_eq_some_iff.1 hg).1, fun k p hp j u hu => ?_, fun j hj => ?_⟩⟩
    · rw [cell_of_row _ _ _ _ _ _ hg]
      have := flatG_get hl hp hu
      rw [← htk, List.getElem?_take] at this
      rw [Nat.zero_add]
      split at this
      · simpa using this
      · cases this
    · refine ⟨?_, frozen_of_row _ _ _ _ _ hg⟩
      rw [cell_of_row _ _ _ _ _ _ hg]
      have h1 : xs.length * z ≤ cap * z := Nat.mul_le_mul_right _ (by omega)
      have : 0 + j < cur.size := by rw [hsz]; omega
      simp [this]
      omega
theorem addAt (b o i : Nat) : (⟨b, o, none⟩ : Addr).add i = ⟨b, o + i, none⟩ := by unfold Addr.add; split <;> simp_all
theorem rowsNews (hl : ∀ a, (c a).length = z) (hz : 0 < z) {w : World} {b o : Nat} {xs : List α} (hP : ∀ k p, xs[k]? = some p → w.rangeAt b (o + k * z) (c p)) : ∀ j u, (xs.flatMap c)[j]? = some u → w.cell? ((⟨b, o, none⟩ : Addr).add j) = some u := by
  intro j u hu
  obtain ⟨p, hp, hv⟩ := flatG_inv hl hz hu
  have := hP _ p hp _ u hv
  rw [addAt]
  have e : o + j / z * z + j % z = o + j := by rw [Nat.add_assoc, Nat.mul_comm, Nat.div_add_mod]
  rw [e] at this; exact this
end
end Go.Proofs.YtngondeaeipcfaaDoor
