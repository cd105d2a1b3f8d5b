/- Letters upside down: one letter, all of a text, backwards. -/
import Derived.Test.YtngondeaeipcfaaDoorIvB
import Derived.Shelf.RegionOpenPlain
namespace Go.Proofs.YtngondeaeipcfaaDoor
open Go.RowKit

theorem turn8_to {x : UInt8} : ((turn8 x).toNat : Int) = turnB (x.toNat : Int) := by
  have hx := x.toNat_lt
  obtain ⟨h0, h1⟩ := turnB_bd (x.toNat : Int) ⟨by omega, by omega⟩
  unfold turn8
  rw [UInt8.toNat_ofNat']
  omega
/-- The first k letters are turned. -/
def tuTo (L : List UInt8) (k : Nat) : List UInt8 := (L.take k).map turn8 ++ L.drop k
theorem tuTo_len (L : List UInt8) (k : Nat) : (tuTo L k).length = L.length := by simp [tuTo]; omega
theorem tuTo_zero (L : List UInt8) : tuTo L 0 = L := by simp [tuTo]
theorem tuTo_all (L : List UInt8) : tuTo L L.length = L.map turn8 := by simp [tuTo]
theorem tuTo_at {L : List UInt8} {k : Nat} (hk : k < L.length) : byteAt (tuTo L k) k = byteAt L k := by
  unfold byteAt tuTo
  rw [List.getD_eq_getElem?_getD, List.getElem?_append_right (by simp; omega), List.getD_eq_getElem?_getD]
  simp [Nat.min_eq_left (Nat.le_of_lt hk)]
theorem tuTo_succ {L : List UInt8} {k : Nat} (hk : k < L.length) : tuTo L (k + 1) = (tuTo L k).set k (turn8 (L.getD k 0)) := by
  apply List.ext_getElem
  · simp [tuTo_len]
  · intro i h1 h2
    rw [tuTo_len] at h1
    rw [List.getElem_set]
    simp only [tuTo, List.getElem_append, List.length_map, List.length_take, List.getElem_map, List.getElem_take, List.getElem_drop]
    by_cases e : k = i
    · subst e
      have : k < min (k + 1) L.length := by omega
      simp [this, List.getD, hk]
    · rw [if_neg e]
      by_cases h3 : i < k
      · have a1 : i < min (k + 1) L.length := by omega
        have a2 : i < min k L.length := by omega
        simp [a1, a2]
      · have a1 : ¬ i < min (k + 1) L.length := by omega
        have a2 : ¬ i < min k L.length := by omega
        simp only [a1, a2, dif_neg, not_false_eq_true]
        congr 1
        omega
/-- The first and the last k have changed places. -/
def revTo (L : List UInt8) (k : Nat) : List UInt8 := (List.range L.length).map (fun j => if j < k ∨ L.length < j + 1 + k then L.getD (L.length - 1 - j) 0 else L.getD j 0)
theorem revTo_len (L : List UInt8) (k : Nat) : (revTo L k).length = L.length := by simp [revTo]
theorem revTo_zero (L : List UInt8) : revTo L 0 = L := by
  apply List.ext_getElem
  · simp [revTo]
  · intro i h1 h2
    simp only [revTo, List.getElem_map, List.getElem_range]
    rw [if_neg (by omega)]
    simp [List.getD, h2]
theorem revTo_end {L : List UInt8} {k : Nat} (h : L.length ≤ 2 * k + 1) : revTo L k = L.reverse := by
  apply List.ext_getElem
  · simp [revTo]
  · intro i h1 h2
    rw [revTo_len] at h1
    simp only [revTo, List.getElem_map, List.getElem_range, List.getElem_reverse]
    by_cases e : i < k ∨ L.length < i + 1 + k
    · rw [if_pos e]; simp [List.getD, show L.length - 1 - i < L.length by omega]
    · rw [if_neg e]
      have : i = L.length - 1 - i := by omega
      simp only [List.getD, List.getElem?_eq_getElem h1, Option.getD_some]
      congr 1
theorem revTo_at {L : List UInt8} {k j : Nat} (hj : j < L.length) (h : ¬ (j < k ∨ L.length < j + 1 + k)) : byteAt (revTo L k) j = byteAt L j := by
  unfold byteAt
  have : (revTo L k).getD j 0 = L.getD j 0 := by
    simp only [List.getD_eq_getElem?_getD, revTo, List.getElem?_map, List.getElem?_range hj, Option.map_some, Option.getD_some]
    rw [if_neg h]
  rw [this]
theorem revTo_succ {L : List UInt8} {k : Nat} (h : 2 * k + 1 < L.length) : revTo L (k + 1) = ((revTo L k).set k (L.getD (L.length - 1 - k) 0)).set (L.length - 1 - k) (L.getD k 0) := by
  apply List.ext_getElem
  · simp [revTo_len]
  · intro i h1 h2
    rw [revTo_len] at h1
    rw [List.getElem_set, List.getElem_set]
    simp only [revTo, List.getElem_map, List.getElem_range]
    by_cases e1 : L.length - 1 - k = i
    · rw [if_pos e1, if_pos (by omega)]
      congr 1
      omega
    · rw [if_neg e1]
      by_cases e2 : k = i
      · subst e2
        rw [if_pos rfl, if_pos (by omega)]
      · rw [if_neg e2]
        by_cases e3 : i < k ∨ L.length < i + 1 + k
        · rw [if_pos e3, if_pos (by omega)]
        · rw [if_neg e3, if_neg (by omega)]

abbrev tab26 : Array Value := #[.int .u8 0, .int .u8 0, .int .u8 0, .int .u8 0, .int .u8 0, .int .u8 0, .int .u8 0, .int .u8 72, .int .u8 73, .int .u8 0, .int .u8 0, .int .u8 0, .int .u8 87, .int .u8 78, .int .u8 79, .int .u8 0, .int .u8 0, .int .u8 0, .int .u8 83, .int .u8 0, .int .u8 0, .int .u8 0, .int .u8 77, .int .u8 88, .int .u8 0, .int .u8 90]
abbrev zer26 : Array Value := #[.int .u8 0, .int .u8 0, .int .u8 0, .int .u8 0, .int .u8 0, .int .u8 0, .int .u8 0, .int .u8 0, .int .u8 0, .int .u8 0, .int .u8 0, .int .u8 0, .int .u8 0, .int .u8 0, .int .u8 0, .int .u8 0, .int .u8 0, .int .u8 0, .int .u8 0, .int .u8 0, .int .u8 0, .int .u8 0, .int .u8 0, .int .u8 0, .int .u8 0, .int .u8 0]
theorem tab26_at : ∀ n : Nat, n < 26 → tab26[n]? = some (.int .u8 (turnB (65 + n)))
  | 0, _ | 1, _ | 2, _ | 3, _ | 4, _ | 5, _ | 6, _ | 7, _ | 8, _ | 9, _ | 10, _ | 11, _ | 12, _ | 13, _ | 14, _ | 15, _ | 16, _ | 17, _ | 18, _ | 19, _ | 20, _ | 21, _ | 22, _ | 23, _ | 24, _ | 25, _ => by kernel_rfl
  | n + 26, h => by omega

end Go.Proofs.YtngondeaeipcfaaDoor
