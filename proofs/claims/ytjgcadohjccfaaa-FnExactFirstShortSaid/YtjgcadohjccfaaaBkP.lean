/- Books as plain data: their codes, what there is behind each line, and the first line behind which there are too few. -/
import Derived.Test.YtjgcadohjccfaaaChD
namespace Go.Proofs.Ytjgcadohjccfaaa
open Go Go.RowKit

/-- A number of a book is as told. -/
def bokB (x : Int) : Bool := inB x (-1000) 1000
/-- The code of a number at first, and of a book. -/
def bkC (st : Int) (xs : List Int) : Int := if (inB st 0 1000000 && xs.all bokB) = true then if 60 < xs.length then 3 else 0 else 2
theorem bk_bad {st : Int} {xs : List Int} (h : (inB st 0 1000000 && xs.all bokB) = false) : bkC st xs = 2 := by unfold bkC; rw [h]; rfl
theorem bk_many {st : Int} {xs : List Int} (h : (inB st 0 1000000 && xs.all bokB) = true) (h' : 60 < xs.length) : bkC st xs = 3 := by unfold bkC; rw [if_pos h, if_pos h']
theorem bk_ok {st : Int} {xs : List Int} (h : (inB st 0 1000000 && xs.all bokB) = true) (h' : ¬ 60 < xs.length) : bkC st xs = 0 := by unfold bkC; rw [if_pos h, if_neg h']
theorem bk_zero {st : Int} {xs : List Int} (h : bkC st xs = 0) : (0 ≤ st ∧ st ≤ 1000000) ∧ (∀ x ∈ xs, -1000 ≤ x ∧ x ≤ 1000) ∧ xs.length ≤ 60 := by
  unfold bkC at h
  split at h
  · rename_i h1
    simp only [Bool.and_eq_true] at h1
    split at h
    · cases h
    · exact ⟨inB_true.1 h1.1, fun x hx => inB_true.1 (List.all_eq_true.1 h1.2 x hx), by omega⟩
  · cases h

/-- What there is behind the first k lines. -/
def bkN (st : Int) (xs : List Int) : Nat → Int
  | 0 => st
  | k + 1 => bkN st xs k + xs.getD k 0
theorem bkN_succ {st : Int} {xs : List Int} {k : Nat} {x : Int} (h : xs[k]? = some x) : bkN st xs (k + 1) = bkN st xs k + x := by
  show bkN st xs k + xs.getD k 0 = _; rw [getD_of h]
theorem bkN_bd {st : Int} {xs : List Int} (h : ∀ x ∈ xs, -1000 ≤ x ∧ x ≤ 1000) : ∀ k, k ≤ xs.length → st - 1000 * k ≤ bkN st xs k ∧ bkN st xs k ≤ st + 1000 * k
  | 0, _ => by simp [bkN]
  | k + 1, hk => by
    have ih := bkN_bd (st := st) h k (by omega)
    have hx := List.getElem?_eq_getElem (show k < xs.length by omega)
    have hb := h _ (List.getElem_mem (show k < xs.length by omega))
    rw [bkN_succ hx]
    omega
/-- What there is behind each of the first k lines. -/
def bkT (st : Int) (xs : List Int) (k : Nat) : List Int := (List.range k).map (fun j => bkN st xs (j + 1))
theorem bkT_len (st : Int) (xs : List Int) (k : Nat) : (bkT st xs k).length = k := by simp [bkT]
theorem bkT_succ (st : Int) (xs : List Int) (k : Nat) : bkT st xs (k + 1) = bkT st xs k ++ [bkN st xs (k + 1)] := by simp [bkT, List.range_succ]
theorem bkT_get {st : Int} {xs : List Int} {n k : Nat} (h : k < n) : (bkT st xs n)[k]? = some (bkN st xs (k + 1)) := by simp [bkT, List.getElem?_range h]
/-- The first of the first k lines behind which there are too few; -1 if there is none. -/
def bkS (st : Int) (xs : List Int) : Nat → Int
  | 0 => -1
  | k + 1 => if 0 ≤ bkS st xs k then bkS st xs k else if bkN st xs (k + 1) < 0 then k else -1
theorem bkS_bd (st : Int) (xs : List Int) : ∀ k, bkS st xs k = -1 ∨ (0 ≤ bkS st xs k ∧ bkS st xs k < k)
  | 0 => .inl rfl
  | k + 1 => by
    have ih := bkS_bd st xs k
    rw [bkS]
    split
    · right; omega
    · split
      · right; omega
      · left; rfl
theorem bkS_hit {st : Int} {xs : List Int} {k : Nat} (h : bkS st xs k = -1) (hn : bkN st xs (k + 1) < 0) : bkS st xs (k + 1) = k := by rw [bkS, h]; simp [hn]
theorem bkS_miss {st : Int} {xs : List Int} {k : Nat} (h : bkS st xs k = -1) (hn : ¬ bkN st xs (k + 1) < 0) : bkS st xs (k + 1) = -1 := by rw [bkS, h]; simp [hn]
theorem bkS_stay {st : Int} {xs : List Int} {k : Nat} (h : 0 ≤ bkS st xs k) : ∀ m, k ≤ m → bkS st xs m = bkS st xs k
  | 0, hm => by have : k = 0 := by omega
                subst this; rfl
  | m + 1, hm => by
    by_cases e : k = m + 1
    · subst e; rfl
    · have ih := bkS_stay h m (by omega)
      rw [bkS, ih, if_pos h]
/-- The most that is lacking behind the first k lines. -/
def bkM (xs : List Int) : Nat → Int
  | 0 => 0
  | k + 1 => max (bkM xs k) (-(bkN 0 xs (k + 1)))
theorem bkM_bd {xs : List Int} (h : ∀ x ∈ xs, -1000 ≤ x ∧ x ≤ 1000) : ∀ k, k ≤ xs.length → 0 ≤ bkM xs k ∧ bkM xs k ≤ 1000 * k
  | 0, _ => by simp [bkM]
  | k + 1, hk => by
    have ih := bkM_bd h k (by omega)
    have hb := bkN_bd (st := 0) h (k + 1) hk
    rw [bkM]; omega

/-! The answers -/
def saC (st : Int) (xs : List Int) : Int := if bkC st xs = 0 then if 0 ≤ bkS st xs xs.length then 4 else 0 else bkC st xs
def saR (st : Int) (xs : List Int) : List Int := if saC st xs = 0 then bkT st xs xs.length else []
theorem saR_len (st : Int) (xs : List Int) : (saR st xs).length ≤ 1048577 := by
  unfold saR
  split
  · rename_i h
    rw [bkT_len]
    have : bkC st xs = 0 := by
      unfold saC at h
      split at h
      · assumption
      · exact h
    have := (bk_zero this).2.2
    omega
  · simp
theorem sa_bad {st : Int} {xs : List Int} (h : bkC st xs ≠ 0) : saC st xs = bkC st xs ∧ saR st xs = [] := by
  have e : saC st xs = bkC st xs := if_neg h
  exact ⟨e, if_neg (by rw [e]; exact h)⟩
theorem sa_short {st : Int} {xs : List Int} (h : bkC st xs = 0) (h' : 0 ≤ bkS st xs xs.length) : saC st xs = 4 ∧ saR st xs = [] := by
  have e : saC st xs = 4 := by unfold saC; rw [if_pos h, if_pos h']
  exact ⟨e, if_neg (by rw [e]; decide)⟩
theorem sa_ok {st : Int} {xs : List Int} (h : bkC st xs = 0) (h' : ¬ 0 ≤ bkS st xs xs.length) : saC st xs = 0 ∧ saR st xs = bkT st xs xs.length := by
  have e : saC st xs = 0 := by unfold saC; rw [if_pos h, if_neg h']
  exact ⟨e, if_pos e⟩
def fsC (st : Int) (xs : List Int) : Int := if bkC st xs = 0 then if 0 ≤ bkS st xs xs.length then 0 else 6 else bkC st xs
def fsV (st : Int) (xs : List Int) : Int := if bkC st xs = 0 then if 0 ≤ bkS st xs xs.length then bkS st xs xs.length else 0 else 0
theorem fs_bad {st : Int} {xs : List Int} (h : bkC st xs ≠ 0) : fsC st xs = bkC st xs ∧ fsV st xs = 0 := ⟨if_neg h, if_neg h⟩
theorem fs_none {st : Int} {xs : List Int} (h : bkC st xs = 0) (h' : ¬ 0 ≤ bkS st xs xs.length) : fsC st xs = 6 ∧ fsV st xs = 0 := by unfold fsC fsV; rw [if_pos h, if_pos h, if_neg h', if_neg h']; exact ⟨rfl, rfl⟩
theorem fs_some {st : Int} {xs : List Int} (h : bkC st xs = 0) (h' : 0 ≤ bkS st xs xs.length) : fsC st xs = 0 ∧ fsV st xs = bkS st xs xs.length := by unfold fsC fsV; rw [if_pos h, if_pos h, if_pos h', if_pos h']; exact ⟨rfl, rfl⟩
def leC (xs : List Int) : Int := bkC 0 xs
def leV (xs : List Int) : Int := if bkC 0 xs = 0 then bkM xs xs.length else 0
end Go.Proofs.Ytjgcadohjccfaaa
