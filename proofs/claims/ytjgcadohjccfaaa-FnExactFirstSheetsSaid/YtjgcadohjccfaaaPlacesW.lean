/- Where the letters of a text are: the program's. -/
import Derived.Test.YtjgcadohjccfaaaLinesA

import Derived.Test.YtjgcadohjccfaaaWr
import Derived.Test.YtjgcadohjccfaaaG6
import Derived.LoopIn
import Derived.BigFrameIn
namespace Go.Proofs.Ytjgcadohjccfaaa
open Go Go.RowKit Go.Shelf Go.Sort
attribute [local go_sem] Oper.semAt_some

/-- Where the first k letters of a word are that begins at p. -/
def plW (F : Fc) (L : List UInt8) (p : Int) (k : Nat) : List Int := (List.range k).map fun j => p + wideTo F L j + gapL F L j
theorem plW_succ (F : Fc) (L : List UInt8) (p : Int) (k : Nat) : plW F L p (k + 1) = plW F L p k ++ [p + wideTo F L k + gapL F L k] := by simp [plW, List.range_succ]
theorem plW_len (F : Fc) (L : List UInt8) (p : Int) (k : Nat) : (plW F L p k).length = k := by simp [plW]
/-- Where the letters of the first k words are. -/
def plTo (F : Fc) (ws : List (List UInt8)) : Nat → List Int
  | 0 => []
  | k + 1 => plTo F ws k ++ plW F (ws.getD k []) (preL F ws k) (ws.getD k []).length
def plL (F : Fc) (ws : List (List UInt8)) : List Int := plTo F ws ws.length
theorem plTo_app (F : Fc) (ws r : List (List UInt8)) : ∀ k, k ≤ ws.length → plTo F (ws ++ r) k = plTo F ws k
  | 0, _ => rfl
  | k + 1, h => by
    have ih := plTo_app F ws r k (by omega)
    have e : (ws ++ r).getD k [] = ws.getD k [] := by simp only [List.getD_eq_getElem?_getD]; rw [List.getElem?_append_left (by omega)]
    simp only [plTo, ih, e, preL_app F ws r k (by omega)]
theorem plL_snoc (F : Fc) (ws : List (List UInt8)) (x : List UInt8) : plL F (ws ++ [x]) = plL F ws ++ plW F x (preL F ws ws.length) x.length := by
  unfold plL
  have e : (ws ++ [x]).getD ws.length [] = x := by simp [List.getD_eq_getElem?_getD]
  rw [List.length_append, List.length_singleton]
  simp only [plTo]
  rw [plTo_app F ws [x] _ (Nat.le_refl _), e, preL_app F ws [x] _ (Nat.le_refl _)]
theorem plTo_len {F : Fc} {ws : List (List UInt8)} (h : ∀ x ∈ ws, x.length ≤ 60) : ∀ k, k ≤ ws.length → (plTo F ws k).length ≤ 60 * k
  | 0, _ => by simp [plTo]
  | k + 1, hk => by
    have ih := plTo_len (F := F) h k (by omega)
    have := h _ (getD_mem (ws := ws) (k := k) (by omega))
    simp only [plTo, List.length_append, plW_len]; omega

end Go.Proofs.Ytjgcadohjccfaaa
