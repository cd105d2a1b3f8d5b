/- The first sheet with so much left: data. -/
import Derived.Test.YtjgcadohjccfaaaGoC
import Derived.Deep.AppendLies
namespace Go.Proofs.Ytjgcadohjccfaaa
open Go Go.RowKit

/-- The first one that is enough. -/
def fsI : List Int → Int → Nat
  | [], _ => 0
  | y :: r, x => if y < x then fsI r x + 1 else 0
theorem fsI_le : ∀ (R : List Int) (x : Int), fsI R x ≤ R.length
  | [], _ => Nat.le_refl _
  | y :: r, x => by have := fsI_le r x; rw [fsI]; split <;> simp <;> omega
theorem fsI_step : ∀ {R : List Int} {x y : Int} {j : Nat}, j ≤ fsI R x → R[j]? = some y → y < x → j + 1 ≤ fsI R x
  | [], x, y, j, _, h, _ => by simp at h
  | z :: r, x, y, 0, _, h, hy => by simp at h; subst h; rw [fsI, if_pos hy]; omega
  | z :: r, x, y, j + 1, hj, h, hy => by
    rw [fsI] at hj ⊢
    split at hj
    · have := fsI_step (R := r) (x := x) (y := y) (j := j) (by omega) (by simpa using h) hy
      rename_i hz; rw [if_pos hz]; omega
    · omega
theorem fsI_stop : ∀ {R : List Int} {x y : Int} {j : Nat}, j ≤ fsI R x → R[j]? = some y → ¬ y < x → fsI R x = j
  | [], x, y, j, _, h, _ => by simp at h
  | z :: r, x, y, 0, _, h, hy => by simp at h; subst h; rw [fsI, if_neg hy]
  | z :: r, x, y, j + 1, hj, h, hy => by
    rw [fsI] at hj ⊢
    split at hj
    · have := fsI_stop (R := r) (x := x) (y := y) (j := j) (by omega) (by simpa using h) hy
      rename_i hz; rw [if_pos hz, this]
    · omega
theorem fsI_end {R : List Int} {x : Int} {j : Nat} (h : j ≤ fsI R x) (hj : j = R.length) : fsI R x = j := by have := fsI_le R x; omega
theorem fsI_fit : ∀ {R : List Int} {x : Int}, fsI R x ≠ R.length → x ≤ R.getD (fsI R x) 0
  | [], _, h => absurd rfl h
  | y :: r, x, h => by
    by_cases hy : y < x
    · have e : fsI (y :: r) x = fsI r x + 1 := by rw [fsI, if_pos hy]
      rw [e] at h ⊢
      rw [List.getD_cons_succ]
      exact fsI_fit (by intro e; apply h; rw [e]; rfl)
    · have e : fsI (y :: r) x = 0 := by rw [fsI, if_neg hy]
      rw [e]; show x ≤ y; omega
/-- A new sheet, if none is enough. -/
def fsG (wd : Int) (R : List Int) (x : Int) : List Int := if fsI R x = R.length then R ++ [wd] else R
theorem fsG_new {wd : Int} {R : List Int} {x : Int} (h : fsI R x = R.length) : fsG wd R x = R ++ [wd] := if_pos h
theorem fsG_old {wd : Int} {R : List Int} {x : Int} (h : fsI R x ≠ R.length) : fsG wd R x = R := if_neg h
theorem fsG_lt (wd : Int) (R : List Int) (x : Int) : fsI R x < (fsG wd R x).length := by
  have := fsI_le R x
  by_cases h : fsI R x = R.length
  · rw [fsG_new h, List.length_append]; simp; omega
  · rw [fsG_old h]; omega
theorem fsG_len (wd : Int) (R : List Int) (x : Int) : (fsG wd R x).length ≤ R.length + 1 := by
  by_cases h : fsI R x = R.length
  · rw [fsG_new h, List.length_append]; simp
  · rw [fsG_old h]; omega
theorem fsG_mem {wd : Int} {R : List Int} {x y : Int} (h : y ∈ fsG wd R x) : y ∈ R ∨ y = wd := by
  by_cases e : fsI R x = R.length
  · rw [fsG_new e, List.mem_append, List.mem_singleton] at h; exact h
  · rw [fsG_old e] at h; exact .inl h
theorem fsG_get (wd : Int) (R : List Int) (x : Int) : (fsG wd R x)[fsI R x]? = some ((fsG wd R x).getD (fsI R x) 0) := by
  rw [List.getD_eq_getElem?_getD, List.getElem?_eq_getElem (fsG_lt wd R x)]; rfl
theorem fsG_fit {wd : Int} {R : List Int} {x : Int} (hx : x ≤ wd) : x ≤ (fsG wd R x).getD (fsI R x) 0 := by
  by_cases h : fsI R x = R.length
  · rw [fsG_new h, h]; simp [List.getD_eq_getElem?_getD]; exact hx
  · rw [fsG_old h]; exact fsI_fit h
/-- What is left behind one piece. -/
def fsN (wd : Int) (R : List Int) (x : Int) : List Int := (fsG wd R x).set (fsI R x) ((fsG wd R x).getD (fsI R x) 0 - x)
/-- What is left, and the sheets, behind k pieces. -/
def fsT (wd : Int) (P : List Int) : Nat → List Int × List Int
  | 0 => ([], [])
  | k + 1 => (fsN wd (fsT wd P k).1 (P.getD k 0), (fsT wd P k).2 ++ [(fsI (fsT wd P k).1 (P.getD k 0) : Int)])
theorem fsT_succ {wd : Int} {P R S : List Int} {k : Nat} {x : Int} (h : fsT wd P k = (R, S)) (hx : P[k]? = some x) : fsT wd P (k + 1) = (fsN wd R x, S ++ [(fsI R x : Int)]) := by
  rw [fsT, h, getD_of hx]
theorem fsT_bd {wd : Int} (hw : 1 ≤ wd) {P : List Int} (hx : ∀ x ∈ P, 1 ≤ x ∧ x ≤ wd) : ∀ (k : Nat), k ≤ P.length → ((fsT wd P k).1.length ≤ k ∧ (fsT wd P k).2.length = k ∧ ∀ y ∈ (fsT wd P k).1, 0 ≤ y ∧ y ≤ wd)
  | 0, _ => by simp [fsT]
  | k + 1, h => by
    obtain ⟨i1, i2, i3⟩ := fsT_bd hw hx k (by omega)
    have hxk := List.getElem?_eq_getElem (show k < P.length by omega)
    have hxx := hx _ (List.getElem_mem (show k < P.length by omega))
    rw [fsT_succ rfl hxk]
    refine ⟨?_, by simp [i2], fun y hy => ?_⟩
    · have := fsG_len wd (fsT wd P k).1 P[k]
      show (fsN _ _ _).length ≤ k + 1
      unfold fsN; rw [List.length_set]; omega
    · have hy : y ∈ fsN wd (fsT wd P k).1 P[k] := hy
      unfold fsN at hy
      rcases List.mem_or_eq_of_mem_set hy with hy | hy
      · rcases fsG_mem hy with hy | hy
        · exact i3 y hy
        · omega
      · have h1 := fsG_fit (wd := wd) (R := (fsT wd P k).1) (x := P[k]) hxx.2
        have hm : (fsG wd (fsT wd P k).1 P[k]).getD (fsI (fsT wd P k).1 P[k]) 0 ∈ fsG wd (fsT wd P k).1 P[k] := List.mem_of_getElem? (fsG_get _ _ _)
        rcases fsG_mem hm with hm | hm
        · have := i3 _ hm; omega
        · omega
noncomputable def fsR (F : Fc) (L : List UInt8) (wd ov : Int) : List Int := if ctC F L wd ov 60 = 0 then (fsT wd (pieL F L ov) (pieL F L ov).length).2 else []
noncomputable def fsV (F : Fc) (L : List UInt8) (wd ov : Int) : Int := if ctC F L wd ov 60 = 0 then ((fsT wd (pieL F L ov) (pieL F L ov).length).1.length : Int) else 0
theorem fs_bad {F : Fc} {L : List UInt8} {wd ov : Int} (h : ctC F L wd ov 60 ≠ 0) : fsR F L wd ov = [] ∧ fsV F L wd ov = 0 := ⟨if_neg h, if_neg h⟩
theorem fs_ok {F : Fc} {L : List UInt8} {wd ov : Int} (h : ctC F L wd ov 60 = 0) : fsR F L wd ov = (fsT wd (pieL F L ov) (pieL F L ov).length).2 ∧ fsV F L wd ov = ((fsT wd (pieL F L ov) (pieL F L ov).length).1.length : Int) := ⟨if_pos h, if_pos h⟩
theorem fsR_len {F : Fc} (hF : F.ok) (L : List UInt8) (wd ov : Int) : (fsR F L wd ov).length ≤ 1048577 := by
  by_cases h : ctC F L wd ov 60 = 0
  · rw [(fs_ok h).1]
    obtain ⟨_, hg, h60, hxd⟩ := ct_zero hF h
    obtain ⟨_, _, ⟨hw1, _⟩, _⟩ := gp_parts hg
    have := (fsT_bd (by omega) hxd (pieL F L ov).length (Nat.le_refl _)).2.1
    omega
  · rw [(fs_bad h).1]; simp
end Go.Proofs.Ytjgcadohjccfaaa
