/- How often a rubbing wears till few dots are left: the dots grow fewer, or the rubbing stays. -/
import Derived.Test.YtjmkbdghenjlaaaDoorWo
namespace Go.Proofs.YtjmkbdghenjlaaaDoor
open Go Go.RowKit

theorem bitN_and (a b : Nat) : ∀ k, bitN (a &&& b) k ≤ bitN a k
  | 0 => Nat.le_refl _
  | k + 1 => by
    have h := bitN_and a b k
    simp only [bitN, Nat.testBit_and]
    cases a.testBit k <;> cases b.testBit k <;> simp <;> omega
theorem bitN_and_eq (a b : Nat) : ∀ k, bitN (a &&& b) k = bitN a k → ∀ j, j < k → (a &&& b).testBit j = a.testBit j
  | 0, _, _, hj => by omega
  | k + 1, h, j, hj => by
    have hle := bitN_and a b k
    simp only [bitN, Nat.testBit_and] at h
    by_cases e : j = k
    · subst e
      rw [Nat.testBit_and]
      revert h
      cases a.testBit j <;> cases b.testBit j <;> simp <;> omega
    · refine bitN_and_eq a b k ?_ j (by omega)
      revert h
      cases a.testBit k <;> cases b.testBit k <;> simp <;> omega
theorem cntN_cmn (R S : List Nat) : ∀ k, k ≤ 8 → cntN (cmnL R S) k ≤ cntN R k ∧ (cntN (cmnL R S) k = cntN R k → ∀ y, y < k → bitN ((cmnL R S).getD y 0) 16 = bitN (R.getD y 0) 16)
  | 0, _ => ⟨Nat.le_refl _, fun _ y hy => by omega⟩
  | k + 1, hk => by
    obtain ⟨h1, h2⟩ := cntN_cmn R S k (by omega)
    have hb := bitN_and (R.getD k 0) (S.getD k 0) 16
    rw [← cmnL_get R S (show k < 8 by omega)] at hb
    refine ⟨by simp only [cntN]; omega, fun h y hy => ?_⟩
    simp only [cntN] at h
    by_cases e : y = k
    · subst e; omega
    · exact h2 (by omega) y (by omega)
theorem ws_less {R : List Nat} (hR : rok R) (need : Int) (hne : wsR R need ≠ R) : cntN (wsR R need) 8 < cntN R 8 := by
  rw [← wo_same hR] at hne ⊢
  unfold woR at hne ⊢
  generalize dkIn (arL R 9) need = S at *
  obtain ⟨h1, h2⟩ := cntN_cmn R S 8 (Nat.le_refl _)
  rcases Nat.lt_or_ge (cntN (cmnL R S) 8) (cntN R 8) with h | h
  · exact h
  · refine absurd ?_ hne
    have h3 := h2 (by omega)
    have e1 := rub_eq (cmnL_ok hR S) (f := fun x y => (R.getD y 0).testBit x) (fun x y hx hy => by
      have h4 := h3 y hy
      rw [cmnL_get _ _ hy] at h4 ⊢
      exact bitN_and_eq _ _ 16 h4 x hx)
    have e2 := rub_eq hR (f := fun x y => (R.getD y 0).testBit x) (fun x y _ _ => rfl)
    rw [e1]; exact e2.symm

/-- The times and the code, of one that has worn t times already. -/
def wuW (need bound : Int) : Nat → List Nat → Int → Int × Int
  | 0, _, _ => (0, 6)
  | n + 1, R, t => if ((cntN R 8 : Nat) : Int) ≤ bound then (t, 0) else if wsR R need = R then (0, 6) else wuW need bound n (wsR R need) (t + 1)
theorem wuW_more (need bound : Int) : ∀ (n m : Nat) (R : List Nat) (t : Int), rok R → cntN R 8 < n → cntN R 8 < m → wuW need bound n R t = wuW need bound m R t
  | 0, _, _, _, _, h, _ => by omega
  | n + 1, 0, _, _, _, _, h => by omega
  | n + 1, m + 1, R, t, hR, h1, h2 => by
    simp only [wuW]
    split
    · rfl
    · split
      · rfl
      · rename_i hne
        have := ws_less hR need hne
        exact wuW_more need bound n m _ _ (wsR_ok R need) (by omega) (by omega)
def wuG (need bound : Int) (R : List Nat) (t : Int) : Int × Int := wuW need bound (cntN R 8 + 1) R t
theorem wuG_few {need bound : Int} {R : List Nat} (t : Int) (h : ((cntN R 8 : Nat) : Int) ≤ bound) : wuG need bound R t = (t, 0) := by
  unfold wuG wuW; rw [if_pos h]
theorem wuG_stays {need bound : Int} {R : List Nat} (t : Int) (h : ¬ ((cntN R 8 : Nat) : Int) ≤ bound) (he : wsR R need = R) : wuG need bound R t = (0, 6) := by
  unfold wuG wuW; rw [if_neg h, if_pos he]
theorem wuG_on {need bound : Int} {R : List Nat} (hR : rok R) (t : Int) (h : ¬ ((cntN R 8 : Nat) : Int) ≤ bound) (he : wsR R need ≠ R) : wuG need bound R t = wuG need bound (wsR R need) (t + 1) := by
  show wuW need bound (cntN R 8 + 1) R t = _
  rw [wuW, if_neg h, if_neg he]
  have := ws_less hR need he
  exact wuW_more need bound _ _ _ _ (wsR_ok R need) (by omega) (by omega)
def wuT (R : List Nat) (need bound : Int) : Int := if (inB need 0 8 && !decide (bound < 0)) = true then (wuG need bound R 0).1 else 0
def wuC (R : List Nat) (need bound : Int) : Int := if (inB need 0 8 && !decide (bound < 0)) = true then (wuG need bound R 0).2 else 2
theorem wu_yes {need bound : Int} (h : (inB need 0 8 && !decide (bound < 0)) = true) (R : List Nat) : wuT R need bound = (wuG need bound R 0).1 ∧ wuC R need bound = (wuG need bound R 0).2 := ⟨if_pos h, if_pos h⟩
theorem wu_no {need bound : Int} (h : (inB need 0 8 && !decide (bound < 0)) = false) (R : List Nat) : wuT R need bound = 0 ∧ wuC R need bound = 2 := ⟨if_neg (by rw [h]; decide), if_neg (by rw [h]; decide)⟩
end Go.Proofs.YtjmkbdghenjlaaaDoor
