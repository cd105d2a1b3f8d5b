/- How wide a line of words is, as plain data. -/
import Derived.Test.YtikndeloeeppaaaWideP
import Derived.Test.YtikndeloeeppaaaWordsP
namespace Go.Proofs.Ytikndeloeeppaaa
open Go Go.RowKit

theorem splitL_mem : ∀ (L x : List UInt8), x ∈ splitL L → x.length ≤ L.length ∧ ∀ b ∈ x, b ∈ L ∧ b ≠ 32
  | [], x, h => by
    simp [splitL] at h; subst h; simp
  | c :: cs, x, h => by
    by_cases hc : c = 32
    · subst hc
      rw [splitL_32] at h
      rcases List.mem_cons.1 h with rfl | h
      · simp
      · obtain ⟨h1, h2⟩ := splitL_mem cs x h
        exact ⟨by simp only [List.length_cons]; omega, fun b hb => ⟨List.mem_cons_of_mem _ (h2 b hb).1, (h2 b hb).2⟩⟩
    · rw [splitL_other _ hc] at h
      have hne := splitL_ne cs
      cases hS : splitL cs with
      | nil => exact (hne hS).elim
      | cons a t =>
        rw [hS] at h
        rcases List.mem_cons.1 (show x ∈ ([c] ++ a) :: t from h) with rfl | h
        · obtain ⟨h1, h2⟩ := splitL_mem cs a (by rw [hS]; exact List.mem_cons_self)
          refine ⟨by simp; omega, fun b hb => ?_⟩
          rcases List.mem_cons.1 (show b ∈ c :: a from hb) with rfl | hb
          · exact ⟨List.mem_cons_self, hc⟩
          · exact ⟨List.mem_cons_of_mem _ (h2 b hb).1, (h2 b hb).2⟩
        · obtain ⟨h1, h2⟩ := splitL_mem cs x (by rw [hS]; exact List.mem_cons_of_mem _ h)
          exact ⟨by simp only [List.length_cons]; omega, fun b hb => ⟨List.mem_cons_of_mem _ (h2 b hb).1, (h2 b hb).2⟩⟩
theorem words_mem {L x : List UInt8} (h : vtext L = true) (hx : x ∈ wordsL L) : x.length ≤ 60 ∧ allCap x := by
  obtain ⟨hlen, hg⟩ := vtext_true.1 h
  unfold wordsL at hx
  split at hx
  · simp at hx
  · obtain ⟨h1, h2⟩ := splitL_mem L x hx
    refine ⟨by omega, fun i hi => ?_⟩
    have hb : byteAt x i = ((x[i]).toNat : Int) := by unfold byteAt; rw [List.getD_eq_getElem?_getD, List.getElem?_eq_getElem hi]; rfl
    obtain ⟨h3, h4⟩ := h2 x[i] (List.getElem_mem hi)
    obtain ⟨j, hj, he⟩ := List.getElem_of_mem h3
    have hb2 : byteAt L j = byteAt x i := by rw [hb, ← he]; unfold byteAt; rw [List.getD_eq_getElem?_getD, List.getElem?_eq_getElem hj]; rfl
    rcases hg j hj with ⟨h5, _⟩ | h5
    · exfalso
      rw [hb2, hb] at h5
      exact h4 (UInt8.toNat_inj.1 (by have : (x[i]).toNat = 32 := by omega
                                      rw [this]; rfl))
    · rw [← hb2]; exact h5
theorem words_len {L : List UInt8} (h : vtext L = true) : (wordsL L).length ≤ 61 := by
  have h1 := (vtext_true.1 h).1
  unfold wordsL
  split
  · simp
  · have : ∀ L : List UInt8, (splitL L).length ≤ L.length + 1 := fun L => by
      induction L with
      | nil => simp [splitL]
      | cons c cs ih =>
        by_cases hc : c = 32
        · subst hc; rw [splitL_32]; simp only [List.length_cons]; omega
        · rw [splitL_other _ hc]
          have hne := splitL_ne cs
          cases h : splitL cs with
          | nil => exact (hne h).elim
          | cons a t => rw [h] at ih; simp only [glue, List.length_cons] at *; omega
    have := this L; omega

/-- The sum of the words' widths, and a line's width. -/
def lineTo (F : Fc) (ws : List (List UInt8)) : Nat → Int
  | 0 => 0
  | k + 1 => lineTo F ws k + wideL F (ws.getD k []) + (if k = 0 then 0 else F.sp)
def lineL (F : Fc) (ws : List (List UInt8)) : Int := lineTo F ws ws.length
theorem wideL_bd {F : Fc} (hF : F.ok) (h : vface F = true) {L : List UInt8} (hc : allCap L) (hl : L.length ≤ 60) : 0 ≤ wideL F L ∧ wideL F L ≤ 3600 := by
  have := wideTo_bd hF h hc L.length (Nat.le_refl _)
  unfold wideL; omega
theorem sp_bd {F : Fc} (h : vface F = true) : 1 ≤ F.sp ∧ F.sp ≤ 40 := inB_true.1 (vface_true.1 h).2.sp
theorem getD_mem {ws : List (List UInt8)} {k : Nat} (hk : k < ws.length) : ws.getD k [] ∈ ws := by
  rw [List.getD_eq_getElem?_getD, List.getElem?_eq_getElem hk]; exact List.getElem_mem hk
theorem lineTo_bd {F : Fc} (hF : F.ok) (h : vface F = true) {ws : List (List UInt8)} (hw : ∀ x ∈ ws, x.length ≤ 60 ∧ allCap x) : ∀ k, k ≤ ws.length → 0 ≤ lineTo F ws k ∧ lineTo F ws k ≤ 3640 * k
  | 0, _ => by simp [lineTo]
  | k + 1, hk => by
    have ih := lineTo_bd hF h hw k (by omega)
    obtain ⟨h1, h2⟩ := hw _ (getD_mem (ws := ws) (k := k) (by omega))
    have h3 := wideL_bd hF h h2 h1
    have h4 := sp_bd h
    simp only [lineTo]
    split <;> omega
end Go.Proofs.Ytikndeloeeppaaa
