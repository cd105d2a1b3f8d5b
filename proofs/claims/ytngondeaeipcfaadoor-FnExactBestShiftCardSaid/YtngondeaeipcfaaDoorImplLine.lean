/- The program's width of a line. -/
import Derived.Test.YtngondeaeipcfaaDoorG7
import Derived.Test.YtngondeaeipcfaaDoorG6
import Derived.Deep.RegionWith
import Derived.OrdersHeld
import Derived.Test.YtngondeaeipcfaaDoorG1
import Derived.Test.YtngondeaeipcfaaDoorWr
namespace Go.Proofs.YtngondeaeipcfaaDoor
open Go Go.RowKit Go.Shelf Go.Sort
attribute [local go_sem] Oper.semAt_some

theorem splitL_count : ∀ L : List UInt8, (splitL L).length = Lib.countByte L 32 + 1
  | [] => rfl
  | c :: cs => by
    have ih := splitL_count cs
    unfold Lib.countByte at *
    by_cases hc : c = 32
    · subst hc; rw [splitL_32, List.count_cons_self]; simp only [List.length_cons]; omega
    · rw [splitL_other _ hc, List.count_cons_of_ne hc]
      have hne := splitL_ne cs
      cases h : splitL cs with
      | nil => exact (hne h).elim
      | cons a t => rw [h] at ih; simpa [glue] using ih
theorem lineTo_sum (F : Fc) (ws : List (List UInt8)) : ∀ k, k ≤ ws.length → lineTo F ws k = ((ws.take k).map (wideL F)).sum + ((k - 1 : Nat) : Int) * F.sp
  | 0, _ => by simp [lineTo]
  | k + 1, h => by
    have ih := lineTo_sum F ws k (by omega)
    have hg : ws.getD k [] = ws[k]'(by omega) := by rw [List.getD_eq_getElem?_getD, List.getElem?_eq_getElem (by omega)]; rfl
    have ht : ws.take (k + 1) = ws.take k ++ [ws[k]'(by omega)] := by rw [List.take_succ_eq_append_getElem]
    have e1 : lineTo F ws (k + 1) = lineTo F ws k + wideL F (ws.getD k []) + (if k = 0 then 0 else F.sp) := rfl
    rw [e1, ih, hg, ht]
    by_cases hk : k = 0
    · subst hk; simp
    · rw [if_neg hk]
      have e2 : ((k + 1 - 1 : Nat) : Int) = ((k - 1 : Nat) : Int) + 1 := by omega
      rw [e2, Int.add_mul]
      simp only [List.map_append, List.map_cons, List.map_nil, List.sum_append, List.sum_cons, List.sum_nil]
      omega
theorem line_sum (F : Fc) {L : List UInt8} (h : vtext L = true) (ws : List Wd) (hws : ws.map (·.1) = itW L) : lineL F (wordsL L) = (Lib.countByte L 32 : Int) * F.sp + sumW F ws := by
  have e0 : sumW F ws = ((wordsL L).map (wideL F)).sum := by
    unfold sumW; rw [← itW_words h, ← hws, List.map_map]; rfl
  have e1 := lineTo_sum F (wordsL L) (wordsL L).length (Nat.le_refl _)
  rw [List.take_length] at e1
  rw [e0, lineL, e1]
  have e2 : ((wordsL L).length - 1) = Lib.countByte L 32 := by
    unfold wordsL
    split
    · rename_i hn; subst hn; rfl
    · rw [splitL_count]; omega
  rw [e2]; omega
end Go.Proofs.YtngondeaeipcfaaDoor
