/- FillWord, of both. -/
import Derived.Test.YtngondeaeipcfaaDoorFlI
import Derived.Laws.Tables
namespace Go.Proofs.YtngondeaeipcfaaDoor
open Go.RowKit

theorem wpList_build_eq {P : Program} {ops : Array Oper} {rest : List Oper} {o : Oper} {a : Act} {w : World} {Q : Exit → Act → World → Prop} {vs : List (Nat × Value)} {cells : Array Value} (hg : o.guard = none) (t : TypeId) (parts : Array (Nat × Operand)) (ho : o.op = .build t parts)
    (hb : P.built t vs = some cells) (hvs : (parts.map fun (i, x) => (i, a.eval x)).toList = vs) (h : wpList P ops Q rest (a.put o.dst (.agg cells)) w) : wpList P ops Q (o :: rest) a w := by
  subst hvs; exact wpList_build hg t parts ho (by rw [hb]; rfl) (by rw [hb]; exact h)
theorem blc_one (F : Fc) (A : Option Addr) (n c : Nat) (l r : ByteArray) (x y : Int) : (blc F (.slice A n c) l r x y).toArray.all (·.oneCell') = true :=
  all_oneCell_toArray (by
    intro v hv
    simp [blc, fc, wc] at hv
    rcases hv with ⟨a, _, rfl⟩ | rfl | rfl | rfl | rfl | rfl | rfl | rfl <;> rfl)

/-- Word number x fits. -/
noncomputable def fwP (F : Fc) (l r : ByteArray) (xs : List ByteArray) (x y : Int) (i : Int) : Bool := filB F (l ++ xs.getD i.toNat ⟨#[]⟩ ++ r).data.toList x y
noncomputable def fwR (F : Fc) (l r : ByteArray) (xs : List ByteArray) (x y : Int) : List Int := if flC F l.data.toList r.data.toList xs x y = 0 then (idxL xs.length).filter (fwP F l r xs x y) else []
theorem fw_no {F : Fc} {l r : ByteArray} {xs : List ByteArray} {x y : Int} (h : flC F l.data.toList r.data.toList xs x y ≠ 0) : fwR F l r xs x y = [] := by unfold fwR; rw [if_neg h]
theorem fw_ok {F : Fc} {l r : ByteArray} {xs : List ByteArray} {x y : Int} (h : flC F l.data.toList r.data.toList xs x y = 0) : fwR F l r xs x y = (idxL xs.length).filter (fwP F l r xs x y) := by unfold fwR; rw [if_pos h]
theorem fwR_len (F : Fc) (l r : ByteArray) (xs : List ByteArray) (x y : Int) : (fwR F l r xs x y).length ≤ 1048577 := by
  unfold fwR
  split
  · rename_i h
    have := (vlist_true.1 (fl_zero h).2.1).1
    exact Nat.le_trans (List.length_filter_le _ _) (by rw [idxL_len]; omega)
  · simp

end Go.Proofs.YtngondeaeipcfaaDoor
