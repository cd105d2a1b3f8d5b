/- A row is loaded from the middle of a block, in a fenced walk: in a round as anywhere. -/
import Derived.Test.YtikndeloeeppaaaBase
import Derived.Deep.MidRow
import Derived.OwnWalkIn
import Derived.WalkKit
import Derived.Shelf.RegionOpen
import Derived.OrdersIn
namespace Go.Proofs.Ytikndeloeeppaaa
open Go Go.RowKit

theorem wpListIn_load_mid {F : Fence} {n : Nat} {P : Program} {ops : Array Oper} {rest : List Oper} {op : Oper} {a : Act} {w : World} {Q : Exit → Act → World → Prop} (hgd : op.guard = none) (ty : TypeId) (x : Operand) (ho : op.op = .load ty x)
    (b o : Nat) (hx : a.eval x = .pointer (some ⟨b, o, none⟩)) (cs : List Value) (d : TypeDesc) (hc : w.rangeAt b o cs)
    (hu : P.underlying ty = some d) (hd : d.isRow = true) (hi : (P.info? ty).map (·.size) = some cs.length)
    (h : wpListIn F n P ops Q rest (a.put op.dst (.agg cs.toArray)) w) : wpListIn F n P ops Q (op :: rest) a w := by
  refine wpListIn_plain hgd fun K hK => ?_
  unfold Oper.wpIn
  refine ⟨?_, ?_⟩
  · simp [Oper.about, ho]
  · rw [Oper.semAt_plain F _ _ (by rw [ho]; intro c hc'; cases hc')]
    unfold execOp
    simp only [ho, hx, Instr.loadAt, Instr.sureAddr, Sem.run_bind, Sem.run_pure, Result.andThen_ok, run_loadVar_mid w b o ty cs d hc hu hd hi]
    exact hK _ _ h

theorem uponIn_then {F : Fence} {n : Nat} {P : Program} {Q : Exit → Act → World → Prop} {o : Oper} {a : Act} {next K : Act → World → Prop} {r : Result Next} (h : o.uponIn F n P a next (Exit.then K Q) r) : o.uponIn F n P a next Q r := by
  cases r with
  | ok nx w =>
    cases nx with
    | enter f args => exact ⟨h.1, h.2.mono fun e w' he => by cases e <;> exact he⟩
    | round l f tmps assign body => exact ⟨h.1, h.2.mono fun e w' he => by cases e <;> exact he⟩
    | _ => exact h
  | halt x w => cases x <;> exact h
theorem wpOpIn_of_list {F : Fence} {n : Nat} {P : Program} {Q : Exit → Act → World → Prop} {ops : Array Oper} {i : Nat} {o : Oper} {K : Act → World → Prop} {a : Act} {w : World} (hi : ops[i]? = some o) (h : wpListIn F n P ops (Exit.then K Q) [o] a w) : wpOpIn F n P ops Q i K a w := by
  unfold wpOpIn
  simp only [hi]
  unfold wpListIn at h
  split at h
  · rename_i hw
    rw [if_pos hw]
    exact ⟨h.1, uponIn_then h.2⟩
  · rename_i hw
    rw [if_neg hw]
    exact ⟨h.1, h.2⟩
/-- One operation of a region that draws, in a fenced walk: what it leaves is named. -/
theorem wpOpIn_to {F : Fence} {n : Nat} {P : Program} {Q : Exit → Act → World → Prop} {ops : Array Oper} {i : Nat} {o : Oper} {K : Act → World → Prop} {a : Act} {w : World} (hi : ops[i]? = some o) (K1 : Act → World → Prop)
    (h : wpListIn F n P ops (Exit.then K1 Q) [o] a w) (hk : ∀ a w, K1 a w → K a w) : wpOpIn F n P ops Q i K a w :=
  wpOpIn_mono hk (wpOpIn_of_list hi h)
end Go.Proofs.Ytikndeloeeppaaa
