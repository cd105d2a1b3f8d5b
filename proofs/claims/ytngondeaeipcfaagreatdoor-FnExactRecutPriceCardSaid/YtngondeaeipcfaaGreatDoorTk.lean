/- Operations that are taken at once in a drawn region: a byte of a text, sums, differences, a field's address, a cell, a conversion. -/
import Derived.Test.YtngondeaeipcfaaGreatDoorGs
import Derived.WalkKit
namespace Go.Proofs.YtngondeaeipcfaaGreatDoor
open Go Go.RowKit

section
variable {P : Program} {ops : Array Oper} {S : World → Prop}
theorem yi_index {o : Oper} {a : Act} {T : TypeId} {x y : Operand} {s : ByteArray} {kd : IntKind} {k : Nat} (hw : Region.wanted o (yielded ops a.tmps) = true) (ho : o.op = .index T x y) (hT : P.underlying T = some .string)
    (hx : a.eval x = .string s) (hy : a.eval y = .int kd (k : Int)) (hk : k < s.size) : YieldsIf P ops S o (.int .u8 (byteAt s.data.toList k)) a := by
  refine .inl ⟨hw, fun w _ => ?_⟩
  have hki : (k : Int) < s.size := by omega
  have h0 : (0 : Int) ≤ k := by omega
  rw [← byteAt_get s k hk]
  unfold execOp
  rw [ho]
  simp only [hx, hy]
  go_simp
theorem yi_add64 {o : Oper} {a : Act} {T T2 : TypeId} {x y : Operand} {m n r : Int} (hw : Region.wanted o (yielded ops a.tmps) = true) (ho : o.op = .binOp .add T x y T2)
    (hx : a.eval x = .int .i64 m) (hy : a.eval y = .int .i64 n) (hr : m + n = r) (h : -9223372036854775808 ≤ r ∧ r ≤ 9223372036854775807) : YieldsIf P ops S o (.int .i64 r) a := by
  refine .inl ⟨hw, fun w _ => ?_⟩
  have e := IntWalk.i64_in r ⟨by omega, by omega⟩
  unfold execOp
  rw [ho]
  simp only [hx, hy]
  subst hr
  go_simp
theorem yi_sub64 {o : Oper} {a : Act} {T T2 : TypeId} {x y : Operand} {m n r : Int} (hw : Region.wanted o (yielded ops a.tmps) = true) (ho : o.op = .binOp .sub T x y T2)
    (hx : a.eval x = .int .i64 m) (hy : a.eval y = .int .i64 n) (hr : m - n = r) (h : -9223372036854775808 ≤ r ∧ r ≤ 9223372036854775807) : YieldsIf P ops S o (.int .i64 r) a := by
  refine .inl ⟨hw, fun w _ => ?_⟩
  have e := IntWalk.i64_in r ⟨by omega, by omega⟩
  unfold execOp
  rw [ho]
  simp only [hx, hy]
  subst hr
  go_simp
theorem yi_cell {o : Oper} {a : Act} {T : TypeId} {x : Operand} {p : Addr} {v : Value} (hw : Region.wanted o (yielded ops a.tmps) = true) (ho : o.op = .load T x)
    (hx : a.eval x = .pointer (some p)) (hT : ∀ w, (isAgg T).run P w = .ok false w) (hc : ∀ w, S w → w.cell? p = some v) : YieldsIf P ops S o v a := by
  refine .inl ⟨hw, fun w h => ?_⟩
  have := hc w h
  unfold execOp
  rw [ho]
  simp only [hx]
  go_simp
theorem yi_conv {o : Oper} {a : Act} {T T2 : TypeId} {x : Operand} {k k2 : IntKind} {n : Int} (hw : Region.wanted o (yielded ops a.tmps) = true) (ho : o.op = .convert T T2 x)
    (hx : a.eval x = .int k n) (h1 : P.underlying T = some (.int k)) (h2 : P.underlying T2 = some (.int k2)) (hk : k2.wrap n = n) : YieldsIf P ops S o (.int k2 n) a := by
  refine .inl ⟨hw, fun w h => ?_⟩
  unfold execOp
  rw [ho]
  simp only [hx]
  go_simp
end
end Go.Proofs.YtngondeaeipcfaaGreatDoor
