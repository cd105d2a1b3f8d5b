/- Facts on errors.As, at one target. -/
import Derived.Test.YtjmkbdghenjlaaaDoorAs
namespace Go.Proofs.YtjmkbdghenjlaaaDoor
open Go Go.RowKit Go.Extern.Stop Go.Stop Go.Extern

/-! the target impl.outOfRange -/
theorem asVPR (t : Addr) (w : World) : (ReflectliteValue.unpack (.iface 134 (.pointer (some t)))).run Tryd.prog w = .ok (.agg #[.pointer (some ⟨7, 134, none⟩), .pointer (some ⟨w.heap.size, 0, none⟩), .int .u64 150]) (w.alloc (.cells #[.pointer (some t)] 134)) := by kernel_rfl
theorem asVER (n : Int) (w : World) : (ReflectliteValue.unpack (.iface 130 (.int .i64 n))).run Tryd.prog w = .ok (.agg #[.pointer (some ⟨7, 130, none⟩), .pointer (some ⟨w.heap.size, 0, none⟩), .int .u64 134]) (w.alloc (.cells #[.int .i64 n] 130)) := by kernel_rfl
theorem asTPR (a : Addr) (w : World) : (ReflectliteValue.methodAny (ReflectliteValue.valueError "reflectlite.Value.Type" 0) (fun t _ _ _ => ReflectliteType.toType t) #[.agg #[.pointer (some ⟨7, 134, none⟩), .pointer (some a), .int .u64 150]]).run Tryd.prog w = .ok (.iface 221 (.agg #[.pointer (some ⟨7, 134, none⟩)])) w := by kernel_rfl
theorem asKPR (w : World) : ((ReflectliteType.abiMethod fun t => (fun a : Nat => Value.int IntKind.u8 (a : Int)) <$> Rtype.kind t) #[.pointer (some ⟨7, 134, none⟩)]).run Tryd.prog w = .ok (.int .u8 22) w := by kernel_rfl
theorem asKER (w : World) : ((ReflectliteType.abiMethod fun t => (fun a : Nat => Value.int IntKind.u8 (a : Int)) <$> Rtype.kind t) #[.pointer (some ⟨7, 130, none⟩)]).run Tryd.prog w = .ok (.int .u8 6) w := by kernel_rfl
theorem asPPR (a : Addr) (w : World) : (ReflectliteValue.parts (.agg #[.pointer (some ⟨7, 134, none⟩), .pointer (some a), .int .u64 150])).run Tryd.prog w = .ok (some (134, a, 150)) w := by kernel_rfl
theorem asINR (a p : Addr) (W : World) (ha : W.cell? a = some (.pointer (some p))) :
    (ReflectliteValue.method (ReflectliteValue.valueError "reflectlite.Value.IsNil" 0) ReflectliteValue.isNil #[.agg #[.pointer (some ⟨7, 134, none⟩), .pointer (some a), .int .u64 150]]).run Tryd.prog W = .ok (.bool false) W := by
  rw [rlm]
  simp only [Sem.run_bind, asPPR, Result.andThen]
  simp [ReflectliteValue.isNil, loadVar, isAgg, underlying, Tryd.underlying134, ha, Result.andThen]
theorem asELR (w : World) : (ReflectliteType.method ReflectliteType.elem #[.agg #[.pointer (some ⟨7, 134, none⟩)]]).run Tryd.prog w = .ok (.iface 221 (.agg #[.pointer (some ⟨7, 130, none⟩)])) w := by kernel_rfl
theorem asIMR (w : World) : (ReflectliteType.relation "Implements" ReflectliteType.implements_ #[.agg #[.pointer (some ⟨7, 130, none⟩)], .iface 221 (.agg #[.pointer (some ⟨7, 77, none⟩)])]).run Tryd.prog w = .ok (.bool true) w := by kernel_rfl
theorem asTOR (v : Value) (w : World) : (ReflectliteType.typeOf #[.iface 130 v]).run Tryd.prog w = .ok (.iface 221 (.agg #[.pointer (some ⟨7, 130, none⟩)])) w := by kernel_rfl
theorem asEOR (w : World) : (Rtype.elem? 134).run Tryd.prog w = .ok (some 130) w := by kernel_rfl
theorem asMKR (p : Addr) (w : World) : (ReflectliteValue.mk 130 p ReflectliteValue.flagAddr).run Tryd.prog w = .ok (.agg #[.pointer (some ⟨7, 130, none⟩), .pointer (some p), .int .u64 390]) w := by kernel_rfl
theorem asEVR (a p : Addr) (W : World) (ha : W.cell? a = some (.pointer (some p))) :
    (ReflectliteValue.method (ReflectliteValue.valueError "reflectlite.Value.Elem" 0) ReflectliteValue.elem #[.agg #[.pointer (some ⟨7, 134, none⟩), .pointer (some a), .int .u64 150]]).run Tryd.prog W
      = .ok (.agg #[.pointer (some ⟨7, 130, none⟩), .pointer (some p), .int .u64 390]) W := by
  rw [rlm]
  simp only [Sem.run_bind, asPPR, Result.andThen]
  simp [ReflectliteValue.elem, loadVar, isAgg, underlying, Tryd.underlying134, ha, Result.andThen, asEOR, asMKR]
theorem asPAR (a : Addr) (w : World) : (ReflectliteValue.parts (.agg #[.pointer (some ⟨7, 130, none⟩), .pointer (some a), .int .u64 390])).run Tryd.prog w = .ok (some (130, a, 390)) w := by kernel_rfl
theorem asPER (a : Addr) (w : World) : (ReflectliteValue.parts (.agg #[.pointer (some ⟨7, 130, none⟩), .pointer (some a), .int .u64 134])).run Tryd.prog w = .ok (some (130, a, 134)) w := by kernel_rfl
theorem asDAR (w : World) : (Rtype.directlyAssignable 130 130).run Tryd.prog w = .ok true w := by kernel_rfl
theorem asSTR (ta b : Addr) (n : Int) (old : Value) (W : World) (hb : W.cell? b = some (.int .i64 n)) (ht : W.cell? ta = some old) (hf : W.frozen? ta = false) :
    (ReflectliteValue.set #[.agg #[.pointer (some ⟨7, 130, none⟩), .pointer (some ta), .int .u64 390], .agg #[.pointer (some ⟨7, 130, none⟩), .pointer (some b), .int .u64 134]]).run Tryd.prog W
      = .ok (.tuple #[]) (W.setCell ta (.int .i64 n)) := by
  rw [rls]
  simp only [Sem.run_bind, asPAR, asPER, Result.andThen]
  simp [ReflectliteValue.flagAddr, loadVar, isAgg, underlying, Tryd.underlying130, hb, Result.andThen, asDAR, storeVar, Value.cells, storeCells, Addr.add]
  rw [run_store Tryd.prog W ta _ _ (by rfl)]
  simp [ht, hf]
theorem asATRS (w : World) : (ReflectliteType.relation "AssignableTo" ReflectliteType.assignableTo #[.agg #[.pointer (some ⟨7, 130, none⟩)], .iface 221 (.agg #[.pointer (some ⟨7, 129, none⟩)])]).run Tryd.prog w = .ok (.bool false) w := by kernel_rfl
theorem asATRR (w : World) : (ReflectliteType.relation "AssignableTo" ReflectliteType.assignableTo #[.agg #[.pointer (some ⟨7, 130, none⟩)], .iface 221 (.agg #[.pointer (some ⟨7, 130, none⟩)])]).run Tryd.prog w = .ok (.bool true) w := by kernel_rfl
theorem asNoAsR (v : Value) (xT : TypeId) (w : World) : (Instr.typeAssert (.iface 130 v) xT 226 true).run Tryd.prog w = .ok (.tuple #[.nilIface, .bool false]) w := run_typeAssert_lacksB Tryd.underlying226 (by kernel_rfl) (by kernel_rfl) v xT w
theorem asNoU1R (v : Value) (xT : TypeId) (w : World) : (Instr.typeAssert (.iface 130 v) xT 229 true).run Tryd.prog w = .ok (.tuple #[.nilIface, .bool false]) w := run_typeAssert_lacksB Tryd.underlying229 (by kernel_rfl) (by kernel_rfl) v xT w
theorem asNoU2R (v : Value) (xT : TypeId) (w : World) : (Instr.typeAssert (.iface 130 v) xT 230 true).run Tryd.prog w = .ok (.tuple #[.nilIface, .bool false]) w := run_typeAssert_lacksB Tryd.underlying230 (by kernel_rfl) (by kernel_rfl) v xT w
end Go.Proofs.YtjmkbdghenjlaaaDoor
