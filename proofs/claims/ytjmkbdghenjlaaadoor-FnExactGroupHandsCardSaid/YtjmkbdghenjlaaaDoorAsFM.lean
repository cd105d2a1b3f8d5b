/- Facts on errors.As, at one target. -/
import Derived.Test.YtjmkbdghenjlaaaDoorAs
namespace Go.Proofs.YtjmkbdghenjlaaaDoor
open Go Go.RowKit Go.Extern.Stop Go.Stop Go.Extern

/-! the target impl.tooMany -/
theorem asVPM (t : Addr) (w : World) : (ReflectliteValue.unpack (.iface 135 (.pointer (some t)))).run Tryd.prog w = .ok (.agg #[.pointer (some ⟨7, 135, none⟩), .pointer (some ⟨w.heap.size, 0, none⟩), .int .u64 150]) (w.alloc (.cells #[.pointer (some t)] 135)) := by kernel_rfl
theorem asVEM (n : Int) (w : World) : (ReflectliteValue.unpack (.iface 131 (.int .i64 n))).run Tryd.prog w = .ok (.agg #[.pointer (some ⟨7, 131, none⟩), .pointer (some ⟨w.heap.size, 0, none⟩), .int .u64 130]) (w.alloc (.cells #[.int .i64 n] 131)) := by kernel_rfl
theorem asTPM (a : Addr) (w : World) : (ReflectliteValue.methodAny (ReflectliteValue.valueError "reflectlite.Value.Type" 0) (fun t _ _ _ => ReflectliteType.toType t) #[.agg #[.pointer (some ⟨7, 135, none⟩), .pointer (some a), .int .u64 150]]).run Tryd.prog w = .ok (.iface 221 (.agg #[.pointer (some ⟨7, 135, none⟩)])) w := by kernel_rfl
theorem asKPM (w : World) : ((ReflectliteType.abiMethod fun t => (fun a : Nat => Value.int IntKind.u8 (a : Int)) <$> Rtype.kind t) #[.pointer (some ⟨7, 135, none⟩)]).run Tryd.prog w = .ok (.int .u8 22) w := by kernel_rfl
theorem asKEM (w : World) : ((ReflectliteType.abiMethod fun t => (fun a : Nat => Value.int IntKind.u8 (a : Int)) <$> Rtype.kind t) #[.pointer (some ⟨7, 131, none⟩)]).run Tryd.prog w = .ok (.int .u8 2) w := by kernel_rfl
theorem asPPM (a : Addr) (w : World) : (ReflectliteValue.parts (.agg #[.pointer (some ⟨7, 135, none⟩), .pointer (some a), .int .u64 150])).run Tryd.prog w = .ok (some (135, a, 150)) w := by kernel_rfl
theorem asINM (a p : Addr) (W : World) (ha : W.cell? a = some (.pointer (some p))) :
    (ReflectliteValue.method (ReflectliteValue.valueError "reflectlite.Value.IsNil" 0) ReflectliteValue.isNil #[.agg #[.pointer (some ⟨7, 135, none⟩), .pointer (some a), .int .u64 150]]).run Tryd.prog W = .ok (.bool false) W := by
  rw [rlm]
  simp only [Sem.run_bind, asPPM, Result.andThen]
  simp [ReflectliteValue.isNil, loadVar, isAgg, underlying, Tryd.underlying135, ha, Result.andThen]
theorem asELM (w : World) : (ReflectliteType.method ReflectliteType.elem #[.agg #[.pointer (some ⟨7, 135, none⟩)]]).run Tryd.prog w = .ok (.iface 221 (.agg #[.pointer (some ⟨7, 131, none⟩)])) w := by kernel_rfl
theorem asIMM (w : World) : (ReflectliteType.relation "Implements" ReflectliteType.implements_ #[.agg #[.pointer (some ⟨7, 131, none⟩)], .iface 221 (.agg #[.pointer (some ⟨7, 77, none⟩)])]).run Tryd.prog w = .ok (.bool true) w := by kernel_rfl
theorem asTOM (v : Value) (w : World) : (ReflectliteType.typeOf #[.iface 131 v]).run Tryd.prog w = .ok (.iface 221 (.agg #[.pointer (some ⟨7, 131, none⟩)])) w := by kernel_rfl
theorem asEOM (w : World) : (Rtype.elem? 135).run Tryd.prog w = .ok (some 131) w := by kernel_rfl
theorem asMKM (p : Addr) (w : World) : (ReflectliteValue.mk 131 p ReflectliteValue.flagAddr).run Tryd.prog w = .ok (.agg #[.pointer (some ⟨7, 131, none⟩), .pointer (some p), .int .u64 386]) w := by kernel_rfl
theorem asEVM (a p : Addr) (W : World) (ha : W.cell? a = some (.pointer (some p))) :
    (ReflectliteValue.method (ReflectliteValue.valueError "reflectlite.Value.Elem" 0) ReflectliteValue.elem #[.agg #[.pointer (some ⟨7, 135, none⟩), .pointer (some a), .int .u64 150]]).run Tryd.prog W
      = .ok (.agg #[.pointer (some ⟨7, 131, none⟩), .pointer (some p), .int .u64 386]) W := by
  rw [rlm]
  simp only [Sem.run_bind, asPPM, Result.andThen]
  simp [ReflectliteValue.elem, loadVar, isAgg, underlying, Tryd.underlying135, ha, Result.andThen, asEOM, asMKM]
theorem asPAM (a : Addr) (w : World) : (ReflectliteValue.parts (.agg #[.pointer (some ⟨7, 131, none⟩), .pointer (some a), .int .u64 386])).run Tryd.prog w = .ok (some (131, a, 386)) w := by kernel_rfl
theorem asPEM (a : Addr) (w : World) : (ReflectliteValue.parts (.agg #[.pointer (some ⟨7, 131, none⟩), .pointer (some a), .int .u64 130])).run Tryd.prog w = .ok (some (131, a, 130)) w := by kernel_rfl
theorem asDAM (w : World) : (Rtype.directlyAssignable 131 131).run Tryd.prog w = .ok true w := by kernel_rfl
theorem asSTM (ta b : Addr) (n : Int) (old : Value) (W : World) (hb : W.cell? b = some (.int .i64 n)) (ht : W.cell? ta = some old) (hf : W.frozen? ta = false) :
    (ReflectliteValue.set #[.agg #[.pointer (some ⟨7, 131, none⟩), .pointer (some ta), .int .u64 386], .agg #[.pointer (some ⟨7, 131, none⟩), .pointer (some b), .int .u64 130]]).run Tryd.prog W
      = .ok (.tuple #[]) (W.setCell ta (.int .i64 n)) := by
  rw [rls]
  simp only [Sem.run_bind, asPAM, asPEM, Result.andThen]
  simp [ReflectliteValue.flagAddr, loadVar, isAgg, underlying, Tryd.underlying131, hb, Result.andThen, asDAM, storeVar, Value.cells, storeCells, Addr.add]
  rw [run_store Tryd.prog W ta _ _ (by rfl)]
  simp [ht, hf]
theorem asATMS (w : World) : (ReflectliteType.relation "AssignableTo" ReflectliteType.assignableTo #[.agg #[.pointer (some ⟨7, 131, none⟩)], .iface 221 (.agg #[.pointer (some ⟨7, 129, none⟩)])]).run Tryd.prog w = .ok (.bool false) w := by kernel_rfl
theorem asATMR (w : World) : (ReflectliteType.relation "AssignableTo" ReflectliteType.assignableTo #[.agg #[.pointer (some ⟨7, 131, none⟩)], .iface 221 (.agg #[.pointer (some ⟨7, 130, none⟩)])]).run Tryd.prog w = .ok (.bool false) w := by kernel_rfl
theorem asATMM (w : World) : (ReflectliteType.relation "AssignableTo" ReflectliteType.assignableTo #[.agg #[.pointer (some ⟨7, 131, none⟩)], .iface 221 (.agg #[.pointer (some ⟨7, 131, none⟩)])]).run Tryd.prog w = .ok (.bool true) w := by kernel_rfl
theorem asNoAsM (v : Value) (xT : TypeId) (w : World) : (Instr.typeAssert (.iface 131 v) xT 226 true).run Tryd.prog w = .ok (.tuple #[.nilIface, .bool false]) w := run_typeAssert_lacksB Tryd.underlying226 (by kernel_rfl) (by kernel_rfl) v xT w
theorem asNoU1M (v : Value) (xT : TypeId) (w : World) : (Instr.typeAssert (.iface 131 v) xT 229 true).run Tryd.prog w = .ok (.tuple #[.nilIface, .bool false]) w := run_typeAssert_lacksB Tryd.underlying229 (by kernel_rfl) (by kernel_rfl) v xT w
theorem asNoU2M (v : Value) (xT : TypeId) (w : World) : (Instr.typeAssert (.iface 131 v) xT 230 true).run Tryd.prog w = .ok (.tuple #[.nilIface, .bool false]) w := run_typeAssert_lacksB Tryd.underlying230 (by kernel_rfl) (by kernel_rfl) v xT w
end Go.Proofs.YtjmkbdghenjlaaaDoor
