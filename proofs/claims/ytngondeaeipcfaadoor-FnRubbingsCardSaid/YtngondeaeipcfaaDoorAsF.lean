/- Facts on errors.As, at one target. · Facts on errors.As, at one target. · Facts on errors.As, at one target. -/
import Derived.Test.YtngondeaeipcfaaDoorAs

namespace Go.Proofs.YtngondeaeipcfaaDoor
open Go Go.RowKit Go.Extern.Stop Go.Stop Go.Extern

/-! the target impl.strayGap -/
theorem asVPS (t : Addr) (w : World) : (ReflectliteValue.unpack (.iface 195 (.pointer (some t)))).run Tryd.prog w = .ok (.agg #[.pointer (some ⟨7, 195, none⟩), .pointer (some ⟨w.heap.size, 0, none⟩), .int .u64 150]) (w.alloc (.cells #[.pointer (some t)] 195)) := by kernel_rfl
theorem asVES (n : Int) (w : World) : (ReflectliteValue.unpack (.iface 191 (.int .i64 n))).run Tryd.prog w = .ok (.agg #[.pointer (some ⟨7, 191, none⟩), .pointer (some ⟨w.heap.size, 0, none⟩), .int .u64 130]) (w.alloc (.cells #[.int .i64 n] 191)) := by kernel_rfl
theorem asTPS (a : Addr) (w : World) : (ReflectliteValue.methodAny (ReflectliteValue.valueError "reflectlite.Value.Type" 0) (fun t _ _ _ => ReflectliteType.toType t) #[.agg #[.pointer (some ⟨7, 195, none⟩), .pointer (some a), .int .u64 150]]).run Tryd.prog w = .ok (.iface 283 (.agg #[.pointer (some ⟨7, 195, none⟩)])) w := by kernel_rfl
theorem asKPS (w : World) : ((ReflectliteType.abiMethod fun t => (fun a : Nat => Value.int IntKind.u8 (a : Int)) <$> Rtype.kind t) #[.pointer (some ⟨7, 195, none⟩)]).run Tryd.prog w = .ok (.int .u8 22) w := by kernel_rfl
theorem asKES (w : World) : ((ReflectliteType.abiMethod fun t => (fun a : Nat => Value.int IntKind.u8 (a : Int)) <$> Rtype.kind t) #[.pointer (some ⟨7, 191, none⟩)]).run Tryd.prog w = .ok (.int .u8 2) w := by kernel_rfl
theorem asPPS (a : Addr) (w : World) : (ReflectliteValue.parts (.agg #[.pointer (some ⟨7, 195, none⟩), .pointer (some a), .int .u64 150])).run Tryd.prog w = .ok (some (195, a, 150)) w := by kernel_rfl
theorem asINS (a p : Addr) (W : World) (ha : W.cell? a = some (.pointer (some p))) :
    (ReflectliteValue.method (ReflectliteValue.valueError "reflectlite.Value.IsNil" 0) ReflectliteValue.isNil #[.agg #[.pointer (some ⟨7, 195, none⟩), .pointer (some a), .int .u64 150]]).run Tryd.prog W = .ok (.bool false) W := by
  rw [rlm]
  simp only [Sem.run_bind, asPPS, Result.andThen]
  simp [ReflectliteValue.isNil, loadVar, isAgg, underlying, Tryd.underlying195, ha, Result.andThen]
theorem asELS (w : World) : (ReflectliteType.method ReflectliteType.elem #[.agg #[.pointer (some ⟨7, 195, none⟩)]]).run Tryd.prog w = .ok (.iface 283 (.agg #[.pointer (some ⟨7, 191, none⟩)])) w := by kernel_rfl
theorem asIMS (w : World) : (ReflectliteType.relation "Implements" ReflectliteType.implements_ #[.agg #[.pointer (some ⟨7, 191, none⟩)], .iface 283 (.agg #[.pointer (some ⟨7, 115, none⟩)])]).run Tryd.prog w = .ok (.bool true) w := by kernel_rfl
theorem asTOS (v : Value) (w : World) : (ReflectliteType.typeOf #[.iface 191 v]).run Tryd.prog w = .ok (.iface 283 (.agg #[.pointer (some ⟨7, 191, none⟩)])) w := by kernel_rfl
theorem asEOS (w : World) : (Rtype.elem? 195).run Tryd.prog w = .ok (some 191) w := by kernel_rfl
theorem asMKS (p : Addr) (w : World) : (ReflectliteValue.mk 191 p ReflectliteValue.flagAddr).run Tryd.prog w = .ok (.agg #[.pointer (some ⟨7, 191, none⟩), .pointer (some p), .int .u64 386]) w := by kernel_rfl
theorem asEVS (a p : Addr) (W : World) (ha : W.cell? a = some (.pointer (some p))) :
    (ReflectliteValue.method (ReflectliteValue.valueError "reflectlite.Value.Elem" 0) ReflectliteValue.elem #[.agg #[.pointer (some ⟨7, 195, none⟩), .pointer (some a), .int .u64 150]]).run Tryd.prog W
      = .ok (.agg #[.pointer (some ⟨7, 191, none⟩), .pointer (some p), .int .u64 386]) W := by
  rw [rlm]
  simp only [Sem.run_bind, asPPS, Result.andThen]
  simp [ReflectliteValue.elem, loadVar, isAgg, underlying, Tryd.underlying195, ha, Result.andThen, asEOS, asMKS]
theorem asPAS (a : Addr) (w : World) : (ReflectliteValue.parts (.agg #[.pointer (some ⟨7, 191, none⟩), .pointer (some a), .int .u64 386])).run Tryd.prog w = .ok (some (191, a, 386)) w := by kernel_rfl
theorem asPES (a : Addr) (w : World) : (ReflectliteValue.parts (.agg #[.pointer (some ⟨7, 191, none⟩), .pointer (some a), .int .u64 130])).run Tryd.prog w = .ok (some (191, a, 130)) w := by kernel_rfl
theorem asDAS (w : World) : (Rtype.directlyAssignable 191 191).run Tryd.prog w = .ok true w := by kernel_rfl
theorem asSTS (ta b : Addr) (n : Int) (old : Value) (W : World) (hb : W.cell? b = some (.int .i64 n)) (ht : W.cell? ta = some old) (hf : W.frozen? ta = false) :
    (ReflectliteValue.set #[.agg #[.pointer (some ⟨7, 191, none⟩), .pointer (some ta), .int .u64 386], .agg #[.pointer (some ⟨7, 191, none⟩), .pointer (some b), .int .u64 130]]).run Tryd.prog W
      = .ok (.tuple #[]) (W.setCell ta (.int .i64 n)) := by
  rw [rls]
  simp only [Sem.run_bind, asPAS, asPES, Result.andThen]
  simp [ReflectliteValue.flagAddr, loadVar, isAgg, underlying, Tryd.underlying191, hb, Result.andThen, asDAS, storeVar, Value.cells, storeCells, Addr.add]
  rw [run_store Tryd.prog W ta _ _ (by rfl)]
  simp [ht, hf]
theorem asATSS (w : World) : (ReflectliteType.relation "AssignableTo" ReflectliteType.assignableTo #[.agg #[.pointer (some ⟨7, 191, none⟩)], .iface 283 (.agg #[.pointer (some ⟨7, 191, none⟩)])]).run Tryd.prog w = .ok (.bool true) w := by kernel_rfl
end Go.Proofs.YtngondeaeipcfaaDoor

namespace Go.Proofs.YtngondeaeipcfaaDoor
open Go Go.RowKit Go.Extern.Stop Go.Stop Go.Extern

/-! the target impl.outOfRange -/
theorem asVPR (t : Addr) (w : World) : (ReflectliteValue.unpack (.iface 196 (.pointer (some t)))).run Tryd.prog w = .ok (.agg #[.pointer (some ⟨7, 196, none⟩), .pointer (some ⟨w.heap.size, 0, none⟩), .int .u64 150]) (w.alloc (.cells #[.pointer (some t)] 196)) := by kernel_rfl
theorem asVER (n : Int) (w : World) : (ReflectliteValue.unpack (.iface 192 (.int .i64 n))).run Tryd.prog w = .ok (.agg #[.pointer (some ⟨7, 192, none⟩), .pointer (some ⟨w.heap.size, 0, none⟩), .int .u64 134]) (w.alloc (.cells #[.int .i64 n] 192)) := by kernel_rfl
theorem asTPR (a : Addr) (w : World) : (ReflectliteValue.methodAny (ReflectliteValue.valueError "reflectlite.Value.Type" 0) (fun t _ _ _ => ReflectliteType.toType t) #[.agg #[.pointer (some ⟨7, 196, none⟩), .pointer (some a), .int .u64 150]]).run Tryd.prog w = .ok (.iface 283 (.agg #[.pointer (some ⟨7, 196, none⟩)])) w := by kernel_rfl
theorem asKPR (w : World) : ((ReflectliteType.abiMethod fun t => (fun a : Nat => Value.int IntKind.u8 (a : Int)) <$> Rtype.kind t) #[.pointer (some ⟨7, 196, none⟩)]).run Tryd.prog w = .ok (.int .u8 22) w := by kernel_rfl
theorem asKER (w : World) : ((ReflectliteType.abiMethod fun t => (fun a : Nat => Value.int IntKind.u8 (a : Int)) <$> Rtype.kind t) #[.pointer (some ⟨7, 192, none⟩)]).run Tryd.prog w = .ok (.int .u8 6) w := by kernel_rfl
theorem asPPR (a : Addr) (w : World) : (ReflectliteValue.parts (.agg #[.pointer (some ⟨7, 196, none⟩), .pointer (some a), .int .u64 150])).run Tryd.prog w = .ok (some (196, a, 150)) w := by kernel_rfl
theorem asINR (a p : Addr) (W : World) (ha : W.cell? a = some (.pointer (some p))) :
    (ReflectliteValue.method (ReflectliteValue.valueError "reflectlite.Value.IsNil" 0) ReflectliteValue.isNil #[.agg #[.pointer (some ⟨7, 196, none⟩), .pointer (some a), .int .u64 150]]).run Tryd.prog W = .ok (.bool false) W := by
  rw [rlm]
  simp only [Sem.run_bind, asPPR, Result.andThen]
  simp [ReflectliteValue.isNil, loadVar, isAgg, underlying, Tryd.underlying196, ha, Result.andThen]
theorem asELR (w : World) : (ReflectliteType.method ReflectliteType.elem #[.agg #[.pointer (some ⟨7, 196, none⟩)]]).run Tryd.prog w = .ok (.iface 283 (.agg #[.pointer (some ⟨7, 192, none⟩)])) w := by kernel_rfl
theorem asIMR (w : World) : (ReflectliteType.relation "Implements" ReflectliteType.implements_ #[.agg #[.pointer (some ⟨7, 192, none⟩)], .iface 283 (.agg #[.pointer (some ⟨7, 115, none⟩)])]).run Tryd.prog w = .ok (.bool true) w := by kernel_rfl
theorem asTOR (v : Value) (w : World) : (ReflectliteType.typeOf #[.iface 192 v]).run Tryd.prog w = .ok (.iface 283 (.agg #[.pointer (some ⟨7, 192, none⟩)])) w := by kernel_rfl
theorem asEOR (w : World) : (Rtype.elem? 196).run Tryd.prog w = .ok (some 192) w := by kernel_rfl
theorem asMKR (p : Addr) (w : World) : (ReflectliteValue.mk 192 p ReflectliteValue.flagAddr).run Tryd.prog w = .ok (.agg #[.pointer (some ⟨7, 192, none⟩), .pointer (some p), .int .u64 390]) w := by kernel_rfl
theorem asEVR (a p : Addr) (W : World) (ha : W.cell? a = some (.pointer (some p))) :
    (ReflectliteValue.method (ReflectliteValue.valueError "reflectlite.Value.Elem" 0) ReflectliteValue.elem #[.agg #[.pointer (some ⟨7, 196, none⟩), .pointer (some a), .int .u64 150]]).run Tryd.prog W
      = .ok (.agg #[.pointer (some ⟨7, 192, none⟩), .pointer (some p), .int .u64 390]) W := by
  rw [rlm]
  simp only [Sem.run_bind, asPPR, Result.andThen]
  simp [ReflectliteValue.elem, loadVar, isAgg, underlying, Tryd.underlying196, ha, Result.andThen, asEOR, asMKR]
theorem asPAR (a : Addr) (w : World) : (ReflectliteValue.parts (.agg #[.pointer (some ⟨7, 192, none⟩), .pointer (some a), .int .u64 390])).run Tryd.prog w = .ok (some (192, a, 390)) w := by kernel_rfl
theorem asPER (a : Addr) (w : World) : (ReflectliteValue.parts (.agg #[.pointer (some ⟨7, 192, none⟩), .pointer (some a), .int .u64 134])).run Tryd.prog w = .ok (some (192, a, 134)) w := by kernel_rfl
theorem asDAR (w : World) : (Rtype.directlyAssignable 192 192).run Tryd.prog w = .ok true w := by kernel_rfl
theorem asSTR (ta b : Addr) (n : Int) (old : Value) (W : World) (hb : W.cell? b = some (.int .i64 n)) (ht : W.cell? ta = some old) (hf : W.frozen? ta = false) :
    (ReflectliteValue.set #[.agg #[.pointer (some ⟨7, 192, none⟩), .pointer (some ta), .int .u64 390], .agg #[.pointer (some ⟨7, 192, none⟩), .pointer (some b), .int .u64 134]]).run Tryd.prog W
      = .ok (.tuple #[]) (W.setCell ta (.int .i64 n)) := by
  rw [rls]
  simp only [Sem.run_bind, asPAR, asPER, Result.andThen]
  simp [ReflectliteValue.flagAddr, loadVar, isAgg, underlying, Tryd.underlying192, hb, Result.andThen, asDAR, storeVar, Value.cells, storeCells, Addr.add]
  rw [run_store Tryd.prog W ta _ _ (by rfl)]
  simp [ht, hf]
theorem asATRS (w : World) : (ReflectliteType.relation "AssignableTo" ReflectliteType.assignableTo #[.agg #[.pointer (some ⟨7, 192, none⟩)], .iface 283 (.agg #[.pointer (some ⟨7, 191, none⟩)])]).run Tryd.prog w = .ok (.bool false) w := by kernel_rfl
theorem asATRR (w : World) : (ReflectliteType.relation "AssignableTo" ReflectliteType.assignableTo #[.agg #[.pointer (some ⟨7, 192, none⟩)], .iface 283 (.agg #[.pointer (some ⟨7, 192, none⟩)])]).run Tryd.prog w = .ok (.bool true) w := by kernel_rfl
theorem asNoAsR (v : Value) (xT : TypeId) (w : World) : (Instr.typeAssert (.iface 192 v) xT 288 true).run Tryd.prog w = .ok (.tuple #[.nilIface, .bool false]) w := run_typeAssert_lacksB Tryd.underlying288 (by kernel_rfl) (by kernel_rfl) v xT w
theorem asNoU1R (v : Value) (xT : TypeId) (w : World) : (Instr.typeAssert (.iface 192 v) xT 291 true).run Tryd.prog w = .ok (.tuple #[.nilIface, .bool false]) w := run_typeAssert_lacksB Tryd.underlying291 (by kernel_rfl) (by kernel_rfl) v xT w
theorem asNoU2R (v : Value) (xT : TypeId) (w : World) : (Instr.typeAssert (.iface 192 v) xT 293 true).run Tryd.prog w = .ok (.tuple #[.nilIface, .bool false]) w := run_typeAssert_lacksB Tryd.underlying293 (by kernel_rfl) (by kernel_rfl) v xT w
end Go.Proofs.YtngondeaeipcfaaDoor

namespace Go.Proofs.YtngondeaeipcfaaDoor
open Go Go.RowKit Go.Extern.Stop Go.Stop Go.Extern

/-! the target impl.tooMany -/
theorem asVPM (t : Addr) (w : World) : (ReflectliteValue.unpack (.iface 197 (.pointer (some t)))).run Tryd.prog w = .ok (.agg #[.pointer (some ⟨7, 197, none⟩), .pointer (some ⟨w.heap.size, 0, none⟩), .int .u64 150]) (w.alloc (.cells #[.pointer (some t)] 197)) := by kernel_rfl
theorem asVEM (n : Int) (w : World) : (ReflectliteValue.unpack (.iface 193 (.int .i64 n))).run Tryd.prog w = .ok (.agg #[.pointer (some ⟨7, 193, none⟩), .pointer (some ⟨w.heap.size, 0, none⟩), .int .u64 130]) (w.alloc (.cells #[.int .i64 n] 193)) := by kernel_rfl
theorem asTPM (a : Addr) (w : World) : (ReflectliteValue.methodAny (ReflectliteValue.valueError "reflectlite.Value.Type" 0) (fun t _ _ _ => ReflectliteType.toType t) #[.agg #[.pointer (some ⟨7, 197, none⟩), .pointer (some a), .int .u64 150]]).run Tryd.prog w = .ok (.iface 283 (.agg #[.pointer (some ⟨7, 197, none⟩)])) w := by kernel_rfl
theorem asKPM (w : World) : ((ReflectliteType.abiMethod fun t => (fun a : Nat => Value.int IntKind.u8 (a : Int)) <$> Rtype.kind t) #[.pointer (some ⟨7, 197, none⟩)]).run Tryd.prog w = .ok (.int .u8 22) w := by kernel_rfl
theorem asKEM (w : World) : ((ReflectliteType.abiMethod fun t => (fun a : Nat => Value.int IntKind.u8 (a : Int)) <$> Rtype.kind t) #[.pointer (some ⟨7, 193, none⟩)]).run Tryd.prog w = .ok (.int .u8 2) w := by kernel_rfl
theorem asPPM (a : Addr) (w : World) : (ReflectliteValue.parts (.agg #[.pointer (some ⟨7, 197, none⟩), .pointer (some a), .int .u64 150])).run Tryd.prog w = .ok (some (197, a, 150)) w := by kernel_rfl
theorem asINM (a p : Addr) (W : World) (ha : W.cell? a = some (.pointer (some p))) :
    (ReflectliteValue.method (ReflectliteValue.valueError "reflectlite.Value.IsNil" 0) ReflectliteValue.isNil #[.agg #[.pointer (some ⟨7, 197, none⟩), .pointer (some a), .int .u64 150]]).run Tryd.prog W = .ok (.bool false) W := by
  rw [rlm]
  simp only [Sem.run_bind, asPPM, Result.andThen]
  simp [ReflectliteValue.isNil, loadVar, isAgg, underlying, Tryd.underlying197, ha, Result.andThen]
theorem asELM (w : World) : (ReflectliteType.method ReflectliteType.elem #[.agg #[.pointer (some ⟨7, 197, none⟩)]]).run Tryd.prog w = .ok (.iface 283 (.agg #[.pointer (some ⟨7, 193, none⟩)])) w := by kernel_rfl
theorem asIMM (w : World) : (ReflectliteType.relation "Implements" ReflectliteType.implements_ #[.agg #[.pointer (some ⟨7, 193, none⟩)], .iface 283 (.agg #[.pointer (some ⟨7, 115, none⟩)])]).run Tryd.prog w = .ok (.bool true) w := by kernel_rfl
theorem asTOM (v : Value) (w : World) : (ReflectliteType.typeOf #[.iface 193 v]).run Tryd.prog w = .ok (.iface 283 (.agg #[.pointer (some ⟨7, 193, none⟩)])) w := by kernel_rfl
theorem asEOM (w : World) : (Rtype.elem? 197).run Tryd.prog w = .ok (some 193) w := by kernel_rfl
theorem asMKM (p : Addr) (w : World) : (ReflectliteValue.mk 193 p ReflectliteValue.flagAddr).run Tryd.prog w = .ok (.agg #[.pointer (some ⟨7, 193, none⟩), .pointer (some p), .int .u64 386]) w := by kernel_rfl
theorem asEVM (a p : Addr) (W : World) (ha : W.cell? a = some (.pointer (some p))) :
    (ReflectliteValue.method (ReflectliteValue.valueError "reflectlite.Value.Elem" 0) ReflectliteValue.elem #[.agg #[.pointer (some ⟨7, 197, none⟩), .pointer (some a), .int .u64 150]]).run Tryd.prog W
      = .ok (.agg #[.pointer (some ⟨7, 193, none⟩), .pointer (some p), .int .u64 386]) W := by
  rw [rlm]
  simp only [Sem.run_bind, asPPM, Result.andThen]
  simp [ReflectliteValue.elem, loadVar, isAgg, underlying, Tryd.underlying197, ha, Result.andThen, asEOM, asMKM]
theorem asPAM (a : Addr) (w : World) : (ReflectliteValue.parts (.agg #[.pointer (some ⟨7, 193, none⟩), .pointer (some a), .int .u64 386])).run Tryd.prog w = .ok (some (193, a, 386)) w := by kernel_rfl
theorem asPEM (a : Addr) (w : World) : (ReflectliteValue.parts (.agg #[.pointer (some ⟨7, 193, none⟩), .pointer (some a), .int .u64 130])).run Tryd.prog w = .ok (some (193, a, 130)) w := by kernel_rfl
theorem asDAM (w : World) : (Rtype.directlyAssignable 193 193).run Tryd.prog w = .ok true w := by kernel_rfl
theorem asSTM (ta b : Addr) (n : Int) (old : Value) (W : World) (hb : W.cell? b = some (.int .i64 n)) (ht : W.cell? ta = some old) (hf : W.frozen? ta = false) :
    (ReflectliteValue.set #[.agg #[.pointer (some ⟨7, 193, none⟩), .pointer (some ta), .int .u64 386], .agg #[.pointer (some ⟨7, 193, none⟩), .pointer (some b), .int .u64 130]]).run Tryd.prog W
      = .ok (.tuple #[]) (W.setCell ta (.int .i64 n)) := by
  rw [rls]
  simp only [Sem.run_bind, asPAM, asPEM, Result.andThen]
  simp [ReflectliteValue.flagAddr, loadVar, isAgg, underlying, Tryd.underlying193, hb, Result.andThen, asDAM, storeVar, Value.cells, storeCells, Addr.add]
  rw [run_store Tryd.prog W ta _ _ (by rfl)]
  simp [ht, hf]
theorem asATMS (w : World) : (ReflectliteType.relation "AssignableTo" ReflectliteType.assignableTo #[.agg #[.pointer (some ⟨7, 193, none⟩)], .iface 283 (.agg #[.pointer (some ⟨7, 191, none⟩)])]).run Tryd.prog w = .ok (.bool false) w := by kernel_rfl
theorem asATMR (w : World) : (ReflectliteType.relation "AssignableTo" ReflectliteType.assignableTo #[.agg #[.pointer (some ⟨7, 193, none⟩)], .iface 283 (.agg #[.pointer (some ⟨7, 192, none⟩)])]).run Tryd.prog w = .ok (.bool false) w := by kernel_rfl
theorem asATMM (w : World) : (ReflectliteType.relation "AssignableTo" ReflectliteType.assignableTo #[.agg #[.pointer (some ⟨7, 193, none⟩)], .iface 283 (.agg #[.pointer (some ⟨7, 193, none⟩)])]).run Tryd.prog w = .ok (.bool true) w := by kernel_rfl
theorem asNoAsM (v : Value) (xT : TypeId) (w : World) : (Instr.typeAssert (.iface 193 v) xT 288 true).run Tryd.prog w = .ok (.tuple #[.nilIface, .bool false]) w := run_typeAssert_lacksB Tryd.underlying288 (by kernel_rfl) (by kernel_rfl) v xT w
theorem asNoU1M (v : Value) (xT : TypeId) (w : World) : (Instr.typeAssert (.iface 193 v) xT 291 true).run Tryd.prog w = .ok (.tuple #[.nilIface, .bool false]) w := run_typeAssert_lacksB Tryd.underlying291 (by kernel_rfl) (by kernel_rfl) v xT w
theorem asNoU2M (v : Value) (xT : TypeId) (w : World) : (Instr.typeAssert (.iface 193 v) xT 293 true).run Tryd.prog w = .ok (.tuple #[.nilIface, .bool false]) w := run_typeAssert_lacksB Tryd.underlying293 (by kernel_rfl) (by kernel_rfl) v xT w
end Go.Proofs.YtngondeaeipcfaaDoor
