/- errors.As by its contracts, at errors that are numbers. · errors.As by its contracts, at errors that are numbers. · errors.As by its contracts, at errors that are numbers. -/
import Derived.Test.YtngondeaeipcfaaDoorAsC

namespace Go.Proofs.YtngondeaeipcfaaDoor
open Go Go.RowKit Go.Extern.Stop Go.Stop Go.Extern

set_option maxRecDepth 100000 in
set_option maxHeartbeats 4000000 in
theorem errorsAs_hit_S (n : Int) (t : Addr) (old : Value) (w : World) (hg : ErrT w) (ht : w.cell? t = some old) (hf : w.frozen? t = false) :
    Calls Tryd.prog 133 #[.iface 191 (.int .i64 n), .iface 195 (.pointer (some t))] w fun e w' => e = .returned (.bool true) ∧ Below t.block w w' := by
  have h6 := @run_callFunc_extern Tryd.prog 182 _ (fun args => ReflectliteValue.unpack (args.getD 0 (.tuple #[]))) Tryd.func182 (by kernel_rfl) (by kernel_rfl) (by kernel_rfl) (by kernel_rfl)
  have h7 := @run_callFunc_extern Tryd.prog 183 _ (ReflectliteValue.methodAny (ReflectliteValue.valueError "reflectlite.Value.Type" 0) (fun t _ _ _ => ReflectliteType.toType t)) Tryd.func183 (by kernel_rfl) (by kernel_rfl) (by kernel_rfl) (by kernel_rfl)
  have h8 := @run_callFunc_extern Tryd.prog 184 _ (ReflectliteValue.method (ReflectliteValue.valueError "reflectlite.Value.IsNil" 0) ReflectliteValue.isNil) Tryd.func184 (by kernel_rfl) (by kernel_rfl) (by kernel_rfl) (by kernel_rfl)
  have hK := @run_callFunc_extern Tryd.prog 286 _ (ReflectliteType.abiMethod fun t => do pure (.int .u8 (← Rtype.kind t))) Tryd.func286 (by kernel_rfl) (by kernel_rfl) (by kernel_rfl) (by kernel_rfl)
  have hE := @run_callFunc_extern Tryd.prog 305 _ (ReflectliteType.method ReflectliteType.elem) Tryd.func305 (by kernel_rfl) (by kernel_rfl) (by kernel_rfl) (by kernel_rfl)
  have hI := @run_callFunc_extern Tryd.prog 306 _ (ReflectliteType.relation "Implements" ReflectliteType.implements_) Tryd.func306 (by kernel_rfl) (by kernel_rfl) (by kernel_rfl) (by kernel_rfl)
  have f6 := asVPS t w
  have f7 := asTPS
  have mK := asK
  have mE := asE
  have mI := asI
  have kP := asKPS
  have kE := asKES
  have eL := asELS
  have iM := asIMS
  have hgl := hg.lt
  have hg2 : ((w.alloc (.cells #[.pointer (some t)] 195)).alloc (.cells #[.pointer (some ⟨7, 195, none⟩), .pointer (some ⟨w.heap.size, 0, none⟩), .int .u64 150] 254)).cell? ⟨0, 0, none⟩ = some (.iface 283 (.agg #[.pointer (some ⟨7, 115, none⟩)])) := by
    rw [World.cell?_alloc_lt _ _ ⟨0, 0, none⟩ (by simp <;> omega), World.cell?_alloc_lt _ _ ⟨0, 0, none⟩ hgl]; exact hg
  have iN := asINS ⟨w.heap.size, 0, none⟩ t ((w.alloc (.cells #[.pointer (some t)] 195)).alloc (.cells #[.pointer (some ⟨7, 195, none⟩), .pointer (some ⟨w.heap.size, 0, none⟩), .int .u64 150] 254)) (by rw [World.cell?_alloc_lt _ _ ⟨w.heap.size, 0, none⟩ (by simp)]; simp)
  have hB2 : Below w.heap.size w ((w.alloc (.cells #[.pointer (some t)] 195)).alloc (.cells #[.pointer (some ⟨7, 195, none⟩), .pointer (some ⟨w.heap.size, 0, none⟩), .int .u64 150] 254)) := ((Below.refl _ _).alloc (Nat.le_refl _) _).alloc (by simp) _
  have htl := World.block_lt_of_cell? w _ ht
  have HC := hide (as_hit_S n t ⟨w.heap.size, 0, none⟩ old ((w.alloc (.cells #[.pointer (some t)] 195)).alloc (.cells #[.pointer (some ⟨7, 195, none⟩), .pointer (some ⟨w.heap.size, 0, none⟩), .int .u64 150] 254)) (by rw [World.cell?_alloc_lt _ _ ⟨w.heap.size, 0, none⟩ (by simp)]; simp) (by rw [World.cell?_alloc_lt _ _ t (by simp <;> omega), World.cell?_alloc_lt _ _ t htl]; exact ht) (by rw [World.frozen?_alloc_old _ _ t (by simp <;> omega), World.frozen?_alloc_old _ _ t (Nat.ne_of_lt htl)]; exact hf))
  have HB2 := hide hB2
  clear hB2 hg ht hf
  go_enter Tryd.func133, Tryd.ntmps133
  go_wp2_with (go_at_call 185; refine HC.out.mono ?_; rintro e w3 ⟨rfl, hb3⟩)
  go_ret
  exact ⟨rfl, (HB2.out.mono (Nat.le_of_lt htl)).trans hb3⟩

set_option maxRecDepth 100000 in
set_option maxHeartbeats 4000000 in
theorem errorsAs_miss_RS (n : Int) (t : Addr) (w : World) (hg : ErrT w) :
    Calls Tryd.prog 133 #[.iface 192 (.int .i64 n), .iface 195 (.pointer (some t))] w fun e w' => e = .returned (.bool false) ∧ Below w.heap.size w w' := by
  have h6 := @run_callFunc_extern Tryd.prog 182 _ (fun args => ReflectliteValue.unpack (args.getD 0 (.tuple #[]))) Tryd.func182 (by kernel_rfl) (by kernel_rfl) (by kernel_rfl) (by kernel_rfl)
  have h7 := @run_callFunc_extern Tryd.prog 183 _ (ReflectliteValue.methodAny (ReflectliteValue.valueError "reflectlite.Value.Type" 0) (fun t _ _ _ => ReflectliteType.toType t)) Tryd.func183 (by kernel_rfl) (by kernel_rfl) (by kernel_rfl) (by kernel_rfl)
  have h8 := @run_callFunc_extern Tryd.prog 184 _ (ReflectliteValue.method (ReflectliteValue.valueError "reflectlite.Value.IsNil" 0) ReflectliteValue.isNil) Tryd.func184 (by kernel_rfl) (by kernel_rfl) (by kernel_rfl) (by kernel_rfl)
  have hK := @run_callFunc_extern Tryd.prog 286 _ (ReflectliteType.abiMethod fun t => do pure (.int .u8 (← Rtype.kind t))) Tryd.func286 (by kernel_rfl) (by kernel_rfl) (by kernel_rfl) (by kernel_rfl)
  have hE := @run_callFunc_extern Tryd.prog 305 _ (ReflectliteType.method ReflectliteType.elem) Tryd.func305 (by kernel_rfl) (by kernel_rfl) (by kernel_rfl) (by kernel_rfl)
  have hI := @run_callFunc_extern Tryd.prog 306 _ (ReflectliteType.relation "Implements" ReflectliteType.implements_) Tryd.func306 (by kernel_rfl) (by kernel_rfl) (by kernel_rfl) (by kernel_rfl)
  have f6 := asVPS t w
  have f7 := asTPS
  have mK := asK
  have mE := asE
  have mI := asI
  have kP := asKPS
  have kE := asKES
  have eL := asELS
  have iM := asIMS
  have hgl := hg.lt
  have hg2 : ((w.alloc (.cells #[.pointer (some t)] 195)).alloc (.cells #[.pointer (some ⟨7, 195, none⟩), .pointer (some ⟨w.heap.size, 0, none⟩), .int .u64 150] 254)).cell? ⟨0, 0, none⟩ = some (.iface 283 (.agg #[.pointer (some ⟨7, 115, none⟩)])) := by
    rw [World.cell?_alloc_lt _ _ ⟨0, 0, none⟩ (by simp <;> omega), World.cell?_alloc_lt _ _ ⟨0, 0, none⟩ hgl]; exact hg
  have iN := asINS ⟨w.heap.size, 0, none⟩ t ((w.alloc (.cells #[.pointer (some t)] 195)).alloc (.cells #[.pointer (some ⟨7, 195, none⟩), .pointer (some ⟨w.heap.size, 0, none⟩), .int .u64 150] 254)) (by rw [World.cell?_alloc_lt _ _ ⟨w.heap.size, 0, none⟩ (by simp)]; simp)
  have hB2 : Below w.heap.size w ((w.alloc (.cells #[.pointer (some t)] 195)).alloc (.cells #[.pointer (some ⟨7, 195, none⟩), .pointer (some ⟨w.heap.size, 0, none⟩), .int .u64 150] 254)) := ((Below.refl _ _).alloc (Nat.le_refl _) _).alloc (by simp) _
  have HC := hide (as_miss_RS n t ⟨w.heap.size, 0, none⟩ ((w.alloc (.cells #[.pointer (some t)] 195)).alloc (.cells #[.pointer (some ⟨7, 195, none⟩), .pointer (some ⟨w.heap.size, 0, none⟩), .int .u64 150] 254)))
  have HB2 := hide hB2
  clear hB2 hg 
  go_enter Tryd.func133, Tryd.ntmps133
  go_wp2_with (go_at_call 185; refine HC.out.mono ?_; rintro e w3 ⟨rfl, hb3⟩)
  go_ret
  exact ⟨rfl, HB2.out.trans (hb3.mono HB2.out.size)⟩
end Go.Proofs.YtngondeaeipcfaaDoor

namespace Go.Proofs.YtngondeaeipcfaaDoor
open Go Go.RowKit Go.Extern.Stop Go.Stop Go.Extern

set_option maxRecDepth 100000 in
set_option maxHeartbeats 4000000 in
theorem errorsAs_hit_R (n : Int) (t : Addr) (old : Value) (w : World) (hg : ErrT w) (ht : w.cell? t = some old) (hf : w.frozen? t = false) :
    Calls Tryd.prog 133 #[.iface 192 (.int .i64 n), .iface 196 (.pointer (some t))] w fun e w' => e = .returned (.bool true) ∧ Below t.block w w' := by
  have h6 := @run_callFunc_extern Tryd.prog 182 _ (fun args => ReflectliteValue.unpack (args.getD 0 (.tuple #[]))) Tryd.func182 (by kernel_rfl) (by kernel_rfl) (by kernel_rfl) (by kernel_rfl)
  have h7 := @run_callFunc_extern Tryd.prog 183 _ (ReflectliteValue.methodAny (ReflectliteValue.valueError "reflectlite.Value.Type" 0) (fun t _ _ _ => ReflectliteType.toType t)) Tryd.func183 (by kernel_rfl) (by kernel_rfl) (by kernel_rfl) (by kernel_rfl)
  have h8 := @run_callFunc_extern Tryd.prog 184 _ (ReflectliteValue.method (ReflectliteValue.valueError "reflectlite.Value.IsNil" 0) ReflectliteValue.isNil) Tryd.func184 (by kernel_rfl) (by kernel_rfl) (by kernel_rfl) (by kernel_rfl)
  have hK := @run_callFunc_extern Tryd.prog 286 _ (ReflectliteType.abiMethod fun t => do pure (.int .u8 (← Rtype.kind t))) Tryd.func286 (by kernel_rfl) (by kernel_rfl) (by kernel_rfl) (by kernel_rfl)
  have hE := @run_callFunc_extern Tryd.prog 305 _ (ReflectliteType.method ReflectliteType.elem) Tryd.func305 (by kernel_rfl) (by kernel_rfl) (by kernel_rfl) (by kernel_rfl)
  have hI := @run_callFunc_extern Tryd.prog 306 _ (ReflectliteType.relation "Implements" ReflectliteType.implements_) Tryd.func306 (by kernel_rfl) (by kernel_rfl) (by kernel_rfl) (by kernel_rfl)
  have f6 := asVPR t w
  have f7 := asTPR
  have mK := asK
  have mE := asE
  have mI := asI
  have kP := asKPR
  have kE := asKER
  have eL := asELR
  have iM := asIMR
  have hgl := hg.lt
  have hg2 : ((w.alloc (.cells #[.pointer (some t)] 196)).alloc (.cells #[.pointer (some ⟨7, 196, none⟩), .pointer (some ⟨w.heap.size, 0, none⟩), .int .u64 150] 254)).cell? ⟨0, 0, none⟩ = some (.iface 283 (.agg #[.pointer (some ⟨7, 115, none⟩)])) := by
    rw [World.cell?_alloc_lt _ _ ⟨0, 0, none⟩ (by simp <;> omega), World.cell?_alloc_lt _ _ ⟨0, 0, none⟩ hgl]; exact hg
  have iN := asINR ⟨w.heap.size, 0, none⟩ t ((w.alloc (.cells #[.pointer (some t)] 196)).alloc (.cells #[.pointer (some ⟨7, 196, none⟩), .pointer (some ⟨w.heap.size, 0, none⟩), .int .u64 150] 254)) (by rw [World.cell?_alloc_lt _ _ ⟨w.heap.size, 0, none⟩ (by simp)]; simp)
  have hB2 : Below w.heap.size w ((w.alloc (.cells #[.pointer (some t)] 196)).alloc (.cells #[.pointer (some ⟨7, 196, none⟩), .pointer (some ⟨w.heap.size, 0, none⟩), .int .u64 150] 254)) := ((Below.refl _ _).alloc (Nat.le_refl _) _).alloc (by simp) _
  have htl := World.block_lt_of_cell? w _ ht
  have HC := hide (as_hit_R n t ⟨w.heap.size, 0, none⟩ old ((w.alloc (.cells #[.pointer (some t)] 196)).alloc (.cells #[.pointer (some ⟨7, 196, none⟩), .pointer (some ⟨w.heap.size, 0, none⟩), .int .u64 150] 254)) (by rw [World.cell?_alloc_lt _ _ ⟨w.heap.size, 0, none⟩ (by simp)]; simp) (by rw [World.cell?_alloc_lt _ _ t (by simp <;> omega), World.cell?_alloc_lt _ _ t htl]; exact ht) (by rw [World.frozen?_alloc_old _ _ t (by simp <;> omega), World.frozen?_alloc_old _ _ t (Nat.ne_of_lt htl)]; exact hf))
  have HB2 := hide hB2
  clear hB2 hg ht hf
  go_enter Tryd.func133, Tryd.ntmps133
  go_wp2_with (go_at_call 185; refine HC.out.mono ?_; rintro e w3 ⟨rfl, hb3⟩)
  go_ret
  exact ⟨rfl, (HB2.out.mono (Nat.le_of_lt htl)).trans hb3⟩

set_option maxRecDepth 100000 in
set_option maxHeartbeats 4000000 in
theorem errorsAs_miss_MS (n : Int) (t : Addr) (w : World) (hg : ErrT w) :
    Calls Tryd.prog 133 #[.iface 193 (.int .i64 n), .iface 195 (.pointer (some t))] w fun e w' => e = .returned (.bool false) ∧ Below w.heap.size w w' := by
  have h6 := @run_callFunc_extern Tryd.prog 182 _ (fun args => ReflectliteValue.unpack (args.getD 0 (.tuple #[]))) Tryd.func182 (by kernel_rfl) (by kernel_rfl) (by kernel_rfl) (by kernel_rfl)
  have h7 := @run_callFunc_extern Tryd.prog 183 _ (ReflectliteValue.methodAny (ReflectliteValue.valueError "reflectlite.Value.Type" 0) (fun t _ _ _ => ReflectliteType.toType t)) Tryd.func183 (by kernel_rfl) (by kernel_rfl) (by kernel_rfl) (by kernel_rfl)
  have h8 := @run_callFunc_extern Tryd.prog 184 _ (ReflectliteValue.method (ReflectliteValue.valueError "reflectlite.Value.IsNil" 0) ReflectliteValue.isNil) Tryd.func184 (by kernel_rfl) (by kernel_rfl) (by kernel_rfl) (by kernel_rfl)
  have hK := @run_callFunc_extern Tryd.prog 286 _ (ReflectliteType.abiMethod fun t => do pure (.int .u8 (← Rtype.kind t))) Tryd.func286 (by kernel_rfl) (by kernel_rfl) (by kernel_rfl) (by kernel_rfl)
  have hE := @run_callFunc_extern Tryd.prog 305 _ (ReflectliteType.method ReflectliteType.elem) Tryd.func305 (by kernel_rfl) (by kernel_rfl) (by kernel_rfl) (by kernel_rfl)
  have hI := @run_callFunc_extern Tryd.prog 306 _ (ReflectliteType.relation "Implements" ReflectliteType.implements_) Tryd.func306 (by kernel_rfl) (by kernel_rfl) (by kernel_rfl) (by kernel_rfl)
  have f6 := asVPS t w
  have f7 := asTPS
  have mK := asK
  have mE := asE
  have mI := asI
  have kP := asKPS
  have kE := asKES
  have eL := asELS
  have iM := asIMS
  have hgl := hg.lt
  have hg2 : ((w.alloc (.cells #[.pointer (some t)] 195)).alloc (.cells #[.pointer (some ⟨7, 195, none⟩), .pointer (some ⟨w.heap.size, 0, none⟩), .int .u64 150] 254)).cell? ⟨0, 0, none⟩ = some (.iface 283 (.agg #[.pointer (some ⟨7, 115, none⟩)])) := by
    rw [World.cell?_alloc_lt _ _ ⟨0, 0, none⟩ (by simp <;> omega), World.cell?_alloc_lt _ _ ⟨0, 0, none⟩ hgl]; exact hg
  have iN := asINS ⟨w.heap.size, 0, none⟩ t ((w.alloc (.cells #[.pointer (some t)] 195)).alloc (.cells #[.pointer (some ⟨7, 195, none⟩), .pointer (some ⟨w.heap.size, 0, none⟩), .int .u64 150] 254)) (by rw [World.cell?_alloc_lt _ _ ⟨w.heap.size, 0, none⟩ (by simp)]; simp)
  have hB2 : Below w.heap.size w ((w.alloc (.cells #[.pointer (some t)] 195)).alloc (.cells #[.pointer (some ⟨7, 195, none⟩), .pointer (some ⟨w.heap.size, 0, none⟩), .int .u64 150] 254)) := ((Below.refl _ _).alloc (Nat.le_refl _) _).alloc (by simp) _
  have HC := hide (as_miss_MS n t ⟨w.heap.size, 0, none⟩ ((w.alloc (.cells #[.pointer (some t)] 195)).alloc (.cells #[.pointer (some ⟨7, 195, none⟩), .pointer (some ⟨w.heap.size, 0, none⟩), .int .u64 150] 254)))
  have HB2 := hide hB2
  clear hB2 hg 
  go_enter Tryd.func133, Tryd.ntmps133
  go_wp2_with (go_at_call 185; refine HC.out.mono ?_; rintro e w3 ⟨rfl, hb3⟩)
  go_ret
  exact ⟨rfl, HB2.out.trans (hb3.mono HB2.out.size)⟩
end Go.Proofs.YtngondeaeipcfaaDoor

namespace Go.Proofs.YtngondeaeipcfaaDoor
open Go Go.RowKit Go.Extern.Stop Go.Stop Go.Extern

set_option maxRecDepth 100000 in
set_option maxHeartbeats 4000000 in
theorem errorsAs_miss_MR (n : Int) (t : Addr) (w : World) (hg : ErrT w) :
    Calls Tryd.prog 133 #[.iface 193 (.int .i64 n), .iface 196 (.pointer (some t))] w fun e w' => e = .returned (.bool false) ∧ Below w.heap.size w w' := by
  have h6 := @run_callFunc_extern Tryd.prog 182 _ (fun args => ReflectliteValue.unpack (args.getD 0 (.tuple #[]))) Tryd.func182 (by kernel_rfl) (by kernel_rfl) (by kernel_rfl) (by kernel_rfl)
  have h7 := @run_callFunc_extern Tryd.prog 183 _ (ReflectliteValue.methodAny (ReflectliteValue.valueError "reflectlite.Value.Type" 0) (fun t _ _ _ => ReflectliteType.toType t)) Tryd.func183 (by kernel_rfl) (by kernel_rfl) (by kernel_rfl) (by kernel_rfl)
  have h8 := @run_callFunc_extern Tryd.prog 184 _ (ReflectliteValue.method (ReflectliteValue.valueError "reflectlite.Value.IsNil" 0) ReflectliteValue.isNil) Tryd.func184 (by kernel_rfl) (by kernel_rfl) (by kernel_rfl) (by kernel_rfl)
  have hK := @run_callFunc_extern Tryd.prog 286 _ (ReflectliteType.abiMethod fun t => do pure (.int .u8 (← Rtype.kind t))) Tryd.func286 (by kernel_rfl) (by kernel_rfl) (by kernel_rfl) (by kernel_rfl)
  have hE := @run_callFunc_extern Tryd.prog 305 _ (ReflectliteType.method ReflectliteType.elem) Tryd.func305 (by kernel_rfl) (by kernel_rfl) (by kernel_rfl) (by kernel_rfl)
  have hI := @run_callFunc_extern Tryd.prog 306 _ (ReflectliteType.relation "Implements" ReflectliteType.implements_) Tryd.func306 (by kernel_rfl) (by kernel_rfl) (by kernel_rfl) (by kernel_rfl)
  have f6 := asVPR t w
  have f7 := asTPR
  have mK := asK
  have mE := asE
  have mI := asI
  have kP := asKPR
  have kE := asKER
  have eL := asELR
  have iM := asIMR
  have hgl := hg.lt
  have hg2 : ((w.alloc (.cells #[.pointer (some t)] 196)).alloc (.cells #[.pointer (some ⟨7, 196, none⟩), .pointer (some ⟨w.heap.size, 0, none⟩), .int .u64 150] 254)).cell? ⟨0, 0, none⟩ = some (.iface 283 (.agg #[.pointer (some ⟨7, 115, none⟩)])) := by
    rw [World.cell?_alloc_lt _ _ ⟨0, 0, none⟩ (by simp <;> omega), World.cell?_alloc_lt _ _ ⟨0, 0, none⟩ hgl]; exact hg
  have iN := asINR ⟨w.heap.size, 0, none⟩ t ((w.alloc (.cells #[.pointer (some t)] 196)).alloc (.cells #[.pointer (some ⟨7, 196, none⟩), .pointer (some ⟨w.heap.size, 0, none⟩), .int .u64 150] 254)) (by rw [World.cell?_alloc_lt _ _ ⟨w.heap.size, 0, none⟩ (by simp)]; simp)
  have hB2 : Below w.heap.size w ((w.alloc (.cells #[.pointer (some t)] 196)).alloc (.cells #[.pointer (some ⟨7, 196, none⟩), .pointer (some ⟨w.heap.size, 0, none⟩), .int .u64 150] 254)) := ((Below.refl _ _).alloc (Nat.le_refl _) _).alloc (by simp) _
  have HC := hide (as_miss_MR n t ⟨w.heap.size, 0, none⟩ ((w.alloc (.cells #[.pointer (some t)] 196)).alloc (.cells #[.pointer (some ⟨7, 196, none⟩), .pointer (some ⟨w.heap.size, 0, none⟩), .int .u64 150] 254)))
  have HB2 := hide hB2
  clear hB2 hg 
  go_enter Tryd.func133, Tryd.ntmps133
  go_wp2_with (go_at_call 185; refine HC.out.mono ?_; rintro e w3 ⟨rfl, hb3⟩)
  go_ret
  exact ⟨rfl, HB2.out.trans (hb3.mono HB2.out.size)⟩

set_option maxRecDepth 100000 in
set_option maxHeartbeats 4000000 in
theorem errorsAs_hit_M (n : Int) (t : Addr) (old : Value) (w : World) (hg : ErrT w) (ht : w.cell? t = some old) (hf : w.frozen? t = false) :
    Calls Tryd.prog 133 #[.iface 193 (.int .i64 n), .iface 197 (.pointer (some t))] w fun e w' => e = .returned (.bool true) ∧ Below t.block w w' := by
  have h6 := @run_callFunc_extern Tryd.prog 182 _ (fun args => ReflectliteValue.unpack (args.getD 0 (.tuple #[]))) Tryd.func182 (by kernel_rfl) (by kernel_rfl) (by kernel_rfl) (by kernel_rfl)
  have h7 := @run_callFunc_extern Tryd.prog 183 _ (ReflectliteValue.methodAny (ReflectliteValue.valueError "reflectlite.Value.Type" 0) (fun t _ _ _ => ReflectliteType.toType t)) Tryd.func183 (by kernel_rfl) (by kernel_rfl) (by kernel_rfl) (by kernel_rfl)
  have h8 := @run_callFunc_extern Tryd.prog 184 _ (ReflectliteValue.method (ReflectliteValue.valueError "reflectlite.Value.IsNil" 0) ReflectliteValue.isNil) Tryd.func184 (by kernel_rfl) (by kernel_rfl) (by kernel_rfl) (by kernel_rfl)
  have hK := @run_callFunc_extern Tryd.prog 286 _ (ReflectliteType.abiMethod fun t => do pure (.int .u8 (← Rtype.kind t))) Tryd.func286 (by kernel_rfl) (by kernel_rfl) (by kernel_rfl) (by kernel_rfl)
  have hE := @run_callFunc_extern Tryd.prog 305 _ (ReflectliteType.method ReflectliteType.elem) Tryd.func305 (by kernel_rfl) (by kernel_rfl) (by kernel_rfl) (by kernel_rfl)
  have hI := @run_callFunc_extern Tryd.prog 306 _ (ReflectliteType.relation "Implements" ReflectliteType.implements_) Tryd.func306 (by kernel_rfl) (by kernel_rfl) (by kernel_rfl) (by kernel_rfl)
  have f6 := asVPM t w
  have f7 := asTPM
  have mK := asK
  have mE := asE
  have mI := asI
  have kP := asKPM
  have kE := asKEM
  have eL := asELM
  have iM := asIMM
  have hgl := hg.lt
  have hg2 : ((w.alloc (.cells #[.pointer (some t)] 197)).alloc (.cells #[.pointer (some ⟨7, 197, none⟩), .pointer (some ⟨w.heap.size, 0, none⟩), .int .u64 150] 254)).cell? ⟨0, 0, none⟩ = some (.iface 283 (.agg #[.pointer (some ⟨7, 115, none⟩)])) := by
    rw [World.cell?_alloc_lt _ _ ⟨0, 0, none⟩ (by simp <;> omega), World.cell?_alloc_lt _ _ ⟨0, 0, none⟩ hgl]; exact hg
  have iN := asINM ⟨w.heap.size, 0, none⟩ t ((w.alloc (.cells #[.pointer (some t)] 197)).alloc (.cells #[.pointer (some ⟨7, 197, none⟩), .pointer (some ⟨w.heap.size, 0, none⟩), .int .u64 150] 254)) (by rw [World.cell?_alloc_lt _ _ ⟨w.heap.size, 0, none⟩ (by simp)]; simp)
  have hB2 : Below w.heap.size w ((w.alloc (.cells #[.pointer (some t)] 197)).alloc (.cells #[.pointer (some ⟨7, 197, none⟩), .pointer (some ⟨w.heap.size, 0, none⟩), .int .u64 150] 254)) := ((Below.refl _ _).alloc (Nat.le_refl _) _).alloc (by simp) _
  have htl := World.block_lt_of_cell? w _ ht
  have HC := hide (as_hit_M n t ⟨w.heap.size, 0, none⟩ old ((w.alloc (.cells #[.pointer (some t)] 197)).alloc (.cells #[.pointer (some ⟨7, 197, none⟩), .pointer (some ⟨w.heap.size, 0, none⟩), .int .u64 150] 254)) (by rw [World.cell?_alloc_lt _ _ ⟨w.heap.size, 0, none⟩ (by simp)]; simp) (by rw [World.cell?_alloc_lt _ _ t (by simp <;> omega), World.cell?_alloc_lt _ _ t htl]; exact ht) (by rw [World.frozen?_alloc_old _ _ t (by simp <;> omega), World.frozen?_alloc_old _ _ t (Nat.ne_of_lt htl)]; exact hf))
  have HB2 := hide hB2
  clear hB2 hg ht hf
  go_enter Tryd.func133, Tryd.ntmps133
  go_wp2_with (go_at_call 185; refine HC.out.mono ?_; rintro e w3 ⟨rfl, hb3⟩)
  go_ret
  exact ⟨rfl, (HB2.out.mono (Nat.le_of_lt htl)).trans hb3⟩
end Go.Proofs.YtngondeaeipcfaaDoor
