/- errors.as by its contracts, at errors that are numbers. -/
import Derived.Test.YtngondeaeipcfaaDoorAsF
namespace Go.Proofs.YtngondeaeipcfaaDoor
open Go Go.RowKit Go.Extern.Stop Go.Stop Go.Extern

set_option maxRecDepth 100000 in
set_option maxHeartbeats 4000000 in
theorem as_hit_S (n : Int) (t v : Addr) (old : Value) (w : World) (hv : w.cell? v = some (.pointer (some t))) (ht : w.cell? t = some old) (hf : w.frozen? t = false) :
    Calls Tryd.prog 185 #[.iface 191 (.int .i64 n), .iface 195 (.pointer (some t)), .agg #[.pointer (some ⟨7, 195, none⟩), .pointer (some v), .int .u64 150], .iface 283 (.agg #[.pointer (some ⟨7, 191, none⟩)])] w fun e w' => e = .returned (.bool true) ∧ Below t.block w w' := by
  have h6 := @run_callFunc_extern Tryd.prog 182 _ (fun args => ReflectliteValue.unpack (args.getD 0 (.tuple #[]))) Tryd.func182 (by kernel_rfl) (by kernel_rfl) (by kernel_rfl) (by kernel_rfl)
  have hT := @run_callFunc_extern Tryd.prog 209 _ ReflectliteType.typeOf Tryd.func209 (by kernel_rfl) (by kernel_rfl) (by kernel_rfl) (by kernel_rfl)
  have hA := @run_callFunc_extern Tryd.prog 303 _ (ReflectliteType.relation "AssignableTo" ReflectliteType.assignableTo) Tryd.func303 (by kernel_rfl) (by kernel_rfl) (by kernel_rfl) (by kernel_rfl)
  have hV := @run_callFunc_extern Tryd.prog 210 _ (ReflectliteValue.method (ReflectliteValue.valueError "reflectlite.Value.Elem" 0) ReflectliteValue.elem) Tryd.func210 (by kernel_rfl) (by kernel_rfl) (by kernel_rfl) (by kernel_rfl)
  have hS := @run_callFunc_extern Tryd.prog 211 _ ReflectliteValue.set Tryd.func211 (by kernel_rfl) (by kernel_rfl) (by kernel_rfl) (by kernel_rfl)
  have mA := asA
  have tO := asTOS
  have aT := asATSS
  have hvl := World.block_lt_of_cell? w _ hv
  have htl := World.block_lt_of_cell? w _ ht
  have eV := asEVS v t (w.alloc (.cells #[.pointer (some ⟨7, 195, none⟩), .pointer (some v), .int .u64 150] 254)) (by rw [World.cell?_alloc_lt _ _ v hvl]; exact hv)
  have vE := asVES n (w.alloc (.cells #[.pointer (some ⟨7, 195, none⟩), .pointer (some v), .int .u64 150] 254))
  have sS := asSTS t ⟨w.heap.size + 1, 0, none⟩ n old ((w.alloc (.cells #[.pointer (some ⟨7, 195, none⟩), .pointer (some v), .int .u64 150] 254)).alloc (.cells #[.int .i64 n] 191)) (by rw [World.cell?_alloc_at _ _ _ _ (by simp)]; rfl) (by rw [World.cell?_alloc_lt _ _ t (by simp <;> omega), World.cell?_alloc_lt _ _ t htl]; exact ht) (by rw [World.frozen?_alloc_old _ _ t (by simp <;> omega), World.frozen?_alloc_old _ _ t (Nat.ne_of_lt htl)]; exact hf)
  have hB : Below t.block w (((w.alloc (.cells #[.pointer (some ⟨7, 195, none⟩), .pointer (some v), .int .u64 150] 254)).alloc (.cells #[.int .i64 n] 191)).setCell t (.int .i64 n)) := (((Below.refl _ _).alloc (by omega) _).alloc (by simp <;> omega) _).setCell (p := t) (Nat.le_refl _) _
  have HB := hide hB
  clear hB hv ht hf
  go_enter Tryd.func185, Tryd.ntmps185
  go_wp2
  refine wp_loop_rounds 1 ?_
  rw [rounds_succ]
  go_wp2
  go_ret
  exact ⟨rfl, HB.out⟩

set_option maxRecDepth 100000 in
set_option maxHeartbeats 4000000 in
theorem as_hit_R (n : Int) (t v : Addr) (old : Value) (w : World) (hv : w.cell? v = some (.pointer (some t))) (ht : w.cell? t = some old) (hf : w.frozen? t = false) :
    Calls Tryd.prog 185 #[.iface 192 (.int .i64 n), .iface 196 (.pointer (some t)), .agg #[.pointer (some ⟨7, 196, none⟩), .pointer (some v), .int .u64 150], .iface 283 (.agg #[.pointer (some ⟨7, 192, none⟩)])] w fun e w' => e = .returned (.bool true) ∧ Below t.block w w' := by
  have h6 := @run_callFunc_extern Tryd.prog 182 _ (fun args => ReflectliteValue.unpack (args.getD 0 (.tuple #[]))) Tryd.func182 (by kernel_rfl) (by kernel_rfl) (by kernel_rfl) (by kernel_rfl)
  have hT := @run_callFunc_extern Tryd.prog 209 _ ReflectliteType.typeOf Tryd.func209 (by kernel_rfl) (by kernel_rfl) (by kernel_rfl) (by kernel_rfl)
  have hA := @run_callFunc_extern Tryd.prog 303 _ (ReflectliteType.relation "AssignableTo" ReflectliteType.assignableTo) Tryd.func303 (by kernel_rfl) (by kernel_rfl) (by kernel_rfl) (by kernel_rfl)
  have hV := @run_callFunc_extern Tryd.prog 210 _ (ReflectliteValue.method (ReflectliteValue.valueError "reflectlite.Value.Elem" 0) ReflectliteValue.elem) Tryd.func210 (by kernel_rfl) (by kernel_rfl) (by kernel_rfl) (by kernel_rfl)
  have hS := @run_callFunc_extern Tryd.prog 211 _ ReflectliteValue.set Tryd.func211 (by kernel_rfl) (by kernel_rfl) (by kernel_rfl) (by kernel_rfl)
  have mA := asA
  have tO := asTOR
  have aT := asATRR
  have hvl := World.block_lt_of_cell? w _ hv
  have htl := World.block_lt_of_cell? w _ ht
  have eV := asEVR v t (w.alloc (.cells #[.pointer (some ⟨7, 196, none⟩), .pointer (some v), .int .u64 150] 254)) (by rw [World.cell?_alloc_lt _ _ v hvl]; exact hv)
  have vE := asVER n (w.alloc (.cells #[.pointer (some ⟨7, 196, none⟩), .pointer (some v), .int .u64 150] 254))
  have sS := asSTR t ⟨w.heap.size + 1, 0, none⟩ n old ((w.alloc (.cells #[.pointer (some ⟨7, 196, none⟩), .pointer (some v), .int .u64 150] 254)).alloc (.cells #[.int .i64 n] 192)) (by rw [World.cell?_alloc_at _ _ _ _ (by simp)]; rfl) (by rw [World.cell?_alloc_lt _ _ t (by simp <;> omega), World.cell?_alloc_lt _ _ t htl]; exact ht) (by rw [World.frozen?_alloc_old _ _ t (by simp <;> omega), World.frozen?_alloc_old _ _ t (Nat.ne_of_lt htl)]; exact hf)
  have hB : Below t.block w (((w.alloc (.cells #[.pointer (some ⟨7, 196, none⟩), .pointer (some v), .int .u64 150] 254)).alloc (.cells #[.int .i64 n] 192)).setCell t (.int .i64 n)) := (((Below.refl _ _).alloc (by omega) _).alloc (by simp <;> omega) _).setCell (p := t) (Nat.le_refl _) _
  have HB := hide hB
  clear hB hv ht hf
  go_enter Tryd.func185, Tryd.ntmps185
  go_wp2
  refine wp_loop_rounds 1 ?_
  rw [rounds_succ]
  go_wp2
  go_ret
  exact ⟨rfl, HB.out⟩

set_option maxRecDepth 100000 in
set_option maxHeartbeats 4000000 in
theorem as_miss_RS (n : Int) (t v : Addr) (w : World) :
    Calls Tryd.prog 185 #[.iface 192 (.int .i64 n), .iface 195 (.pointer (some t)), .agg #[.pointer (some ⟨7, 195, none⟩), .pointer (some v), .int .u64 150], .iface 283 (.agg #[.pointer (some ⟨7, 191, none⟩)])] w fun e w' => e = .returned (.bool false) ∧ Below w.heap.size w w' := by
  have hT := @run_callFunc_extern Tryd.prog 209 _ ReflectliteType.typeOf Tryd.func209 (by kernel_rfl) (by kernel_rfl) (by kernel_rfl) (by kernel_rfl)
  have hA := @run_callFunc_extern Tryd.prog 303 _ (ReflectliteType.relation "AssignableTo" ReflectliteType.assignableTo) Tryd.func303 (by kernel_rfl) (by kernel_rfl) (by kernel_rfl) (by kernel_rfl)
  have mA := asA
  have tO := asTOR
  have aT := asATRS
  have n1 := asNoAsR
  have n2 := asNoU1R
  have n3 := asNoU2R
  go_enter Tryd.func185, Tryd.ntmps185
  go_wp2
  refine wp_loop_rounds 1 ?_
  rw [rounds_succ]
  go_wp2
  go_ret
  exact ⟨rfl, (Below.refl _ _).alloc (Nat.le_refl _) _⟩

set_option maxRecDepth 100000 in
set_option maxHeartbeats 4000000 in
theorem as_hit_M (n : Int) (t v : Addr) (old : Value) (w : World) (hv : w.cell? v = some (.pointer (some t))) (ht : w.cell? t = some old) (hf : w.frozen? t = false) :
    Calls Tryd.prog 185 #[.iface 193 (.int .i64 n), .iface 197 (.pointer (some t)), .agg #[.pointer (some ⟨7, 197, none⟩), .pointer (some v), .int .u64 150], .iface 283 (.agg #[.pointer (some ⟨7, 193, none⟩)])] w fun e w' => e = .returned (.bool true) ∧ Below t.block w w' := by
  have h6 := @run_callFunc_extern Tryd.prog 182 _ (fun args => ReflectliteValue.unpack (args.getD 0 (.tuple #[]))) Tryd.func182 (by kernel_rfl) (by kernel_rfl) (by kernel_rfl) (by kernel_rfl)
  have hT := @run_callFunc_extern Tryd.prog 209 _ ReflectliteType.typeOf Tryd.func209 (by kernel_rfl) (by kernel_rfl) (by kernel_rfl) (by kernel_rfl)
  have hA := @run_callFunc_extern Tryd.prog 303 _ (ReflectliteType.relation "AssignableTo" ReflectliteType.assignableTo) Tryd.func303 (by kernel_rfl) (by kernel_rfl) (by kernel_rfl) (by kernel_rfl)
  have hV := @run_callFunc_extern Tryd.prog 210 _ (ReflectliteValue.method (ReflectliteValue.valueError "reflectlite.Value.Elem" 0) ReflectliteValue.elem) Tryd.func210 (by kernel_rfl) (by kernel_rfl) (by kernel_rfl) (by kernel_rfl)
  have hS := @run_callFunc_extern Tryd.prog 211 _ ReflectliteValue.set Tryd.func211 (by kernel_rfl) (by kernel_rfl) (by kernel_rfl) (by kernel_rfl)
  have mA := asA
  have tO := asTOM
  have aT := asATMM
  have hvl := World.block_lt_of_cell? w _ hv
  have htl := World.block_lt_of_cell? w _ ht
  have eV := asEVM v t (w.alloc (.cells #[.pointer (some ⟨7, 197, none⟩), .pointer (some v), .int .u64 150] 254)) (by rw [World.cell?_alloc_lt _ _ v hvl]; exact hv)
  have vE := asVEM n (w.alloc (.cells #[.pointer (some ⟨7, 197, none⟩), .pointer (some v), .int .u64 150] 254))
  have sS := asSTM t ⟨w.heap.size + 1, 0, none⟩ n old ((w.alloc (.cells #[.pointer (some ⟨7, 197, none⟩), .pointer (some v), .int .u64 150] 254)).alloc (.cells #[.int .i64 n] 193)) (by rw [World.cell?_alloc_at _ _ _ _ (by simp)]; rfl) (by rw [World.cell?_alloc_lt _ _ t (by simp <;> omega), World.cell?_alloc_lt _ _ t htl]; exact ht) (by rw [World.frozen?_alloc_old _ _ t (by simp <;> omega), World.frozen?_alloc_old _ _ t (Nat.ne_of_lt htl)]; exact hf)
  have hB : Below t.block w (((w.alloc (.cells #[.pointer (some ⟨7, 197, none⟩), .pointer (some v), .int .u64 150] 254)).alloc (.cells #[.int .i64 n] 193)).setCell t (.int .i64 n)) := (((Below.refl _ _).alloc (by omega) _).alloc (by simp <;> omega) _).setCell (p := t) (Nat.le_refl _) _
  have HB := hide hB
  clear hB hv ht hf
  go_enter Tryd.func185, Tryd.ntmps185
  go_wp2
  refine wp_loop_rounds 1 ?_
  rw [rounds_succ]
  go_wp2
  go_ret
  exact ⟨rfl, HB.out⟩

set_option maxRecDepth 100000 in
set_option maxHeartbeats 4000000 in
theorem as_miss_MS (n : Int) (t v : Addr) (w : World) :
    Calls Tryd.prog 185 #[.iface 193 (.int .i64 n), .iface 195 (.pointer (some t)), .agg #[.pointer (some ⟨7, 195, none⟩), .pointer (some v), .int .u64 150], .iface 283 (.agg #[.pointer (some ⟨7, 191, none⟩)])] w fun e w' => e = .returned (.bool false) ∧ Below w.heap.size w w' := by
  have hT := @run_callFunc_extern Tryd.prog 209 _ ReflectliteType.typeOf Tryd.func209 (by kernel_rfl) (by kernel_rfl) (by kernel_rfl) (by kernel_rfl)
  have hA := @run_callFunc_extern Tryd.prog 303 _ (ReflectliteType.relation "AssignableTo" ReflectliteType.assignableTo) Tryd.func303 (by kernel_rfl) (by kernel_rfl) (by kernel_rfl) (by kernel_rfl)
  have mA := asA
  have tO := asTOM
  have aT := asATMS
  have n1 := asNoAsM
  have n2 := asNoU1M
  have n3 := asNoU2M
  go_enter Tryd.func185, Tryd.ntmps185
  go_wp2
  refine wp_loop_rounds 1 ?_
  rw [rounds_succ]
  go_wp2
  go_ret
  exact ⟨rfl, (Below.refl _ _).alloc (Nat.le_refl _) _⟩

set_option maxRecDepth 100000 in
set_option maxHeartbeats 4000000 in
theorem as_miss_MR (n : Int) (t v : Addr) (w : World) :
    Calls Tryd.prog 185 #[.iface 193 (.int .i64 n), .iface 196 (.pointer (some t)), .agg #[.pointer (some ⟨7, 196, none⟩), .pointer (some v), .int .u64 150], .iface 283 (.agg #[.pointer (some ⟨7, 192, none⟩)])] w fun e w' => e = .returned (.bool false) ∧ Below w.heap.size w w' := by
  have hT := @run_callFunc_extern Tryd.prog 209 _ ReflectliteType.typeOf Tryd.func209 (by kernel_rfl) (by kernel_rfl) (by kernel_rfl) (by kernel_rfl)
  have hA := @run_callFunc_extern Tryd.prog 303 _ (ReflectliteType.relation "AssignableTo" ReflectliteType.assignableTo) Tryd.func303 (by kernel_rfl) (by kernel_rfl) (by kernel_rfl) (by kernel_rfl)
  have mA := asA
  have tO := asTOM
  have aT := asATMR
  have n1 := asNoAsM
  have n2 := asNoU1M
  have n3 := asNoU2M
  go_enter Tryd.func185, Tryd.ntmps185
  go_wp2
  refine wp_loop_rounds 1 ?_
  rw [rounds_succ]
  go_wp2
  go_ret
  exact ⟨rfl, (Below.refl _ _).alloc (Nat.le_refl _) _⟩
end Go.Proofs.YtngondeaeipcfaaDoor
