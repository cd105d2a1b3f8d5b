/- errors.as by its contracts, at errors that are numbers. -/
import Derived.Test.YtjmkbdghenjlaaaDoorAsFS
import Derived.Test.YtjmkbdghenjlaaaDoorAsFR
import Derived.Test.YtjmkbdghenjlaaaDoorAsFM
namespace Go.Proofs.YtjmkbdghenjlaaaDoor
open Go Go.RowKit Go.Extern.Stop Go.Stop Go.Extern

set_option maxRecDepth 100000 in
set_option maxHeartbeats 4000000 in
theorem as_hit_S (n : Int) (t v : Addr) (old : Value) (w : World) (hv : w.cell? v = some (.pointer (some t))) (ht : w.cell? t = some old) (hf : w.frozen? t = false) :
    Calls Tryd.prog 122 #[.iface 129 (.int .i64 n), .iface 133 (.pointer (some t)), .agg #[.pointer (some ⟨7, 133, none⟩), .pointer (some v), .int .u64 150], .iface 221 (.agg #[.pointer (some ⟨7, 129, none⟩)])] w fun e w' => e = .returned (.bool true) ∧ Below t.block w w' := by
  have h6 := @run_callFunc_extern Tryd.prog 119 _ (fun args => ReflectliteValue.unpack (args.getD 0 (.tuple #[]))) Tryd.func119 (by kernel_rfl) (by kernel_rfl) (by kernel_rfl) (by kernel_rfl)
  have hT := @run_callFunc_extern Tryd.prog 142 _ ReflectliteType.typeOf Tryd.func142 (by kernel_rfl) (by kernel_rfl) (by kernel_rfl) (by kernel_rfl)
  have hA := @run_callFunc_extern Tryd.prog 213 _ (ReflectliteType.relation "AssignableTo" ReflectliteType.assignableTo) Tryd.func213 (by kernel_rfl) (by kernel_rfl) (by kernel_rfl) (by kernel_rfl)
  have hV := @run_callFunc_extern Tryd.prog 143 _ (ReflectliteValue.method (ReflectliteValue.valueError "reflectlite.Value.Elem" 0) ReflectliteValue.elem) Tryd.func143 (by kernel_rfl) (by kernel_rfl) (by kernel_rfl) (by kernel_rfl)
  have hS := @run_callFunc_extern Tryd.prog 144 _ ReflectliteValue.set Tryd.func144 (by kernel_rfl) (by kernel_rfl) (by kernel_rfl) (by kernel_rfl)
  have mA := asA
  have tO := asTOS
  have aT := asATSS
  have hvl := World.block_lt_of_cell? w _ hv
  have htl := World.block_lt_of_cell? w _ ht
  have eV := asEVS v t (w.alloc (.cells #[.pointer (some ⟨7, 133, none⟩), .pointer (some v), .int .u64 150] 192)) (by rw [World.cell?_alloc_lt _ _ v hvl]; exact hv)
  have vE := asVES n (w.alloc (.cells #[.pointer (some ⟨7, 133, none⟩), .pointer (some v), .int .u64 150] 192))
  have sS := asSTS t ⟨w.heap.size + 1, 0, none⟩ n old ((w.alloc (.cells #[.pointer (some ⟨7, 133, none⟩), .pointer (some v), .int .u64 150] 192)).alloc (.cells #[.int .i64 n] 129)) (by rw [World.cell?_alloc_at _ _ _ _ (by simp)]; rfl) (by rw [World.cell?_alloc_lt _ _ t (by simp <;> omega), World.cell?_alloc_lt _ _ t htl]; exact ht) (by rw [World.frozen?_alloc_old _ _ t (by simp <;> omega), World.frozen?_alloc_old _ _ t (Nat.ne_of_lt htl)]; exact hf)
  have hB : Below t.block w (((w.alloc (.cells #[.pointer (some ⟨7, 133, none⟩), .pointer (some v), .int .u64 150] 192)).alloc (.cells #[.int .i64 n] 129)).setCell t (.int .i64 n)) := (((Below.refl _ _).alloc (by omega) _).alloc (by simp <;> omega) _).setCell (p := t) (Nat.le_refl _) _
  have HB := hide hB
  clear hB hv ht hf
  go_enter Tryd.func122, Tryd.ntmps122
  go_wp2
  refine wp_loop_rounds 1 ?_
  rw [rounds_succ]
  go_wp2
  go_ret
  exact ⟨rfl, HB.out⟩

set_option maxRecDepth 100000 in
set_option maxHeartbeats 4000000 in
theorem as_hit_R (n : Int) (t v : Addr) (old : Value) (w : World) (hv : w.cell? v = some (.pointer (some t))) (ht : w.cell? t = some old) (hf : w.frozen? t = false) :
    Calls Tryd.prog 122 #[.iface 130 (.int .i64 n), .iface 134 (.pointer (some t)), .agg #[.pointer (some ⟨7, 134, none⟩), .pointer (some v), .int .u64 150], .iface 221 (.agg #[.pointer (some ⟨7, 130, none⟩)])] w fun e w' => e = .returned (.bool true) ∧ Below t.block w w' := by
  have h6 := @run_callFunc_extern Tryd.prog 119 _ (fun args => ReflectliteValue.unpack (args.getD 0 (.tuple #[]))) Tryd.func119 (by kernel_rfl) (by kernel_rfl) (by kernel_rfl) (by kernel_rfl)
  have hT := @run_callFunc_extern Tryd.prog 142 _ ReflectliteType.typeOf Tryd.func142 (by kernel_rfl) (by kernel_rfl) (by kernel_rfl) (by kernel_rfl)
  have hA := @run_callFunc_extern Tryd.prog 213 _ (ReflectliteType.relation "AssignableTo" ReflectliteType.assignableTo) Tryd.func213 (by kernel_rfl) (by kernel_rfl) (by kernel_rfl) (by kernel_rfl)
  have hV := @run_callFunc_extern Tryd.prog 143 _ (ReflectliteValue.method (ReflectliteValue.valueError "reflectlite.Value.Elem" 0) ReflectliteValue.elem) Tryd.func143 (by kernel_rfl) (by kernel_rfl) (by kernel_rfl) (by kernel_rfl)
  have hS := @run_callFunc_extern Tryd.prog 144 _ ReflectliteValue.set Tryd.func144 (by kernel_rfl) (by kernel_rfl) (by kernel_rfl) (by kernel_rfl)
  have mA := asA
  have tO := asTOR
  have aT := asATRR
  have hvl := World.block_lt_of_cell? w _ hv
  have htl := World.block_lt_of_cell? w _ ht
  have eV := asEVR v t (w.alloc (.cells #[.pointer (some ⟨7, 134, none⟩), .pointer (some v), .int .u64 150] 192)) (by rw [World.cell?_alloc_lt _ _ v hvl]; exact hv)
  have vE := asVER n (w.alloc (.cells #[.pointer (some ⟨7, 134, none⟩), .pointer (some v), .int .u64 150] 192))
  have sS := asSTR t ⟨w.heap.size + 1, 0, none⟩ n old ((w.alloc (.cells #[.pointer (some ⟨7, 134, none⟩), .pointer (some v), .int .u64 150] 192)).alloc (.cells #[.int .i64 n] 130)) (by rw [World.cell?_alloc_at _ _ _ _ (by simp)]; rfl) (by rw [World.cell?_alloc_lt _ _ t (by simp <;> omega), World.cell?_alloc_lt _ _ t htl]; exact ht) (by rw [World.frozen?_alloc_old _ _ t (by simp <;> omega), World.frozen?_alloc_old _ _ t (Nat.ne_of_lt htl)]; exact hf)
  have hB : Below t.block w (((w.alloc (.cells #[.pointer (some ⟨7, 134, none⟩), .pointer (some v), .int .u64 150] 192)).alloc (.cells #[.int .i64 n] 130)).setCell t (.int .i64 n)) := (((Below.refl _ _).alloc (by omega) _).alloc (by simp <;> omega) _).setCell (p := t) (Nat.le_refl _) _
  have HB := hide hB
  clear hB hv ht hf
  go_enter Tryd.func122, Tryd.ntmps122
  go_wp2
  refine wp_loop_rounds 1 ?_
  rw [rounds_succ]
  go_wp2
  go_ret
  exact ⟨rfl, HB.out⟩

set_option maxRecDepth 100000 in
set_option maxHeartbeats 4000000 in
theorem as_miss_RS (n : Int) (t v : Addr) (w : World) :
    Calls Tryd.prog 122 #[.iface 130 (.int .i64 n), .iface 133 (.pointer (some t)), .agg #[.pointer (some ⟨7, 133, none⟩), .pointer (some v), .int .u64 150], .iface 221 (.agg #[.pointer (some ⟨7, 129, none⟩)])] w fun e w' => e = .returned (.bool false) ∧ Below w.heap.size w w' := by
  have hT := @run_callFunc_extern Tryd.prog 142 _ ReflectliteType.typeOf Tryd.func142 (by kernel_rfl) (by kernel_rfl) (by kernel_rfl) (by kernel_rfl)
  have hA := @run_callFunc_extern Tryd.prog 213 _ (ReflectliteType.relation "AssignableTo" ReflectliteType.assignableTo) Tryd.func213 (by kernel_rfl) (by kernel_rfl) (by kernel_rfl) (by kernel_rfl)
  have mA := asA
  have tO := asTOR
  have aT := asATRS
  have n1 := asNoAsR
  have n2 := asNoU1R
  have n3 := asNoU2R
  go_enter Tryd.func122, Tryd.ntmps122
  go_wp2
  refine wp_loop_rounds 1 ?_
  rw [rounds_succ]
  go_wp2
  go_ret
  exact ⟨rfl, (Below.refl _ _).alloc (Nat.le_refl _) _⟩

set_option maxRecDepth 100000 in
set_option maxHeartbeats 4000000 in
theorem as_hit_M (n : Int) (t v : Addr) (old : Value) (w : World) (hv : w.cell? v = some (.pointer (some t))) (ht : w.cell? t = some old) (hf : w.frozen? t = false) :
    Calls Tryd.prog 122 #[.iface 131 (.int .i64 n), .iface 135 (.pointer (some t)), .agg #[.pointer (some ⟨7, 135, none⟩), .pointer (some v), .int .u64 150], .iface 221 (.agg #[.pointer (some ⟨7, 131, none⟩)])] w fun e w' => e = .returned (.bool true) ∧ Below t.block w w' := by
  have h6 := @run_callFunc_extern Tryd.prog 119 _ (fun args => ReflectliteValue.unpack (args.getD 0 (.tuple #[]))) Tryd.func119 (by kernel_rfl) (by kernel_rfl) (by kernel_rfl) (by kernel_rfl)
  have hT := @run_callFunc_extern Tryd.prog 142 _ ReflectliteType.typeOf Tryd.func142 (by kernel_rfl) (by kernel_rfl) (by kernel_rfl) (by kernel_rfl)
  have hA := @run_callFunc_extern Tryd.prog 213 _ (ReflectliteType.relation "AssignableTo" ReflectliteType.assignableTo) Tryd.func213 (by kernel_rfl) (by kernel_rfl) (by kernel_rfl) (by kernel_rfl)
  have hV := @run_callFunc_extern Tryd.prog 143 _ (ReflectliteValue.method (ReflectliteValue.valueError "reflectlite.Value.Elem" 0) ReflectliteValue.elem) Tryd.func143 (by kernel_rfl) (by kernel_rfl) (by kernel_rfl) (by kernel_rfl)
  have hS := @run_callFunc_extern Tryd.prog 144 _ ReflectliteValue.set Tryd.func144 (by kernel_rfl) (by kernel_rfl) (by kernel_rfl) (by kernel_rfl)
  have mA := asA
  have tO := asTOM
  have aT := asATMM
  have hvl := World.block_lt_of_cell? w _ hv
  have htl := World.block_lt_of_cell? w _ ht
  have eV := asEVM v t (w.alloc (.cells #[.pointer (some ⟨7, 135, none⟩), .pointer (some v), .int .u64 150] 192)) (by rw [World.cell?_alloc_lt _ _ v hvl]; exact hv)
  have vE := asVEM n (w.alloc (.cells #[.pointer (some ⟨7, 135, none⟩), .pointer (some v), .int .u64 150] 192))
  have sS := asSTM t ⟨w.heap.size + 1, 0, none⟩ n old ((w.alloc (.cells #[.pointer (some ⟨7, 135, none⟩), .pointer (some v), .int .u64 150] 192)).alloc (.cells #[.int .i64 n] 131)) (by rw [World.cell?_alloc_at _ _ _ _ (by simp)]; rfl) (by rw [World.cell?_alloc_lt _ _ t (by simp <;> omega), World.cell?_alloc_lt _ _ t htl]; exact ht) (by rw [World.frozen?_alloc_old _ _ t (by simp <;> omega), World.frozen?_alloc_old _ _ t (Nat.ne_of_lt htl)]; exact hf)
  have hB : Below t.block w (((w.alloc (.cells #[.pointer (some ⟨7, 135, none⟩), .pointer (some v), .int .u64 150] 192)).alloc (.cells #[.int .i64 n] 131)).setCell t (.int .i64 n)) := (((Below.refl _ _).alloc (by omega) _).alloc (by simp <;> omega) _).setCell (p := t) (Nat.le_refl _) _
  have HB := hide hB
  clear hB hv ht hf
  go_enter Tryd.func122, Tryd.ntmps122
  go_wp2
  refine wp_loop_rounds 1 ?_
  rw [rounds_succ]
  go_wp2
  go_ret
  exact ⟨rfl, HB.out⟩

set_option maxRecDepth 100000 in
set_option maxHeartbeats 4000000 in
theorem as_miss_MS (n : Int) (t v : Addr) (w : World) :
    Calls Tryd.prog 122 #[.iface 131 (.int .i64 n), .iface 133 (.pointer (some t)), .agg #[.pointer (some ⟨7, 133, none⟩), .pointer (some v), .int .u64 150], .iface 221 (.agg #[.pointer (some ⟨7, 129, none⟩)])] w fun e w' => e = .returned (.bool false) ∧ Below w.heap.size w w' := by
  have hT := @run_callFunc_extern Tryd.prog 142 _ ReflectliteType.typeOf Tryd.func142 (by kernel_rfl) (by kernel_rfl) (by kernel_rfl) (by kernel_rfl)
  have hA := @run_callFunc_extern Tryd.prog 213 _ (ReflectliteType.relation "AssignableTo" ReflectliteType.assignableTo) Tryd.func213 (by kernel_rfl) (by kernel_rfl) (by kernel_rfl) (by kernel_rfl)
  have mA := asA
  have tO := asTOM
  have aT := asATMS
  have n1 := asNoAsM
  have n2 := asNoU1M
  have n3 := asNoU2M
  go_enter Tryd.func122, Tryd.ntmps122
  go_wp2
  refine wp_loop_rounds 1 ?_
  rw [rounds_succ]
  go_wp2
  go_ret
  exact ⟨rfl, (Below.refl _ _).alloc (Nat.le_refl _) _⟩

set_option maxRecDepth 100000 in
set_option maxHeartbeats 4000000 in
theorem as_miss_MR (n : Int) (t v : Addr) (w : World) :
    Calls Tryd.prog 122 #[.iface 131 (.int .i64 n), .iface 134 (.pointer (some t)), .agg #[.pointer (some ⟨7, 134, none⟩), .pointer (some v), .int .u64 150], .iface 221 (.agg #[.pointer (some ⟨7, 130, none⟩)])] w fun e w' => e = .returned (.bool false) ∧ Below w.heap.size w w' := by
  have hT := @run_callFunc_extern Tryd.prog 142 _ ReflectliteType.typeOf Tryd.func142 (by kernel_rfl) (by kernel_rfl) (by kernel_rfl) (by kernel_rfl)
  have hA := @run_callFunc_extern Tryd.prog 213 _ (ReflectliteType.relation "AssignableTo" ReflectliteType.assignableTo) Tryd.func213 (by kernel_rfl) (by kernel_rfl) (by kernel_rfl) (by kernel_rfl)
  have mA := asA
  have tO := asTOM
  have aT := asATMR
  have n1 := asNoAsM
  have n2 := asNoU1M
  have n3 := asNoU2M
  go_enter Tryd.func122, Tryd.ntmps122
  go_wp2
  refine wp_loop_rounds 1 ?_
  rw [rounds_succ]
  go_wp2
  go_ret
  exact ⟨rfl, (Below.refl _ _).alloc (Nat.le_refl _) _⟩
end Go.Proofs.YtjmkbdghenjlaaaDoor
