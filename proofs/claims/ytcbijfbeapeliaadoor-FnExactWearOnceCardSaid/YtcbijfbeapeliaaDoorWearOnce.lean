/- WearOnce: the model and the program give the same answer for every argument. -/
import Derived.Test.YtcbijfbeapeliaaDoorWo
import Derived.Test.YtcbijfbeapeliaaDoorG5
import Derived.Test.YtcbijfbeapeliaaDoorMarkG
import Derived.Test.YtcbijfbeapeliaaDoorGs
namespace Go.Proofs.YtcbijfbeapeliaaDoor
open Go.RowKit

set_option maxRecDepth 100000 in
set_option maxHeartbeats 16000000 in
theorem lawWearOnce_any (Rb : List Nat) (hRb : rok Rb) (x : Int) (hx : (Lit.int .i64 x).wf = true) (w : World) (hG : ErrT w)  :
    Calls Tryd.prog 5 #[.agg (rwc Rb).toArray, .int .i64 x] w fun e w' => e = .returned (.bool true) ∧ Below w.heap.size w w' := by
  have b0 : Below w.heap.size w (w.alloc (.cells (rwc Rb).toArray 23)) := ((Below.refl _ _).alloc (by simp) _)
  have s0n : w.heap.size + 1 ≤ (w.alloc (.cells (rwc Rb).toArray 23)).heap.size := by simp
  have rR : (w.alloc (.cells (rwc Rb).toArray 23)).rangeAt (w.heap.size) 0 (rwc Rb) := (rangeAt_newg (w := w) (cs := (rwc Rb).toArray) (t := 23) (g := w.heap.size) (by simp) rfl)
  have HIR := hide (show (Tryd.prog.info? 23).map (·.size) = some ((rwc Rb) : List Value).length from by rw [rwc_length, hRb.1]; kernel_rfl)
  go_enter Tryd.func5, Tryd.ntmps5
  go_wp2_with (refine wpList_load_mid rfl 23 (.tmp 2) rfl _ 0 rfl (rwc Rb) _ rR Tryd.underlying23 rfl HIR.out ?_)
  generalize (w.alloc (.cells (rwc Rb).toArray 23)) = W0 at *
  have hws := b0.size
  refine (toRubbing_any Rb hRb _).mono ?_
  rintro e w1 ⟨rfl, hb1⟩
  have hB1 := hb1
  have z1 := hb1.size
  have rR1 := rangeAt_over rR hB1 (by omega)
  go_wp2_with (refine wpList_load_mid rfl 23 (.tmp 2) rfl _ 0 rfl (rwc Rb) _ rR1 Tryd.underlying23 rfl HIR.out ?_)
  clear rR1
  refine (specWearOnce_any Rb hRb x _ ).mono ?_
  rintro e w2 ⟨rfl, hb2⟩
  have hB2 := hB1.trans (hb2.mono hB1.size)
  have z2 := hb2.size
  clear hB1
  obtain ⟨w3, hW3, rw_, b3, sw_, t30⟩ := stored_rub w2 (weR Rb x) ((weR_ok Rb x).1)
  have HW3 := hide hW3
  clear hW3
  have hB3 := hB2.trans (b3.mono hB2.size)
  have z3 := b3.size
  clear hB2
  have rR3 := rangeAt_over rR hB3 (by omega)
  go_wp2_with (first | (refine wpList_store_mid rfl 24 (.tmp 5) (.tmp 14) rfl w2.heap.size 0 _ rfl rfl t30 (rub_info ((weR_ok Rb x).1)) (rwc_one _) ?_; rw [← HW3.out]) | (refine wpList_load_mid rfl 23 (.tmp 2) rfl _ 0 rfl (rwc Rb) _ rR3 Tryd.underlying23 rfl HIR.out ?_))
  clear rR3
  refine (toRubbing_any Rb hRb _).mono ?_
  rintro e w4 ⟨rfl, hb4⟩
  have hB4 := hB3.trans (hb4.mono hB3.size)
  have z4 := hb4.size
  have rw_4 := rangeAt_over rw_ hb4 (by omega)
  clear rw_ hB3
  have rR4 := rangeAt_over rR hB4 (by omega)
  go_wp2_with (refine wpList_load_mid rfl 23 (.tmp 2) rfl _ 0 rfl (rwc Rb) _ rR4 Tryd.underlying23 rfl HIR.out ?_)
  clear rR4
  refine (implWearOnce_any Rb hRb x _ ((hG.below b0).below hB4)).mono ?_
  rintro e w5 ⟨rfl, hb5⟩
  have hB5 := hB4.trans (hb5.mono hB4.size)
  have z5 := hb5.size
  have rw_5 := rangeAt_over rw_4 hb5 (by omega)
  clear rw_4 hB4
  obtain ⟨w6, hW6, rg_, b6, sg_, t60⟩ := stored_rub w5 (weR Rb x) ((weR_ok Rb x).1)
  have HW6 := hide hW6
  clear hW6
  have hB6 := hB5.trans (b6.mono hB5.size)
  have z6 := b6.size
  have rw_6 := rangeAt_over rw_5 b6 (by omega)
  clear rw_5 hB5
  have rR6 := rangeAt_over rR hB6 (by omega)
  go_wp2_with (first | (refine wpList_store_mid rfl 24 (.tmp 7) (.tmp 21) rfl w5.heap.size 0 _ rfl rfl t60 (rub_info ((weR_ok Rb x).1)) (rwc_one _) ?_; rw [← HW6.out]) | (refine wpList_load_mid rfl 23 (.tmp 2) rfl _ 0 rfl (rwc Rb) _ rR6 Tryd.underlying23 rfl HIR.out ?_) | (refine wpList_load_mid rfl 24 (.tmp 7) rfl _ 0 rfl (rwc (weR Rb x)) _ rg_ Tryd.underlying24 rfl (rub_info' ((weR_ok Rb x).1)) ?_) | (refine wpList_load_mid rfl 24 (.tmp 5) rfl _ 0 rfl (rwc (weR Rb x)) _ rw_6 Tryd.underlying24 rfl (rub_info' ((weR_ok Rb x).1)) ?_))
  clear rR6
  refine (eqRubbing_same _ ((weR_ok Rb x).1) _).mono ?_
  rintro e w7 ⟨rfl, hb7⟩
  have hB7 := hB6.trans (hb7.mono hB6.size)
  have z7 := hb7.size
  have rw_7 := rangeAt_over rw_6 hb7 (by omega)
  have rg_7 := rangeAt_over rg_ hb7 (by omega)
  clear rw_6 rg_ hB6
  go_wp2
  go_ret
  exact ⟨rfl, b0.trans (hB7.mono b0.size)⟩
end Go.Proofs.YtcbijfbeapeliaaDoor
