/- CountDark: the model and the program give the same answer for every argument. -/
import Derived.Test.YtcbijfbeapeliaaRbB
import Derived.Test.YtcbijfbeapeliaaG5
import Derived.Test.YtcbijfbeapeliaaMarkG
import Derived.Test.YtcbijfbeapeliaaGs
namespace Go.Proofs.Ytcbijfbeapeliaa
open Go.RowKit

set_option maxRecDepth 100000 in
set_option maxHeartbeats 16000000 in
theorem lawCountDark_any (R : List Nat) (hR : rok R) (w : World)  :
    Calls Try.prog 3 #[.agg (rwc R).toArray] w fun e w' => e = .returned (.bool true) ∧ Below w.heap.size w w' := by
  have b0 : Below w.heap.size w (w.alloc (.cells (rwc R).toArray 23)) := ((Below.refl _ _).alloc (by simp) _)
  have s0n : w.heap.size + 1 ≤ (w.alloc (.cells (rwc R).toArray 23)).heap.size := by simp
  have rR : (w.alloc (.cells (rwc R).toArray 23)).rangeAt (w.heap.size) 0 (rwc R) := (rangeAt_newg (w := w) (cs := (rwc R).toArray) (t := 23) (g := w.heap.size) (by simp) rfl)
  have HIR := hide (show (Try.prog.info? 23).map (·.size) = some ((rwc R) : List Value).length from by rw [rwc_length, hR.1]; kernel_rfl)
  go_enter Try.func3, Try.ntmps3
  go_wp2_with (refine wpList_load_mid rfl 23 (.tmp 1) rfl _ 0 rfl (rwc R) _ rR Try.underlying23 rfl HIR.out ?_)
  generalize (w.alloc (.cells (rwc R).toArray 23)) = W0 at *
  have hws := b0.size
  refine (toRubbing_any R hR _).mono ?_
  rintro e w1 ⟨rfl, hb1⟩
  have hB1 := hb1
  have z1 := hb1.size
  have rR1 := rangeAt_over rR hB1 (by omega)
  go_wp2_with (refine wpList_load_mid rfl 23 (.tmp 1) rfl _ 0 rfl (rwc R) _ rR1 Try.underlying23 rfl HIR.out ?_)
  clear rR1
  refine (specCountDark_any R hR _ ).mono ?_
  rintro e w2 ⟨rfl, hb2⟩
  have hB2 := hB1.trans (hb2.mono hB1.size)
  have z2 := hb2.size
  clear hB1
  have rR2 := rangeAt_over rR hB2 (by omega)
  go_wp2_with (refine wpList_load_mid rfl 23 (.tmp 1) rfl _ 0 rfl (rwc R) _ rR2 Try.underlying23 rfl HIR.out ?_)
  clear rR2
  refine (toRubbing_any R hR _).mono ?_
  rintro e w3 ⟨rfl, hb3⟩
  have hB3 := hB2.trans (hb3.mono hB2.size)
  have z3 := hb3.size
  clear hB2
  have rR3 := rangeAt_over rR hB3 (by omega)
  go_wp2_with (refine wpList_load_mid rfl 23 (.tmp 1) rfl _ 0 rfl (rwc R) _ rR3 Try.underlying23 rfl HIR.out ?_)
  clear rR3
  refine (implCountDark_any R hR _ ).mono ?_
  rintro e w4 ⟨rfl, hb4⟩
  have hB4 := hB3.trans (hb4.mono hB3.size)
  have z4 := hb4.size
  clear hB3
  go_wp2
  go_ret
  exact ⟨rfl, b0.trans (hB4.mono b0.size)⟩
end Go.Proofs.Ytcbijfbeapeliaa
