/- RubbingText: the model and the program give the same answer for every argument. -/
import Derived.Test.YtjmkbdghenjlaaaRtI
import Derived.Test.YtjmkbdghenjlaaaG5
import Derived.Test.YtjmkbdghenjlaaaMarkG
import Derived.Test.YtjmkbdghenjlaaaGs
namespace Go.Proofs.Ytjmkbdghenjlaaa
open Go.RowKit

set_option maxRecDepth 100000 in
set_option maxHeartbeats 16000000 in
theorem lawRubbingText_any (Rb : List Nat) (hRb : rok Rb) (w : World)  :
    Calls Try.prog 4 #[.agg (rwc Rb).toArray] w fun e w' => e = .returned (.bool true) ∧ Below w.heap.size w w' := by
  have b0 : Below w.heap.size w (w.alloc (.cells (rwc Rb).toArray 23)) := ((Below.refl _ _).alloc (by simp) _)
  have s0n : w.heap.size + 1 ≤ (w.alloc (.cells (rwc Rb).toArray 23)).heap.size := by simp
  have rR : (w.alloc (.cells (rwc Rb).toArray 23)).rangeAt (w.heap.size) 0 (rwc Rb) := (rangeAt_newg (w := w) (cs := (rwc Rb).toArray) (t := 23) (g := w.heap.size) (by simp) rfl)
  have HIR := hide (show (Try.prog.info? 23).map (·.size) = some ((rwc Rb) : List Value).length from by rw [rwc_length, hRb.1]; kernel_rfl)
  go_enter Try.func4, Try.ntmps4
  go_wp2_with (refine wpList_load_mid rfl 23 (.tmp 1) rfl _ 0 rfl (rwc Rb) _ rR Try.underlying23 rfl HIR.out ?_)
  generalize (w.alloc (.cells (rwc Rb).toArray 23)) = W0 at *
  have hws := b0.size
  refine (toRubbing_any Rb hRb _).mono ?_
  rintro e w1 ⟨rfl, hb1⟩
  have hB1 := hb1
  have z1 := hb1.size
  have rR1 := rangeAt_over rR hB1 (by omega)
  go_wp2_with (refine wpList_load_mid rfl 23 (.tmp 1) rfl _ 0 rfl (rwc Rb) _ rR1 Try.underlying23 rfl HIR.out ?_)
  clear rR1
  refine (specRubbingText_any Rb hRb _ ).mono ?_
  rintro e w2 ⟨rfl, hb2⟩
  have hB2 := hB1.trans (hb2.mono hB1.size)
  have z2 := hb2.size
  clear hB1
  have rR2 := rangeAt_over rR hB2 (by omega)
  go_wp2_with (refine wpList_load_mid rfl 23 (.tmp 1) rfl _ 0 rfl (rwc Rb) _ rR2 Try.underlying23 rfl HIR.out ?_)
  clear rR2
  refine (toRubbing_any Rb hRb _).mono ?_
  rintro e w3 ⟨rfl, hb3⟩
  have hB3 := hB2.trans (hb3.mono hB2.size)
  have z3 := hb3.size
  clear hB2
  have rR3 := rangeAt_over rR hB3 (by omega)
  go_wp2_with (refine wpList_load_mid rfl 23 (.tmp 1) rfl _ 0 rfl (rwc Rb) _ rR3 Try.underlying23 rfl HIR.out ?_)
  clear rR3
  refine (implRubbingText_any Rb hRb _ ).mono ?_
  rintro e w4 ⟨rfl, hb4⟩
  have hB4 := hB3.trans (hb4.mono hB3.size)
  have z4 := hb4.size
  clear hB3
  go_wp2
  go_ret
  exact ⟨rfl, b0.trans (hB4.mono b0.size)⟩
end Go.Proofs.Ytjmkbdghenjlaaa
