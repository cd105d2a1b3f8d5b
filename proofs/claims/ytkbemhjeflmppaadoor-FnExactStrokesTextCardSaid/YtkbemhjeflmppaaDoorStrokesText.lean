/- StrokesText: the model and the program give the same answer for every argument. -/
import Derived.Test.YtkbemhjeflmppaaDoorChS
import Derived.Test.YtkbemhjeflmppaaDoorG5
import Derived.Test.YtkbemhjeflmppaaDoorMarkG
import Derived.Test.YtkbemhjeflmppaaDoorScript
namespace Go.Proofs.YtkbemhjeflmppaaDoor
open Go.RowKit

set_option maxRecDepth 100000 in
set_option maxHeartbeats 16000000 in
theorem lawStrokesText_any (S : List Int) (hS : S.length = 26) (hSx : ∀ x ∈ S, i8ok x) (w : World)  :
    Calls Tryd.prog 10 #[.agg (wc S).toArray] w fun e w' => e = .returned (.bool true) ∧ Below w.heap.size w w' := by
  have b0 : Below w.heap.size w (w.alloc (.cells (wc S).toArray 23)) := ((Below.refl _ _).alloc (by simp) _)
  have s0 : w.heap.size + 1 ≤ (w.alloc (.cells (wc S).toArray 23)).heap.size := by simp
  have rS : (w.alloc (.cells (wc S).toArray 23)).rangeAt (w.heap.size) 0 (wc S) := (rangeAt_newg (w := w) (cs := (wc S).toArray) (t := 23) (g := w.heap.size) (by simp) rfl)
  have HIS := hide (show (Tryd.prog.info? 23).map (·.size) = some (wc S).length from by rw [wc_length, hS]; kernel_rfl)
  go_enter Tryd.func10, Tryd.ntmps10
  go_wp2_with (refine wpList_load_mid rfl 23 (.tmp 1) rfl _ 0 rfl (wc S) _ rS Tryd.underlying23 rfl HIS.out ?_)
  generalize (w.alloc (.cells (wc S).toArray 23)) = W0 at *
  have hws := b0.size
  refine (toStrokes_any S hS _).mono ?_
  rintro e w1 ⟨rfl, hb1⟩
  have hB1 := hb1
  have z1 := hb1.size
  have rS1 := rangeAt_over rS hB1 (by omega)
  go_wp2_with (refine wpList_load_mid rfl 23 (.tmp 1) rfl _ 0 rfl (wc S) _ rS1 Tryd.underlying23 rfl HIS.out ?_)
  clear rS1
  refine (specStrokesText_any S hS hSx _ ).mono ?_
  rintro e w2 ⟨rfl, hb2⟩
  have hB2 := hB1.trans (hb2.mono hB1.size)
  have z2 := hb2.size
  clear hB1
  have rS2 := rangeAt_over rS hB2 (by omega)
  go_wp2_with (refine wpList_load_mid rfl 23 (.tmp 1) rfl _ 0 rfl (wc S) _ rS2 Tryd.underlying23 rfl HIS.out ?_)
  clear rS2
  refine (toStrokes_any S hS _).mono ?_
  rintro e w3 ⟨rfl, hb3⟩
  have hB3 := hB2.trans (hb3.mono hB2.size)
  have z3 := hb3.size
  clear hB2
  have rS3 := rangeAt_over rS hB3 (by omega)
  go_wp2_with (refine wpList_load_mid rfl 23 (.tmp 1) rfl _ 0 rfl (wc S) _ rS3 Tryd.underlying23 rfl HIS.out ?_)
  clear rS3
  refine (implStrokesText_any S hS hSx _ ).mono ?_
  rintro e w4 ⟨rfl, hb4⟩
  have hB4 := hB3.trans (hb4.mono hB3.size)
  have z4 := hb4.size
  clear hB3
  go_wp2
  go_ret
  exact ⟨rfl, b0.trans (hB4.mono b0.size)⟩
end Go.Proofs.YtkbemhjeflmppaaDoor
