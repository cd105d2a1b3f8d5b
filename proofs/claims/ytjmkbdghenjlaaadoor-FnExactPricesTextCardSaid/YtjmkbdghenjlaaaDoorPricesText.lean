/- PricesText: the model and the program give the same answer for every argument. -/
import Derived.Test.YtjmkbdghenjlaaaDoorPt
import Derived.Test.YtjmkbdghenjlaaaDoorG5
import Derived.Test.YtjmkbdghenjlaaaDoorMarkG
import Derived.Test.YtjmkbdghenjlaaaDoorGs
namespace Go.Proofs.YtjmkbdghenjlaaaDoor
open Go.RowKit

set_option maxRecDepth 100000 in
set_option maxHeartbeats 16000000 in
theorem lawPricesText_any (P : List Int) (hP : P.length = 29) (hPx : ∀ x ∈ P, i16ok x) (w : World) (hG : PowT w)  :
    Calls Tryd.prog 7 #[.agg (pw P).toArray] w fun e w' => e = .returned (.bool true) ∧ Below w.heap.size w w' := by
  have b0 : Below w.heap.size w (w.alloc (.cells (pw P).toArray 55)) := ((Below.refl _ _).alloc (by simp) _)
  have s0n : w.heap.size + 1 ≤ (w.alloc (.cells (pw P).toArray 55)).heap.size := by simp
  have rP : (w.alloc (.cells (pw P).toArray 55)).rangeAt (w.heap.size) 0 (pw P) := (rangeAt_newg (w := w) (cs := (pw P).toArray) (t := 55) (g := w.heap.size) (by simp) rfl)
  have HIP := hide (show (Tryd.prog.info? 55).map (·.size) = some ((pw P) : List Value).length from by rw [pw_length, hP]; kernel_rfl)
  go_enter Tryd.func7, Tryd.ntmps7
  go_wp2_with (refine wpList_load_mid rfl 55 (.tmp 1) rfl _ 0 rfl (pw P) _ rP Tryd.underlying55 rfl HIP.out ?_)
  generalize (w.alloc (.cells (pw P).toArray 55)) = W0 at *
  have hws := b0.size
  refine (toPrices_any P hP _).mono ?_
  rintro e w1 ⟨rfl, hb1⟩
  have hB1 := hb1
  have z1 := hb1.size
  have rP1 := rangeAt_over rP hB1 (by omega)
  go_wp2_with (refine wpList_load_mid rfl 55 (.tmp 1) rfl _ 0 rfl (pw P) _ rP1 Tryd.underlying55 rfl HIP.out ?_)
  clear rP1
  refine (specPricesText_any P hP hPx _ ).mono ?_
  rintro e w2 ⟨rfl, hb2⟩
  have hB2 := hB1.trans (hb2.mono hB1.size)
  have z2 := hb2.size
  clear hB1
  have rP2 := rangeAt_over rP hB2 (by omega)
  go_wp2_with (refine wpList_load_mid rfl 55 (.tmp 1) rfl _ 0 rfl (pw P) _ rP2 Tryd.underlying55 rfl HIP.out ?_)
  clear rP2
  refine (toPrices_any P hP _).mono ?_
  rintro e w3 ⟨rfl, hb3⟩
  have hB3 := hB2.trans (hb3.mono hB2.size)
  have z3 := hb3.size
  clear hB2
  have rP3 := rangeAt_over rP hB3 (by omega)
  go_wp2_with (refine wpList_load_mid rfl 55 (.tmp 1) rfl _ 0 rfl (pw P) _ rP3 Tryd.underlying55 rfl HIP.out ?_)
  clear rP3
  refine (implPricesText_any P hP hPx _ ((hG.below b0).below hB3)).mono ?_
  rintro e w4 ⟨rfl, hb4⟩
  have hB4 := hB3.trans (hb4.mono hB3.size)
  have z4 := hb4.size
  clear hB3
  go_wp2
  go_ret
  exact ⟨rfl, b0.trans (hB4.mono b0.size)⟩
end Go.Proofs.YtjmkbdghenjlaaaDoor
