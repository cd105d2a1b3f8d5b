/- ValidSheet: the model and the program give the same answer for every argument. -/
import Derived.Test.YtjgcadohjccfaaaGdA
import Derived.Test.YtjgcadohjccfaaaG5
import Derived.Test.YtjgcadohjccfaaaMarkG
import Derived.Test.YtjgcadohjccfaaaScript
namespace Go.Proofs.Ytjgcadohjccfaaa
open Go.RowKit

set_option maxRecDepth 100000 in
set_option maxHeartbeats 16000000 in
theorem lawValidSheet_any (ch : Int) (hch : -32768 ≤ ch ∧ ch ≤ 32767) (cp : Int) (hcp : i8ok cp) (w : World)  :
    Calls Try.prog 3 #[.agg #[.int .i16 ch, .int .i8 cp]] w fun e w' => e = .returned (.bool true) ∧ Below w.heap.size w w' := by
  have b0 : Below w.heap.size w (w.alloc (.cells #[.int .i16 ch, .int .i8 cp] 25)) := ((Below.refl _ _).alloc (by simp) _)
  have s0n : w.heap.size + 1 ≤ (w.alloc (.cells #[.int .i16 ch, .int .i8 cp] 25)).heap.size := by simp
  have rC : (w.alloc (.cells #[.int .i16 ch, .int .i8 cp] 25)).rangeAt (w.heap.size) 0 [.int .i16 ch, .int .i8 cp] := (rangeAt_newg (w := w) (cs := #[.int .i16 ch, .int .i8 cp]) (t := 25) (g := w.heap.size) (by simp) rfl)
  have HIC := hide (show (Try.prog.info? 25).map (·.size) = some ([.int .i16 ch, .int .i8 cp] : List Value).length from by kernel_rfl)
  go_enter Try.func3, Try.ntmps3
  have cA0 := rangeAt_cell (k := 0) rC rfl
  have cB0 := rangeAt_cell (k := 1) rC rfl
  go_wp2_with fail
  generalize (w.alloc (.cells #[.int .i16 ch, .int .i8 cp] 25)) = W0 at *
  have hws := b0.size
  clear cA0 cB0
  refine (toSheet_any ch cp _).mono ?_
  rintro e w1 ⟨rfl, hb1⟩
  have hB1 := hb1
  have z1 := hb1.size
  have rC1 := rangeAt_over rC hB1 (by omega)
  have cA1 := rangeAt_cell (k := 0) rC1 rfl
  have cB1 := rangeAt_cell (k := 1) rC1 rfl
  go_wp2_with fail
  clear rC1 cA1 cB1
  refine (specValidSheet_any ch hch cp hcp _ ).mono ?_
  rintro e w2 ⟨rfl, hb2⟩
  have hB2 := hB1.trans (hb2.mono hB1.size)
  have z2 := hb2.size
  clear hB1
  have rC2 := rangeAt_over rC hB2 (by omega)
  have cA2 := rangeAt_cell (k := 0) rC2 rfl
  have cB2 := rangeAt_cell (k := 1) rC2 rfl
  go_wp2_with fail
  clear rC2 cA2 cB2
  refine (toSheet_any ch cp _).mono ?_
  rintro e w3 ⟨rfl, hb3⟩
  have hB3 := hB2.trans (hb3.mono hB2.size)
  have z3 := hb3.size
  clear hB2
  have rC3 := rangeAt_over rC hB3 (by omega)
  have cA3 := rangeAt_cell (k := 0) rC3 rfl
  have cB3 := rangeAt_cell (k := 1) rC3 rfl
  go_wp2_with fail
  clear rC3 cA3 cB3
  refine (implValidSheet_any ch hch cp hcp _ ).mono ?_
  rintro e w4 ⟨rfl, hb4⟩
  have hB4 := hB3.trans (hb4.mono hB3.size)
  have z4 := hb4.size
  clear hB3
  go_wp2
  go_ret
  exact ⟨rfl, b0.trans (hB4.mono b0.size)⟩
end Go.Proofs.Ytjgcadohjccfaaa
