/- FirstShort: the model and the program give the same answer for every argument. -/
import Derived.Test.YtjgcadohjccfaaaBk
import Derived.Test.YtjgcadohjccfaaaG5
import Derived.Test.YtjgcadohjccfaaaMarkG
import Derived.Test.YtjgcadohjccfaaaScript
import Derived.Test.YtjgcadohjccfaaaG2
namespace Go.Proofs.Ytjgcadohjccfaaa
open Go.RowKit

set_option maxRecDepth 100000 in
set_option maxHeartbeats 16000000 in
theorem lawFirstShort_any (x : Int) (hx : (Lit.int .i64 x).wf = true) (B : Option Addr) (bs : List Int) (cb : Nat) (hbn : bs.length ≤ maxLen) (w : World) (hB : IntsAt w w.heap.size B bs) :
    Calls Try.prog 13 #[.int .i64 x, .slice B bs.length cb] w fun e w' => e = .returned (.bool true) ∧ Below w.heap.size w w' := by
  have hmints := hbn
  unfold maxLen at hmints
  by_cases htints : 1048576 < bs.length
  · have hd : decide ((1048576 : Int) < bs.length) = true := by simp; omega
    have hd' : decide (1048576 < bs.length) = true := by simp; omega
    go_enter Try.func13, Try.ntmps13
    go_wp2
    go_ret
    exact ⟨rfl, Below.refl _ _⟩
  have hd0ints : decide ((1048576 : Int) < bs.length) = false := by simp; omega
  have hd1ints : decide (1048576 < bs.length) = false := by simp; omega
  have hnints : bs.length ≤ 1048576 := by omega
  clear htints hmints
  have hBW := hB
  go_enter Try.func13, Try.ntmps13
  go_wp2_with fail
  refine (toInt64S_any B bs cb _ hBW hnints).mono ?_
  rintro e w1 ⟨Q1, rfl, hQ1, hb1⟩
  have hB1 := hb1
  have z1 := hb1.size
  go_wp2_with fail
  refine (specFirstShort_any x hx Q1 bs _ hbn _ hQ1.at_).mono ?_
  rintro e w2 ⟨rfl, hb2⟩
  have hB2 := hB1.trans (hb2.mono hB1.size)
  have z2 := hb2.size
  clear hB1
  clear hQ1
  go_wp2_with fail
  refine (toInt64S_any B bs cb _ (hBW.go hB2) hnints).mono ?_
  rintro e w3 ⟨Q2, rfl, hQ2, hb3⟩
  have hB3 := hB2.trans (hb3.mono hB2.size)
  have z3 := hb3.size
  clear hB2
  have bd_x1 := blkI_bd hQ2
  go_wp2_with fail
  refine (implFirstShort_any x hx Q2 bs _ hbn _ hQ2.at_).mono ?_
  rintro e w4 ⟨rfl, hb4⟩
  have hB4 := hB3.trans (hb4.mono hB3.size)
  have z4 := hb4.size
  have d_x1_4 := hQ2.go hb4
  clear hQ2 hB3
  go_wp2_with fail
  refine (toInt64S_any B bs cb _ (hBW.go hB4) hnints).mono ?_
  rintro e w5 ⟨Q3, rfl, hQ3, hb5⟩
  have hB5 := hB4.trans (hb5.mono hB4.size)
  have z5 := hb5.size
  have d_x1_5 := d_x1_4.go hb5
  clear d_x1_4 hB4
  go_wp2_with fail
  refine (eqInt64S_same Q2 Q3 bs _ _ _ hbn d_x1_5.at_ hQ3.at_).mono ?_
  rintro e w6 ⟨rfl, hb6⟩
  have hB6 := hB5.trans (hb6.mono hB5.size)
  have z6 := hb6.size
  have d_x1_6 := d_x1_5.go hb6
  clear d_x1_5 hB5
  clear hQ3
  go_wp2
  go_ret
  exact ⟨rfl, hB6⟩
end Go.Proofs.Ytjgcadohjccfaaa
