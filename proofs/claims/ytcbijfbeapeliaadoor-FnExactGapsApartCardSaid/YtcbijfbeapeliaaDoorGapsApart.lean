/- GapsApart: the model and the program give the same answer for every argument. -/
import Derived.Test.YtcbijfbeapeliaaDoorGlC
import Derived.Test.YtcbijfbeapeliaaDoorG5
import Derived.Test.YtcbijfbeapeliaaDoorMarkG
import Derived.Test.YtcbijfbeapeliaaDoorGs
import Derived.Test.YtcbijfbeapeliaaDoorG2
namespace Go.Proofs.YtcbijfbeapeliaaDoor
open Go.RowKit

set_option maxRecDepth 100000 in
set_option maxHeartbeats 16000000 in
theorem lawGapsApart_any (B : Option Addr) (bs : List Int) (cb : Nat) (hbn : bs.length ≤ maxLen) (E : Option Addr) (es : List Int) (ce : Nat) (hen : es.length ≤ maxLen) (w : World) (hG : ErrT w) (hB : IntsAt w w.heap.size B bs) (hE : IntsAt w w.heap.size E es) :
    Calls Tryd.prog 9 #[.slice B bs.length cb, .slice E es.length ce] w fun e w' => e = .returned (.bool true) ∧ Below w.heap.size w w' := by
  have hmints := hbn
  unfold maxLen at hmints
  by_cases htints : 1048576 < bs.length
  · have hd : decide ((1048576 : Int) < bs.length) = true := by simp; omega
    have hd' : decide (1048576 < bs.length) = true := by simp; omega
    go_enter Tryd.func9, Tryd.ntmps9
    go_wp2
    go_ret
    exact ⟨rfl, Below.refl _ _⟩
  have hd0ints : decide ((1048576 : Int) < bs.length) = false := by simp; omega
  have hd1ints : decide (1048576 < bs.length) = false := by simp; omega
  have hnints : bs.length ≤ 1048576 := by omega
  clear htints hmints
  have hmints2 := hen
  unfold maxLen at hmints2
  by_cases htints2 : 1048576 < es.length
  · have hd : decide ((1048576 : Int) < es.length) = true := by simp; omega
    have hd' : decide (1048576 < es.length) = true := by simp; omega
    go_enter Tryd.func9, Tryd.ntmps9
    go_wp2
    go_ret
    exact ⟨rfl, Below.refl _ _⟩
  have hd0ints2 : decide ((1048576 : Int) < es.length) = false := by simp; omega
  have hd1ints2 : decide (1048576 < es.length) = false := by simp; omega
  have hnints2 : es.length ≤ 1048576 := by omega
  clear htints2 hmints2
  have hBW := hB
  have hEW := hE
  go_enter Tryd.func9, Tryd.ntmps9
  go_wp2_with fail
  refine (toInt64S_any B bs cb _ hBW hnints).mono ?_
  rintro e w1 ⟨Q1, rfl, hQ1, hb1⟩
  have hB1 := hb1
  have z1 := hb1.size
  go_wp2_with fail
  refine (toInt64S_any E es ce _ (hEW.go hB1) hnints2).mono ?_
  rintro e w2 ⟨Q2, rfl, hQ2, hb2⟩
  have hB2 := hB1.trans (hb2.mono hB1.size)
  have z2 := hb2.size
  have c_aA_2 := hQ1.go hb2
  clear hQ1 hB1
  go_wp2_with fail
  refine (specGapsApart_any Q1 bs _ hbn Q2 es _ hen _ c_aA_2.at_ hQ2.at_).mono ?_
  rintro e w3 ⟨rfl, hb3⟩
  have hB3 := hB2.trans (hb3.mono hB2.size)
  have z3 := hb3.size
  clear hB2
  clear c_aA_2 hQ2
  go_wp2_with fail
  refine (toInt64S_any B bs cb _ (hBW.go hB3) hnints).mono ?_
  rintro e w4 ⟨Q3, rfl, hQ3, hb4⟩
  have hB4 := hB3.trans (hb4.mono hB3.size)
  have z4 := hb4.size
  clear hB3
  have bd_x0 := blkI_bd hQ3
  go_wp2_with fail
  refine (toInt64S_any E es ce _ (hEW.go hB4) hnints2).mono ?_
  rintro e w5 ⟨Q4, rfl, hQ4, hb5⟩
  have hB5 := hB4.trans (hb5.mono hB4.size)
  have z5 := hb5.size
  have d_x0_5 := hQ3.go hb5
  clear hQ3 hB4
  have bd_x1 := blkI_bd hQ4
  go_wp2_with fail
  refine (implGapsApart_any Q3 bs _ hbn Q4 es _ hen _ (hG.below hB5) d_x0_5.at_ hQ4.at_).mono ?_
  rintro e w6 ⟨rfl, hb6⟩
  have hB6 := hB5.trans (hb6.mono hB5.size)
  have z6 := hb6.size
  have d_x0_6 := d_x0_5.go hb6
  have d_x1_6 := hQ4.go hb6
  clear d_x0_5 hQ4 hB5
  go_wp2_with fail
  refine (toInt64S_any B bs cb _ (hBW.go hB6) hnints).mono ?_
  rintro e w7 ⟨Q5, rfl, hQ5, hb7⟩
  have hB7 := hB6.trans (hb7.mono hB6.size)
  have z7 := hb7.size
  have d_x0_7 := d_x0_6.go hb7
  have d_x1_7 := d_x1_6.go hb7
  clear d_x0_6 d_x1_6 hB6
  go_wp2_with fail
  refine (eqInt64S_same Q3 Q5 bs _ _ _ hbn d_x0_7.at_ hQ5.at_).mono ?_
  rintro e w8 ⟨rfl, hb8⟩
  have hB8 := hB7.trans (hb8.mono hB7.size)
  have z8 := hb8.size
  have d_x0_8 := d_x0_7.go hb8
  have d_x1_8 := d_x1_7.go hb8
  clear d_x0_7 d_x1_7 hB7
  clear hQ5
  go_wp2_with fail
  refine (toInt64S_any E es ce _ (hEW.go hB8) hnints2).mono ?_
  rintro e w9 ⟨Q6, rfl, hQ6, hb9⟩
  have hB9 := hB8.trans (hb9.mono hB8.size)
  have z9 := hb9.size
  have d_x0_9 := d_x0_8.go hb9
  have d_x1_9 := d_x1_8.go hb9
  clear d_x0_8 d_x1_8 hB8
  go_wp2_with fail
  refine (eqInt64S_same Q4 Q6 es _ _ _ hen d_x1_9.at_ hQ6.at_).mono ?_
  rintro e w10 ⟨rfl, hb10⟩
  have hB10 := hB9.trans (hb10.mono hB9.size)
  have z10 := hb10.size
  have d_x0_10 := d_x0_9.go hb10
  have d_x1_10 := d_x1_9.go hb10
  clear d_x0_9 d_x1_9 hB9
  clear hQ6
  go_wp2
  go_ret
  exact ⟨rfl, hB10⟩
end Go.Proofs.YtcbijfbeapeliaaDoor
