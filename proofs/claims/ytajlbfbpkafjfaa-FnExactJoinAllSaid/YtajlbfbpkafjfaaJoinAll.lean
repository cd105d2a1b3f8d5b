/- JoinAll: the model and the program give the same answer for every argument. -/
import Derived.Test.YtajlbfbpkafjfaaIvJa
import Derived.Test.YtajlbfbpkafjfaaG5
import Derived.Test.YtajlbfbpkafjfaaG2
namespace Go.Proofs.Ytajlbfbpkafjfaa
open Go.RowKit

set_option maxRecDepth 100000 in
set_option maxHeartbeats 16000000 in
theorem lawJoinAll_any (P : Option Addr) (pz : List Pcx) (cp : Nat) (hpn : pz.length ≤ maxLen) (hpx : ∀ x ∈ pz, pxok x) (B : Option Addr) (bs : List Int) (cb : Nat) (hbn : bs.length ≤ maxLen) (w : World) (hPc : PcAt w w.heap.size P pz) (hB : IntsAt w w.heap.size B bs) :
    Calls Try.prog 16 #[.slice P pz.length cp, .slice B bs.length cb] w fun e w' => e = .returned (.bool true) ∧ Below w.heap.size w w' := by
  have hmints := hbn
  unfold maxLen at hmints
  by_cases htints : 1048576 < bs.length
  · have hd : decide ((1048576 : Int) < bs.length) = true := by simp; omega
    have hd' : decide (1048576 < bs.length) = true := by simp; omega
    go_enter Try.func16, Try.ntmps16
    go_wp2
    go_ret
    exact ⟨rfl, Below.refl _ _⟩
  have hd0ints : decide ((1048576 : Int) < bs.length) = false := by simp; omega
  have hd1ints : decide (1048576 < bs.length) = false := by simp; omega
  have hnints : bs.length ≤ 1048576 := by omega
  clear htints hmints
  have hPW := hPc
  have hBW := hB
  go_enter Try.func16, Try.ntmps16
  go_wp2_with fail
  refine (szPieceS_any P pz cp _ hpn (fun x h => (hpx x h).1) hPW).mono ?_
  rintro e w1 ⟨vl, rfl, hvl, hb1⟩
  have hB1 := hb1
  have z1 := hb1.size
  by_cases hneg : vl < 0
  · have hdl : decide (vl < 0) = true := by simpa using hneg
    go_wp2
    go_ret
    exact ⟨rfl, hB1⟩
  have hdl : decide (vl < 0) = false := by simpa using hneg
  obtain ⟨hnP, _⟩ := hvl hneg
  clear hneg hvl
  go_wp2_with fail
  refine (toPieceS_any P pz cp _ (hPW.go hB1) hnP).mono ?_
  rintro e w2 ⟨Q1, rfl, hQ1, hb2⟩
  have hB2 := hB1.trans (hb2.mono hB1.size)
  have z2 := hb2.size
  clear hB1
  go_wp2_with fail
  refine (toInt64S_any B bs cb _ (hBW.go hB2) hnints).mono ?_
  rintro e w3 ⟨Q2, rfl, hQ2, hb3⟩
  have hB3 := hB2.trans (hb3.mono hB2.size)
  have z3 := hb3.size
  have c_aList_3 := hQ1.go hb3
  clear hQ1 hB2
  go_wp2_with fail
  refine (specJoinAll_any Q1 pz _ hpn hpx Q2 bs _ hnints (Nat.le_refl _) _ c_aList_3.at_ hQ2.at_).mono ?_
  rintro e w4 ⟨rfl, hb4⟩
  have hB4 := hB3.trans (hb4.mono hB3.size)
  have z4 := hb4.size
  clear hB3
  clear c_aList_3 hQ2
  go_wp2_with fail
  refine (toPieceS_any P pz cp _ (hPW.go hB4) hnP).mono ?_
  rintro e w5 ⟨Q3, rfl, hQ3, hb5⟩
  have hB5 := hB4.trans (hb5.mono hB4.size)
  have z5 := hb5.size
  clear hB4
  have bd_x0 := RowsIn.blk hQ3
  go_wp2_with fail
  refine (toInt64S_any B bs cb _ (hBW.go hB5) hnints).mono ?_
  rintro e w6 ⟨Q4, rfl, hQ4, hb6⟩
  have hB6 := hB5.trans (hb6.mono hB5.size)
  have z6 := hb6.size
  have d_x0_6 := hQ3.go hb6
  clear hQ3 hB5
  have bd_x1 := blkI_bd hQ4
  go_wp2_with fail
  refine (implJoinAll_any Q3 pz _ hpn hpx Q4 bs _ hnints (Nat.le_refl _) _ d_x0_6.at_ hQ4.at_).mono ?_
  rintro e w7 ⟨rfl, hb7⟩
  have hB7 := hB6.trans (hb7.mono hB6.size)
  have z7 := hb7.size
  have d_x0_7 := d_x0_6.go hb7
  have d_x1_7 := hQ4.go hb7
  clear d_x0_6 hQ4 hB6
  go_wp2_with fail
  refine (toPieceS_any P pz cp _ (hPW.go hB7) hnP).mono ?_
  rintro e w8 ⟨Q5, rfl, hQ5, hb8⟩
  have hB8 := hB7.trans (hb8.mono hB7.size)
  have z8 := hb8.size
  have d_x0_8 := d_x0_7.go hb8
  have d_x1_8 := d_x1_7.go hb8
  clear d_x0_7 d_x1_7 hB7
  go_wp2_with fail
  refine (eqPieceS_same Q3 Q5 pz _ _ _ hpn d_x0_8.at_ hQ5.at_).mono ?_
  rintro e w9 ⟨rfl, hb9⟩
  have hB9 := hB8.trans (hb9.mono hB8.size)
  have z9 := hb9.size
  have d_x0_9 := d_x0_8.go hb9
  have d_x1_9 := d_x1_8.go hb9
  clear d_x0_8 d_x1_8 hB8
  clear hQ5
  go_wp2_with fail
  refine (toInt64S_any B bs cb _ (hBW.go hB9) hnints).mono ?_
  rintro e w10 ⟨Q6, rfl, hQ6, hb10⟩
  have hB10 := hB9.trans (hb10.mono hB9.size)
  have z10 := hb10.size
  have d_x0_10 := d_x0_9.go hb10
  have d_x1_10 := d_x1_9.go hb10
  clear d_x0_9 d_x1_9 hB9
  go_wp2_with fail
  refine (eqInt64S_same Q4 Q6 bs _ _ _ hbn d_x1_10.at_ hQ6.at_).mono ?_
  rintro e w11 ⟨rfl, hb11⟩
  have hB11 := hB10.trans (hb11.mono hB10.size)
  have z11 := hb11.size
  have d_x0_11 := d_x0_10.go hb11
  have d_x1_11 := d_x1_10.go hb11
  clear d_x0_10 d_x1_10 hB10
  clear hQ6
  go_wp2
  go_ret
  exact ⟨rfl, hB11⟩
end Go.Proofs.Ytajlbfbpkafjfaa
