/- ValidPieces: the model and the program give the same answer for every argument. -/
import Derived.Test.YtajlbfbpkafjfaaIvPv
import Derived.Test.YtajlbfbpkafjfaaG5
namespace Go.Proofs.Ytajlbfbpkafjfaa
open Go.RowKit

set_option maxRecDepth 100000 in
set_option maxHeartbeats 16000000 in
theorem lawValidPieces_any (P : Option Addr) (pz : List Pcx) (cp : Nat) (hpn : pz.length ≤ maxLen) (hpx : ∀ x ∈ pz, pxok x) (w : World) (hPc : PcAt w w.heap.size P pz) :
    Calls Try.prog 14 #[.slice P pz.length cp] w fun e w' => e = .returned (.bool true) ∧ Below w.heap.size w w' := by
  have hPW := hPc
  go_enter Try.func14, Try.ntmps14
  go_wp2_with fail
  refine (szPieceS_any P pz cp _ hpn (fun x h => (hpx x h).1) hPW).mono ?_
  rintro e w1 ⟨vl, rfl, hvl, hb1⟩
  have hB1 := hb1
  have z1 := hb1.size
  by_cases hneg : vl < 0
  · have hdl : decide (vl < 0) = true := by simpa using hneg
    go_wp2
    go_ret
    exact ⟨rfl, hB1⟩
  have hdl : decide (vl < 0) = false := by simpa using hneg
  obtain ⟨hnP, _⟩ := hvl hneg
  clear hneg hvl
  go_wp2_with fail
  refine (toPieceS_any P pz cp _ (hPW.go hB1) hnP).mono ?_
  rintro e w2 ⟨Q1, rfl, hQ1, hb2⟩
  have hB2 := hB1.trans (hb2.mono hB1.size)
  have z2 := hb2.size
  clear hB1
  go_wp2_with fail
  refine (specValidPieces_any Q1 pz _ hpn hpx _ hQ1.at_).mono ?_
  rintro e w3 ⟨rfl, hb3⟩
  have hB3 := hB2.trans (hb3.mono hB2.size)
  have z3 := hb3.size
  clear hB2
  clear hQ1
  go_wp2_with fail
  refine (toPieceS_any P pz cp _ (hPW.go hB3) hnP).mono ?_
  rintro e w4 ⟨Q2, rfl, hQ2, hb4⟩
  have hB4 := hB3.trans (hb4.mono hB3.size)
  have z4 := hb4.size
  clear hB3
  have bd_x0 := RowsIn.blk hQ2
  go_wp2_with fail
  refine (implValidPieces_any Q2 pz _ hpn hpx _ hQ2.at_).mono ?_
  rintro e w5 ⟨rfl, hb5⟩
  have hB5 := hB4.trans (hb5.mono hB4.size)
  have z5 := hb5.size
  have d_x0_5 := hQ2.go hb5
  clear hQ2 hB4
  go_wp2_with fail
  refine (toPieceS_any P pz cp _ (hPW.go hB5) hnP).mono ?_
  rintro e w6 ⟨Q3, rfl, hQ3, hb6⟩
  have hB6 := hB5.trans (hb6.mono hB5.size)
  have z6 := hb6.size
  have d_x0_6 := d_x0_5.go hb6
  clear d_x0_5 hB5
  go_wp2_with fail
  refine (eqPieceS_same Q2 Q3 pz _ _ _ hpn d_x0_6.at_ hQ3.at_).mono ?_
  rintro e w7 ⟨rfl, hb7⟩
  have hB7 := hB6.trans (hb7.mono hB6.size)
  have z7 := hb7.size
  have d_x0_7 := d_x0_6.go hb7
  clear d_x0_6 hB6
  clear hQ3
  go_wp2
  go_ret
  exact ⟨rfl, hB7⟩
end Go.Proofs.Ytajlbfbpkafjfaa
