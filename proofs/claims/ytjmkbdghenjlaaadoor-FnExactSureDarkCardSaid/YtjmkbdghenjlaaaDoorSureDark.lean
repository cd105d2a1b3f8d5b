/- SureDark: the model and the program give the same answer for every argument. -/
import Derived.Test.YtjmkbdghenjlaaaDoorRbS
import Derived.Test.YtjmkbdghenjlaaaDoorSuJ
import Derived.Test.YtjmkbdghenjlaaaDoorG5
import Derived.Test.YtjmkbdghenjlaaaDoorMarkG
import Derived.Test.YtjmkbdghenjlaaaDoorGs
namespace Go.Proofs.YtjmkbdghenjlaaaDoor
open Go.RowKit

set_option maxRecDepth 100000 in
set_option maxHeartbeats 16000000 in
theorem lawSureDark_any (K : Option Addr) (Ls : List (List Nat)) (ck : Nat) (hkn : Ls.length ≤ maxLen) (hkx : ∀ x ∈ Ls, rok x) (x : Int) (hx : (Lit.int .i64 x).wf = true) (w : World) (hG : ErrT w) (hKc : RbsAt w w.heap.size K Ls) :
    Calls Tryd.prog 3 #[.slice K Ls.length ck, .int .i64 x] w fun e w' => e = .returned (.bool true) ∧ Below w.heap.size w w' := by
  have hKW := hKc
  go_enter Tryd.func3, Tryd.ntmps3
  go_wp2_with fail
  refine (szRubbingS_any K Ls.length ck _ _ (by omega) (by omega) hkn).mono ?_
  rintro e w1 ⟨rfl, hsame⟩
  have hb1 : Below w.heap.size w w1 := by rw [← hsame]; exact Below.refl _ _
  clear hsame
  have hB1 := hb1
  have z1 := hb1.size
  by_cases hneg : szL 1048576 Ls.length < 0
  · have hdl : decide (szL 1048576 Ls.length < 0) = true := by simpa using hneg
    go_wp2
    go_ret
    exact ⟨rfl, hB1⟩
  have hdl : decide (szL 1048576 Ls.length < 0) = false := by simpa using hneg
  have hnK : Ls.length ≤ 1048576 := by unfold szL at hneg; split at hneg <;> omega
  clear hneg
  go_wp2_with fail
  refine (toRubbingS_any K Ls ck _ (hKW.go hB1) hnK hkx).mono ?_
  rintro e w2 ⟨Q1, rfl, hQ1, hb2⟩
  have hB2 := hB1.trans (hb2.mono hB1.size)
  have z2 := hb2.size
  clear hB1
  go_wp2_with fail
  refine (specSureDark_any Q1 Ls _ hkn hkx x _ hQ1.at_).mono ?_
  rintro e w3 ⟨rfl, hb3⟩
  have hB3 := hB2.trans (hb3.mono hB2.size)
  have z3 := hb3.size
  clear hB2
  clear hQ1
  obtain ⟨w4, hW4, rw_, b4, sw_, t40⟩ := stored_rub w3 (sdR Ls x) ((sdR_ok Ls x).1)
  have HW4 := hide hW4
  clear hW4
  have hB4 := hB3.trans (b4.mono hB3.size)
  have z4 := b4.size
  clear hB3
  go_wp2_with (refine wpList_store_mid rfl 26 (.tmp 6) (.tmp 21) rfl w3.heap.size 0 _ rfl rfl t40 (rub_info ((sdR_ok Ls x).1)) (rwc_one _) ?_; rw [← HW4.out])
  refine (toRubbingS_any K Ls ck _ (hKW.go hB4) hnK hkx).mono ?_
  rintro e w5 ⟨Q2, rfl, hQ2, hb5⟩
  have hB5 := hB4.trans (hb5.mono hB4.size)
  have z5 := hb5.size
  have rw_5 := rangeAt_over rw_ hb5 (by omega)
  clear rw_ hB4
  have bd_x0 := RowsIn.blk hQ2
  go_wp2_with fail
  refine (implSureDark_any Q2 Ls _ hkn hkx x _ (hG.below hB5) hQ2.at_).mono ?_
  rintro e w6 ⟨rfl, hb6⟩
  have hB6 := hB5.trans (hb6.mono hB5.size)
  have z6 := hb6.size
  have rw_6 := rangeAt_over rw_5 hb6 (by omega)
  have d_x0_6 := hQ2.go hb6
  clear rw_5 hQ2 hB5
  obtain ⟨w7, hW7, rg_, b7, sg_, t70⟩ := stored_rub w6 (sdR Ls x) ((sdR_ok Ls x).1)
  have HW7 := hide hW7
  clear hW7
  have hB7 := hB6.trans (b7.mono hB6.size)
  have z7 := b7.size
  have rw_7 := rangeAt_over rw_6 b7 (by omega)
  have d_x0_7 := d_x0_6.go b7
  clear rw_6 d_x0_6 hB6
  go_wp2_with (first | (refine wpList_store_mid rfl 26 (.tmp 9) (.tmp 29) rfl w6.heap.size 0 _ rfl rfl t70 (rub_info ((sdR_ok Ls x).1)) (rwc_one _) ?_; rw [← HW7.out]) | (refine wpList_load_mid rfl 26 (.tmp 9) rfl _ 0 rfl (rwc (sdR Ls x)) _ rg_ Tryd.underlying26 rfl (rub_info' ((sdR_ok Ls x).1)) ?_) | (refine wpList_load_mid rfl 26 (.tmp 6) rfl _ 0 rfl (rwc (sdR Ls x)) _ rw_7 Tryd.underlying26 rfl (rub_info' ((sdR_ok Ls x).1)) ?_))
  refine (eqRubbing_same _ ((sdR_ok Ls x).1) _).mono ?_
  rintro e w8 ⟨rfl, hb8⟩
  have hB8 := hB7.trans (hb8.mono hB7.size)
  have z8 := hb8.size
  have rw_8 := rangeAt_over rw_7 hb8 (by omega)
  have d_x0_8 := d_x0_7.go hb8
  have rg_8 := rangeAt_over rg_ hb8 (by omega)
  clear rw_7 d_x0_7 rg_ hB7
  go_wp2_with fail
  refine (toRubbingS_any K Ls ck _ (hKW.go hB8) hnK hkx).mono ?_
  rintro e w9 ⟨Q3, rfl, hQ3, hb9⟩
  have hB9 := hB8.trans (hb9.mono hB8.size)
  have z9 := hb9.size
  have rw_9 := rangeAt_over rw_8 hb9 (by omega)
  have d_x0_9 := d_x0_8.go hb9
  have rg_9 := rangeAt_over rg_8 hb9 (by omega)
  clear rw_8 d_x0_8 rg_8 hB8
  go_wp2_with fail
  refine (eqRubbingS_same Q2 Q3 Ls _ _ _ hkn hkx d_x0_9.at_ hQ3.at_).mono ?_
  rintro e w10 ⟨rfl, hb10⟩
  have hB10 := hB9.trans (hb10.mono hB9.size)
  have z10 := hb10.size
  have rw_10 := rangeAt_over rw_9 hb10 (by omega)
  have d_x0_10 := d_x0_9.go hb10
  have rg_10 := rangeAt_over rg_9 hb10 (by omega)
  clear rw_9 d_x0_9 rg_9 hB9
  clear hQ3
  go_wp2
  go_ret
  exact ⟨rfl, hB10⟩
end Go.Proofs.YtjmkbdghenjlaaaDoor
