/- DarkRows: the model and the program give the same answer for every argument, and what comes back owns its memory. -/
import Derived.Test.YtcbijfbeapeliaaRbC
import Derived.Test.YtcbijfbeapeliaaG5
import Derived.Test.YtcbijfbeapeliaaMarkG
import Derived.Test.YtcbijfbeapeliaaGs
import Derived.Test.YtcbijfbeapeliaaG2
namespace Go.Proofs.Ytcbijfbeapeliaa
open Go.RowKit

set_option maxRecDepth 100000 in
set_option maxHeartbeats 16000000 in
theorem lawDarkRows_any (Rb : List Nat) (hRb : rok Rb) (w : World)  :
    Calls Try.prog 8 #[.agg (rwc Rb).toArray] w fun e w' => e = .returned (.bool true) ∧ Below w.heap.size w w' := by
  have b0 : Below w.heap.size w (w.alloc (.cells (rwc Rb).toArray 23)) := ((Below.refl _ _).alloc (by simp) _)
  have s0n : w.heap.size + 1 ≤ (w.alloc (.cells (rwc Rb).toArray 23)).heap.size := by simp
  have rR : (w.alloc (.cells (rwc Rb).toArray 23)).rangeAt (w.heap.size) 0 (rwc Rb) := (rangeAt_newg (w := w) (cs := (rwc Rb).toArray) (t := 23) (g := w.heap.size) (by simp) rfl)
  have HIR := hide (show (Try.prog.info? 23).map (·.size) = some ((rwc Rb) : List Value).length from by rw [rwc_length, hRb.1]; kernel_rfl)
  have hRn : (drkL Rb).length ≤ 1048577 := by rw [drkL_len]; omega
  have HSP := hide (fun  w => specDarkRows_any Rb hRb w)
  have HIM := hide (fun  w => implDarkRows_any Rb hRb w)
  unfold IntsB at HSP HIM
  generalize drkL Rb = R at HSP HIM hRn
  
  go_enter Try.func8, Try.ntmps8
  go_wp2_with (refine wpList_load_mid rfl 23 (.tmp 1) rfl _ 0 rfl (rwc Rb) _ rR Try.underlying23 rfl HIR.out ?_)
  generalize (w.alloc (.cells (rwc Rb).toArray 23)) = W0 at *
  have hws := b0.size
  refine (toRubbing_any Rb hRb _).mono ?_
  rintro e w1 ⟨rfl, hb1⟩
  have hB1 := hb1
  have z1 := hb1.size
  have rR1 := rangeAt_over rR hB1 (by omega)
  go_wp2_with (refine wpList_load_mid rfl 23 (.tmp 1) rfl _ 0 rfl (rwc Rb) _ rR1 Try.underlying23 rfl HIR.out ?_)
  clear rR1
  refine (HSP.out  _ ).mono ?_
  rintro e w2 ⟨Aw, cw, rfl, _, hPw, hb2⟩
  have hB2 := hB1.trans (hb2.mono hB1.size)
  have z2 := hb2.size
  clear hB1
  have pw_2 := hPw.at_
  clear hPw
  have rR2 := rangeAt_over rR hB2 (by omega)
  go_wp2_with (refine wpList_load_mid rfl 23 (.tmp 1) rfl _ 0 rfl (rwc Rb) _ rR2 Try.underlying23 rfl HIR.out ?_)
  clear rR2
  refine (toRubbing_any Rb hRb _).mono ?_
  rintro e w3 ⟨rfl, hb3⟩
  have hB3 := hB2.trans (hb3.mono hB2.size)
  have z3 := hb3.size
  have pw_3 := pw_2.below (hb3.mono (by omega))
  clear pw_2 hB2
  have rR3 := rangeAt_over rR hB3 (by omega)
  go_wp2_with (refine wpList_load_mid rfl 23 (.tmp 1) rfl _ 0 rfl (rwc Rb) _ rR3 Try.underlying23 rfl HIR.out ?_)
  clear rR3
  refine (HIM.out  _ ).mono ?_
  rintro e w4 ⟨Ag, cg, rfl, _, hPg, hb4⟩
  have hB4 := hB3.trans (hb4.mono hB3.size)
  have z4 := hb4.size
  have pw_4 := pw_3.below (hb4.mono (by omega))
  clear pw_3 hB3
  have bd_g := blkI_bd hPg
  have rR4 := rangeAt_over rR hB4 (by omega)
  go_wp2_with (refine wpList_load_mid rfl 23 (.tmp 1) rfl _ 0 rfl (rwc Rb) _ rR4 Try.underlying23 rfl HIR.out ?_)
  clear rR4
  refine (eqInt64S_same Ag Aw R cg cw _ (by unfold maxLen; omega) hPg.at_ (pw_4.mono (by omega))).mono ?_
  rintro e w5 ⟨rfl, hb5⟩
  have hB5 := hB4.trans (hb5.mono hB4.size)
  have z5 := hb5.size
  have pw_5 := pw_4.below (hb5.mono (by omega))
  have pg_5 := hPg.go hb5
  clear pw_4 hPg hB4
  have rR5 := rangeAt_over rR hB5 (by omega)
  go_wp2_with (refine wpList_load_mid rfl 23 (.tmp 1) rfl _ 0 rfl (rwc Rb) _ rR5 Try.underlying23 rfl HIR.out ?_)
  clear rR5
  refine (markI1_any Ag R _ _ _ (by omega) pg_5).mono ?_
  rintro e w6 ⟨rfl, hg6, hM⟩
  have hB6 := hB5.trans (grown_toBelow hg6 (by omega) (fun k hk => by have := bd_g k hk; omega))
  have z6 := hg6.size
  have pw_6 := grown_intsAt hg6 pw_5 (by omega) (fun k hk => by have := bd_g k hk; omega)
  clear pw_5 hB5
  clear pg_5
  have hdq : decide (((1 + R.length : Nat) : Int) < 0) = false := by simp; omega
  have HH := hide (fun (W : World) (L : Nat) (h : IntsIn W L Ag (marksI 1 R.length)) => heldI1_any Ag R.length cg L W (by omega) h)
  generalize ((1 + R.length : Nat) : Int) = Qn at hdq HH ⊢
  have rR6 := rangeAt_over rR hB6 (by omega)
  go_wp2_with (refine wpList_load_mid rfl 23 (.tmp 1) rfl _ 0 rfl (rwc Rb) _ rR6 Try.underlying23 rfl HIR.out ?_)
  clear rR6
  refine (HH.out _ _ hM).mono ?_
  rintro e w7 ⟨rfl, hb7⟩
  have hB7 := hB6.trans (hb7.mono hB6.size)
  have z7 := hb7.size
  have pw_7 := pw_6.below (hb7.mono (by omega))
  have pm_7 := hM.go hb7
  clear pw_6 hM hB6
  have rR7 := rangeAt_over rR hB7 (by omega)
  go_wp2_with (refine wpList_load_mid rfl 23 (.tmp 1) rfl _ 0 rfl (rwc Rb) _ rR7 Try.underlying23 rfl HIR.out ?_)
  clear rR7
  refine (toRubbing_any Rb hRb _).mono ?_
  rintro e w8 ⟨rfl, hb8⟩
  have hB8 := hB7.trans (hb8.mono hB7.size)
  have z8 := hb8.size
  have pw_8 := pw_7.below (hb8.mono (by omega))
  have pm_8 := pm_7.go hb8
  clear pw_7 pm_7 hB7
  have rR8 := rangeAt_over rR hB8 (by omega)
  go_wp2_with (refine wpList_load_mid rfl 23 (.tmp 1) rfl _ 0 rfl (rwc Rb) _ rR8 Try.underlying23 rfl HIR.out ?_)
  clear rR8
  refine (HIM.out  _ ).mono ?_
  rintro e w9 ⟨Ah, ch, rfl, _, hPh, hb9⟩
  have hB9 := hB8.trans (hb9.mono hB8.size)
  have z9 := hb9.size
  have pw_9 := pw_8.below (hb9.mono (by omega))
  have pm_9 := pm_8.go hb9
  clear pw_8 pm_8 hB8
  have bd_h := blkI_bd hPh
  have rR9 := rangeAt_over rR hB9 (by omega)
  go_wp2_with (refine wpList_load_mid rfl 23 (.tmp 1) rfl _ 0 rfl (rwc Rb) _ rR9 Try.underlying23 rfl HIR.out ?_)
  clear rR9
  refine (eqInt64S_same Ah Aw R ch cw _ (by unfold maxLen; omega) hPh.at_ (pw_9.mono (by omega))).mono ?_
  rintro e w10 ⟨rfl, hb10⟩
  have hB10 := hB9.trans (hb10.mono hB9.size)
  have z10 := hb10.size
  have pw_10 := pw_9.below (hb10.mono (by omega))
  have pm_10 := pm_9.go hb10
  have ph_10 := hPh.go hb10
  clear pw_9 pm_9 hPh hB9
  clear ph_10
  have rR10 := rangeAt_over rR hB10 (by omega)
  go_wp2_with (refine wpList_load_mid rfl 23 (.tmp 1) rfl _ 0 rfl (rwc Rb) _ rR10 Try.underlying23 rfl HIR.out ?_)
  clear rR10
  refine (HH.out _ _ pm_10).mono ?_
  rintro e w11 ⟨rfl, hb11⟩
  have hB11 := hB10.trans (hb11.mono hB10.size)
  have z11 := hb11.size
  have pw_11 := pw_10.below (hb11.mono (by omega))
  have pm_11 := pm_10.go hb11
  clear pw_10 pm_10 hB10
  go_wp2
  go_ret
  exact ⟨rfl, b0.trans (hB11.mono b0.size)⟩
end Go.Proofs.Ytcbijfbeapeliaa
