/- BestChisel: the model and the program give the same answer for every argument. -/
import Derived.Test.YtkbemhjeflmppaaDoorBcI
import Derived.Test.YtkbemhjeflmppaaDoorG5
import Derived.Test.YtkbemhjeflmppaaDoorMarkG
import Derived.Test.YtkbemhjeflmppaaDoorScript
namespace Go.Proofs.YtkbemhjeflmppaaDoor
open Go.RowKit

set_option maxRecDepth 100000 in
set_option maxHeartbeats 16000000 in
theorem lawBestChisel_any (S : List Int) (hS : S.length = 26) (hSx : ∀ x ∈ S, i8ok x) (K : Option Addr) (ks : List (Int × Int)) (ck : Nat) (hkn : ks.length ≤ maxLen) (hkx : ∀ x ∈ ks, chok x) (s : ByteArray) (hs : s.size ≤ maxLen) (w : World) (hG : Glob w) (hKc : ChsAt w w.heap.size K ks) :
    Calls Tryd.prog 9 #[.agg (wc S).toArray, .slice K ks.length ck, .string s] w fun e w' => e = .returned (.bool true) ∧ Below w.heap.size w w' := by
  have b0 : Below w.heap.size w (w.alloc (.cells (wc S).toArray 23)) := ((Below.refl _ _).alloc (by simp) _)
  have s0 : w.heap.size + 1 ≤ (w.alloc (.cells (wc S).toArray 23)).heap.size := by simp
  have rS : (w.alloc (.cells (wc S).toArray 23)).rangeAt (w.heap.size) 0 (wc S) := (rangeAt_newg (w := w) (cs := (wc S).toArray) (t := 23) (g := w.heap.size) (by simp) rfl)
  have HIS := hide (show (Tryd.prog.info? 23).map (·.size) = some (wc S).length from by rw [wc_length, hS]; kernel_rfl)
  have hm_s := hs
  unfold maxLen at hm_s
  by_cases ht_s : 1048576 < s.size
  · have hd : decide ((1048576 : Int) < s.size) = true := by simp; omega
    have hd' : decide (1048576 < s.size) = true := by simp; omega
    go_enter Tryd.func9, Tryd.ntmps9
    go_wp2
    go_ret
    exact ⟨rfl, b0⟩
  have hd0_s : decide ((1048576 : Int) < s.size) = false := by simp; omega
  have hd1_s : decide (1048576 < s.size) = false := by simp; omega
  have hn_s : s.size ≤ 1048576 := by omega
  clear ht_s hm_s
  have hKW := (hKc.below b0).mono b0.size
  go_enter Tryd.func9, Tryd.ntmps9
  go_wp2_with (refine wpList_load_mid rfl 23 (.tmp 3) rfl _ 0 rfl (wc S) _ rS Tryd.underlying23 rfl HIS.out ?_)
  generalize (w.alloc (.cells (wc S).toArray 23)) = W0 at *
  have hws := b0.size
  refine (szChiselS_any K ks.length ck _ _ (by omega) (by omega) hkn).mono ?_
  rintro e w1 ⟨rfl, hsame⟩
  have hb1 : Below W0.heap.size W0 w1 := by rw [← hsame]; exact Below.refl _ _
  clear hsame
  have hB1 := hb1
  have z1 := hb1.size
  by_cases hneg : szL 1048576 ks.length < 0
  · have hdl : decide (szL 1048576 ks.length < 0) = true := by simpa using hneg
    go_wp2
    go_ret
    exact ⟨rfl, b0.trans (hB1.mono b0.size)⟩
  have hdl : decide (szL 1048576 ks.length < 0) = false := by simpa using hneg
  have hnK : ks.length ≤ 1048576 := by unfold szL at hneg; split at hneg <;> omega
  clear hneg
  have rS1 := rangeAt_over rS hB1 (by omega)
  go_wp2_with (refine wpList_load_mid rfl 23 (.tmp 3) rfl _ 0 rfl (wc S) _ rS1 Tryd.underlying23 rfl HIS.out ?_)
  clear rS1
  refine (toStrokes_any S hS _).mono ?_
  rintro e w2 ⟨rfl, hb2⟩
  have hB2 := hB1.trans (hb2.mono hB1.size)
  have z2 := hb2.size
  clear hB1
  have rS2 := rangeAt_over rS hB2 (by omega)
  go_wp2_with (refine wpList_load_mid rfl 23 (.tmp 3) rfl _ 0 rfl (wc S) _ rS2 Tryd.underlying23 rfl HIS.out ?_)
  clear rS2
  refine (toChiselS_any K ks ck _ (hKW.go hB2) hnK).mono ?_
  rintro e w3 ⟨Q1, rfl, hQ1, hb3⟩
  have hB3 := hB2.trans (hb3.mono hB2.size)
  have z3 := hb3.size
  clear hB2
  have rS3 := rangeAt_over rS hB3 (by omega)
  go_wp2_with (refine wpList_load_mid rfl 23 (.tmp 3) rfl _ 0 rfl (wc S) _ rS3 Tryd.underlying23 rfl HIS.out ?_)
  clear rS3
  refine (specBestChisel_any S hS hSx Q1 ks _ hkn hkx s hs _ hQ1.at_).mono ?_
  rintro e w4 ⟨rfl, hb4⟩
  have hB4 := hB3.trans (hb4.mono hB3.size)
  have z4 := hb4.size
  clear hB3
  clear hQ1
  have rS4 := rangeAt_over rS hB4 (by omega)
  go_wp2_with (refine wpList_load_mid rfl 23 (.tmp 3) rfl _ 0 rfl (wc S) _ rS4 Tryd.underlying23 rfl HIS.out ?_)
  clear rS4
  refine (toChiselS_any K ks ck _ (hKW.go hB4) hnK).mono ?_
  rintro e w5 ⟨Q2, rfl, hQ2, hb5⟩
  have hB5 := hB4.trans (hb5.mono hB4.size)
  have z5 := hb5.size
  clear hB4
  have bd_x1 := RowsIn.blk hQ2
  have rS5 := rangeAt_over rS hB5 (by omega)
  go_wp2_with (refine wpList_load_mid rfl 23 (.tmp 3) rfl _ 0 rfl (wc S) _ rS5 Tryd.underlying23 rfl HIS.out ?_)
  clear rS5
  refine (toStrokes_any S hS _).mono ?_
  rintro e w6 ⟨rfl, hb6⟩
  have hB6 := hB5.trans (hb6.mono hB5.size)
  have z6 := hb6.size
  have d_x1_6 := hQ2.go hb6
  clear hQ2 hB5
  have rS6 := rangeAt_over rS hB6 (by omega)
  go_wp2_with (refine wpList_load_mid rfl 23 (.tmp 3) rfl _ 0 rfl (wc S) _ rS6 Tryd.underlying23 rfl HIS.out ?_)
  clear rS6
  refine (implBestChisel_any S hS hSx Q2 ks _ hkn hkx s hs _ ((hG.below b0).below hB6) d_x1_6.at_).mono ?_
  rintro e w7 ⟨rfl, hb7⟩
  have hB7 := hB6.trans (hb7.mono hB6.size)
  have z7 := hb7.size
  have d_x1_7 := d_x1_6.go hb7
  clear d_x1_6 hB6
  have rS7 := rangeAt_over rS hB7 (by omega)
  go_wp2_with (refine wpList_load_mid rfl 23 (.tmp 3) rfl _ 0 rfl (wc S) _ rS7 Tryd.underlying23 rfl HIS.out ?_)
  clear rS7
  refine (toChiselS_any K ks ck _ (hKW.go hB7) hnK).mono ?_
  rintro e w8 ⟨Q3, rfl, hQ3, hb8⟩
  have hB8 := hB7.trans (hb8.mono hB7.size)
  have z8 := hb8.size
  have d_x1_8 := d_x1_7.go hb8
  clear d_x1_7 hB7
  have rS8 := rangeAt_over rS hB8 (by omega)
  go_wp2_with (refine wpList_load_mid rfl 23 (.tmp 3) rfl _ 0 rfl (wc S) _ rS8 Tryd.underlying23 rfl HIS.out ?_)
  clear rS8
  refine (eqChiselS_same Q2 Q3 ks _ _ _ hkn d_x1_8.at_ hQ3.at_).mono ?_
  rintro e w9 ⟨rfl, hb9⟩
  have hB9 := hB8.trans (hb9.mono hB8.size)
  have z9 := hb9.size
  have d_x1_9 := d_x1_8.go hb9
  clear d_x1_8 hB8
  clear hQ3
  go_wp2
  go_ret
  exact ⟨rfl, b0.trans (hB9.mono b0.size)⟩
end Go.Proofs.YtkbemhjeflmppaaDoor
