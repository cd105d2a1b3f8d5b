/- BestShift: the model and the program give the same answer for every argument. -/
import Derived.Test.YtngondeaeipcfaaDoorBsL
import Derived.Test.YtngondeaeipcfaaDoorG5
import Derived.Test.YtngondeaeipcfaaDoorMarkG
import Derived.Test.YtngondeaeipcfaaDoorGs
namespace Go.Proofs.YtngondeaeipcfaaDoor
open Go.RowKit

set_option maxRecDepth 100000 in
set_option maxHeartbeats 16000000 in
theorem lawBestShift_any (F : Fc) (hF : F.ok) (A : Option Addr) (c : Nat) (s : ByteArray) (hs : s.size ≤ maxLen) (s2 : ByteArray) (hs2 : s2.size ≤ maxLen) (w : World) (hG : Glob w) (hA : PairsAt w w.heap.size A F.ps) :
    Calls Tryd.prog 9 #[.agg (fc F (.slice A F.ps.length c)).toArray, .string s, .string s2] w fun e w' => e = .returned (.bool true) ∧ Below w.heap.size w w' := by
  have hW := hide hF.len
  have HIL := hide (show (Tryd.prog.info? 48).map (·.size) = some (fc F (.slice A F.ps.length c)).length from by rw [fc_length hW.out]; kernel_rfl)
  have HII := hide (show ∀ sl, (Tryd.prog.info? 53).map (·.size) = some (fc F sl).length from fun sl => by rw [fc_length hW.out]; kernel_rfl)
  have HSZ := hide (szFace_any F hF A c 1048576)
  have b0 : Below w.heap.size w (w.alloc (.cells (fc F (.slice A F.ps.length c)).toArray 48)) := ((Below.refl _ _).alloc (by simp) _)
  have s0 : w.heap.size < (w.alloc (.cells (fc F (.slice A F.ps.length c)).toArray 48)).heap.size := by simp
  have r0 : (w.alloc (.cells (fc F (.slice A F.ps.length c)).toArray 48)).rangeAt (w.heap.size) 0 (fc F (.slice A F.ps.length c)) := (rangeAt_newg (w := w) (cs := (fc F (.slice A F.ps.length c)).toArray) (t := 48) (g := w.heap.size) (by simp) rfl)
  have hm_s := hs
  unfold maxLen at hm_s
  by_cases ht_s : 1048576 < s.size
  · have hd : decide ((1048576 : Int) < s.size) = true := by simp; omega
    have hd' : decide (1048576 < s.size) = true := by simp; omega
    go_enter Tryd.func9, Tryd.ntmps9
    go_wp2
    go_ret
    exact ⟨rfl, b0⟩
  have hd0_s : decide ((1048576 : Int) < s.size) = false := by simp; omega
  have hd1_s : decide (1048576 < s.size) = false := by simp; omega
  have hn_s : s.size ≤ 1048576 := by omega
  clear ht_s hm_s
  have hm_s2 := hs2
  unfold maxLen at hm_s2
  by_cases ht_s2 : 1048576 < s2.size
  · have hd : decide ((1048576 : Int) < s2.size) = true := by simp; omega
    have hd' : decide (1048576 < s2.size) = true := by simp; omega
    go_enter Tryd.func9, Tryd.ntmps9
    go_wp2
    go_ret
    exact ⟨rfl, b0⟩
  have hd0_s2 : decide ((1048576 : Int) < s2.size) = false := by simp; omega
  have hd1_s2 : decide (1048576 < s2.size) = false := by simp; omega
  have hn_s2 : s2.size ≤ 1048576 := by omega
  clear ht_s2 hm_s2
  by_cases hbig : szL 1048576 F.ps.length < 0
  · go_enter Tryd.func9, Tryd.ntmps9
    go_wp2_with (first | (refine wpList_load_mid rfl 48 (.tmp 3) rfl _ 0 rfl (fc F (.slice A F.ps.length c)) _ r0 Tryd.underlying48 rfl HIL.out ?_) | (go_at_call 29; refine (HSZ.out _ (by omega) (by omega)).mono ?_; rintro e w1 ⟨rfl, hb1⟩))
    go_ret
    exact ⟨rfl, b0.trans (hb1.mono b0.size)⟩
  have hd : decide (szL 1048576 F.ps.length < 0) = false := by simpa using hbig
  have hnF : F.ps.length ≤ 1048576 := by unfold szL at hbig; split at hbig <;> omega
  have hnF2 : F.ps.length ≤ 2097152 := by omega
  clear hbig
  have hAW := hA.below b0
  go_enter Tryd.func9, Tryd.ntmps9
  go_wp2_with (refine wpList_load_mid rfl 48 (.tmp 3) rfl _ 0 rfl (fc F (.slice A F.ps.length c)) _ r0 Tryd.underlying48 rfl HIL.out ?_)
  generalize (w.alloc (.cells (fc F (.slice A F.ps.length c)).toArray 48)) = W0 at *
  have hws := b0.size
  refine (HSZ.out _ (by omega) (by omega)).mono ?_
  rintro e w1 ⟨rfl, hb1⟩
  have hB1 := hb1
  have z1 := hb1.size
  have rr1 := rangeAt_over r0 hB1 s0
  go_wp2_with (refine wpList_load_mid rfl 48 (.tmp 3) rfl _ 0 rfl (fc F (.slice A F.ps.length c)) _ rr1 Tryd.underlying48 rfl HIL.out ?_)
  clear rr1
  refine (toFace_any F hF A c _ (hAW.go hB1 hws) hnF).mono ?_
  rintro e w2 ⟨Q1, rfl, hQ1, hb2⟩
  have hB2 := hB1.trans (hb2.mono hB1.size)
  have z2 := hb2.size
  clear hB1
  have rr2 := rangeAt_over r0 hB2 s0
  go_wp2_with (refine wpList_load_mid rfl 48 (.tmp 3) rfl _ 0 rfl (fc F (.slice A F.ps.length c)) _ rr2 Tryd.underlying48 rfl HIL.out ?_)
  clear rr2
  refine (specBestShift_any F hF Q1 _ s hs s2 hs2 _ hQ1.at_).mono ?_
  rintro e w3 ⟨rfl, hb3⟩
  have hB3 := hB2.trans (hb3.mono hB2.size)
  have z3 := hb3.size
  clear hB2
  clear hQ1
  have rr3 := rangeAt_over r0 hB3 s0
  go_wp2_with (refine wpList_load_mid rfl 48 (.tmp 3) rfl _ 0 rfl (fc F (.slice A F.ps.length c)) _ rr3 Tryd.underlying48 rfl HIL.out ?_)
  clear rr3
  refine (toFace_any F hF A c _ (hAW.go hB3 hws) hnF).mono ?_
  rintro e w4 ⟨Q2, rfl, hQ2, hb4⟩
  have hB4 := hB3.trans (hb4.mono hB3.size)
  have z4 := hb4.size
  clear hB3
  have bd_x0 := blkP_bd hQ2
  obtain ⟨w5, hW5, r5, b5, s5, t5, t50⟩ := stored_face w4 F hW.out (.slice Q2 F.ps.length F.ps.length)
  have HW5 := hide hW5
  clear hW5
  have hB5 := hB4.trans (b5.mono hB4.size)
  have z5 := b5.size
  have d_x0_5 := hQ2.below b5 (Nat.le_refl _)
  clear hQ2 hB4
  go_wp2_with (first | (refine wpList_store_mid rfl 53 (.tmp 11) (.tmp 36) rfl w4.heap.size 0 _ rfl rfl t50 (HII.out _) (fc_one _ _ _ _) ?_; rw [← HW5.out]) | (refine wpList_load_mid rfl 53 (.tmp 11) rfl _ 0 rfl (fc F (.slice Q2 F.ps.length F.ps.length)) _ r5 Tryd.underlying53 rfl (HII.out _) ?_))
  refine (implBestShift_any F hF Q2 _ s hs s2 hs2 _ ((hG.below b0).below hB5) d_x0_5.at_).mono ?_
  rintro e w6 ⟨rfl, hb6⟩
  have hB6 := hB5.trans (hb6.mono hB5.size)
  have z6 := hb6.size
  have d_x0_6 := d_x0_5.below hb6 (Nat.le_refl _)
  have xrow_6 := rangeAt_over r5 hb6 (by omega)
  clear d_x0_5 r5 hB5
  have qa6 := rangeAt_over r0 hB6 s0
  have sq6 : w.heap.size < w6.heap.size := by omega
  have sx6 : w4.heap.size < w6.heap.size := by omega
  have hK6 : ∀ w', Below w6.heap.size w6 w' → _ := fun w' hb => keepS hb xrow_6 sx6 qa6 sq6
  have CA6 := hAW.go hB6 hws
  have HEQ := hide (fun A' w => eqFace_same F hF Q2 A' F.ps.length F.ps.length w)
  go_wp2
  refine wp_region_take2 0 1 [2, 3, 4] 3 (vi := .agg (fc F (.slice Q2 F.ps.length F.ps.length)).toArray) (vj := .agg (fc F (.slice A F.ps.length c)).toArray)
    (fun w' => Below w6.heap.size w6 w' ∧ w'.rangeAt w4.heap.size 0 (fc F (.slice Q2 F.ps.length F.ps.length)) ∧ w'.rangeAt w.heap.size 0 (fc F (.slice A F.ps.length c)))
    (by kernel_rfl) rfl (by decide) rfl rfl (by kernel_rfl) (by kernel_rfl) (by kernel_rfl) (by kernel_rfl) (by kernel_rfl) (by kernel_rfl) (fun _ _ _ h => h) (fun _ _ _ h => h)
    (yieldsIf_load_mid (by rfl) _ (.tmp 11) rfl _ 0 rfl _ _ (fun w h => h.2.1) Tryd.underlying53 rfl (HII.out _)) (yieldsIf_load_mid (by rfl) _ (.tmp 3) rfl _ 0 rfl _ _ (fun w h => h.2.2) Tryd.underlying48 rfl HIL.out) (hK6 _ (Below.refl _ _).drew) ?_
  simp only [Act.put, List.setIfInBounds_toArray, List.set_cons_zero, List.set_cons_succ]
  refine wpForced_cons rfl ?_
  go_wp2_with fail
  refine (toFace_any F hF A c _ (CA6.go ((Below.refl _ _).drew) (Nat.le_refl _)) hnF).mono ?_
  rintro e wa6 ⟨A3, rfl, hP3, hba6⟩
  have hX6 : Below w6.heap.size w6 wa6 := (Below.refl _ _).drew.trans hba6
  go_wp2_with fail
  refine ⟨hK6 _ hX6, wpForced_cons rfl ?_⟩
  go_wp2_with fail
  refine (HEQ.out _ _ ((d_x0_6.below hX6 (Nat.le_refl _)).at_) hP3.at_).mono ?_
  rintro e w7 ⟨rfl, hbb6⟩
  have hY6 := hX6.trans (hbb6.mono hX6.size)
  go_wp2_with fail
  refine ⟨hK6 _ hY6, wpForced_cons rfl ?_⟩
  go_wp2_with fail
  refine ⟨hK6 _ hY6, wpForced_nil ?_⟩
  clear hK6 CA6 HEQ hP3 hba6 hX6 hbb6 qa6
  have hB7 := hB6.trans (hY6.mono hB6.size)
  have z7 := hY6.size
  have d_x0_7 := d_x0_6.below hY6 (Nat.le_refl _)
  have xrow_7 := rangeAt_over xrow_6 hY6 (by omega)
  clear d_x0_6 xrow_6 hB6
  go_wp2
  go_ret
  exact ⟨rfl, b0.trans (hB7.mono b0.size)⟩
end Go.Proofs.YtngondeaeipcfaaDoor
