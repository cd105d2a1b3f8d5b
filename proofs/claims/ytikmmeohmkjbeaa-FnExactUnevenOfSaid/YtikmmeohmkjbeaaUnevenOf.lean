/- UnevenOf: the model and the program give the same answer for every argument. -/
import Derived.Test.YtikmmeohmkjbeaaUnevS
import Derived.Test.YtikmmeohmkjbeaaG5
import Derived.Test.YtikmmeohmkjbeaaG2
namespace Go.Proofs.Ytikmmeohmkjbeaa
open Go.RowKit

set_option maxRecDepth 100000 in
set_option maxHeartbeats 16000000 in
theorem lawUnevenOf_any (F : Fc) (hF : F.ok) (A : Option Addr) (c : Nat) (s : ByteArray) (hs : s.size ≤ maxLen) (x : Int) (hx : (Lit.int .i64 x).wf = true) (B : Option Addr) (bs : List Int) (cb : Nat) (hbn : bs.length ≤ maxLen) (w : World) (hA : PairsAt w w.heap.size A F.ps) (hB : IntsAt w w.heap.size B bs) :
    Calls Try.prog 5 #[.agg (fc F (.slice A F.ps.length c)).toArray, .string s, .int .i64 x, .slice B bs.length cb] w fun e w' => e = .returned (.bool true) ∧ Below w.heap.size w w' := by
  have hW := hide hF.len
  have r0 := rangeAt_new w (fc F (.slice A F.ps.length c)) 26
  have b0 : Below w.heap.size w (w.alloc (.cells (fc F (.slice A F.ps.length c)).toArray 26)) := (Below.refl _ _).alloc (Nat.le_refl _) _
  have s0 : w.heap.size < (w.alloc (.cells (fc F (.slice A F.ps.length c)).toArray 26)).heap.size := by simp
  have HIL := hide (show (Try.prog.info? 26).map (·.size) = some (fc F (.slice A F.ps.length c)).length from by rw [fc_length hW.out]; kernel_rfl)
  have HII := hide (show ∀ sl, (Try.prog.info? 33).map (·.size) = some (fc F sl).length from fun sl => by rw [fc_length hW.out]; kernel_rfl)
  have HSZ := hide (szFace_any F hF A c 1048576)
  have hmstr := hs
  unfold maxLen at hmstr
  by_cases htstr : 1048576 < s.size
  · have hd : decide ((1048576 : Int) < s.size) = true := by simp; omega
    have hd' : decide (1048576 < s.size) = true := by simp; omega
    go_enter Try.func5, Try.ntmps5
    go_wp2
    go_ret
    exact ⟨rfl, b0⟩
  have hd0str : decide ((1048576 : Int) < s.size) = false := by simp; omega
  have hd1str : decide (1048576 < s.size) = false := by simp; omega
  have hnstr : s.size ≤ 1048576 := by omega
  clear htstr hmstr
  have hmints := hbn
  unfold maxLen at hmints
  by_cases htints : 1048576 < bs.length
  · have hd : decide ((1048576 : Int) < bs.length) = true := by simp; omega
    have hd' : decide (1048576 < bs.length) = true := by simp; omega
    go_enter Try.func5, Try.ntmps5
    go_wp2
    go_ret
    exact ⟨rfl, b0⟩
  have hd0ints : decide ((1048576 : Int) < bs.length) = false := by simp; omega
  have hd1ints : decide (1048576 < bs.length) = false := by simp; omega
  have hnints : bs.length ≤ 1048576 := by omega
  clear htints hmints
  by_cases hbig : szL 1048576 F.ps.length < 0
  · go_enter Try.func5, Try.ntmps5
    go_wp2_with (first | (refine wpList_load_mid rfl 26 (.tmp 4) rfl _ 0 rfl (fc F (.slice A F.ps.length c)) _ r0 Try.underlying26 rfl HIL.out ?_) | (go_at_call 17; refine (HSZ.out _ (by omega) (by omega)).mono ?_; rintro e w1 ⟨rfl, hb1⟩))
    go_ret
    exact ⟨rfl, b0.trans (hb1.mono b0.size)⟩
  have hd : decide (szL 1048576 F.ps.length < 0) = false := by simpa using hbig
  have hnF : F.ps.length ≤ 1048576 := by unfold szL at hbig; split at hbig <;> omega
  have hnF2 : F.ps.length ≤ 2097152 := by omega
  clear hbig
  have hAW := hA.below b0
  have hBW := (hB.below b0).mono b0.size
  go_enter Try.func5, Try.ntmps5
  go_wp2_with (refine wpList_load_mid rfl 26 (.tmp 4) rfl _ 0 rfl (fc F (.slice A F.ps.length c)) _ r0 Try.underlying26 rfl HIL.out ?_)
  generalize (w.alloc (.cells (fc F (.slice A F.ps.length c)).toArray 26)) = W0 at *
  have hws := b0.size
  refine (HSZ.out _ (by omega) (by omega)).mono ?_
  rintro e w1 ⟨rfl, hb1⟩
  have hB1 := hb1
  have z1 := hb1.size
  have rr1 := rangeAt_over r0 hB1 s0
  go_wp2_with (refine wpList_load_mid rfl 26 (.tmp 4) rfl _ 0 rfl (fc F (.slice A F.ps.length c)) _ rr1 Try.underlying26 rfl HIL.out ?_)
  clear rr1
  refine (toFace_any F hF A c _ (hAW.go hB1 hws) hnF).mono ?_
  rintro e w2 ⟨Q1, rfl, hQ1, hb2⟩
  have hB2 := hB1.trans (hb2.mono hB1.size)
  have z2 := hb2.size
  clear hB1
  have rr2 := rangeAt_over r0 hB2 s0
  go_wp2_with (refine wpList_load_mid rfl 26 (.tmp 4) rfl _ 0 rfl (fc F (.slice A F.ps.length c)) _ rr2 Try.underlying26 rfl HIL.out ?_)
  clear rr2
  refine (toInt64S_any B bs cb _ (hBW.go hB2) hnints).mono ?_
  rintro e w3 ⟨Q2, rfl, hQ2, hb3⟩
  have hB3 := hB2.trans (hb3.mono hB2.size)
  have z3 := hb3.size
  have c_aF_3 := hQ1.below hb3 (Nat.le_refl _)
  clear hQ1 hB2
  have rr3 := rangeAt_over r0 hB3 s0
  go_wp2_with (refine wpList_load_mid rfl 26 (.tmp 4) rfl _ 0 rfl (fc F (.slice A F.ps.length c)) _ rr3 Try.underlying26 rfl HIL.out ?_)
  clear rr3
  refine (specUnevenOf_any F hF Q1 _ s hs x hx Q2 bs _ hbn _ c_aF_3.at_ hQ2.at_).mono ?_
  rintro e w4 ⟨rfl, hb4⟩
  have hB4 := hB3.trans (hb4.mono hB3.size)
  have z4 := hb4.size
  clear hB3
  clear c_aF_3 hQ2
  have rr4 := rangeAt_over r0 hB4 s0
  go_wp2_with (refine wpList_load_mid rfl 26 (.tmp 4) rfl _ 0 rfl (fc F (.slice A F.ps.length c)) _ rr4 Try.underlying26 rfl HIL.out ?_)
  clear rr4
  refine (toFace_any F hF A c _ (hAW.go hB4 hws) hnF).mono ?_
  rintro e w5 ⟨Q3, rfl, hQ3, hb5⟩
  have hB5 := hB4.trans (hb5.mono hB4.size)
  have z5 := hb5.size
  clear hB4
  have bd_x0 := blkP_bd hQ3
  obtain ⟨w6, hW6, r6, b6, s6, t6, t60⟩ := stored_face w5 F hW.out (.slice Q3 F.ps.length F.ps.length)
  have HW6 := hide hW6
  clear hW6
  have hB6 := hB5.trans (b6.mono hB5.size)
  have z6 := b6.size
  have d_x0_6 := hQ3.below b6 (Nat.le_refl _)
  clear hQ3 hB5
  have rr6 := rangeAt_over r0 hB6 s0
  go_wp2_with (first | (refine wpList_store_mid rfl 33 (.tmp 12) (.tmp 38) rfl w5.heap.size 0 _ rfl rfl t60 (HII.out _) (fc_one _ _ _ _) ?_; rw [← HW6.out]) | (refine wpList_load_mid rfl 26 (.tmp 4) rfl _ 0 rfl (fc F (.slice A F.ps.length c)) _ rr6 Try.underlying26 rfl HIL.out ?_) | (refine wpList_load_mid rfl 33 (.tmp 12) rfl _ 0 rfl (fc F (.slice Q3 F.ps.length F.ps.length)) _ r6 Try.underlying33 rfl (HII.out _) ?_))
  clear rr6
  refine (toInt64S_any B bs cb _ (hBW.go hB6) hnints).mono ?_
  rintro e w7 ⟨Q4, rfl, hQ4, hb7⟩
  have hB7 := hB6.trans (hb7.mono hB6.size)
  have z7 := hb7.size
  have d_x0_7 := d_x0_6.below hb7 (Nat.le_refl _)
  have xrow_7 := rangeAt_over r6 hb7 (by omega)
  clear d_x0_6 r6 hB6
  have bd_x3 := blkI_bd hQ4
  have rr7 := rangeAt_over r0 hB7 s0
  go_wp2_with (first | (refine wpList_load_mid rfl 26 (.tmp 4) rfl _ 0 rfl (fc F (.slice A F.ps.length c)) _ rr7 Try.underlying26 rfl HIL.out ?_) | (refine wpList_load_mid rfl 33 (.tmp 12) rfl _ 0 rfl (fc F (.slice Q3 F.ps.length F.ps.length)) _ xrow_7 Try.underlying33 rfl (HII.out _) ?_))
  clear rr7
  refine (implUnevenOf_any F hF Q3 _ s hs x hx Q4 bs _ hbn _ d_x0_7.at_ hQ4.at_).mono ?_
  rintro e w8 ⟨rfl, hb8⟩
  have hB8 := hB7.trans (hb8.mono hB7.size)
  have z8 := hb8.size
  have d_x0_8 := d_x0_7.below hb8 (Nat.le_refl _)
  have xrow_8 := rangeAt_over xrow_7 hb8 (by omega)
  have d_x3_8 := hQ4.go hb8
  clear d_x0_7 xrow_7 hQ4 hB7
  have qa8 := rangeAt_over r0 hB8 s0
  have sq8 : w.heap.size < w8.heap.size := by omega
  have sx8 : w5.heap.size < w8.heap.size := by omega
  have hK8 : ∀ w', Below w8.heap.size w8 w' → _ := fun w' hb => keepS hb xrow_8 sx8 qa8 sq8
  have CA8 := hAW.go hB8 hws
  have HEQ := hide (fun A' w => eqFace_same F hF Q3 A' F.ps.length F.ps.length w)
  go_wp2
  refine wp_region_take2 0 1 [2, 3, 4] 3 (vi := .agg (fc F (.slice Q3 F.ps.length F.ps.length)).toArray) (vj := .agg (fc F (.slice A F.ps.length c)).toArray)
    (fun w' => Below w8.heap.size w8 w' ∧ w'.rangeAt w5.heap.size 0 (fc F (.slice Q3 F.ps.length F.ps.length)) ∧ w'.rangeAt w.heap.size 0 (fc F (.slice A F.ps.length c)))
    (by kernel_rfl) rfl (by decide) rfl rfl (by kernel_rfl) (by kernel_rfl) (by kernel_rfl) (by kernel_rfl) (by kernel_rfl) (by kernel_rfl) (fun _ _ _ h => h) (fun _ _ _ h => h)
    (yieldsIf_load_mid (by rfl) _ (.tmp 12) rfl _ 0 rfl _ _ (fun w h => h.2.1) Try.underlying33 rfl (HII.out _)) (yieldsIf_load_mid (by rfl) _ (.tmp 4) rfl _ 0 rfl _ _ (fun w h => h.2.2) Try.underlying26 rfl HIL.out) (hK8 _ (Below.refl _ _).drew) ?_
  simp only [Act.put, List.setIfInBounds_toArray, List.set_cons_zero, List.set_cons_succ]
  refine wpForced_cons rfl ?_
  go_wp2_with fail
  refine (toFace_any F hF A c _ (CA8.go ((Below.refl _ _).drew) (Nat.le_refl _)) hnF).mono ?_
  rintro e wa8 ⟨A3, rfl, hP3, hba8⟩
  have hX8 : Below w8.heap.size w8 wa8 := (Below.refl _ _).drew.trans hba8
  go_wp2_with fail
  refine ⟨hK8 _ hX8, wpForced_cons rfl ?_⟩
  go_wp2_with fail
  refine (HEQ.out _ _ ((d_x0_8.below hX8 (Nat.le_refl _)).at_) hP3.at_).mono ?_
  rintro e w9 ⟨rfl, hbb8⟩
  have hY8 := hX8.trans (hbb8.mono hX8.size)
  go_wp2_with fail
  refine ⟨hK8 _ hY8, wpForced_cons rfl ?_⟩
  go_wp2_with fail
  refine ⟨hK8 _ hY8, wpForced_nil ?_⟩
  clear hK8 CA8 HEQ hP3 hba8 hX8 hbb8 qa8
  have hB9 := hB8.trans (hY8.mono hB8.size)
  have z9 := hY8.size
  have d_x0_9 := d_x0_8.below hY8 (Nat.le_refl _)
  have xrow_9 := rangeAt_over xrow_8 hY8 (by omega)
  have d_x3_9 := d_x3_8.go hY8
  clear d_x0_8 xrow_8 d_x3_8 hB8
  have rr9 := rangeAt_over r0 hB9 s0
  go_wp2_with (first | (refine wpList_load_mid rfl 26 (.tmp 4) rfl _ 0 rfl (fc F (.slice A F.ps.length c)) _ rr9 Try.underlying26 rfl HIL.out ?_) | (refine wpList_load_mid rfl 33 (.tmp 12) rfl _ 0 rfl (fc F (.slice Q3 F.ps.length F.ps.length)) _ xrow_9 Try.underlying33 rfl (HII.out _) ?_))
  clear rr9
  refine (toInt64S_any B bs cb _ (hBW.go hB9) hnints).mono ?_
  rintro e w10 ⟨Q5, rfl, hQ5, hb10⟩
  have hB10 := hB9.trans (hb10.mono hB9.size)
  have z10 := hb10.size
  have d_x0_10 := d_x0_9.below hb10 (Nat.le_refl _)
  have xrow_10 := rangeAt_over xrow_9 hb10 (by omega)
  have d_x3_10 := d_x3_9.go hb10
  clear d_x0_9 xrow_9 d_x3_9 hB9
  have rr10 := rangeAt_over r0 hB10 s0
  go_wp2_with (first | (refine wpList_load_mid rfl 26 (.tmp 4) rfl _ 0 rfl (fc F (.slice A F.ps.length c)) _ rr10 Try.underlying26 rfl HIL.out ?_) | (refine wpList_load_mid rfl 33 (.tmp 12) rfl _ 0 rfl (fc F (.slice Q3 F.ps.length F.ps.length)) _ xrow_10 Try.underlying33 rfl (HII.out _) ?_))
  clear rr10
  refine (eqInt64S_same Q4 Q5 bs _ _ _ hbn d_x3_10.at_ hQ5.at_).mono ?_
  rintro e w11 ⟨rfl, hb11⟩
  have hB11 := hB10.trans (hb11.mono hB10.size)
  have z11 := hb11.size
  have d_x0_11 := d_x0_10.below hb11 (Nat.le_refl _)
  have xrow_11 := rangeAt_over xrow_10 hb11 (by omega)
  have d_x3_11 := d_x3_10.go hb11
  clear d_x0_10 xrow_10 d_x3_10 hB10
  clear hQ5
  go_wp2
  go_ret
  exact ⟨rfl, b0.trans (hB11.mono b0.size)⟩
end Go.Proofs.Ytikmmeohmkjbeaa
