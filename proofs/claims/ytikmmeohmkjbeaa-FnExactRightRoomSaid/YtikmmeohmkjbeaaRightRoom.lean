/- RightRoom: the model and the program give the same answer for every argument, and what comes back owns its memory. -/
import Derived.Test.YtikmmeohmkjbeaaUnevS
import Derived.Test.YtikmmeohmkjbeaaG5
import Derived.Test.YtikmmeohmkjbeaaG2
namespace Go.Proofs.Ytikmmeohmkjbeaa
open Go.RowKit

set_option maxRecDepth 100000 in
set_option maxHeartbeats 16000000 in
theorem lawRightRoom_any (F : Fc) (hF : F.ok) (A : Option Addr) (c : Nat) (s : ByteArray) (hs : s.size ≤ maxLen) (x : Int) (hx : (Lit.int .i64 x).wf = true) (B : Option Addr) (bs : List Int) (cb : Nat) (hbn : bs.length ≤ maxLen) (w : World) (hA : PairsAt w w.heap.size A F.ps) (hB : IntsAt w w.heap.size B bs) :
    Calls Try.prog 4 #[.agg (fc F (.slice A F.ps.length c)).toArray, .string s, .int .i64 x, .slice B bs.length cb] w fun e w' => e = .returned (.bool true) ∧ Below w.heap.size w w' := by
  have hW := hide hF.len
  have r0 := rangeAt_new w (fc F (.slice A F.ps.length c)) 26
  have b0 : Below w.heap.size w (w.alloc (.cells (fc F (.slice A F.ps.length c)).toArray 26)) := (Below.refl _ _).alloc (Nat.le_refl _) _
  have s0 : w.heap.size < (w.alloc (.cells (fc F (.slice A F.ps.length c)).toArray 26)).heap.size := by simp
  have HIL := hide (show (Try.prog.info? 26).map (·.size) = some (fc F (.slice A F.ps.length c)).length from by rw [fc_length hW.out]; kernel_rfl)
  have HII := hide (show ∀ sl, (Try.prog.info? 33).map (·.size) = some (fc F sl).length from fun sl => by rw [fc_length hW.out]; kernel_rfl)
  have HSZ := hide (szFace_any F hF A c 1048576)
  have hmstr := hs
  unfold maxLen at hmstr
  by_cases htstr : 1048576 < s.size
  · have hd : decide ((1048576 : Int) < s.size) = true := by simp; omega
    have hd' : decide (1048576 < s.size) = true := by simp; omega
    go_enter Try.func4, Try.ntmps4
    go_wp2
    go_ret
    exact ⟨rfl, b0⟩
  have hd0str : decide ((1048576 : Int) < s.size) = false := by simp; omega
  have hd1str : decide (1048576 < s.size) = false := by simp; omega
  have hnstr : s.size ≤ 1048576 := by omega
  clear htstr hmstr
  have hmints := hbn
  unfold maxLen at hmints
  by_cases htints : 1048576 < bs.length
  · have hd : decide ((1048576 : Int) < bs.length) = true := by simp; omega
    have hd' : decide (1048576 < bs.length) = true := by simp; omega
    go_enter Try.func4, Try.ntmps4
    go_wp2
    go_ret
    exact ⟨rfl, b0⟩
  have hd0ints : decide ((1048576 : Int) < bs.length) = false := by simp; omega
  have hd1ints : decide (1048576 < bs.length) = false := by simp; omega
  have hnints : bs.length ≤ 1048576 := by omega
  clear htints hmints
  by_cases hbig : szL 1048576 F.ps.length < 0
  · go_enter Try.func4, Try.ntmps4
    go_wp2_with (first | (refine wpList_load_mid rfl 26 (.tmp 4) rfl _ 0 rfl (fc F (.slice A F.ps.length c)) _ r0 Try.underlying26 rfl HIL.out ?_) | (go_at_call 17; refine (HSZ.out _ (by omega) (by omega)).mono ?_; rintro e w1 ⟨rfl, hb1⟩))
    go_ret
    exact ⟨rfl, b0.trans (hb1.mono b0.size)⟩
  have hd : decide (szL 1048576 F.ps.length < 0) = false := by simpa using hbig
  have hnF : F.ps.length ≤ 1048576 := by unfold szL at hbig; split at hbig <;> omega
  have hnF2 : F.ps.length ≤ 2097152 := by omega
  clear hbig
  have hAW := hA.below b0
  have hBW := (hB.below b0).mono b0.size
  have hRn : (rbX F s.data.toList x bs).length ≤ 1048577 := rbX_len F s.data.toList x bs
  have HSP := hide (fun (A : Option Addr) (c : Nat) (B : Option Addr) (cb : Nat) w => specRightRoom_any F hF A c s hs x hx B bs cb hbn w)
  have HIM := hide (fun (A : Option Addr) (c : Nat) (B : Option Addr) (cb : Nat) w => implRightRoom_any F hF A c s hs x hx B bs cb hbn w)
  generalize rbX F s.data.toList x bs = R at HSP HIM hRn
  generalize rbC F s.data.toList x bs = C at HSP HIM
  go_enter Try.func4, Try.ntmps4
  go_wp2_with (refine wpList_load_mid rfl 26 (.tmp 4) rfl _ 0 rfl (fc F (.slice A F.ps.length c)) _ r0 Try.underlying26 rfl HIL.out ?_)
  generalize (w.alloc (.cells (fc F (.slice A F.ps.length c)).toArray 26)) = W0 at *
  have hws := b0.size
  refine (HSZ.out _ (by omega) (by omega)).mono ?_
  rintro e w1 ⟨rfl, hb1⟩
  have hB1 := hb1
  have z1 := hb1.size
  have rr1 := rangeAt_over r0 hB1 s0
  go_wp2_with (refine wpList_load_mid rfl 26 (.tmp 4) rfl _ 0 rfl (fc F (.slice A F.ps.length c)) _ rr1 Try.underlying26 rfl HIL.out ?_)
  clear rr1
  refine (toFace_any F hF A c _ (hAW.go hB1 hws) hnF).mono ?_
  rintro e w2 ⟨Q1, rfl, hQ1, hb2⟩
  have hB2 := hB1.trans (hb2.mono hB1.size)
  have z2 := hb2.size
  clear hB1
  have rr2 := rangeAt_over r0 hB2 s0
  go_wp2_with (refine wpList_load_mid rfl 26 (.tmp 4) rfl _ 0 rfl (fc F (.slice A F.ps.length c)) _ rr2 Try.underlying26 rfl HIL.out ?_)
  clear rr2
  refine (toInt64S_any B bs cb _ (hBW.go hB2) hnints).mono ?_
  rintro e w3 ⟨Q2, rfl, hQ2, hb3⟩
  have hB3 := hB2.trans (hb3.mono hB2.size)
  have z3 := hb3.size
  have c_aF_3 := hQ1.below hb3 (Nat.le_refl _)
  clear hQ1 hB2
  have rr3 := rangeAt_over r0 hB3 s0
  go_wp2_with (refine wpList_load_mid rfl 26 (.tmp 4) rfl _ 0 rfl (fc F (.slice A F.ps.length c)) _ rr3 Try.underlying26 rfl HIL.out ?_)
  clear rr3
  refine (HSP.out Q1 _ Q2 _ _ c_aF_3.at_ hQ2.at_).mono ?_
  rintro e w4 ⟨Aw, cw, rfl, hPw, hb4⟩
  have hB4 := hB3.trans (hb4.mono hB3.size)
  have z4 := hb4.size
  clear hB3
  clear c_aF_3 hQ2
  have pw_4 := hPw.at_
  clear hPw
  have rr4 := rangeAt_over r0 hB4 s0
  go_wp2_with (refine wpList_load_mid rfl 26 (.tmp 4) rfl _ 0 rfl (fc F (.slice A F.ps.length c)) _ rr4 Try.underlying26 rfl HIL.out ?_)
  clear rr4
  refine (toFace_any F hF A c _ (hAW.go hB4 hws) hnF).mono ?_
  rintro e w5 ⟨Q3, rfl, hQ3, hb5⟩
  have hB5 := hB4.trans (hb5.mono hB4.size)
  have z5 := hb5.size
  have pw_5 := pw_4.below (hb5.mono (by omega))
  clear pw_4 hB4
  have bd_x0 := blkP_bd hQ3
  obtain ⟨w6, hW6, r6, b6, s6, t6, t60⟩ := stored_face w5 F hW.out (.slice Q3 F.ps.length F.ps.length)
  have HW6 := hide hW6
  clear hW6
  have hB6 := hB5.trans (b6.mono hB5.size)
  have z6 := b6.size
  have pw_6 := pw_5.below (b6.mono (by omega))
  have d_x0_6 := hQ3.below b6 (Nat.le_refl _)
  clear pw_5 hQ3 hB5
  have rr6 := rangeAt_over r0 hB6 s0
  go_wp2_with (first | (refine wpList_store_mid rfl 33 (.tmp 12) (.tmp 43) rfl w5.heap.size 0 _ rfl rfl t60 (HII.out _) (fc_one _ _ _ _) ?_; rw [← HW6.out]) | (refine wpList_load_mid rfl 26 (.tmp 4) rfl _ 0 rfl (fc F (.slice A F.ps.length c)) _ rr6 Try.underlying26 rfl HIL.out ?_) | (refine wpList_load_mid rfl 33 (.tmp 12) rfl _ 0 rfl (fc F (.slice Q3 F.ps.length F.ps.length)) _ r6 Try.underlying33 rfl (HII.out _) ?_))
  clear rr6
  refine (toInt64S_any B bs cb _ (hBW.go hB6) hnints).mono ?_
  rintro e w7 ⟨Q4, rfl, hQ4, hb7⟩
  have hB7 := hB6.trans (hb7.mono hB6.size)
  have z7 := hb7.size
  have pw_7 := pw_6.below (hb7.mono (by omega))
  have d_x0_7 := d_x0_6.below hb7 (Nat.le_refl _)
  have xrow_7 := rangeAt_over r6 hb7 (by omega)
  clear pw_6 d_x0_6 r6 hB6
  have bd_x3 := blkI_bd hQ4
  have rr7 := rangeAt_over r0 hB7 s0
  go_wp2_with (first | (refine wpList_load_mid rfl 26 (.tmp 4) rfl _ 0 rfl (fc F (.slice A F.ps.length c)) _ rr7 Try.underlying26 rfl HIL.out ?_) | (refine wpList_load_mid rfl 33 (.tmp 12) rfl _ 0 rfl (fc F (.slice Q3 F.ps.length F.ps.length)) _ xrow_7 Try.underlying33 rfl (HII.out _) ?_))
  clear rr7
  refine (HIM.out Q3 _ Q4 _ _ d_x0_7.at_ hQ4.at_).mono ?_
  rintro e w8 ⟨Ag, cg, rfl, hPg, hb8⟩
  have hB8 := hB7.trans (hb8.mono hB7.size)
  have z8 := hb8.size
  have pw_8 := pw_7.below (hb8.mono (by omega))
  have d_x0_8 := d_x0_7.below hb8 (Nat.le_refl _)
  have xrow_8 := rangeAt_over xrow_7 hb8 (by omega)
  have d_x3_8 := hQ4.go hb8
  clear pw_7 d_x0_7 xrow_7 hQ4 hB7
  have bd_g := blkI_bd hPg
  have rr8 := rangeAt_over r0 hB8 s0
  go_wp2_with (first | (refine wpList_load_mid rfl 26 (.tmp 4) rfl _ 0 rfl (fc F (.slice A F.ps.length c)) _ rr8 Try.underlying26 rfl HIL.out ?_) | (refine wpList_load_mid rfl 33 (.tmp 12) rfl _ 0 rfl (fc F (.slice Q3 F.ps.length F.ps.length)) _ xrow_8 Try.underlying33 rfl (HII.out _) ?_))
  clear rr8
  refine (eqInt64S_same Ag Aw R cg cw _ (by unfold maxLen; omega) hPg.at_ (pw_8.mono (by omega))).mono ?_
  rintro e w9 ⟨rfl, hb9⟩
  have hB9 := hB8.trans (hb9.mono hB8.size)
  have z9 := hb9.size
  have pw_9 := pw_8.below (hb9.mono (by omega))
  have d_x0_9 := d_x0_8.below hb9 (Nat.le_refl _)
  have xrow_9 := rangeAt_over xrow_8 hb9 (by omega)
  have d_x3_9 := d_x3_8.go hb9
  have pg_9 := hPg.go hb9
  clear pw_8 d_x0_8 xrow_8 d_x3_8 hPg hB8
  have qa9 := rangeAt_over r0 hB9 s0
  have sq9 : w.heap.size < w9.heap.size := by omega
  have sx9 : w5.heap.size < w9.heap.size := by omega
  have hK9 : ∀ w', Below w9.heap.size w9 w' → _ := fun w' hb => keepS hb xrow_9 sx9 qa9 sq9
  have CA9 := hAW.go hB9 hws
  have HEQ := hide (fun A' w => eqFace_same F hF Q3 A' F.ps.length F.ps.length w)
  go_wp2
  refine wp_region_take2 0 1 [2, 3, 4] 3 (vi := .agg (fc F (.slice Q3 F.ps.length F.ps.length)).toArray) (vj := .agg (fc F (.slice A F.ps.length c)).toArray)
    (fun w' => Below w9.heap.size w9 w' ∧ w'.rangeAt w5.heap.size 0 (fc F (.slice Q3 F.ps.length F.ps.length)) ∧ w'.rangeAt w.heap.size 0 (fc F (.slice A F.ps.length c)))
    (by kernel_rfl) rfl (by decide) rfl rfl (by kernel_rfl) (by kernel_rfl) (by kernel_rfl) (by kernel_rfl) (by kernel_rfl) (by kernel_rfl) (fun _ _ _ h => h) (fun _ _ _ h => h)
    (yieldsIf_load_mid (by rfl) _ (.tmp 12) rfl _ 0 rfl _ _ (fun w h => h.2.1) Try.underlying33 rfl (HII.out _)) (yieldsIf_load_mid (by rfl) _ (.tmp 4) rfl _ 0 rfl _ _ (fun w h => h.2.2) Try.underlying26 rfl HIL.out) (hK9 _ (Below.refl _ _).drew) ?_
  simp only [Act.put, List.setIfInBounds_toArray, List.set_cons_zero, List.set_cons_succ]
  refine wpForced_cons rfl ?_
  go_wp2_with fail
  refine (toFace_any F hF A c _ (CA9.go ((Below.refl _ _).drew) (Nat.le_refl _)) hnF).mono ?_
  rintro e wa9 ⟨A3, rfl, hP3, hba9⟩
  have hX9 : Below w9.heap.size w9 wa9 := (Below.refl _ _).drew.trans hba9
  go_wp2_with fail
  refine ⟨hK9 _ hX9, wpForced_cons rfl ?_⟩
  go_wp2_with fail
  refine (HEQ.out _ _ ((d_x0_9.below hX9 (Nat.le_refl _)).at_) hP3.at_).mono ?_
  rintro e w10 ⟨rfl, hbb9⟩
  have hY9 := hX9.trans (hbb9.mono hX9.size)
  go_wp2_with fail
  refine ⟨hK9 _ hY9, wpForced_cons rfl ?_⟩
  go_wp2_with fail
  refine ⟨hK9 _ hY9, wpForced_nil ?_⟩
  clear hK9 CA9 HEQ hP3 hba9 hX9 hbb9 qa9
  have hB10 := hB9.trans (hY9.mono hB9.size)
  have z10 := hY9.size
  have pw_10 := pw_9.below (hY9.mono (by omega))
  have d_x0_10 := d_x0_9.below hY9 (Nat.le_refl _)
  have xrow_10 := rangeAt_over xrow_9 hY9 (by omega)
  have d_x3_10 := d_x3_9.go hY9
  have pg_10 := pg_9.go hY9
  clear pw_9 d_x0_9 xrow_9 d_x3_9 pg_9 hB9
  have rr10 := rangeAt_over r0 hB10 s0
  go_wp2_with (first | (refine wpList_load_mid rfl 26 (.tmp 4) rfl _ 0 rfl (fc F (.slice A F.ps.length c)) _ rr10 Try.underlying26 rfl HIL.out ?_) | (refine wpList_load_mid rfl 33 (.tmp 12) rfl _ 0 rfl (fc F (.slice Q3 F.ps.length F.ps.length)) _ xrow_10 Try.underlying33 rfl (HII.out _) ?_))
  clear rr10
  refine (toInt64S_any B bs cb _ (hBW.go hB10) hnints).mono ?_
  rintro e w11 ⟨Q5, rfl, hQ5, hb11⟩
  have hB11 := hB10.trans (hb11.mono hB10.size)
  have z11 := hb11.size
  have pw_11 := pw_10.below (hb11.mono (by omega))
  have d_x0_11 := d_x0_10.below hb11 (Nat.le_refl _)
  have xrow_11 := rangeAt_over xrow_10 hb11 (by omega)
  have d_x3_11 := d_x3_10.go hb11
  have pg_11 := pg_10.go hb11
  clear pw_10 d_x0_10 xrow_10 d_x3_10 pg_10 hB10
  have rr11 := rangeAt_over r0 hB11 s0
  go_wp2_with (first | (refine wpList_load_mid rfl 26 (.tmp 4) rfl _ 0 rfl (fc F (.slice A F.ps.length c)) _ rr11 Try.underlying26 rfl HIL.out ?_) | (refine wpList_load_mid rfl 33 (.tmp 12) rfl _ 0 rfl (fc F (.slice Q3 F.ps.length F.ps.length)) _ xrow_11 Try.underlying33 rfl (HII.out _) ?_))
  clear rr11
  refine (eqInt64S_same Q4 Q5 bs _ _ _ hbn d_x3_11.at_ hQ5.at_).mono ?_
  rintro e w12 ⟨rfl, hb12⟩
  have hB12 := hB11.trans (hb12.mono hB11.size)
  have z12 := hb12.size
  have pw_12 := pw_11.below (hb12.mono (by omega))
  have d_x0_12 := d_x0_11.below hb12 (Nat.le_refl _)
  have xrow_12 := rangeAt_over xrow_11 hb12 (by omega)
  have d_x3_12 := d_x3_11.go hb12
  have pg_12 := pg_11.go hb12
  clear pw_11 d_x0_11 xrow_11 d_x3_11 pg_11 hB11
  clear hQ5
  have rr12 := rangeAt_over r0 hB12 s0
  go_wp2_with (first | (refine wpList_load_mid rfl 26 (.tmp 4) rfl _ 0 rfl (fc F (.slice A F.ps.length c)) _ rr12 Try.underlying26 rfl HIL.out ?_) | (refine wpList_load_mid rfl 33 (.tmp 12) rfl _ 0 rfl (fc F (.slice Q3 F.ps.length F.ps.length)) _ xrow_12 Try.underlying33 rfl (HII.out _) ?_))
  clear rr12
  refine (markFace_any F hF Q3 _ w4.heap.size _ hnF2 d_x0_12).mono ?_
  rintro e w13 ⟨rfl, hg13, _⟩
  have hB13 := hB12.trans (grown_toBelow hg13 (by omega) (fun k hk => by have := bd_x0 k hk; omega))
  have z13 := hg13.size
  have pw_13 := grown_intsAt hg13 pw_12 (by omega) (fun k hk => by have := bd_x0 k hk; omega)
  have d_x3_13 := grown_intsIn hg13 d_x3_12 (fun b hb e => by have h1 := bd_x3 b hb; have h2 := bd_x0 _ e.symm; omega)
  have pg_13 := grown_intsIn hg13 pg_12 (fun b hb e => by have h1 := bd_g b hb; have h2 := bd_x0 _ e.symm; omega)
  clear pw_12 d_x3_12 pg_12 hB12
  have hdk13 : decide ((1 : Int) + 3 * (F.ps.length : Int) < 0) = false := by simp; omega
  clear d_x0_12
  have rr13 := rangeAt_over r0 hB13 s0
  go_wp2_with (refine wpList_load_mid rfl 26 (.tmp 4) rfl _ 0 rfl (fc F (.slice A F.ps.length c)) _ rr13 Try.underlying26 rfl HIL.out ?_)
  clear rr13
  have hkc : (1 : Int) + 3 * (F.ps.length : Int) = ((1 + 3 * F.ps.length : Nat) : Int) := by omega
  rw [hkc]
  clear hkc
  have hmk13 := markInt64S_any Q4 bs bs.length (1 + 3 * F.ps.length) w6.heap.size _ (by omega) (by omega) d_x3_13
  refine hmk13.mono ?_
  rintro e w14 ⟨rfl, hg14, _⟩
  clear hmk13
  have hB14 := hB13.trans (grown_toBelow hg14 (by omega) (fun k hk => by have := bd_x3 k hk; omega))
  have z14 := hg14.size
  have pw_14 := grown_intsAt hg14 pw_13 (by omega) (fun k hk => by have := bd_x3 k hk; omega)
  have pg_14 := grown_intsIn hg14 pg_13 (fun b hb e => by have h1 := bd_g b hb; have h2 := bd_x3 _ e.symm; omega)
  clear pw_13 pg_13 hB13
  have hdk14 : decide (((1 + 3 * F.ps.length + bs.length : Nat) : Int) < 0) = false := by simp; omega
  clear d_x3_13
  have rr14 := rangeAt_over r0 hB14 s0
  go_wp2_with (refine wpList_load_mid rfl 26 (.tmp 4) rfl _ 0 rfl (fc F (.slice A F.ps.length c)) _ rr14 Try.underlying26 rfl HIL.out ?_)
  clear rr14
  refine (eqInt64S_same Ag Aw R cg cw _ (by unfold maxLen; omega) pg_14.at_ (pw_14.mono (by omega))).mono ?_
  rintro e w15 ⟨rfl, hb15⟩
  have hB15 := hB14.trans (hb15.mono hB14.size)
  have z15 := hb15.size
  have pw_15 := pw_14.below (hb15.mono (by omega))
  have pg_15 := pg_14.go hb15
  clear pw_14 pg_14 hB14
  have rr15 := rangeAt_over r0 hB15 s0
  go_wp2_with (refine wpList_load_mid rfl 26 (.tmp 4) rfl _ 0 rfl (fc F (.slice A F.ps.length c)) _ rr15 Try.underlying26 rfl HIL.out ?_)
  clear rr15
  refine (markI1_any Ag R _ _ _ (by omega) pg_15).mono ?_
  rintro e w16 ⟨rfl, hg16, hM⟩
  have hB16 := hB15.trans (grown_toBelow hg16 (by omega) (fun k hk => by have := bd_g k hk; omega))
  have z16 := hg16.size
  have pw_16 := grown_intsAt hg16 pw_15 (by omega) (fun k hk => by have := bd_g k hk; omega)
  clear pw_15 hB15
  clear pg_15
  have hdq : decide (((1 + R.length : Nat) : Int) < 0) = false := by simp; omega
  have HH := hide (fun (W : World) (L : Nat) (h : IntsIn W L Ag (marksI 1 R.length)) => heldI1_any Ag R.length cg L W (by omega) h)
  generalize ((1 + R.length : Nat) : Int) = Qn at hdq HH ⊢
  have rr16 := rangeAt_over r0 hB16 s0
  go_wp2_with (refine wpList_load_mid rfl 26 (.tmp 4) rfl _ 0 rfl (fc F (.slice A F.ps.length c)) _ rr16 Try.underlying26 rfl HIL.out ?_)
  clear rr16
  refine (HH.out _ _ hM).mono ?_
  rintro e w17 ⟨rfl, hb17⟩
  have hB17 := hB16.trans (hb17.mono hB16.size)
  have z17 := hb17.size
  have pw_17 := pw_16.below (hb17.mono (by omega))
  have pm_17 := hM.go hb17
  clear pw_16 hM hB16
  have rr17 := rangeAt_over r0 hB17 s0
  go_wp2_with (refine wpList_load_mid rfl 26 (.tmp 4) rfl _ 0 rfl (fc F (.slice A F.ps.length c)) _ rr17 Try.underlying26 rfl HIL.out ?_)
  clear rr17
  refine (toFace_any F hF A c _ (hAW.go hB17 hws) hnF).mono ?_
  rintro e w18 ⟨Q6, rfl, hQ6, hb18⟩
  have hB18 := hB17.trans (hb18.mono hB17.size)
  have z18 := hb18.size
  have pw_18 := pw_17.below (hb18.mono (by omega))
  have pm_18 := pm_17.go hb18
  clear pw_17 pm_17 hB17
  have rr18 := rangeAt_over r0 hB18 s0
  go_wp2_with (refine wpList_load_mid rfl 26 (.tmp 4) rfl _ 0 rfl (fc F (.slice A F.ps.length c)) _ rr18 Try.underlying26 rfl HIL.out ?_)
  clear rr18
  refine (toInt64S_any B bs cb _ (hBW.go hB18) hnints).mono ?_
  rintro e w19 ⟨Q7, rfl, hQ7, hb19⟩
  have hB19 := hB18.trans (hb19.mono hB18.size)
  have z19 := hb19.size
  have pw_19 := pw_18.below (hb19.mono (by omega))
  have pm_19 := pm_18.go hb19
  have c_aF_19 := hQ6.below hb19 (Nat.le_refl _)
  clear pw_18 pm_18 hQ6 hB18
  have rr19 := rangeAt_over r0 hB19 s0
  go_wp2_with (refine wpList_load_mid rfl 26 (.tmp 4) rfl _ 0 rfl (fc F (.slice A F.ps.length c)) _ rr19 Try.underlying26 rfl HIL.out ?_)
  clear rr19
  refine (HIM.out Q6 _ Q7 _ _ c_aF_19.at_ hQ7.at_).mono ?_
  rintro e w20 ⟨Ah, ch, rfl, hPh, hb20⟩
  have hB20 := hB19.trans (hb20.mono hB19.size)
  have z20 := hb20.size
  have pw_20 := pw_19.below (hb20.mono (by omega))
  have pm_20 := pm_19.go hb20
  clear pw_19 pm_19 hB19
  clear c_aF_19 hQ7
  have bd_h := blkI_bd hPh
  have rr20 := rangeAt_over r0 hB20 s0
  go_wp2_with (refine wpList_load_mid rfl 26 (.tmp 4) rfl _ 0 rfl (fc F (.slice A F.ps.length c)) _ rr20 Try.underlying26 rfl HIL.out ?_)
  clear rr20
  refine (eqInt64S_same Ah Aw R ch cw _ (by unfold maxLen; omega) hPh.at_ (pw_20.mono (by omega))).mono ?_
  rintro e w21 ⟨rfl, hb21⟩
  have hB21 := hB20.trans (hb21.mono hB20.size)
  have z21 := hb21.size
  have pw_21 := pw_20.below (hb21.mono (by omega))
  have pm_21 := pm_20.go hb21
  have ph_21 := hPh.go hb21
  clear pw_20 pm_20 hPh hB20
  clear ph_21
  have rr21 := rangeAt_over r0 hB21 s0
  go_wp2_with (refine wpList_load_mid rfl 26 (.tmp 4) rfl _ 0 rfl (fc F (.slice A F.ps.length c)) _ rr21 Try.underlying26 rfl HIL.out ?_)
  clear rr21
  refine (HH.out _ _ pm_21).mono ?_
  rintro e w22 ⟨rfl, hb22⟩
  have hB22 := hB21.trans (hb22.mono hB21.size)
  have z22 := hb22.size
  have pw_22 := pw_21.below (hb22.mono (by omega))
  have pm_22 := pm_21.go hb22
  clear pw_21 pm_21 hB21
  go_wp2
  go_ret
  exact ⟨rfl, b0.trans (hB22.mono b0.size)⟩
end Go.Proofs.Ytikmmeohmkjbeaa
