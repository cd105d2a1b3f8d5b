/- CheckSheets: the model and the program give the same answer for every argument. -/
import Derived.Test.YtjgcadohjccfaaaGdU
import Derived.Test.YtjgcadohjccfaaaG5
import Derived.Test.YtjgcadohjccfaaaMarkG
import Derived.Test.YtjgcadohjccfaaaGs
import Derived.Test.YtjgcadohjccfaaaG2
namespace Go.Proofs.Ytjgcadohjccfaaa
open Go.RowKit

set_option maxRecDepth 100000 in
set_option maxHeartbeats 16000000 in
theorem lawCheckSheets_any (F : Fc) (hF : F.ok) (A : Option Addr) (c : Nat) (ch : Int) (hch : -32768 ≤ ch ∧ ch ≤ 32767) (cp : Int) (hcp : i8ok cp) (s : ByteArray) (hs : s.size ≤ maxLen) (B : Option Addr) (bs : List Int) (cb : Nat) (hbn : bs.length ≤ maxLen) (w : World) (hG : Glob w) (hA : PairsAt w w.heap.size A F.ps) (hB : IntsAt w w.heap.size B bs) :
    Calls Try.prog 9 #[.agg (fc F (.slice A F.ps.length c)).toArray, .agg #[.int .i16 ch, .int .i8 cp], .string s, .slice B bs.length cb] w fun e w' => e = .returned (.bool true) ∧ Below w.heap.size w w' := by
  have hW := hide hF.len
  have HIL := hide (show (Try.prog.info? 33).map (·.size) = some (fc F (.slice A F.ps.length c)).length from by rw [fc_length hW.out]; kernel_rfl)
  have HII := hide (show ∀ sl, (Try.prog.info? 40).map (·.size) = some (fc F sl).length from fun sl => by rw [fc_length hW.out]; kernel_rfl)
  have HSZ := hide (szFace_any F hF A c 1048576)
  have b0 : Below w.heap.size w ((w.alloc (.cells (fc F (.slice A F.ps.length c)).toArray 33)).alloc (.cells #[.int .i16 ch, .int .i8 cp] 25)) := (((Below.refl _ _).alloc (by simp) _).alloc (by simp) _)
  have s0 : w.heap.size < ((w.alloc (.cells (fc F (.slice A F.ps.length c)).toArray 33)).alloc (.cells #[.int .i16 ch, .int .i8 cp] 25)).heap.size := by simp; omega
  have s0n : w.heap.size + 2 ≤ ((w.alloc (.cells (fc F (.slice A F.ps.length c)).toArray 33)).alloc (.cells #[.int .i16 ch, .int .i8 cp] 25)).heap.size := by simp
  have r0 : ((w.alloc (.cells (fc F (.slice A F.ps.length c)).toArray 33)).alloc (.cells #[.int .i16 ch, .int .i8 cp] 25)).rangeAt (w.heap.size) 0 (fc F (.slice A F.ps.length c)) := (World.rangeAt_alloc (rangeAt_newg (w := w) (cs := (fc F (.slice A F.ps.length c)).toArray) (t := 33) (g := w.heap.size) (by simp) rfl) _)
  have rC : ((w.alloc (.cells (fc F (.slice A F.ps.length c)).toArray 33)).alloc (.cells #[.int .i16 ch, .int .i8 cp] 25)).rangeAt (w.heap.size + 1) 0 [.int .i16 ch, .int .i8 cp] := (rangeAt_newg (w := (w.alloc (.cells (fc F (.slice A F.ps.length c)).toArray 33))) (cs := #[.int .i16 ch, .int .i8 cp]) (t := 25) (g := w.heap.size + 1) (by simp) rfl)
  have HIC := hide (show (Try.prog.info? 25).map (·.size) = some ([.int .i16 ch, .int .i8 cp] : List Value).length from by kernel_rfl)
  have hm_s := hs
  unfold maxLen at hm_s
  by_cases ht_s : 1048576 < s.size
  · have hd : decide ((1048576 : Int) < s.size) = true := by simp; omega
    have hd' : decide (1048576 < s.size) = true := by simp; omega
    go_enter Try.func9, Try.ntmps9
    go_wp2
    go_ret
    exact ⟨rfl, b0⟩
  have hd0_s : decide ((1048576 : Int) < s.size) = false := by simp; omega
  have hd1_s : decide (1048576 < s.size) = false := by simp; omega
  have hn_s : s.size ≤ 1048576 := by omega
  clear ht_s hm_s
  have hmints := hbn
  unfold maxLen at hmints
  by_cases htints : 1048576 < bs.length
  · have hd : decide ((1048576 : Int) < bs.length) = true := by simp; omega
    have hd' : decide (1048576 < bs.length) = true := by simp; omega
    go_enter Try.func9, Try.ntmps9
    go_wp2
    go_ret
    exact ⟨rfl, b0⟩
  have hd0ints : decide ((1048576 : Int) < bs.length) = false := by simp; omega
  have hd1ints : decide (1048576 < bs.length) = false := by simp; omega
  have hnints : bs.length ≤ 1048576 := by omega
  clear htints hmints
  by_cases hbig : szL 1048576 F.ps.length < 0
  · go_enter Try.func9, Try.ntmps9
    go_wp2_with (first | (refine wpList_load_mid rfl 33 (.tmp 4) rfl _ 0 rfl (fc F (.slice A F.ps.length c)) _ r0 Try.underlying33 rfl HIL.out ?_) | (go_at_call 18; refine (HSZ.out _ (by omega) (by omega)).mono ?_; rintro e w1 ⟨rfl, hb1⟩))
    go_ret
    exact ⟨rfl, b0.trans (hb1.mono b0.size)⟩
  have hd : decide (szL 1048576 F.ps.length < 0) = false := by simpa using hbig
  have hnF : F.ps.length ≤ 1048576 := by unfold szL at hbig; split at hbig <;> omega
  have hnF2 : F.ps.length ≤ 2097152 := by omega
  clear hbig
  have hAW := hA.below b0
  have hBW := (hB.below b0).mono b0.size
  go_enter Try.func9, Try.ntmps9
  go_wp2_with (refine wpList_load_mid rfl 33 (.tmp 4) rfl _ 0 rfl (fc F (.slice A F.ps.length c)) _ r0 Try.underlying33 rfl HIL.out ?_)
  generalize ((w.alloc (.cells (fc F (.slice A F.ps.length c)).toArray 33)).alloc (.cells #[.int .i16 ch, .int .i8 cp] 25)) = W0 at *
  have hws := b0.size
  refine (HSZ.out _ (by omega) (by omega)).mono ?_
  rintro e w1 ⟨rfl, hb1⟩
  have hB1 := hb1
  have z1 := hb1.size
  go_wp2
  have r01 := rangeAt_over r0 hB1 s0
  have rC1 := rangeAt_over rC hB1 (by omega)
  have HK1 := hide (fun w' (hb : Below w1.heap.size w1 w') => (⟨rangeAt_below r01 hb (by omega), rangeAt_below rC1 hb (by omega)⟩ : w'.rangeAt (w.heap.size) 0 (fc F (.slice A F.ps.length c)) ∧ w'.rangeAt (w.heap.size + 1) 0 [.int .i16 ch, .int .i8 cp]))
  refine wp_region_script [(0, true), (2, true), (4, true), (5, true), (1, false), (3, false), (6, false), (7, false), (8, false), (9, true), (10, true), (11, false), (12, false)]
    (fun w' => Below w1.heap.size w1 w') (by kernel_rfl) (by kernel_rfl) (of_decide_eq_true (by kernel_rfl)) (by kernel_rfl) (fun _ _ d _ _ h => by cases d <;> exact h) ((Below.refl _ _).drew) ?_
  refine sc_take (.agg (fc F (.slice A F.ps.length c)).toArray) rfl (yieldsIf_load_mid (by rfl) _ (.tmp 4) rfl _ 0 rfl _ _ (fun w h => (HK1.out w h).1) Try.underlying33 rfl HIL.out) ?_
  refine sc_take (.agg #[.int .i16 ch, .int .i8 cp]) rfl (yieldsIf_load_mid (by rfl) _ (.tmp 5) rfl _ 0 rfl _ _ (fun w h => (HK1.out w h).2) Try.underlying25 rfl HIC.out) ?_
  refine sc_take _ rfl (.inl ⟨rfl, fun w _ => rfl⟩) ?_
  refine sc_take _ rfl (.inl ⟨rfl, fun w _ => rfl⟩) ?_
  simp only [Act.put, List.setIfInBounds_toArray, List.set_cons_zero, List.set_cons_succ]
  refine sc_step rfl ?_
  go_wp2_with fail
  refine (toFace_any F hF A c _ ((hAW.go hB1 hws).go ((Below.refl _ _).drew) (Nat.le_refl _)) hnF).mono ?_
  rintro e w2 ⟨Q1, rfl, hQ1, hb2⟩
  replace hb2 := (Below.refl _ _).drew.trans hb2
  change Below w1.heap.size w1 w2 at hb2
  change PairsIn w2 w1.heap.size Q1 F.ps at hQ1
  have hB2 := hB1.trans (hb2.mono hB1.size)
  have z2 := hb2.size
  clear hB1
  have qq1 : Below w1.heap.size w1 w2 := hb2
  go_wp2_with fail
  refine ⟨qq1, sc_step rfl ?_⟩
  go_wp2_with fail
  refine (toSheet_any ch cp _).mono ?_
  rintro e w3 ⟨rfl, hb3⟩
  have hB3 := hB2.trans (hb3.mono hB2.size)
  have z3 := hb3.size
  have c_aF_3 := hQ1.below hb3 (Nat.le_refl _)
  clear hQ1 hB2
  have qq2 := qq1.trans (hb3.mono qq1.size)
  clear qq1
  go_wp2_with fail
  refine ⟨qq2, sc_step rfl ?_⟩
  go_wp2_with fail
  refine (toInt64S_any B bs cb _ (hBW.go hB3) hnints).mono ?_
  rintro e w4 ⟨Q2, rfl, hQ2, hb4⟩
  have hB4 := hB3.trans (hb4.mono hB3.size)
  have z4 := hb4.size
  have c_aF_4 := c_aF_3.below hb4 (Nat.le_refl _)
  clear c_aF_3 hB3
  have qq3 := qq2.trans (hb4.mono qq2.size)
  clear qq2
  go_wp2_with fail
  refine ⟨qq3, sc_step rfl ?_⟩
  go_wp2_with fail
  refine (specCheckSheets_any F hF Q1 _ ch hch cp hcp s hs Q2 bs _ hbn _ c_aF_4.at_ hQ2.at_).mono ?_
  rintro e w5 ⟨rfl, hb5⟩
  have hB5 := hB4.trans (hb5.mono hB4.size)
  have z5 := hb5.size
  clear hB4
  clear c_aF_4 hQ2
  have qq4 := qq3.trans (hb5.mono qq3.size)
  clear qq3
  go_wp2_with fail
  refine ⟨qq4, sc_step rfl ?_⟩
  go_wp2_with fail
  refine ⟨qq4, sc_take _ rfl (.inl ⟨rfl, fun w _ => rfl⟩) (sc_take _ rfl (.inl ⟨rfl, fun w _ => rfl⟩) ?_)⟩
  simp only [Act.put, List.setIfInBounds_toArray, List.set_cons_zero, List.set_cons_succ]
  refine sc_step rfl ?_
  go_wp2_with fail
  refine ⟨qq4, sc_step rfl ?_⟩
  go_wp2_with fail
  refine ⟨qq4, sc_nil ?_⟩
  clear qq4 HK1 r01 rC1
  have rr5 := rangeAt_over r0 hB5 s0
  go_wp2_with (refine wpList_load_mid rfl 33 (.tmp 4) rfl _ 0 rfl (fc F (.slice A F.ps.length c)) _ rr5 Try.underlying33 rfl HIL.out ?_)
  clear rr5
  refine (toFace_any F hF A c _ (hAW.go hB5 hws) hnF).mono ?_
  rintro e w6 ⟨Q3, rfl, hQ3, hb6⟩
  have hB6 := hB5.trans (hb6.mono hB5.size)
  have z6 := hb6.size
  clear hB5
  have bd_x0 := blkP_bd hQ3
  obtain ⟨w7, hW7, r7, b7, s7, t7, t70⟩ := stored_face w6 F hW.out (.slice Q3 F.ps.length F.ps.length)
  have HW7 := hide hW7
  clear hW7
  have hB7 := hB6.trans (b7.mono hB6.size)
  have z7 := b7.size
  have d_x0_7 := hQ3.below b7 (Nat.le_refl _)
  clear hQ3 hB6
  have rr7 := rangeAt_over r0 hB7 s0
  go_wp2_with (first | (refine wpList_store_mid rfl 40 (.tmp 12) (.tmp 39) rfl w6.heap.size 0 _ rfl rfl t70 (HII.out _) (fc_one _ _ _ _) ?_; rw [← HW7.out]) | (refine wpList_load_mid rfl 33 (.tmp 4) rfl _ 0 rfl (fc F (.slice A F.ps.length c)) _ rr7 Try.underlying33 rfl HIL.out ?_) | (refine wpList_load_mid rfl 40 (.tmp 12) rfl _ 0 rfl (fc F (.slice Q3 F.ps.length F.ps.length)) _ r7 Try.underlying40 rfl (HII.out _) ?_))
  clear rr7
  refine (toInt64S_any B bs cb _ (hBW.go hB7) hnints).mono ?_
  rintro e w8 ⟨Q4, rfl, hQ4, hb8⟩
  have hB8 := hB7.trans (hb8.mono hB7.size)
  have z8 := hb8.size
  have d_x0_8 := d_x0_7.below hb8 (Nat.le_refl _)
  have xrow_8 := rangeAt_over r7 hb8 (by omega)
  clear d_x0_7 r7 hB7
  have bd_x3 := blkI_bd hQ4
  go_wp2
  have rC8 := rangeAt_over rC hB8 (by omega)
  have HK8 := hide (fun w' (hb : Below w8.heap.size w8 w') => (⟨rangeAt_below xrow_8 hb (by omega), rangeAt_below rC8 hb (by omega)⟩ : w'.rangeAt w6.heap.size 0 (fc F (.slice Q3 F.ps.length F.ps.length)) ∧ w'.rangeAt (w.heap.size + 1) 0 [.int .i16 ch, .int .i8 cp]))
  refine wp_region_script [(0, true), (1, true), (3, true), (4, true), (2, false), (5, false), (6, false), (7, true), (8, true), (9, false), (10, false)]
    (fun w' => Below w8.heap.size w8 w') (by kernel_rfl) (by kernel_rfl) (of_decide_eq_true (by kernel_rfl)) (by kernel_rfl) (fun _ _ d _ _ h => by cases d <;> exact h) ((Below.refl _ _).drew) ?_
  refine sc_take (.agg (fc F (.slice Q3 F.ps.length F.ps.length)).toArray) rfl (yieldsIf_load_mid (by rfl) _ (.tmp 12) rfl _ 0 rfl _ _ (fun w h => (HK8.out w h).1) Try.underlying40 rfl (HII.out _)) ?_
  refine sc_take (.agg #[.int .i16 ch, .int .i8 cp]) rfl (yieldsIf_load_mid (by rfl) _ (.tmp 5) rfl _ 0 rfl _ _ (fun w h => (HK8.out w h).2) Try.underlying25 rfl HIC.out) ?_
  refine sc_take _ rfl (.inl ⟨rfl, fun w _ => rfl⟩) ?_
  refine sc_take _ rfl (.inl ⟨rfl, fun w _ => rfl⟩) ?_
  simp only [Act.put, List.setIfInBounds_toArray, List.set_cons_zero, List.set_cons_succ]
  refine sc_step rfl ?_
  go_wp2_with fail
  refine (toSheet_any ch cp _).mono ?_
  rintro e w9 ⟨rfl, hb9⟩
  replace hb9 := (Below.refl _ _).drew.trans hb9
  change Below w8.heap.size w8 w9 at hb9
  have hB9 := hB8.trans (hb9.mono hB8.size)
  have z9 := hb9.size
  have d_x0_9 := d_x0_8.below hb9 (Nat.le_refl _)
  have xrow_9 := rangeAt_over xrow_8 hb9 (by omega)
  have d_x3_9 := hQ4.go hb9
  clear d_x0_8 xrow_8 hQ4 hB8
  have qq5 : Below w8.heap.size w8 w9 := hb9
  go_wp2_with fail
  refine ⟨qq5, sc_step rfl ?_⟩
  go_wp2_with fail
  refine (implCheckSheets_any F hF Q3 _ ch hch cp hcp s hs Q4 bs _ hbn _ ((hG.below b0).below hB9) d_x0_9.at_ d_x3_9.at_).mono ?_
  rintro e w10 ⟨rfl, hb10⟩
  have hB10 := hB9.trans (hb10.mono hB9.size)
  have z10 := hb10.size
  have d_x0_10 := d_x0_9.below hb10 (Nat.le_refl _)
  have xrow_10 := rangeAt_over xrow_9 hb10 (by omega)
  have d_x3_10 := d_x3_9.go hb10
  clear d_x0_9 xrow_9 d_x3_9 hB9
  have qq6 := qq5.trans (hb10.mono qq5.size)
  clear qq5
  go_wp2_with fail
  refine ⟨qq6, sc_step rfl ?_⟩
  go_wp2_with fail
  refine ⟨qq6, sc_take _ rfl (.inl ⟨rfl, fun w _ => rfl⟩) (sc_take _ rfl (.inl ⟨rfl, fun w _ => rfl⟩) ?_)⟩
  simp only [Act.put, List.setIfInBounds_toArray, List.set_cons_zero, List.set_cons_succ]
  refine sc_step rfl ?_
  go_wp2_with fail
  refine ⟨qq6, sc_step rfl ?_⟩
  go_wp2_with fail
  refine ⟨qq6, sc_nil ?_⟩
  clear qq6 HK8 rC8
  have qa10 := rangeAt_over r0 hB10 s0
  have sq10 : w.heap.size < w10.heap.size := by omega
  have sx10 : w6.heap.size < w10.heap.size := by omega
  have hK10 : ∀ w', Below w10.heap.size w10 w' → _ := fun w' hb => keepS hb xrow_10 sx10 qa10 sq10
  have CA10 := hAW.go hB10 hws
  have HEQ := hide (fun A' w => eqFace_same F hF Q3 A' F.ps.length F.ps.length w)
  go_wp2
  refine wp_region_take2 0 1 [2, 3, 4] 3 (vi := .agg (fc F (.slice Q3 F.ps.length F.ps.length)).toArray) (vj := .agg (fc F (.slice A F.ps.length c)).toArray)
    (fun w' => Below w10.heap.size w10 w' ∧ w'.rangeAt w6.heap.size 0 (fc F (.slice Q3 F.ps.length F.ps.length)) ∧ w'.rangeAt w.heap.size 0 (fc F (.slice A F.ps.length c)))
    (by kernel_rfl) rfl (by decide) rfl rfl (by kernel_rfl) (by kernel_rfl) (by kernel_rfl) (by kernel_rfl) (by kernel_rfl) (by kernel_rfl) (fun _ _ _ h => h) (fun _ _ _ h => h)
    (yieldsIf_load_mid (by rfl) _ (.tmp 12) rfl _ 0 rfl _ _ (fun w h => h.2.1) Try.underlying40 rfl (HII.out _)) (yieldsIf_load_mid (by rfl) _ (.tmp 4) rfl _ 0 rfl _ _ (fun w h => h.2.2) Try.underlying33 rfl HIL.out) (hK10 _ (Below.refl _ _).drew) ?_
  simp only [Act.put, List.setIfInBounds_toArray, List.set_cons_zero, List.set_cons_succ]
  refine wpForced_cons rfl ?_
  go_wp2_with fail
  refine (toFace_any F hF A c _ (CA10.go ((Below.refl _ _).drew) (Nat.le_refl _)) hnF).mono ?_
  rintro e wa10 ⟨A3, rfl, hP3, hba10⟩
  have hX10 : Below w10.heap.size w10 wa10 := (Below.refl _ _).drew.trans hba10
  go_wp2_with fail
  refine ⟨hK10 _ hX10, wpForced_cons rfl ?_⟩
  go_wp2_with fail
  refine (HEQ.out _ _ ((d_x0_10.below hX10 (Nat.le_refl _)).at_) hP3.at_).mono ?_
  rintro e w11 ⟨rfl, hbb10⟩
  have hY10 := hX10.trans (hbb10.mono hX10.size)
  go_wp2_with fail
  refine ⟨hK10 _ hY10, wpForced_cons rfl ?_⟩
  go_wp2_with fail
  refine ⟨hK10 _ hY10, wpForced_nil ?_⟩
  clear hK10 CA10 HEQ hP3 hba10 hX10 hbb10 qa10
  have hB11 := hB10.trans (hY10.mono hB10.size)
  have z11 := hY10.size
  have d_x0_11 := d_x0_10.below hY10 (Nat.le_refl _)
  have xrow_11 := rangeAt_over xrow_10 hY10 (by omega)
  have d_x3_11 := d_x3_10.go hY10
  clear d_x0_10 xrow_10 d_x3_10 hB10
  have rr11 := rangeAt_over r0 hB11 s0
  go_wp2_with (first | (refine wpList_load_mid rfl 33 (.tmp 4) rfl _ 0 rfl (fc F (.slice A F.ps.length c)) _ rr11 Try.underlying33 rfl HIL.out ?_) | (refine wpList_load_mid rfl 40 (.tmp 12) rfl _ 0 rfl (fc F (.slice Q3 F.ps.length F.ps.length)) _ xrow_11 Try.underlying40 rfl (HII.out _) ?_))
  clear rr11
  refine (toInt64S_any B bs cb _ (hBW.go hB11) hnints).mono ?_
  rintro e w12 ⟨Q5, rfl, hQ5, hb12⟩
  have hB12 := hB11.trans (hb12.mono hB11.size)
  have z12 := hb12.size
  have d_x0_12 := d_x0_11.below hb12 (Nat.le_refl _)
  have xrow_12 := rangeAt_over xrow_11 hb12 (by omega)
  have d_x3_12 := d_x3_11.go hb12
  clear d_x0_11 xrow_11 d_x3_11 hB11
  have rr12 := rangeAt_over r0 hB12 s0
  go_wp2_with (first | (refine wpList_load_mid rfl 33 (.tmp 4) rfl _ 0 rfl (fc F (.slice A F.ps.length c)) _ rr12 Try.underlying33 rfl HIL.out ?_) | (refine wpList_load_mid rfl 40 (.tmp 12) rfl _ 0 rfl (fc F (.slice Q3 F.ps.length F.ps.length)) _ xrow_12 Try.underlying40 rfl (HII.out _) ?_))
  clear rr12
  refine (eqInt64S_same Q4 Q5 bs _ _ _ hbn d_x3_12.at_ hQ5.at_).mono ?_
  rintro e w13 ⟨rfl, hb13⟩
  have hB13 := hB12.trans (hb13.mono hB12.size)
  have z13 := hb13.size
  have d_x0_13 := d_x0_12.below hb13 (Nat.le_refl _)
  have xrow_13 := rangeAt_over xrow_12 hb13 (by omega)
  have d_x3_13 := d_x3_12.go hb13
  clear d_x0_12 xrow_12 d_x3_12 hB12
  clear hQ5
  go_wp2
  go_ret
  exact ⟨rfl, b0.trans (hB13.mono b0.size)⟩
end Go.Proofs.Ytjgcadohjccfaaa
