/- RestsOf: the model and the program give the same answer for every argument, and what comes back owns its memory. -/
import Derived.Test.YtjgcadohjccfaaaGdU
import Derived.Test.YtjgcadohjccfaaaG5
import Derived.Test.YtjgcadohjccfaaaMarkG
import Derived.Test.YtjgcadohjccfaaaGs
import Derived.Test.YtjgcadohjccfaaaG2
namespace Go.Proofs.Ytjgcadohjccfaaa
open Go.RowKit

set_option maxRecDepth 100000 in
set_option maxHeartbeats 16000000 in
theorem lawRestsOf_any (F : Fc) (hF : F.ok) (A : Option Addr) (c : Nat) (ch : Int) (hch : -32768 ≤ ch ∧ ch ≤ 32767) (cp : Int) (hcp : i8ok cp) (s : ByteArray) (hs : s.size ≤ maxLen) (B : Option Addr) (bs : List Int) (cb : Nat) (hbn : bs.length ≤ maxLen) (w : World) (hG : Glob w) (hA : PairsAt w w.heap.size A F.ps) (hB : IntsAt w w.heap.size B bs) :
    Calls Try.prog 10 #[.agg (fc F (.slice A F.ps.length c)).toArray, .agg #[.int .i16 ch, .int .i8 cp], .string s, .slice B bs.length cb] w fun e w' => e = .returned (.bool true) ∧ Below w.heap.size w w' := by
  have hW := hide hF.len
  have HIL := hide (show (Try.prog.info? 33).map (·.size) = some (fc F (.slice A F.ps.length c)).length from by rw [fc_length hW.out]; kernel_rfl)
  have HII := hide (show ∀ sl, (Try.prog.info? 40).map (·.size) = some (fc F sl).length from fun sl => by rw [fc_length hW.out]; kernel_rfl)
  have HSZ := hide (szFace_any F hF A c 1048576)
  have b0 : Below w.heap.size w ((w.alloc (.cells (fc F (.slice A F.ps.length c)).toArray 33)).alloc (.cells #[.int .i16 ch, .int .i8 cp] 25)) := (((Below.refl _ _).alloc (by simp) _).alloc (by simp) _)
  have s0 : w.heap.size < ((w.alloc (.cells (fc F (.slice A F.ps.length c)).toArray 33)).alloc (.cells #[.int .i16 ch, .int .i8 cp] 25)).heap.size := by simp; omega
  have s0n : w.heap.size + 2 ≤ ((w.alloc (.cells (fc F (.slice A F.ps.length c)).toArray 33)).alloc (.cells #[.int .i16 ch, .int .i8 cp] 25)).heap.size := by simp
  have r0 : ((w.alloc (.cells (fc F (.slice A F.ps.length c)).toArray 33)).alloc (.cells #[.int .i16 ch, .int .i8 cp] 25)).rangeAt (w.heap.size) 0 (fc F (.slice A F.ps.length c)) := (World.rangeAt_alloc (rangeAt_newg (w := w) (cs := (fc F (.slice A F.ps.length c)).toArray) (t := 33) (g := w.heap.size) (by simp) rfl) _)
  have rC : ((w.alloc (.cells (fc F (.slice A F.ps.length c)).toArray 33)).alloc (.cells #[.int .i16 ch, .int .i8 cp] 25)).rangeAt (w.heap.size + 1) 0 [.int .i16 ch, .int .i8 cp] := (rangeAt_newg (w := (w.alloc (.cells (fc F (.slice A F.ps.length c)).toArray 33))) (cs := #[.int .i16 ch, .int .i8 cp]) (t := 25) (g := w.heap.size + 1) (by simp) rfl)
  have HIC := hide (show (Try.prog.info? 25).map (·.size) = some ([.int .i16 ch, .int .i8 cp] : List Value).length from by kernel_rfl)
  have hm_s := hs
  unfold maxLen at hm_s
  by_cases ht_s : 1048576 < s.size
  · have hd : decide ((1048576 : Int) < s.size) = true := by simp; omega
    have hd' : decide (1048576 < s.size) = true := by simp; omega
    go_enter Try.func10, Try.ntmps10
    go_wp2
    go_ret
    exact ⟨rfl, b0⟩
  have hd0_s : decide ((1048576 : Int) < s.size) = false := by simp; omega
  have hd1_s : decide (1048576 < s.size) = false := by simp; omega
  have hn_s : s.size ≤ 1048576 := by omega
  clear ht_s hm_s
  have hmints := hbn
  unfold maxLen at hmints
  by_cases htints : 1048576 < bs.length
  · have hd : decide ((1048576 : Int) < bs.length) = true := by simp; omega
    have hd' : decide (1048576 < bs.length) = true := by simp; omega
    go_enter Try.func10, Try.ntmps10
    go_wp2
    go_ret
    exact ⟨rfl, b0⟩
  have hd0ints : decide ((1048576 : Int) < bs.length) = false := by simp; omega
  have hd1ints : decide (1048576 < bs.length) = false := by simp; omega
  have hnints : bs.length ≤ 1048576 := by omega
  clear htints hmints
  by_cases hbig : szL 1048576 F.ps.length < 0
  · go_enter Try.func10, Try.ntmps10
    go_wp2_with (first | (refine wpList_load_mid rfl 33 (.tmp 4) rfl _ 0 rfl (fc F (.slice A F.ps.length c)) _ r0 Try.underlying33 rfl HIL.out ?_) | (go_at_call 18; refine (HSZ.out _ (by omega) (by omega)).mono ?_; rintro e w1 ⟨rfl, hb1⟩))
    go_ret
    exact ⟨rfl, b0.trans (hb1.mono b0.size)⟩
  have hd : decide (szL 1048576 F.ps.length < 0) = false := by simpa using hbig
  have hnF : F.ps.length ≤ 1048576 := by unfold szL at hbig; split at hbig <;> omega
  have hnF2 : F.ps.length ≤ 2097152 := by omega
  clear hbig
  have hAW := hA.below b0
  have hBW := (hB.below b0).mono b0.size
  have hRn : (roR F s.data.toList ch cp bs).length ≤ 1048577 := roR_len hF s.data.toList ch cp bs
  have HSP := hide (fun (A : Option Addr) (c : Nat) (B : Option Addr) (cb : Nat) w => specRestsOf_any F hF A c ch hch cp hcp s hs B bs cb hbn w)
  have HIM := hide (fun (A : Option Addr) (c : Nat) (B : Option Addr) (cb : Nat) w => implRestsOf_any F hF A c ch hch cp hcp s hs B bs cb hbn w)
  generalize roR F s.data.toList ch cp bs = R at HSP HIM hRn
  generalize roC F s.data.toList ch cp bs = C at HSP HIM
  go_enter Try.func10, Try.ntmps10
  go_wp2_with (refine wpList_load_mid rfl 33 (.tmp 4) rfl _ 0 rfl (fc F (.slice A F.ps.length c)) _ r0 Try.underlying33 rfl HIL.out ?_)
  generalize ((w.alloc (.cells (fc F (.slice A F.ps.length c)).toArray 33)).alloc (.cells #[.int .i16 ch, .int .i8 cp] 25)) = W0 at *
  have hws := b0.size
  refine (HSZ.out _ (by omega) (by omega)).mono ?_
  rintro e w1 ⟨rfl, hb1⟩
  have hB1 := hb1
  have z1 := hb1.size
  go_wp2
  have r01 := rangeAt_over r0 hB1 s0
  have rC1 := rangeAt_over rC hB1 (by omega)
  have HK1 := hide (fun w' (hb : Below w1.heap.size w1 w') => (⟨rangeAt_below r01 hb (by omega), rangeAt_below rC1 hb (by omega)⟩ : w'.rangeAt (w.heap.size) 0 (fc F (.slice A F.ps.length c)) ∧ w'.rangeAt (w.heap.size + 1) 0 [.int .i16 ch, .int .i8 cp]))
  refine wp_region_script [(0, true), (2, true), (4, true), (5, true), (1, false), (3, false), (6, false), (7, false), (8, false), (9, true), (10, true), (11, false), (12, false)]
    (fun w' => Below w1.heap.size w1 w') (by kernel_rfl) (by kernel_rfl) (of_decide_eq_true (by kernel_rfl)) (by kernel_rfl) (fun _ _ d _ _ h => by cases d <;> exact h) ((Below.refl _ _).drew) ?_
  refine sc_take (.agg (fc F (.slice A F.ps.length c)).toArray) rfl (yieldsIf_load_mid (by rfl) _ (.tmp 4) rfl _ 0 rfl _ _ (fun w h => (HK1.out w h).1) Try.underlying33 rfl HIL.out) ?_
  refine sc_take (.agg #[.int .i16 ch, .int .i8 cp]) rfl (yieldsIf_load_mid (by rfl) _ (.tmp 5) rfl _ 0 rfl _ _ (fun w h => (HK1.out w h).2) Try.underlying25 rfl HIC.out) ?_
  refine sc_take _ rfl (.inl ⟨rfl, fun w _ => rfl⟩) ?_
  refine sc_take _ rfl (.inl ⟨rfl, fun w _ => rfl⟩) ?_
  simp only [Act.put, List.setIfInBounds_toArray, List.set_cons_zero, List.set_cons_succ]
  refine sc_step rfl ?_
  go_wp2_with fail
  refine (toFace_any F hF A c _ ((hAW.go hB1 hws).go ((Below.refl _ _).drew) (Nat.le_refl _)) hnF).mono ?_
  rintro e w2 ⟨Q1, rfl, hQ1, hb2⟩
  replace hb2 := (Below.refl _ _).drew.trans hb2
  change Below w1.heap.size w1 w2 at hb2
  change PairsIn w2 w1.heap.size Q1 F.ps at hQ1
  have hB2 := hB1.trans (hb2.mono hB1.size)
  have z2 := hb2.size
  clear hB1
  have qq1 : Below w1.heap.size w1 w2 := hb2
  go_wp2_with fail
  refine ⟨qq1, sc_step rfl ?_⟩
  go_wp2_with fail
  refine (toSheet_any ch cp _).mono ?_
  rintro e w3 ⟨rfl, hb3⟩
  have hB3 := hB2.trans (hb3.mono hB2.size)
  have z3 := hb3.size
  have c_aF_3 := hQ1.below hb3 (Nat.le_refl _)
  clear hQ1 hB2
  have qq2 := qq1.trans (hb3.mono qq1.size)
  clear qq1
  go_wp2_with fail
  refine ⟨qq2, sc_step rfl ?_⟩
  go_wp2_with fail
  refine (toInt64S_any B bs cb _ (hBW.go hB3) hnints).mono ?_
  rintro e w4 ⟨Q2, rfl, hQ2, hb4⟩
  have hB4 := hB3.trans (hb4.mono hB3.size)
  have z4 := hb4.size
  have c_aF_4 := c_aF_3.below hb4 (Nat.le_refl _)
  clear c_aF_3 hB3
  have qq3 := qq2.trans (hb4.mono qq2.size)
  clear qq2
  go_wp2_with fail
  refine ⟨qq3, sc_step rfl ?_⟩
  go_wp2_with fail
  refine (HSP.out Q1 _ Q2 _ _ c_aF_4.at_ hQ2.at_).mono ?_
  rintro e w5 ⟨Aw, cw, rfl, hPw, hb5⟩
  have hB5 := hB4.trans (hb5.mono hB4.size)
  have z5 := hb5.size
  clear hB4
  clear c_aF_4 hQ2
  have qq4 := qq3.trans (hb5.mono qq3.size)
  clear qq3
  go_wp2_with fail
  refine ⟨qq4, sc_step rfl ?_⟩
  go_wp2_with fail
  refine ⟨qq4, sc_take _ rfl (.inl ⟨rfl, fun w _ => rfl⟩) (sc_take _ rfl (.inl ⟨rfl, fun w _ => rfl⟩) ?_)⟩
  simp only [Act.put, List.setIfInBounds_toArray, List.set_cons_zero, List.set_cons_succ]
  refine sc_step rfl ?_
  go_wp2_with fail
  refine ⟨qq4, sc_step rfl ?_⟩
  go_wp2_with fail
  refine ⟨qq4, sc_nil ?_⟩
  clear qq4 HK1 r01 rC1
  have pw_5 := hPw.at_
  clear hPw
  have rr5 := rangeAt_over r0 hB5 s0
  go_wp2_with (refine wpList_load_mid rfl 33 (.tmp 4) rfl _ 0 rfl (fc F (.slice A F.ps.length c)) _ rr5 Try.underlying33 rfl HIL.out ?_)
  clear rr5
  refine (toFace_any F hF A c _ (hAW.go hB5 hws) hnF).mono ?_
  rintro e w6 ⟨Q3, rfl, hQ3, hb6⟩
  have hB6 := hB5.trans (hb6.mono hB5.size)
  have z6 := hb6.size
  have pw_6 := pw_5.below (hb6.mono (by omega))
  clear pw_5 hB5
  have bd_x0 := blkP_bd hQ3
  obtain ⟨w7, hW7, r7, b7, s7, t7, t70⟩ := stored_face w6 F hW.out (.slice Q3 F.ps.length F.ps.length)
  have HW7 := hide hW7
  clear hW7
  have hB7 := hB6.trans (b7.mono hB6.size)
  have z7 := b7.size
  have pw_7 := pw_6.below (b7.mono (by omega))
  have d_x0_7 := hQ3.below b7 (Nat.le_refl _)
  clear pw_6 hQ3 hB6
  have rr7 := rangeAt_over r0 hB7 s0
  go_wp2_with (first | (refine wpList_store_mid rfl 40 (.tmp 12) (.tmp 44) rfl w6.heap.size 0 _ rfl rfl t70 (HII.out _) (fc_one _ _ _ _) ?_; rw [← HW7.out]) | (refine wpList_load_mid rfl 33 (.tmp 4) rfl _ 0 rfl (fc F (.slice A F.ps.length c)) _ rr7 Try.underlying33 rfl HIL.out ?_) | (refine wpList_load_mid rfl 40 (.tmp 12) rfl _ 0 rfl (fc F (.slice Q3 F.ps.length F.ps.length)) _ r7 Try.underlying40 rfl (HII.out _) ?_))
  clear rr7
  refine (toInt64S_any B bs cb _ (hBW.go hB7) hnints).mono ?_
  rintro e w8 ⟨Q4, rfl, hQ4, hb8⟩
  have hB8 := hB7.trans (hb8.mono hB7.size)
  have z8 := hb8.size
  have pw_8 := pw_7.below (hb8.mono (by omega))
  have d_x0_8 := d_x0_7.below hb8 (Nat.le_refl _)
  have xrow_8 := rangeAt_over r7 hb8 (by omega)
  clear pw_7 d_x0_7 r7 hB7
  have bd_x3 := blkI_bd hQ4
  go_wp2
  have rC8 := rangeAt_over rC hB8 (by omega)
  have HK8 := hide (fun w' (hb : Below w8.heap.size w8 w') => (⟨rangeAt_below xrow_8 hb (by omega), rangeAt_below rC8 hb (by omega)⟩ : w'.rangeAt w6.heap.size 0 (fc F (.slice Q3 F.ps.length F.ps.length)) ∧ w'.rangeAt (w.heap.size + 1) 0 [.int .i16 ch, .int .i8 cp]))
  refine wp_region_script [(0, true), (1, true), (3, true), (4, true), (2, false), (5, false), (6, false), (7, true), (8, true), (9, false), (10, false)]
    (fun w' => Below w8.heap.size w8 w') (by kernel_rfl) (by kernel_rfl) (of_decide_eq_true (by kernel_rfl)) (by kernel_rfl) (fun _ _ d _ _ h => by cases d <;> exact h) ((Below.refl _ _).drew) ?_
  refine sc_take (.agg (fc F (.slice Q3 F.ps.length F.ps.length)).toArray) rfl (yieldsIf_load_mid (by rfl) _ (.tmp 12) rfl _ 0 rfl _ _ (fun w h => (HK8.out w h).1) Try.underlying40 rfl (HII.out _)) ?_
  refine sc_take (.agg #[.int .i16 ch, .int .i8 cp]) rfl (yieldsIf_load_mid (by rfl) _ (.tmp 5) rfl _ 0 rfl _ _ (fun w h => (HK8.out w h).2) Try.underlying25 rfl HIC.out) ?_
  refine sc_take _ rfl (.inl ⟨rfl, fun w _ => rfl⟩) ?_
  refine sc_take _ rfl (.inl ⟨rfl, fun w _ => rfl⟩) ?_
  simp only [Act.put, List.setIfInBounds_toArray, List.set_cons_zero, List.set_cons_succ]
  refine sc_step rfl ?_
  go_wp2_with fail
  refine (toSheet_any ch cp _).mono ?_
  rintro e w9 ⟨rfl, hb9⟩
  replace hb9 := (Below.refl _ _).drew.trans hb9
  change Below w8.heap.size w8 w9 at hb9
  have hB9 := hB8.trans (hb9.mono hB8.size)
  have z9 := hb9.size
  have pw_9 := pw_8.below (hb9.mono (by omega))
  have d_x0_9 := d_x0_8.below hb9 (Nat.le_refl _)
  have xrow_9 := rangeAt_over xrow_8 hb9 (by omega)
  have d_x3_9 := hQ4.go hb9
  clear pw_8 d_x0_8 xrow_8 hQ4 hB8
  have qq5 : Below w8.heap.size w8 w9 := hb9
  go_wp2_with fail
  refine ⟨qq5, sc_step rfl ?_⟩
  go_wp2_with fail
  refine (HIM.out Q3 _ Q4 _ _ ((hG.below b0).below hB9) d_x0_9.at_ d_x3_9.at_).mono ?_
  rintro e w10 ⟨Ag, cg, rfl, hPg, hb10⟩
  have hB10 := hB9.trans (hb10.mono hB9.size)
  have z10 := hb10.size
  have pw_10 := pw_9.below (hb10.mono (by omega))
  have d_x0_10 := d_x0_9.below hb10 (Nat.le_refl _)
  have xrow_10 := rangeAt_over xrow_9 hb10 (by omega)
  have d_x3_10 := d_x3_9.go hb10
  clear pw_9 d_x0_9 xrow_9 d_x3_9 hB9
  have qq6 := qq5.trans (hb10.mono qq5.size)
  clear qq5
  go_wp2_with fail
  refine ⟨qq6, sc_step rfl ?_⟩
  go_wp2_with fail
  refine ⟨qq6, sc_take _ rfl (.inl ⟨rfl, fun w _ => rfl⟩) (sc_take _ rfl (.inl ⟨rfl, fun w _ => rfl⟩) ?_)⟩
  simp only [Act.put, List.setIfInBounds_toArray, List.set_cons_zero, List.set_cons_succ]
  refine sc_step rfl ?_
  go_wp2_with fail
  refine ⟨qq6, sc_step rfl ?_⟩
  go_wp2_with fail
  refine ⟨qq6, sc_nil ?_⟩
  clear qq6 HK8 rC8
  have bd_g := blkI_bd hPg
  have rr10 := rangeAt_over r0 hB10 s0
  go_wp2_with (first | (refine wpList_load_mid rfl 33 (.tmp 4) rfl _ 0 rfl (fc F (.slice A F.ps.length c)) _ rr10 Try.underlying33 rfl HIL.out ?_) | (refine wpList_load_mid rfl 40 (.tmp 12) rfl _ 0 rfl (fc F (.slice Q3 F.ps.length F.ps.length)) _ xrow_10 Try.underlying40 rfl (HII.out _) ?_))
  clear rr10
  refine (eqInt64S_same Ag Aw R cg cw _ (by unfold maxLen; omega) hPg.at_ (pw_10.mono (by omega))).mono ?_
  rintro e w11 ⟨rfl, hb11⟩
  have hB11 := hB10.trans (hb11.mono hB10.size)
  have z11 := hb11.size
  have pw_11 := pw_10.below (hb11.mono (by omega))
  have d_x0_11 := d_x0_10.below hb11 (Nat.le_refl _)
  have xrow_11 := rangeAt_over xrow_10 hb11 (by omega)
  have d_x3_11 := d_x3_10.go hb11
  have pg_11 := hPg.go hb11
  clear pw_10 d_x0_10 xrow_10 d_x3_10 hPg hB10
  have qa11 := rangeAt_over r0 hB11 s0
  have sq11 : w.heap.size < w11.heap.size := by omega
  have sx11 : w6.heap.size < w11.heap.size := by omega
  have hK11 : ∀ w', Below w11.heap.size w11 w' → _ := fun w' hb => keepS hb xrow_11 sx11 qa11 sq11
  have CA11 := hAW.go hB11 hws
  have HEQ := hide (fun A' w => eqFace_same F hF Q3 A' F.ps.length F.ps.length w)
  go_wp2
  refine wp_region_take2 0 1 [2, 3, 4] 3 (vi := .agg (fc F (.slice Q3 F.ps.length F.ps.length)).toArray) (vj := .agg (fc F (.slice A F.ps.length c)).toArray)
    (fun w' => Below w11.heap.size w11 w' ∧ w'.rangeAt w6.heap.size 0 (fc F (.slice Q3 F.ps.length F.ps.length)) ∧ w'.rangeAt w.heap.size 0 (fc F (.slice A F.ps.length c)))
    (by kernel_rfl) rfl (by decide) rfl rfl (by kernel_rfl) (by kernel_rfl) (by kernel_rfl) (by kernel_rfl) (by kernel_rfl) (by kernel_rfl) (fun _ _ _ h => h) (fun _ _ _ h => h)
    (yieldsIf_load_mid (by rfl) _ (.tmp 12) rfl _ 0 rfl _ _ (fun w h => h.2.1) Try.underlying40 rfl (HII.out _)) (yieldsIf_load_mid (by rfl) _ (.tmp 4) rfl _ 0 rfl _ _ (fun w h => h.2.2) Try.underlying33 rfl HIL.out) (hK11 _ (Below.refl _ _).drew) ?_
  simp only [Act.put, List.setIfInBounds_toArray, List.set_cons_zero, List.set_cons_succ]
  refine wpForced_cons rfl ?_
  go_wp2_with fail
  refine (toFace_any F hF A c _ (CA11.go ((Below.refl _ _).drew) (Nat.le_refl _)) hnF).mono ?_
  rintro e wa11 ⟨A3, rfl, hP3, hba11⟩
  have hX11 : Below w11.heap.size w11 wa11 := (Below.refl _ _).drew.trans hba11
  go_wp2_with fail
  refine ⟨hK11 _ hX11, wpForced_cons rfl ?_⟩
  go_wp2_with fail
  refine (HEQ.out _ _ ((d_x0_11.below hX11 (Nat.le_refl _)).at_) hP3.at_).mono ?_
  rintro e w12 ⟨rfl, hbb11⟩
  have hY11 := hX11.trans (hbb11.mono hX11.size)
  go_wp2_with fail
  refine ⟨hK11 _ hY11, wpForced_cons rfl ?_⟩
  go_wp2_with fail
  refine ⟨hK11 _ hY11, wpForced_nil ?_⟩
  clear hK11 CA11 HEQ hP3 hba11 hX11 hbb11 qa11
  have hB12 := hB11.trans (hY11.mono hB11.size)
  have z12 := hY11.size
  have pw_12 := pw_11.below (hY11.mono (by omega))
  have d_x0_12 := d_x0_11.below hY11 (Nat.le_refl _)
  have xrow_12 := rangeAt_over xrow_11 hY11 (by omega)
  have d_x3_12 := d_x3_11.go hY11
  have pg_12 := pg_11.go hY11
  clear pw_11 d_x0_11 xrow_11 d_x3_11 pg_11 hB11
  have rr12 := rangeAt_over r0 hB12 s0
  go_wp2_with (first | (refine wpList_load_mid rfl 33 (.tmp 4) rfl _ 0 rfl (fc F (.slice A F.ps.length c)) _ rr12 Try.underlying33 rfl HIL.out ?_) | (refine wpList_load_mid rfl 40 (.tmp 12) rfl _ 0 rfl (fc F (.slice Q3 F.ps.length F.ps.length)) _ xrow_12 Try.underlying40 rfl (HII.out _) ?_))
  clear rr12
  refine (toInt64S_any B bs cb _ (hBW.go hB12) hnints).mono ?_
  rintro e w13 ⟨Q5, rfl, hQ5, hb13⟩
  have hB13 := hB12.trans (hb13.mono hB12.size)
  have z13 := hb13.size
  have pw_13 := pw_12.below (hb13.mono (by omega))
  have d_x0_13 := d_x0_12.below hb13 (Nat.le_refl _)
  have xrow_13 := rangeAt_over xrow_12 hb13 (by omega)
  have d_x3_13 := d_x3_12.go hb13
  have pg_13 := pg_12.go hb13
  clear pw_12 d_x0_12 xrow_12 d_x3_12 pg_12 hB12
  have rr13 := rangeAt_over r0 hB13 s0
  go_wp2_with (first | (refine wpList_load_mid rfl 33 (.tmp 4) rfl _ 0 rfl (fc F (.slice A F.ps.length c)) _ rr13 Try.underlying33 rfl HIL.out ?_) | (refine wpList_load_mid rfl 40 (.tmp 12) rfl _ 0 rfl (fc F (.slice Q3 F.ps.length F.ps.length)) _ xrow_13 Try.underlying40 rfl (HII.out _) ?_))
  clear rr13
  refine (eqInt64S_same Q4 Q5 bs _ _ _ hbn d_x3_13.at_ hQ5.at_).mono ?_
  rintro e w14 ⟨rfl, hb14⟩
  have hB14 := hB13.trans (hb14.mono hB13.size)
  have z14 := hb14.size
  have pw_14 := pw_13.below (hb14.mono (by omega))
  have d_x0_14 := d_x0_13.below hb14 (Nat.le_refl _)
  have xrow_14 := rangeAt_over xrow_13 hb14 (by omega)
  have d_x3_14 := d_x3_13.go hb14
  have pg_14 := pg_13.go hb14
  clear pw_13 d_x0_13 xrow_13 d_x3_13 pg_13 hB13
  clear hQ5
  have rr14 := rangeAt_over r0 hB14 s0
  go_wp2_with (first | (refine wpList_load_mid rfl 33 (.tmp 4) rfl _ 0 rfl (fc F (.slice A F.ps.length c)) _ rr14 Try.underlying33 rfl HIL.out ?_) | (refine wpList_load_mid rfl 40 (.tmp 12) rfl _ 0 rfl (fc F (.slice Q3 F.ps.length F.ps.length)) _ xrow_14 Try.underlying40 rfl (HII.out _) ?_))
  clear rr14
  refine (markFace_any F hF Q3 _ w5.heap.size _ hnF2 d_x0_14).mono ?_
  rintro e w15 ⟨rfl, hg15, _⟩
  have hB15 := hB14.trans (grown_toBelow hg15 (by omega) (fun k hk => by have := bd_x0 k hk; omega))
  have z15 := hg15.size
  have pw_15 := grown_intsAt hg15 pw_14 (by omega) (fun k hk => by have := bd_x0 k hk; omega)
  have d_x3_15 := grown_intsIn hg15 d_x3_14 (fun b hb e => by have h1 := bd_x3 b hb; have h2 := bd_x0 _ e.symm; omega)
  have pg_15 := grown_intsIn hg15 pg_14 (fun b hb e => by have h1 := bd_g b hb; have h2 := bd_x0 _ e.symm; omega)
  clear pw_14 d_x3_14 pg_14 hB14
  have hdk15 : decide ((1 : Int) + 3 * (F.ps.length : Int) < 0) = false := by simp; omega
  clear d_x0_14
  have rr15 := rangeAt_over r0 hB15 s0
  go_wp2_with (refine wpList_load_mid rfl 33 (.tmp 4) rfl _ 0 rfl (fc F (.slice A F.ps.length c)) _ rr15 Try.underlying33 rfl HIL.out ?_)
  clear rr15
  have hkc : (1 : Int) + 3 * (F.ps.length : Int) = ((1 + 3 * F.ps.length : Nat) : Int) := by omega
  rw [hkc]
  clear hkc
  have hmk15 := markInt64S_any Q4 bs bs.length (1 + 3 * F.ps.length) w7.heap.size _ (by omega) (by omega) d_x3_15
  refine hmk15.mono ?_
  rintro e w16 ⟨rfl, hg16, _⟩
  clear hmk15
  have hB16 := hB15.trans (grown_toBelow hg16 (by omega) (fun k hk => by have := bd_x3 k hk; omega))
  have z16 := hg16.size
  have pw_16 := grown_intsAt hg16 pw_15 (by omega) (fun k hk => by have := bd_x3 k hk; omega)
  have pg_16 := grown_intsIn hg16 pg_15 (fun b hb e => by have h1 := bd_g b hb; have h2 := bd_x3 _ e.symm; omega)
  clear pw_15 pg_15 hB15
  have hdk16 : decide (((1 + 3 * F.ps.length + bs.length : Nat) : Int) < 0) = false := by simp; omega
  clear d_x3_15
  have rr16 := rangeAt_over r0 hB16 s0
  go_wp2_with (refine wpList_load_mid rfl 33 (.tmp 4) rfl _ 0 rfl (fc F (.slice A F.ps.length c)) _ rr16 Try.underlying33 rfl HIL.out ?_)
  clear rr16
  refine (eqInt64S_same Ag Aw R cg cw _ (by unfold maxLen; omega) pg_16.at_ (pw_16.mono (by omega))).mono ?_
  rintro e w17 ⟨rfl, hb17⟩
  have hB17 := hB16.trans (hb17.mono hB16.size)
  have z17 := hb17.size
  have pw_17 := pw_16.below (hb17.mono (by omega))
  have pg_17 := pg_16.go hb17
  clear pw_16 pg_16 hB16
  have rr17 := rangeAt_over r0 hB17 s0
  go_wp2_with (refine wpList_load_mid rfl 33 (.tmp 4) rfl _ 0 rfl (fc F (.slice A F.ps.length c)) _ rr17 Try.underlying33 rfl HIL.out ?_)
  clear rr17
  refine (markI1_any Ag R _ _ _ (by omega) pg_17).mono ?_
  rintro e w18 ⟨rfl, hg18, hM⟩
  have hB18 := hB17.trans (grown_toBelow hg18 (by omega) (fun k hk => by have := bd_g k hk; omega))
  have z18 := hg18.size
  have pw_18 := grown_intsAt hg18 pw_17 (by omega) (fun k hk => by have := bd_g k hk; omega)
  clear pw_17 hB17
  clear pg_17
  have hdq : decide (((1 + R.length : Nat) : Int) < 0) = false := by simp; omega
  have HH := hide (fun (W : World) (L : Nat) (h : IntsIn W L Ag (marksI 1 R.length)) => heldI1_any Ag R.length cg L W (by omega) h)
  generalize ((1 + R.length : Nat) : Int) = Qn at hdq HH ⊢
  have rr18 := rangeAt_over r0 hB18 s0
  go_wp2_with (refine wpList_load_mid rfl 33 (.tmp 4) rfl _ 0 rfl (fc F (.slice A F.ps.length c)) _ rr18 Try.underlying33 rfl HIL.out ?_)
  clear rr18
  refine (HH.out _ _ hM).mono ?_
  rintro e w19 ⟨rfl, hb19⟩
  have hB19 := hB18.trans (hb19.mono hB18.size)
  have z19 := hb19.size
  have pw_19 := pw_18.below (hb19.mono (by omega))
  have pm_19 := hM.go hb19
  clear pw_18 hM hB18
  go_wp2
  have r019 := rangeAt_over r0 hB19 s0
  have rC19 := rangeAt_over rC hB19 (by omega)
  have HK19 := hide (fun w' (hb : Below w19.heap.size w19 w') => (⟨rangeAt_below r019 hb (by omega), rangeAt_below rC19 hb (by omega)⟩ : w'.rangeAt (w.heap.size) 0 (fc F (.slice A F.ps.length c)) ∧ w'.rangeAt (w.heap.size + 1) 0 [.int .i16 ch, .int .i8 cp]))
  refine wp_region_script [(0, true), (2, true), (4, true), (5, true), (1, false), (3, false), (6, false), (7, false), (8, false), (9, true), (10, true), (11, false), (12, false)]
    (fun w' => Below w19.heap.size w19 w') (by kernel_rfl) (by kernel_rfl) (of_decide_eq_true (by kernel_rfl)) (by kernel_rfl) (fun _ _ d _ _ h => by cases d <;> exact h) ((Below.refl _ _).drew) ?_
  refine sc_take (.agg (fc F (.slice A F.ps.length c)).toArray) rfl (yieldsIf_load_mid (by rfl) _ (.tmp 4) rfl _ 0 rfl _ _ (fun w h => (HK19.out w h).1) Try.underlying33 rfl HIL.out) ?_
  refine sc_take (.agg #[.int .i16 ch, .int .i8 cp]) rfl (yieldsIf_load_mid (by rfl) _ (.tmp 5) rfl _ 0 rfl _ _ (fun w h => (HK19.out w h).2) Try.underlying25 rfl HIC.out) ?_
  refine sc_take _ rfl (.inl ⟨rfl, fun w _ => rfl⟩) ?_
  refine sc_take _ rfl (.inl ⟨rfl, fun w _ => rfl⟩) ?_
  simp only [Act.put, List.setIfInBounds_toArray, List.set_cons_zero, List.set_cons_succ]
  refine sc_step rfl ?_
  go_wp2_with fail
  refine (toFace_any F hF A c _ ((hAW.go hB19 hws).go ((Below.refl _ _).drew) (Nat.le_refl _)) hnF).mono ?_
  rintro e w20 ⟨Q6, rfl, hQ6, hb20⟩
  replace hb20 := (Below.refl _ _).drew.trans hb20
  change Below w19.heap.size w19 w20 at hb20
  change PairsIn w20 w19.heap.size Q6 F.ps at hQ6
  have hB20 := hB19.trans (hb20.mono hB19.size)
  have z20 := hb20.size
  have pw_20 := pw_19.below (hb20.mono (by omega))
  have pm_20 := pm_19.go hb20
  clear pw_19 pm_19 hB19
  have qq7 : Below w19.heap.size w19 w20 := hb20
  go_wp2_with fail
  refine ⟨qq7, sc_step rfl ?_⟩
  go_wp2_with fail
  refine (toSheet_any ch cp _).mono ?_
  rintro e w21 ⟨rfl, hb21⟩
  have hB21 := hB20.trans (hb21.mono hB20.size)
  have z21 := hb21.size
  have pw_21 := pw_20.below (hb21.mono (by omega))
  have pm_21 := pm_20.go hb21
  have c_aF_21 := hQ6.below hb21 (Nat.le_refl _)
  clear pw_20 pm_20 hQ6 hB20
  have qq8 := qq7.trans (hb21.mono qq7.size)
  clear qq7
  go_wp2_with fail
  refine ⟨qq8, sc_step rfl ?_⟩
  go_wp2_with fail
  refine (toInt64S_any B bs cb _ (hBW.go hB21) hnints).mono ?_
  rintro e w22 ⟨Q7, rfl, hQ7, hb22⟩
  have hB22 := hB21.trans (hb22.mono hB21.size)
  have z22 := hb22.size
  have pw_22 := pw_21.below (hb22.mono (by omega))
  have pm_22 := pm_21.go hb22
  have c_aF_22 := c_aF_21.below hb22 (Nat.le_refl _)
  clear pw_21 pm_21 c_aF_21 hB21
  have qq9 := qq8.trans (hb22.mono qq8.size)
  clear qq8
  go_wp2_with fail
  refine ⟨qq9, sc_step rfl ?_⟩
  go_wp2_with fail
  refine (HIM.out Q6 _ Q7 _ _ ((hG.below b0).below hB22) c_aF_22.at_ hQ7.at_).mono ?_
  rintro e w23 ⟨Ah, ch, rfl, hPh, hb23⟩
  have hB23 := hB22.trans (hb23.mono hB22.size)
  have z23 := hb23.size
  have pw_23 := pw_22.below (hb23.mono (by omega))
  have pm_23 := pm_22.go hb23
  clear pw_22 pm_22 hB22
  clear c_aF_22 hQ7
  have qq10 := qq9.trans (hb23.mono qq9.size)
  clear qq9
  go_wp2_with fail
  refine ⟨qq10, sc_step rfl ?_⟩
  go_wp2_with fail
  refine ⟨qq10, sc_take _ rfl (.inl ⟨rfl, fun w _ => rfl⟩) (sc_take _ rfl (.inl ⟨rfl, fun w _ => rfl⟩) ?_)⟩
  simp only [Act.put, List.setIfInBounds_toArray, List.set_cons_zero, List.set_cons_succ]
  refine sc_step rfl ?_
  go_wp2_with fail
  refine ⟨qq10, sc_step rfl ?_⟩
  go_wp2_with fail
  refine ⟨qq10, sc_nil ?_⟩
  clear qq10 HK19 r019 rC19
  have bd_h := blkI_bd hPh
  have rr23 := rangeAt_over r0 hB23 s0
  go_wp2_with (refine wpList_load_mid rfl 33 (.tmp 4) rfl _ 0 rfl (fc F (.slice A F.ps.length c)) _ rr23 Try.underlying33 rfl HIL.out ?_)
  clear rr23
  refine (eqInt64S_same Ah Aw R ch cw _ (by unfold maxLen; omega) hPh.at_ (pw_23.mono (by omega))).mono ?_
  rintro e w24 ⟨rfl, hb24⟩
  have hB24 := hB23.trans (hb24.mono hB23.size)
  have z24 := hb24.size
  have pw_24 := pw_23.below (hb24.mono (by omega))
  have pm_24 := pm_23.go hb24
  have ph_24 := hPh.go hb24
  clear pw_23 pm_23 hPh hB23
  clear ph_24
  have rr24 := rangeAt_over r0 hB24 s0
  go_wp2_with (refine wpList_load_mid rfl 33 (.tmp 4) rfl _ 0 rfl (fc F (.slice A F.ps.length c)) _ rr24 Try.underlying33 rfl HIL.out ?_)
  clear rr24
  refine (HH.out _ _ pm_24).mono ?_
  rintro e w25 ⟨rfl, hb25⟩
  have hB25 := hB24.trans (hb25.mono hB24.size)
  have z25 := hb25.size
  have pw_25 := pw_24.below (hb25.mono (by omega))
  have pm_25 := pm_24.go hb25
  clear pw_24 pm_24 hB24
  go_wp2
  go_ret
  exact ⟨rfl, b0.trans (hB25.mono b0.size)⟩
end Go.Proofs.Ytjgcadohjccfaaa
