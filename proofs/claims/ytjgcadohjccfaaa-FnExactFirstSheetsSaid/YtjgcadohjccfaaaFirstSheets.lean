/- FirstSheets: the model and the program give the same answer for every argument, and what comes back owns its memory. -/
import Derived.Test.YtjgcadohjccfaaaFsM
import Derived.Test.YtjgcadohjccfaaaG5
import Derived.Test.YtjgcadohjccfaaaMarkG
import Derived.Test.YtjgcadohjccfaaaGs
import Derived.Test.YtjgcadohjccfaaaG2
namespace Go.Proofs.Ytjgcadohjccfaaa
open Go.RowKit

set_option maxRecDepth 100000 in
set_option maxHeartbeats 16000000 in
theorem lawFirstSheets_any (F : Fc) (hF : F.ok) (A : Option Addr) (c : Nat) (ch : Int) (hch : -32768 ≤ ch ∧ ch ≤ 32767) (cp : Int) (hcp : i8ok cp) (s : ByteArray) (hs : s.size ≤ maxLen) (w : World) (hG : Glob w) (hA : PairsAt w w.heap.size A F.ps) :
    Calls Try.prog 7 #[.agg (fc F (.slice A F.ps.length c)).toArray, .agg #[.int .i16 ch, .int .i8 cp], .string s] w fun e w' => e = .returned (.bool true) ∧ Below w.heap.size w w' := by
  have hW := hide hF.len
  have HIL := hide (show (Try.prog.info? 33).map (·.size) = some (fc F (.slice A F.ps.length c)).length from by rw [fc_length hW.out]; kernel_rfl)
  have HII := hide (show ∀ sl, (Try.prog.info? 40).map (·.size) = some (fc F sl).length from fun sl => by rw [fc_length hW.out]; kernel_rfl)
  have HSZ := hide (szFace_any F hF A c 1048576)
  have b0 : Below w.heap.size w ((w.alloc (.cells (fc F (.slice A F.ps.length c)).toArray 33)).alloc (.cells #[.int .i16 ch, .int .i8 cp] 25)) := (((Below.refl _ _).alloc (by simp) _).alloc (by simp) _)
  have s0 : w.heap.size < ((w.alloc (.cells (fc F (.slice A F.ps.length c)).toArray 33)).alloc (.cells #[.int .i16 ch, .int .i8 cp] 25)).heap.size := by simp; omega
  have s0n : w.heap.size + 2 ≤ ((w.alloc (.cells (fc F (.slice A F.ps.length c)).toArray 33)).alloc (.cells #[.int .i16 ch, .int .i8 cp] 25)).heap.size := by simp
  have r0 : ((w.alloc (.cells (fc F (.slice A F.ps.length c)).toArray 33)).alloc (.cells #[.int .i16 ch, .int .i8 cp] 25)).rangeAt (w.heap.size) 0 (fc F (.slice A F.ps.length c)) := (World.rangeAt_alloc (rangeAt_newg (w := w) (cs := (fc F (.slice A F.ps.length c)).toArray) (t := 33) (g := w.heap.size) (by simp) rfl) _)
  have rC : ((w.alloc (.cells (fc F (.slice A F.ps.length c)).toArray 33)).alloc (.cells #[.int .i16 ch, .int .i8 cp] 25)).rangeAt (w.heap.size + 1) 0 [.int .i16 ch, .int .i8 cp] := (rangeAt_newg (w := (w.alloc (.cells (fc F (.slice A F.ps.length c)).toArray 33))) (cs := #[.int .i16 ch, .int .i8 cp]) (t := 25) (g := w.heap.size + 1) (by simp) rfl)
  have HIC := hide (show (Try.prog.info? 25).map (·.size) = some ([.int .i16 ch, .int .i8 cp] : List Value).length from by kernel_rfl)
  have hm_s := hs
  unfold maxLen at hm_s
  by_cases ht_s : 1048576 < s.size
  · have hd : decide ((1048576 : Int) < s.size) = true := by simp; omega
    have hd' : decide (1048576 < s.size) = true := by simp; omega
    go_enter Try.func7, Try.ntmps7
    go_wp2
    go_ret
    exact ⟨rfl, b0⟩
  have hd0_s : decide ((1048576 : Int) < s.size) = false := by simp; omega
  have hd1_s : decide (1048576 < s.size) = false := by simp; omega
  have hn_s : s.size ≤ 1048576 := by omega
  clear ht_s hm_s
  by_cases hbig : szL 1048576 F.ps.length < 0
  · go_enter Try.func7, Try.ntmps7
    go_wp2_with (first | (refine wpList_load_mid rfl 33 (.tmp 3) rfl _ 0 rfl (fc F (.slice A F.ps.length c)) _ r0 Try.underlying33 rfl HIL.out ?_) | (go_at_call 18; refine (HSZ.out _ (by omega) (by omega)).mono ?_; rintro e w1 ⟨rfl, hb1⟩))
    go_ret
    exact ⟨rfl, b0.trans (hb1.mono b0.size)⟩
  have hd : decide (szL 1048576 F.ps.length < 0) = false := by simpa using hbig
  have hnF : F.ps.length ≤ 1048576 := by unfold szL at hbig; split at hbig <;> omega
  have hnF2 : F.ps.length ≤ 2097152 := by omega
  clear hbig
  have hAW := hA.below b0
  have hRn : (fsR F s.data.toList ch cp).length ≤ 1048577 := fsR_len hF _ _ _
  have HSP := hide (fun (A : Option Addr) (c : Nat) w => specFirstSheets_any F hF A c ch hch cp hcp s hs w)
  have HIM := hide (fun (A : Option Addr) (c : Nat) w => implFirstSheets_any F hF A c ch hch cp hcp s hs w)
  generalize fsR F s.data.toList ch cp = R at HSP HIM hRn
  generalize ctC F s.data.toList ch cp 60 = C at HSP HIM
  generalize fsV F s.data.toList ch cp = V at HSP HIM
  go_enter Try.func7, Try.ntmps7
  go_wp2_with (refine wpList_load_mid rfl 33 (.tmp 3) rfl _ 0 rfl (fc F (.slice A F.ps.length c)) _ r0 Try.underlying33 rfl HIL.out ?_)
  generalize ((w.alloc (.cells (fc F (.slice A F.ps.length c)).toArray 33)).alloc (.cells #[.int .i16 ch, .int .i8 cp] 25)) = W0 at *
  have hws := b0.size
  refine (HSZ.out _ (by omega) (by omega)).mono ?_
  rintro e w1 ⟨rfl, hb1⟩
  have hB1 := hb1
  have z1 := hb1.size
  go_wp2
  have r01 := rangeAt_over r0 hB1 s0
  have rC1 := rangeAt_over rC hB1 (by omega)
  have HK1 := hide (fun w' (hb : Below w1.heap.size w1 w') => (⟨rangeAt_below r01 hb (by omega), rangeAt_below rC1 hb (by omega)⟩ : w'.rangeAt (w.heap.size) 0 (fc F (.slice A F.ps.length c)) ∧ w'.rangeAt (w.heap.size + 1) 0 [.int .i16 ch, .int .i8 cp]))
  refine wp_region_script [(0, true), (2, true), (4, true), (1, false), (3, false), (5, false), (6, false), (7, true), (8, true), (9, true), (10, false), (11, false), (12, false)]
    (fun w' => Below w1.heap.size w1 w') (by kernel_rfl) (by kernel_rfl) (of_decide_eq_true (by kernel_rfl)) (by kernel_rfl) (fun _ _ d _ _ h => by cases d <;> exact h) ((Below.refl _ _).drew) ?_
  refine sc_take (.agg (fc F (.slice A F.ps.length c)).toArray) rfl (yieldsIf_load_mid (by rfl) _ (.tmp 3) rfl _ 0 rfl _ _ (fun w h => (HK1.out w h).1) Try.underlying33 rfl HIL.out) ?_
  refine sc_take (.agg #[.int .i16 ch, .int .i8 cp]) rfl (yieldsIf_load_mid (by rfl) _ (.tmp 4) rfl _ 0 rfl _ _ (fun w h => (HK1.out w h).2) Try.underlying25 rfl HIC.out) ?_
  refine sc_take _ rfl (.inl ⟨rfl, fun w _ => rfl⟩) ?_
  simp only [Act.put, List.setIfInBounds_toArray, List.set_cons_zero, List.set_cons_succ]
  refine sc_step rfl ?_
  go_wp2_with fail
  refine (toFace_any F hF A c _ ((hAW.go hB1 hws).go ((Below.refl _ _).drew) (Nat.le_refl _)) hnF).mono ?_
  rintro e w2 ⟨Q1, rfl, hQ1, hb2⟩
  replace hb2 := (Below.refl _ _).drew.trans hb2
  change Below w1.heap.size w1 w2 at hb2
  change PairsIn w2 w1.heap.size Q1 F.ps at hQ1
  have hB2 := hB1.trans (hb2.mono hB1.size)
  have z2 := hb2.size
  clear hB1
  have qq1 : Below w1.heap.size w1 w2 := hb2
  go_wp2_with fail
  refine ⟨qq1, sc_step rfl ?_⟩
  go_wp2_with fail
  refine (toSheet_any ch cp _).mono ?_
  rintro e w3 ⟨rfl, hb3⟩
  have hB3 := hB2.trans (hb3.mono hB2.size)
  have z3 := hb3.size
  have c_aF_3 := hQ1.below hb3 (Nat.le_refl _)
  clear hQ1 hB2
  have qq2 := qq1.trans (hb3.mono qq1.size)
  clear qq1
  go_wp2_with fail
  refine ⟨qq2, sc_step rfl ?_⟩
  go_wp2_with fail
  refine (HSP.out Q1 _ _ c_aF_3.at_).mono ?_
  rintro e w4 ⟨Aw, cw, rfl, hPw, hb4⟩
  have hB4 := hB3.trans (hb4.mono hB3.size)
  have z4 := hb4.size
  clear hB3
  clear c_aF_3
  have qq3 := qq2.trans (hb4.mono qq2.size)
  clear qq2
  go_wp2_with fail
  refine ⟨qq3, sc_step rfl ?_⟩
  go_wp2_with fail
  refine ⟨qq3, sc_take _ rfl (.inl ⟨rfl, fun w _ => rfl⟩) (sc_take _ rfl (.inl ⟨rfl, fun w _ => rfl⟩) (sc_take _ rfl (.inl ⟨rfl, fun w _ => rfl⟩) ?_))⟩
  simp only [Act.put, List.setIfInBounds_toArray, List.set_cons_zero, List.set_cons_succ]
  refine sc_step rfl ?_
  go_wp2_with fail
  refine ⟨qq3, sc_step rfl ?_⟩
  go_wp2_with fail
  refine ⟨qq3, sc_step rfl ?_⟩
  go_wp2_with fail
  refine ⟨qq3, sc_nil ?_⟩
  clear qq3 HK1 r01 rC1
  have pw_4 := hPw.at_
  clear hPw
  have rr4 := rangeAt_over r0 hB4 s0
  go_wp2_with (refine wpList_load_mid rfl 33 (.tmp 3) rfl _ 0 rfl (fc F (.slice A F.ps.length c)) _ rr4 Try.underlying33 rfl HIL.out ?_)
  clear rr4
  refine (toFace_any F hF A c _ (hAW.go hB4 hws) hnF).mono ?_
  rintro e w5 ⟨Q2, rfl, hQ2, hb5⟩
  have hB5 := hB4.trans (hb5.mono hB4.size)
  have z5 := hb5.size
  have pw_5 := pw_4.below (hb5.mono (by omega))
  clear pw_4 hB4
  have bd_x0 := blkP_bd hQ2
  obtain ⟨w6, hW6, r6, b6, s6, t6, t60⟩ := stored_face w5 F hW.out (.slice Q2 F.ps.length F.ps.length)
  have HW6 := hide hW6
  clear hW6
  have hB6 := hB5.trans (b6.mono hB5.size)
  have z6 := b6.size
  have pw_6 := pw_5.below (b6.mono (by omega))
  have d_x0_6 := hQ2.below b6 (Nat.le_refl _)
  clear pw_5 hQ2 hB5
  go_wp2_with (refine wpList_store_mid rfl 40 (.tmp 11) (.tmp 40) rfl w5.heap.size 0 _ rfl rfl t60 (HII.out _) (fc_one _ _ _ _) ?_; rw [← HW6.out])
  have rC6 := rangeAt_over rC hB6 (by omega)
  have HK6 := hide (fun w' (hb : Below w6.heap.size w6 w') => (⟨rangeAt_below r6 hb (by omega), rangeAt_below rC6 hb (by omega)⟩ : w'.rangeAt w5.heap.size 0 (fc F (.slice Q2 F.ps.length F.ps.length)) ∧ w'.rangeAt (w.heap.size + 1) 0 [.int .i16 ch, .int .i8 cp]))
  refine wp_region_script [(0, true), (1, true), (3, true), (2, false), (4, false), (5, false), (6, true), (7, true), (8, true), (9, false), (10, false), (11, false)]
    (fun w' => Below w6.heap.size w6 w') (by kernel_rfl) (by kernel_rfl) (of_decide_eq_true (by kernel_rfl)) (by kernel_rfl) (fun _ _ d _ _ h => by cases d <;> exact h) ((Below.refl _ _).drew) ?_
  refine sc_take (.agg (fc F (.slice Q2 F.ps.length F.ps.length)).toArray) rfl (yieldsIf_load_mid (by rfl) _ (.tmp 11) rfl _ 0 rfl _ _ (fun w h => (HK6.out w h).1) Try.underlying40 rfl (HII.out _)) ?_
  refine sc_take (.agg #[.int .i16 ch, .int .i8 cp]) rfl (yieldsIf_load_mid (by rfl) _ (.tmp 4) rfl _ 0 rfl _ _ (fun w h => (HK6.out w h).2) Try.underlying25 rfl HIC.out) ?_
  refine sc_take _ rfl (.inl ⟨rfl, fun w _ => rfl⟩) ?_
  simp only [Act.put, List.setIfInBounds_toArray, List.set_cons_zero, List.set_cons_succ]
  refine sc_step rfl ?_
  go_wp2_with fail
  refine (toSheet_any ch cp _).mono ?_
  rintro e w7 ⟨rfl, hb7⟩
  replace hb7 := (Below.refl _ _).drew.trans hb7
  change Below w6.heap.size w6 w7 at hb7
  have hB7 := hB6.trans (hb7.mono hB6.size)
  have z7 := hb7.size
  have pw_7 := pw_6.below (hb7.mono (by omega))
  have d_x0_7 := d_x0_6.below hb7 (Nat.le_refl _)
  have xrow_7 := rangeAt_over r6 hb7 (by omega)
  clear pw_6 d_x0_6 r6 hB6
  have qq4 : Below w6.heap.size w6 w7 := hb7
  go_wp2_with fail
  refine ⟨qq4, sc_step rfl ?_⟩
  go_wp2_with fail
  refine (HIM.out Q2 _ _ ((hG.below b0).below hB7) d_x0_7.at_).mono ?_
  rintro e w8 ⟨Ag, cg, rfl, hPg, hb8⟩
  have hB8 := hB7.trans (hb8.mono hB7.size)
  have z8 := hb8.size
  have pw_8 := pw_7.below (hb8.mono (by omega))
  have d_x0_8 := d_x0_7.below hb8 (Nat.le_refl _)
  have xrow_8 := rangeAt_over xrow_7 hb8 (by omega)
  clear pw_7 d_x0_7 xrow_7 hB7
  have qq5 := qq4.trans (hb8.mono qq4.size)
  clear qq4
  go_wp2_with fail
  refine ⟨qq5, sc_step rfl ?_⟩
  go_wp2_with fail
  refine ⟨qq5, sc_take _ rfl (.inl ⟨rfl, fun w _ => rfl⟩) (sc_take _ rfl (.inl ⟨rfl, fun w _ => rfl⟩) (sc_take _ rfl (.inl ⟨rfl, fun w _ => rfl⟩) ?_))⟩
  simp only [Act.put, List.setIfInBounds_toArray, List.set_cons_zero, List.set_cons_succ]
  refine sc_step rfl ?_
  go_wp2_with fail
  refine ⟨qq5, sc_step rfl ?_⟩
  go_wp2_with fail
  refine ⟨qq5, sc_step rfl ?_⟩
  go_wp2_with fail
  refine ⟨qq5, sc_nil ?_⟩
  clear qq5 HK6 rC6
  have bd_g := blkI_bd hPg
  have rr8 := rangeAt_over r0 hB8 s0
  go_wp2_with (first | (refine wpList_load_mid rfl 33 (.tmp 3) rfl _ 0 rfl (fc F (.slice A F.ps.length c)) _ rr8 Try.underlying33 rfl HIL.out ?_) | (refine wpList_load_mid rfl 40 (.tmp 11) rfl _ 0 rfl (fc F (.slice Q2 F.ps.length F.ps.length)) _ xrow_8 Try.underlying40 rfl (HII.out _) ?_))
  clear rr8
  refine (eqInt64S_same Ag Aw R cg cw _ (by unfold maxLen; omega) hPg.at_ (pw_8.mono (by omega))).mono ?_
  rintro e w9 ⟨rfl, hb9⟩
  have hB9 := hB8.trans (hb9.mono hB8.size)
  have z9 := hb9.size
  have pw_9 := pw_8.below (hb9.mono (by omega))
  have d_x0_9 := d_x0_8.below hb9 (Nat.le_refl _)
  have xrow_9 := rangeAt_over xrow_8 hb9 (by omega)
  have pg_9 := hPg.go hb9
  clear pw_8 d_x0_8 xrow_8 hPg hB8
  have qa9 := rangeAt_over r0 hB9 s0
  have sq9 : w.heap.size < w9.heap.size := by omega
  have sx9 : w5.heap.size < w9.heap.size := by omega
  have hK9 : ∀ w', Below w9.heap.size w9 w' → _ := fun w' hb => keepS hb xrow_9 sx9 qa9 sq9
  have CA9 := hAW.go hB9 hws
  have HEQ := hide (fun A' w => eqFace_same F hF Q2 A' F.ps.length F.ps.length w)
  go_wp2
  refine wp_region_take2 0 1 [2, 3, 4] 3 (vi := .agg (fc F (.slice Q2 F.ps.length F.ps.length)).toArray) (vj := .agg (fc F (.slice A F.ps.length c)).toArray)
    (fun w' => Below w9.heap.size w9 w' ∧ w'.rangeAt w5.heap.size 0 (fc F (.slice Q2 F.ps.length F.ps.length)) ∧ w'.rangeAt w.heap.size 0 (fc F (.slice A F.ps.length c)))
    (by kernel_rfl) rfl (by decide) rfl rfl (by kernel_rfl) (by kernel_rfl) (by kernel_rfl) (by kernel_rfl) (by kernel_rfl) (by kernel_rfl) (fun _ _ _ h => h) (fun _ _ _ h => h)
    (yieldsIf_load_mid (by rfl) _ (.tmp 11) rfl _ 0 rfl _ _ (fun w h => h.2.1) Try.underlying40 rfl (HII.out _)) (yieldsIf_load_mid (by rfl) _ (.tmp 3) rfl _ 0 rfl _ _ (fun w h => h.2.2) Try.underlying33 rfl HIL.out) (hK9 _ (Below.refl _ _).drew) ?_
  simp only [Act.put, List.setIfInBounds_toArray, List.set_cons_zero, List.set_cons_succ]
  refine wpForced_cons rfl ?_
  go_wp2_with fail
  refine (toFace_any F hF A c _ (CA9.go ((Below.refl _ _).drew) (Nat.le_refl _)) hnF).mono ?_
  rintro e wa9 ⟨A3, rfl, hP3, hba9⟩
  have hX9 : Below w9.heap.size w9 wa9 := (Below.refl _ _).drew.trans hba9
  go_wp2_with fail
  refine ⟨hK9 _ hX9, wpForced_cons rfl ?_⟩
  go_wp2_with fail
  refine (HEQ.out _ _ ((d_x0_9.below hX9 (Nat.le_refl _)).at_) hP3.at_).mono ?_
  rintro e w10 ⟨rfl, hbb9⟩
  have hY9 := hX9.trans (hbb9.mono hX9.size)
  go_wp2_with fail
  refine ⟨hK9 _ hY9, wpForced_cons rfl ?_⟩
  go_wp2_with fail
  refine ⟨hK9 _ hY9, wpForced_nil ?_⟩
  clear hK9 CA9 HEQ hP3 hba9 hX9 hbb9 qa9
  have hB10 := hB9.trans (hY9.mono hB9.size)
  have z10 := hY9.size
  have pw_10 := pw_9.below (hY9.mono (by omega))
  have d_x0_10 := d_x0_9.below hY9 (Nat.le_refl _)
  have xrow_10 := rangeAt_over xrow_9 hY9 (by omega)
  have pg_10 := pg_9.go hY9
  clear pw_9 d_x0_9 xrow_9 pg_9 hB9
  have rr10 := rangeAt_over r0 hB10 s0
  go_wp2_with (first | (refine wpList_load_mid rfl 33 (.tmp 3) rfl _ 0 rfl (fc F (.slice A F.ps.length c)) _ rr10 Try.underlying33 rfl HIL.out ?_) | (refine wpList_load_mid rfl 40 (.tmp 11) rfl _ 0 rfl (fc F (.slice Q2 F.ps.length F.ps.length)) _ xrow_10 Try.underlying40 rfl (HII.out _) ?_))
  clear rr10
  refine (markFace_any F hF Q2 _ w4.heap.size _ hnF2 d_x0_10).mono ?_
  rintro e w11 ⟨rfl, hg11, _⟩
  have hB11 := hB10.trans (grown_toBelow hg11 (by omega) (fun k hk => by have := bd_x0 k hk; omega))
  have z11 := hg11.size
  have pw_11 := grown_intsAt hg11 pw_10 (by omega) (fun k hk => by have := bd_x0 k hk; omega)
  have pg_11 := grown_intsIn hg11 pg_10 (fun b hb e => by have h1 := bd_g b hb; have h2 := bd_x0 _ e.symm; omega)
  clear pw_10 pg_10 hB10
  have hdk11 : decide ((1 : Int) + 3 * (F.ps.length : Int) < 0) = false := by simp; omega
  clear d_x0_10
  have rr11 := rangeAt_over r0 hB11 s0
  go_wp2_with (refine wpList_load_mid rfl 33 (.tmp 3) rfl _ 0 rfl (fc F (.slice A F.ps.length c)) _ rr11 Try.underlying33 rfl HIL.out ?_)
  clear rr11
  refine (eqInt64S_same Ag Aw R cg cw _ (by unfold maxLen; omega) pg_11.at_ (pw_11.mono (by omega))).mono ?_
  rintro e w12 ⟨rfl, hb12⟩
  have hB12 := hB11.trans (hb12.mono hB11.size)
  have z12 := hb12.size
  have pw_12 := pw_11.below (hb12.mono (by omega))
  have pg_12 := pg_11.go hb12
  clear pw_11 pg_11 hB11
  have rr12 := rangeAt_over r0 hB12 s0
  go_wp2_with (refine wpList_load_mid rfl 33 (.tmp 3) rfl _ 0 rfl (fc F (.slice A F.ps.length c)) _ rr12 Try.underlying33 rfl HIL.out ?_)
  clear rr12
  refine (markI1_any Ag R _ _ _ (by omega) pg_12).mono ?_
  rintro e w13 ⟨rfl, hg13, hM⟩
  have hB13 := hB12.trans (grown_toBelow hg13 (by omega) (fun k hk => by have := bd_g k hk; omega))
  have z13 := hg13.size
  have pw_13 := grown_intsAt hg13 pw_12 (by omega) (fun k hk => by have := bd_g k hk; omega)
  clear pw_12 hB12
  clear pg_12
  have hdq : decide (((1 + R.length : Nat) : Int) < 0) = false := by simp; omega
  have HH := hide (fun (W : World) (L : Nat) (h : IntsIn W L Ag (marksI 1 R.length)) => heldI1_any Ag R.length cg L W (by omega) h)
  generalize ((1 + R.length : Nat) : Int) = Qn at hdq HH ⊢
  have rr13 := rangeAt_over r0 hB13 s0
  go_wp2_with (refine wpList_load_mid rfl 33 (.tmp 3) rfl _ 0 rfl (fc F (.slice A F.ps.length c)) _ rr13 Try.underlying33 rfl HIL.out ?_)
  clear rr13
  refine (HH.out _ _ hM).mono ?_
  rintro e w14 ⟨rfl, hb14⟩
  have hB14 := hB13.trans (hb14.mono hB13.size)
  have z14 := hb14.size
  have pw_14 := pw_13.below (hb14.mono (by omega))
  have pm_14 := hM.go hb14
  clear pw_13 hM hB13
  go_wp2
  have r014 := rangeAt_over r0 hB14 s0
  have rC14 := rangeAt_over rC hB14 (by omega)
  have HK14 := hide (fun w' (hb : Below w14.heap.size w14 w') => (⟨rangeAt_below r014 hb (by omega), rangeAt_below rC14 hb (by omega)⟩ : w'.rangeAt (w.heap.size) 0 (fc F (.slice A F.ps.length c)) ∧ w'.rangeAt (w.heap.size + 1) 0 [.int .i16 ch, .int .i8 cp]))
  refine wp_region_script [(0, true), (2, true), (4, true), (1, false), (3, false), (5, false), (6, false), (7, true), (8, true), (9, true), (10, false), (11, false), (12, false)]
    (fun w' => Below w14.heap.size w14 w') (by kernel_rfl) (by kernel_rfl) (of_decide_eq_true (by kernel_rfl)) (by kernel_rfl) (fun _ _ d _ _ h => by cases d <;> exact h) ((Below.refl _ _).drew) ?_
  refine sc_take (.agg (fc F (.slice A F.ps.length c)).toArray) rfl (yieldsIf_load_mid (by rfl) _ (.tmp 3) rfl _ 0 rfl _ _ (fun w h => (HK14.out w h).1) Try.underlying33 rfl HIL.out) ?_
  refine sc_take (.agg #[.int .i16 ch, .int .i8 cp]) rfl (yieldsIf_load_mid (by rfl) _ (.tmp 4) rfl _ 0 rfl _ _ (fun w h => (HK14.out w h).2) Try.underlying25 rfl HIC.out) ?_
  refine sc_take _ rfl (.inl ⟨rfl, fun w _ => rfl⟩) ?_
  simp only [Act.put, List.setIfInBounds_toArray, List.set_cons_zero, List.set_cons_succ]
  refine sc_step rfl ?_
  go_wp2_with fail
  refine (toFace_any F hF A c _ ((hAW.go hB14 hws).go ((Below.refl _ _).drew) (Nat.le_refl _)) hnF).mono ?_
  rintro e w15 ⟨Q3, rfl, hQ3, hb15⟩
  replace hb15 := (Below.refl _ _).drew.trans hb15
  change Below w14.heap.size w14 w15 at hb15
  change PairsIn w15 w14.heap.size Q3 F.ps at hQ3
  have hB15 := hB14.trans (hb15.mono hB14.size)
  have z15 := hb15.size
  have pw_15 := pw_14.below (hb15.mono (by omega))
  have pm_15 := pm_14.go hb15
  clear pw_14 pm_14 hB14
  have qq6 : Below w14.heap.size w14 w15 := hb15
  go_wp2_with fail
  refine ⟨qq6, sc_step rfl ?_⟩
  go_wp2_with fail
  refine (toSheet_any ch cp _).mono ?_
  rintro e w16 ⟨rfl, hb16⟩
  have hB16 := hB15.trans (hb16.mono hB15.size)
  have z16 := hb16.size
  have pw_16 := pw_15.below (hb16.mono (by omega))
  have pm_16 := pm_15.go hb16
  have c_aF_16 := hQ3.below hb16 (Nat.le_refl _)
  clear pw_15 pm_15 hQ3 hB15
  have qq7 := qq6.trans (hb16.mono qq6.size)
  clear qq6
  go_wp2_with fail
  refine ⟨qq7, sc_step rfl ?_⟩
  go_wp2_with fail
  refine (HIM.out Q3 _ _ ((hG.below b0).below hB16) c_aF_16.at_).mono ?_
  rintro e w17 ⟨Ah, ch, rfl, hPh, hb17⟩
  have hB17 := hB16.trans (hb17.mono hB16.size)
  have z17 := hb17.size
  have pw_17 := pw_16.below (hb17.mono (by omega))
  have pm_17 := pm_16.go hb17
  clear pw_16 pm_16 hB16
  clear c_aF_16
  have qq8 := qq7.trans (hb17.mono qq7.size)
  clear qq7
  go_wp2_with fail
  refine ⟨qq8, sc_step rfl ?_⟩
  go_wp2_with fail
  refine ⟨qq8, sc_take _ rfl (.inl ⟨rfl, fun w _ => rfl⟩) (sc_take _ rfl (.inl ⟨rfl, fun w _ => rfl⟩) (sc_take _ rfl (.inl ⟨rfl, fun w _ => rfl⟩) ?_))⟩
  simp only [Act.put, List.setIfInBounds_toArray, List.set_cons_zero, List.set_cons_succ]
  refine sc_step rfl ?_
  go_wp2_with fail
  refine ⟨qq8, sc_step rfl ?_⟩
  go_wp2_with fail
  refine ⟨qq8, sc_step rfl ?_⟩
  go_wp2_with fail
  refine ⟨qq8, sc_nil ?_⟩
  clear qq8 HK14 r014 rC14
  have bd_h := blkI_bd hPh
  have rr17 := rangeAt_over r0 hB17 s0
  go_wp2_with (refine wpList_load_mid rfl 33 (.tmp 3) rfl _ 0 rfl (fc F (.slice A F.ps.length c)) _ rr17 Try.underlying33 rfl HIL.out ?_)
  clear rr17
  refine (eqInt64S_same Ah Aw R ch cw _ (by unfold maxLen; omega) hPh.at_ (pw_17.mono (by omega))).mono ?_
  rintro e w18 ⟨rfl, hb18⟩
  have hB18 := hB17.trans (hb18.mono hB17.size)
  have z18 := hb18.size
  have pw_18 := pw_17.below (hb18.mono (by omega))
  have pm_18 := pm_17.go hb18
  have ph_18 := hPh.go hb18
  clear pw_17 pm_17 hPh hB17
  clear ph_18
  have rr18 := rangeAt_over r0 hB18 s0
  go_wp2_with (refine wpList_load_mid rfl 33 (.tmp 3) rfl _ 0 rfl (fc F (.slice A F.ps.length c)) _ rr18 Try.underlying33 rfl HIL.out ?_)
  clear rr18
  refine (HH.out _ _ pm_18).mono ?_
  rintro e w19 ⟨rfl, hb19⟩
  have hB19 := hB18.trans (hb19.mono hB18.size)
  have z19 := hb19.size
  have pw_19 := pw_18.below (hb19.mono (by omega))
  have pm_19 := pm_18.go hb19
  clear pw_18 pm_18 hB18
  go_wp2
  go_ret
  exact ⟨rfl, b0.trans (hB19.mono b0.size)⟩
end Go.Proofs.Ytjgcadohjccfaaa
