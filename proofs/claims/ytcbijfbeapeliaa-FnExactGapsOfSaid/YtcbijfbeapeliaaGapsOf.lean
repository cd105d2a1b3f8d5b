/- GapsOf: the model and the program give the same answer for every argument, and what comes back owns its memory. -/
import Derived.Test.YtcbijfbeapeliaaGpsS
import Derived.Test.YtcbijfbeapeliaaG5
import Derived.Test.YtcbijfbeapeliaaMarkG
import Derived.Test.YtcbijfbeapeliaaGs
import Derived.Test.YtcbijfbeapeliaaG2
namespace Go.Proofs.Ytcbijfbeapeliaa
open Go.RowKit

set_option maxRecDepth 100000 in
set_option maxHeartbeats 16000000 in
theorem lawGapsOf_any (F : Fc) (hF : F.ok) (A : Option Addr) (c : Nat) (s : ByteArray) (hs : s.size ≤ maxLen) (w : World) (hA : PairsAt w w.heap.size A F.ps) :
    Calls Try.prog 9 #[.agg (fc F (.slice A F.ps.length c)).toArray, .string s] w fun e w' => e = .returned (.bool true) ∧ Below w.heap.size w w' := by
  have hW := hide hF.len
  have HIL := hide (show (Try.prog.info? 42).map (·.size) = some (fc F (.slice A F.ps.length c)).length from by rw [fc_length hW.out]; kernel_rfl)
  have HII := hide (show ∀ sl, (Try.prog.info? 48).map (·.size) = some (fc F sl).length from fun sl => by rw [fc_length hW.out]; kernel_rfl)
  have HSZ := hide (szFace_any F hF A c 1048576)
  have b0 : Below w.heap.size w (w.alloc (.cells (fc F (.slice A F.ps.length c)).toArray 42)) := ((Below.refl _ _).alloc (by simp) _)
  have s0 : w.heap.size < (w.alloc (.cells (fc F (.slice A F.ps.length c)).toArray 42)).heap.size := by simp
  have r0 : (w.alloc (.cells (fc F (.slice A F.ps.length c)).toArray 42)).rangeAt (w.heap.size) 0 (fc F (.slice A F.ps.length c)) := (rangeAt_newg (w := w) (cs := (fc F (.slice A F.ps.length c)).toArray) (t := 42) (g := w.heap.size) (by simp) rfl)
  have hm_s := hs
  unfold maxLen at hm_s
  by_cases ht_s : 1048576 < s.size
  · have hd : decide ((1048576 : Int) < s.size) = true := by simp; omega
    have hd' : decide (1048576 < s.size) = true := by simp; omega
    go_enter Try.func9, Try.ntmps9
    go_wp2
    go_ret
    exact ⟨rfl, b0⟩
  have hd0_s : decide ((1048576 : Int) < s.size) = false := by simp; omega
  have hd1_s : decide (1048576 < s.size) = false := by simp; omega
  have hn_s : s.size ≤ 1048576 := by omega
  clear ht_s hm_s
  by_cases hbig : szL 1048576 F.ps.length < 0
  · go_enter Try.func9, Try.ntmps9
    go_wp2_with (first | (refine wpList_load_mid rfl 42 (.tmp 2) rfl _ 0 rfl (fc F (.slice A F.ps.length c)) _ r0 Try.underlying42 rfl HIL.out ?_) | (go_at_call 29; refine (HSZ.out _ (by omega) (by omega)).mono ?_; rintro e w1 ⟨rfl, hb1⟩))
    go_ret
    exact ⟨rfl, b0.trans (hb1.mono b0.size)⟩
  have hd : decide (szL 1048576 F.ps.length < 0) = false := by simpa using hbig
  have hnF : F.ps.length ≤ 1048576 := by unfold szL at hbig; split at hbig <;> omega
  have hnF2 : F.ps.length ≤ 2097152 := by omega
  clear hbig
  have hAW := hA.below b0
  have hRn : (gpR F s.data.toList).length ≤ 1048577 := gpR_len F _
  have HSP := hide (fun (A : Option Addr) (c : Nat) w => specGapsOf_any F hF A c s hs w)
  have HIM := hide (fun (A : Option Addr) (c : Nat) w => implGapsOf_any F hF A c s hs w)
  
  generalize gpR F s.data.toList = R at HSP HIM hRn
  generalize gpC F s.data.toList = C at HSP HIM
  go_enter Try.func9, Try.ntmps9
  go_wp2_with (refine wpList_load_mid rfl 42 (.tmp 2) rfl _ 0 rfl (fc F (.slice A F.ps.length c)) _ r0 Try.underlying42 rfl HIL.out ?_)
  generalize (w.alloc (.cells (fc F (.slice A F.ps.length c)).toArray 42)) = W0 at *
  have hws := b0.size
  refine (HSZ.out _ (by omega) (by omega)).mono ?_
  rintro e w1 ⟨rfl, hb1⟩
  have hB1 := hb1
  have z1 := hb1.size
  have rr1 := rangeAt_over r0 hB1 s0
  go_wp2_with (refine wpList_load_mid rfl 42 (.tmp 2) rfl _ 0 rfl (fc F (.slice A F.ps.length c)) _ rr1 Try.underlying42 rfl HIL.out ?_)
  clear rr1
  refine (toFace_any F hF A c _ (hAW.go hB1 hws) hnF).mono ?_
  rintro e w2 ⟨Q1, rfl, hQ1, hb2⟩
  have hB2 := hB1.trans (hb2.mono hB1.size)
  have z2 := hb2.size
  clear hB1
  have rr2 := rangeAt_over r0 hB2 s0
  go_wp2_with (refine wpList_load_mid rfl 42 (.tmp 2) rfl _ 0 rfl (fc F (.slice A F.ps.length c)) _ rr2 Try.underlying42 rfl HIL.out ?_)
  clear rr2
  refine (HSP.out Q1 _ _ hQ1.at_).mono ?_
  rintro e w3 ⟨Aw, cw, rfl, hPw, hb3⟩
  have hB3 := hB2.trans (hb3.mono hB2.size)
  have z3 := hb3.size
  clear hB2
  clear hQ1
  have pw_3 := hPw.at_
  clear hPw
  have rr3 := rangeAt_over r0 hB3 s0
  go_wp2_with (refine wpList_load_mid rfl 42 (.tmp 2) rfl _ 0 rfl (fc F (.slice A F.ps.length c)) _ rr3 Try.underlying42 rfl HIL.out ?_)
  clear rr3
  refine (toFace_any F hF A c _ (hAW.go hB3 hws) hnF).mono ?_
  rintro e w4 ⟨Q2, rfl, hQ2, hb4⟩
  have hB4 := hB3.trans (hb4.mono hB3.size)
  have z4 := hb4.size
  have pw_4 := pw_3.below (hb4.mono (by omega))
  clear pw_3 hB3
  have bd_x0 := blkP_bd hQ2
  obtain ⟨w5, hW5, r5, b5, s5, t5, t50⟩ := stored_face w4 F hW.out (.slice Q2 F.ps.length F.ps.length)
  have HW5 := hide hW5
  clear hW5
  have hB5 := hB4.trans (b5.mono hB4.size)
  have z5 := b5.size
  have pw_5 := pw_4.below (b5.mono (by omega))
  have d_x0_5 := hQ2.below b5 (Nat.le_refl _)
  clear pw_4 hQ2 hB4
  go_wp2_with (first | (refine wpList_store_mid rfl 48 (.tmp 8) (.tmp 32) rfl w4.heap.size 0 _ rfl rfl t50 (HII.out _) (fc_one _ _ _ _) ?_; rw [← HW5.out]) | (refine wpList_load_mid rfl 48 (.tmp 8) rfl _ 0 rfl (fc F (.slice Q2 F.ps.length F.ps.length)) _ r5 Try.underlying48 rfl (HII.out _) ?_))
  refine (HIM.out Q2 _ _ d_x0_5.at_).mono ?_
  rintro e w6 ⟨Ag, cg, rfl, hPg, hb6⟩
  have hB6 := hB5.trans (hb6.mono hB5.size)
  have z6 := hb6.size
  have pw_6 := pw_5.below (hb6.mono (by omega))
  have d_x0_6 := d_x0_5.below hb6 (Nat.le_refl _)
  have xrow_6 := rangeAt_over r5 hb6 (by omega)
  clear pw_5 d_x0_5 r5 hB5
  have bd_g := blkI_bd hPg
  have rr6 := rangeAt_over r0 hB6 s0
  go_wp2_with (first | (refine wpList_load_mid rfl 42 (.tmp 2) rfl _ 0 rfl (fc F (.slice A F.ps.length c)) _ rr6 Try.underlying42 rfl HIL.out ?_) | (refine wpList_load_mid rfl 48 (.tmp 8) rfl _ 0 rfl (fc F (.slice Q2 F.ps.length F.ps.length)) _ xrow_6 Try.underlying48 rfl (HII.out _) ?_))
  clear rr6
  refine (eqInt64S_same Ag Aw R cg cw _ (by unfold maxLen; omega) hPg.at_ (pw_6.mono (by omega))).mono ?_
  rintro e w7 ⟨rfl, hb7⟩
  have hB7 := hB6.trans (hb7.mono hB6.size)
  have z7 := hb7.size
  have pw_7 := pw_6.below (hb7.mono (by omega))
  have d_x0_7 := d_x0_6.below hb7 (Nat.le_refl _)
  have xrow_7 := rangeAt_over xrow_6 hb7 (by omega)
  have pg_7 := hPg.go hb7
  clear pw_6 d_x0_6 xrow_6 hPg hB6
  have qa7 := rangeAt_over r0 hB7 s0
  have sq7 : w.heap.size < w7.heap.size := by omega
  have sx7 : w4.heap.size < w7.heap.size := by omega
  have hK7 : ∀ w', Below w7.heap.size w7 w' → _ := fun w' hb => keepS hb xrow_7 sx7 qa7 sq7
  have CA7 := hAW.go hB7 hws
  have HEQ := hide (fun A' w => eqFace_same F hF Q2 A' F.ps.length F.ps.length w)
  go_wp2
  refine wp_region_take2 0 1 [2, 3, 4] 3 (vi := .agg (fc F (.slice Q2 F.ps.length F.ps.length)).toArray) (vj := .agg (fc F (.slice A F.ps.length c)).toArray)
    (fun w' => Below w7.heap.size w7 w' ∧ w'.rangeAt w4.heap.size 0 (fc F (.slice Q2 F.ps.length F.ps.length)) ∧ w'.rangeAt w.heap.size 0 (fc F (.slice A F.ps.length c)))
    (by kernel_rfl) rfl (by decide) rfl rfl (by kernel_rfl) (by kernel_rfl) (by kernel_rfl) (by kernel_rfl) (by kernel_rfl) (by kernel_rfl) (fun _ _ _ h => h) (fun _ _ _ h => h)
    (yieldsIf_load_mid (by rfl) _ (.tmp 8) rfl _ 0 rfl _ _ (fun w h => h.2.1) Try.underlying48 rfl (HII.out _)) (yieldsIf_load_mid (by rfl) _ (.tmp 2) rfl _ 0 rfl _ _ (fun w h => h.2.2) Try.underlying42 rfl HIL.out) (hK7 _ (Below.refl _ _).drew) ?_
  simp only [Act.put, List.setIfInBounds_toArray, List.set_cons_zero, List.set_cons_succ]
  refine wpForced_cons rfl ?_
  go_wp2_with fail
  refine (toFace_any F hF A c _ (CA7.go ((Below.refl _ _).drew) (Nat.le_refl _)) hnF).mono ?_
  rintro e wa7 ⟨A3, rfl, hP3, hba7⟩
  have hX7 : Below w7.heap.size w7 wa7 := (Below.refl _ _).drew.trans hba7
  go_wp2_with fail
  refine ⟨hK7 _ hX7, wpForced_cons rfl ?_⟩
  go_wp2_with fail
  refine (HEQ.out _ _ ((d_x0_7.below hX7 (Nat.le_refl _)).at_) hP3.at_).mono ?_
  rintro e w8 ⟨rfl, hbb7⟩
  have hY7 := hX7.trans (hbb7.mono hX7.size)
  go_wp2_with fail
  refine ⟨hK7 _ hY7, wpForced_cons rfl ?_⟩
  go_wp2_with fail
  refine ⟨hK7 _ hY7, wpForced_nil ?_⟩
  clear hK7 CA7 HEQ hP3 hba7 hX7 hbb7 qa7
  have hB8 := hB7.trans (hY7.mono hB7.size)
  have z8 := hY7.size
  have pw_8 := pw_7.below (hY7.mono (by omega))
  have d_x0_8 := d_x0_7.below hY7 (Nat.le_refl _)
  have xrow_8 := rangeAt_over xrow_7 hY7 (by omega)
  have pg_8 := pg_7.go hY7
  clear pw_7 d_x0_7 xrow_7 pg_7 hB7
  have rr8 := rangeAt_over r0 hB8 s0
  go_wp2_with (first | (refine wpList_load_mid rfl 42 (.tmp 2) rfl _ 0 rfl (fc F (.slice A F.ps.length c)) _ rr8 Try.underlying42 rfl HIL.out ?_) | (refine wpList_load_mid rfl 48 (.tmp 8) rfl _ 0 rfl (fc F (.slice Q2 F.ps.length F.ps.length)) _ xrow_8 Try.underlying48 rfl (HII.out _) ?_))
  clear rr8
  refine (markFace_any F hF Q2 _ w3.heap.size _ hnF2 d_x0_8).mono ?_
  rintro e w9 ⟨rfl, hg9, _⟩
  have hB9 := hB8.trans (grown_toBelow hg9 (by omega) (fun k hk => by have := bd_x0 k hk; omega))
  have z9 := hg9.size
  have pw_9 := grown_intsAt hg9 pw_8 (by omega) (fun k hk => by have := bd_x0 k hk; omega)
  have pg_9 := grown_intsIn hg9 pg_8 (fun b hb e => by have h1 := bd_g b hb; have h2 := bd_x0 _ e.symm; omega)
  clear pw_8 pg_8 hB8
  have hdk9 : decide ((1 : Int) + 3 * (F.ps.length : Int) < 0) = false := by simp; omega
  clear d_x0_8
  have rr9 := rangeAt_over r0 hB9 s0
  go_wp2_with (refine wpList_load_mid rfl 42 (.tmp 2) rfl _ 0 rfl (fc F (.slice A F.ps.length c)) _ rr9 Try.underlying42 rfl HIL.out ?_)
  clear rr9
  refine (eqInt64S_same Ag Aw R cg cw _ (by unfold maxLen; omega) pg_9.at_ (pw_9.mono (by omega))).mono ?_
  rintro e w10 ⟨rfl, hb10⟩
  have hB10 := hB9.trans (hb10.mono hB9.size)
  have z10 := hb10.size
  have pw_10 := pw_9.below (hb10.mono (by omega))
  have pg_10 := pg_9.go hb10
  clear pw_9 pg_9 hB9
  have rr10 := rangeAt_over r0 hB10 s0
  go_wp2_with (refine wpList_load_mid rfl 42 (.tmp 2) rfl _ 0 rfl (fc F (.slice A F.ps.length c)) _ rr10 Try.underlying42 rfl HIL.out ?_)
  clear rr10
  refine (markI1_any Ag R _ _ _ (by omega) pg_10).mono ?_
  rintro e w11 ⟨rfl, hg11, hM⟩
  have hB11 := hB10.trans (grown_toBelow hg11 (by omega) (fun k hk => by have := bd_g k hk; omega))
  have z11 := hg11.size
  have pw_11 := grown_intsAt hg11 pw_10 (by omega) (fun k hk => by have := bd_g k hk; omega)
  clear pw_10 hB10
  clear pg_10
  have hdq : decide (((1 + R.length : Nat) : Int) < 0) = false := by simp; omega
  have HH := hide (fun (W : World) (L : Nat) (h : IntsIn W L Ag (marksI 1 R.length)) => heldI1_any Ag R.length cg L W (by omega) h)
  generalize ((1 + R.length : Nat) : Int) = Qn at hdq HH ⊢
  have rr11 := rangeAt_over r0 hB11 s0
  go_wp2_with (refine wpList_load_mid rfl 42 (.tmp 2) rfl _ 0 rfl (fc F (.slice A F.ps.length c)) _ rr11 Try.underlying42 rfl HIL.out ?_)
  clear rr11
  refine (HH.out _ _ hM).mono ?_
  rintro e w12 ⟨rfl, hb12⟩
  have hB12 := hB11.trans (hb12.mono hB11.size)
  have z12 := hb12.size
  have pw_12 := pw_11.below (hb12.mono (by omega))
  have pm_12 := hM.go hb12
  clear pw_11 hM hB11
  have rr12 := rangeAt_over r0 hB12 s0
  go_wp2_with (refine wpList_load_mid rfl 42 (.tmp 2) rfl _ 0 rfl (fc F (.slice A F.ps.length c)) _ rr12 Try.underlying42 rfl HIL.out ?_)
  clear rr12
  refine (toFace_any F hF A c _ (hAW.go hB12 hws) hnF).mono ?_
  rintro e w13 ⟨Q3, rfl, hQ3, hb13⟩
  have hB13 := hB12.trans (hb13.mono hB12.size)
  have z13 := hb13.size
  have pw_13 := pw_12.below (hb13.mono (by omega))
  have pm_13 := pm_12.go hb13
  clear pw_12 pm_12 hB12
  have rr13 := rangeAt_over r0 hB13 s0
  go_wp2_with (refine wpList_load_mid rfl 42 (.tmp 2) rfl _ 0 rfl (fc F (.slice A F.ps.length c)) _ rr13 Try.underlying42 rfl HIL.out ?_)
  clear rr13
  refine (HIM.out Q3 _ _ hQ3.at_).mono ?_
  rintro e w14 ⟨Ah, ch, rfl, hPh, hb14⟩
  have hB14 := hB13.trans (hb14.mono hB13.size)
  have z14 := hb14.size
  have pw_14 := pw_13.below (hb14.mono (by omega))
  have pm_14 := pm_13.go hb14
  clear pw_13 pm_13 hB13
  clear hQ3
  have bd_h := blkI_bd hPh
  have rr14 := rangeAt_over r0 hB14 s0
  go_wp2_with (refine wpList_load_mid rfl 42 (.tmp 2) rfl _ 0 rfl (fc F (.slice A F.ps.length c)) _ rr14 Try.underlying42 rfl HIL.out ?_)
  clear rr14
  refine (eqInt64S_same Ah Aw R ch cw _ (by unfold maxLen; omega) hPh.at_ (pw_14.mono (by omega))).mono ?_
  rintro e w15 ⟨rfl, hb15⟩
  have hB15 := hB14.trans (hb15.mono hB14.size)
  have z15 := hb15.size
  have pw_15 := pw_14.below (hb15.mono (by omega))
  have pm_15 := pm_14.go hb15
  have ph_15 := hPh.go hb15
  clear pw_14 pm_14 hPh hB14
  clear ph_15
  have rr15 := rangeAt_over r0 hB15 s0
  go_wp2_with (refine wpList_load_mid rfl 42 (.tmp 2) rfl _ 0 rfl (fc F (.slice A F.ps.length c)) _ rr15 Try.underlying42 rfl HIL.out ?_)
  clear rr15
  refine (HH.out _ _ pm_15).mono ?_
  rintro e w16 ⟨rfl, hb16⟩
  have hB16 := hB15.trans (hb16.mono hB15.size)
  have z16 := hb16.size
  have pw_16 := pw_15.below (hb16.mono (by omega))
  have pm_16 := pm_15.go hb16
  clear pw_15 pm_15 hB15
  go_wp2
  go_ret
  exact ⟨rfl, b0.trans (hB16.mono b0.size)⟩
end Go.Proofs.Ytcbijfbeapeliaa
