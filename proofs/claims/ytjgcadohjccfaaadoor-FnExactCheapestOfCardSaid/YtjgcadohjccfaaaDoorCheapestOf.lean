/- CheapestOf: the model and the program give the same answer for every argument. -/
import Derived.Test.YtjgcadohjccfaaaDoorCp
import Derived.Test.YtjgcadohjccfaaaDoorG5
import Derived.Test.YtjgcadohjccfaaaDoorMarkG
import Derived.Test.YtjgcadohjccfaaaDoorGs
namespace Go.Proofs.YtjgcadohjccfaaaDoor
open Go.RowKit

set_option maxRecDepth 100000 in
set_option maxHeartbeats 16000000 in
theorem lawCheapestOf_any (F : Fc) (hF : F.ok) (A : Option Addr) (c : Nat) (P : List Int) (hP : P.length = 29) (hPx : ∀ x ∈ P, i16ok x) (T : Option Addr) (ts : List ByteArray) (ct : Nat) (htn : ts.length ≤ maxLen) (htx : ∀ x ∈ ts, x.size ≤ maxLen) (w : World) (hG : Glob w) (hA : PairsAt w w.heap.size A F.ps) (hT : StrsAt w w.heap.size T ts) :
    Calls Tryd.prog 5 #[.agg (fc F (.slice A F.ps.length c)).toArray, .agg (pw P).toArray, .slice T ts.length ct] w fun e w' => e = .returned (.bool true) ∧ Below w.heap.size w w' := by
  have hW := hide hF.len
  have HIL := hide (show (Tryd.prog.info? 26).map (·.size) = some (fc F (.slice A F.ps.length c)).length from by rw [fc_length hW.out]; kernel_rfl)
  have HII := hide (show ∀ sl, (Tryd.prog.info? 36).map (·.size) = some (fc F sl).length from fun sl => by rw [fc_length hW.out]; kernel_rfl)
  have HSZ := hide (szFace_any F hF A c 1048576)
  have b0 : Below w.heap.size w ((w.alloc (.cells (fc F (.slice A F.ps.length c)).toArray 26)).alloc (.cells (pw P).toArray 30)) := (((Below.refl _ _).alloc (by simp) _).alloc (by simp) _)
  have s0 : w.heap.size < ((w.alloc (.cells (fc F (.slice A F.ps.length c)).toArray 26)).alloc (.cells (pw P).toArray 30)).heap.size := by simp; omega
  have s0n : w.heap.size + 2 ≤ ((w.alloc (.cells (fc F (.slice A F.ps.length c)).toArray 26)).alloc (.cells (pw P).toArray 30)).heap.size := by simp
  have r0 : ((w.alloc (.cells (fc F (.slice A F.ps.length c)).toArray 26)).alloc (.cells (pw P).toArray 30)).rangeAt (w.heap.size) 0 (fc F (.slice A F.ps.length c)) := (World.rangeAt_alloc (rangeAt_newg (w := w) (cs := (fc F (.slice A F.ps.length c)).toArray) (t := 26) (g := w.heap.size) (by simp) rfl) _)
  have rP : ((w.alloc (.cells (fc F (.slice A F.ps.length c)).toArray 26)).alloc (.cells (pw P).toArray 30)).rangeAt (w.heap.size + 1) 0 (pw P) := (rangeAt_newg (w := (w.alloc (.cells (fc F (.slice A F.ps.length c)).toArray 26))) (cs := (pw P).toArray) (t := 30) (g := w.heap.size + 1) (by simp) rfl)
  have HIP := hide (show (Tryd.prog.info? 30).map (·.size) = some ((pw P) : List Value).length from by rw [pw_length, hP]; kernel_rfl)
  by_cases hbig : szL 1048576 F.ps.length < 0
  · go_enter Tryd.func5, Tryd.ntmps5
    go_wp2_with (first | (refine wpList_load_mid rfl 26 (.tmp 3) rfl _ 0 rfl (fc F (.slice A F.ps.length c)) _ r0 Tryd.underlying26 rfl HIL.out ?_) | (go_at_call 10; refine (HSZ.out _ (by omega) (by omega)).mono ?_; rintro e w1 ⟨rfl, hb1⟩))
    go_ret
    exact ⟨rfl, b0.trans (hb1.mono b0.size)⟩
  have hd : decide (szL 1048576 F.ps.length < 0) = false := by simpa using hbig
  have hnF : F.ps.length ≤ 1048576 := by unfold szL at hbig; split at hbig <;> omega
  have hnF2 : F.ps.length ≤ 2097152 := by omega
  clear hbig
  have hAW := hA.below b0
  have hTW := (hT.below b0).mono b0.size
  go_enter Tryd.func5, Tryd.ntmps5
  go_wp2_with (refine wpList_load_mid rfl 26 (.tmp 3) rfl _ 0 rfl (fc F (.slice A F.ps.length c)) _ r0 Tryd.underlying26 rfl HIL.out ?_)
  generalize ((w.alloc (.cells (fc F (.slice A F.ps.length c)).toArray 26)).alloc (.cells (pw P).toArray 30)) = W0 at *
  have hws := b0.size
  refine (HSZ.out _ (by omega) (by omega)).mono ?_
  rintro e w1 ⟨rfl, hb1⟩
  have hB1 := hb1
  have z1 := hb1.size
  have rr1 := rangeAt_over r0 hB1 s0
  go_wp2_with (refine wpList_load_mid rfl 26 (.tmp 3) rfl _ 0 rfl (fc F (.slice A F.ps.length c)) _ rr1 Tryd.underlying26 rfl HIL.out ?_)
  clear rr1
  have hl0 : 0 ≤ szL 1048576 F.ps.length ∧ szL 1048576 F.ps.length ≤ 1048576 ∧ szL 1048576 F.ps.length = 1048576 - F.ps.length := by unfold szL at hd ⊢; split <;> simp_all <;> omega
  obtain ⟨hl0a, hl0b, hl0c⟩ := hl0
  have HL0 := hide hl0c
  clear hl0c
  have HSS := hide (szStringS_any T ts ct (szL 1048576 F.ps.length) _ (by omega) (by omega) htn htx (hTW.go hB1))
  refine HSS.out.mono ?_
  rintro e w2 ⟨rfl, hsame⟩
  clear HSS
  have hb2 : Below w1.heap.size w1 w2 := by rw [← hsame]; exact Below.refl _ _
  clear hsame
  have hB2 := hB1.trans (hb2.mono hB1.size)
  have z2 := hb2.size
  clear hB1
  have hge := szS_ge (xs := ts) (l := (szL 1048576 F.ps.length))
  by_cases hneg : szS (szL 1048576 F.ps.length) ts < 0
  · have hdl : decide (szS (szL 1048576 F.ps.length) ts < 0) = true := by simpa using hneg
    go_wp2
    go_ret
    exact ⟨rfl, b0.trans (hB2.mono b0.size)⟩
  have hdl : decide (szS (szL 1048576 F.ps.length) ts < 0) = false := by simpa using hneg
  have hge2 := hge (by omega) (by omega)
  have hsum : F.ps.length + ts.length ≤ 1048576 := by have := HL0.out; omega
  have hnstrs : ts.length ≤ 1048576 := by omega
  have hxstrs : sumL (ts.map byts) ≤ 1048576 := by omega
  clear hneg hge hge2
  go_wp2
  have r02 := rangeAt_over r0 hB2 s0
  have rP2 := rangeAt_over rP hB2 (by omega)
  have HK2 := hide (fun w' (hb : Below w2.heap.size w2 w') => (⟨rangeAt_below r02 hb (by omega), rangeAt_below rP2 hb (by omega)⟩ : w'.rangeAt (w.heap.size) 0 (fc F (.slice A F.ps.length c)) ∧ w'.rangeAt (w.heap.size + 1) 0 (pw P)))
  refine wp_region_script [(0, true), (2, true), (4, true), (1, false), (3, false), (5, false), (6, false), (7, false), (8, true), (9, true), (10, true), (11, false), (12, false), (13, false)]
    (fun w' => Below w2.heap.size w2 w') (by kernel_rfl) (by kernel_rfl) (of_decide_eq_true (by kernel_rfl)) (by kernel_rfl) (fun _ _ d _ _ h => by cases d <;> exact h) ((Below.refl _ _).drew) ?_
  refine sc_take (.agg (fc F (.slice A F.ps.length c)).toArray) rfl (yieldsIf_load_mid (by rfl) _ (.tmp 3) rfl _ 0 rfl _ _ (fun w h => (HK2.out w h).1) Tryd.underlying26 rfl HIL.out) ?_
  refine sc_take (.agg (pw P).toArray) rfl (yieldsIf_load_mid (by rfl) _ (.tmp 4) rfl _ 0 rfl _ _ (fun w h => (HK2.out w h).2) Tryd.underlying30 rfl HIP.out) ?_
  refine sc_take _ rfl (.inl ⟨rfl, fun w _ => rfl⟩) ?_
  simp only [Act.put, List.setIfInBounds_toArray, List.set_cons_zero, List.set_cons_succ]
  refine sc_step rfl ?_
  go_wp2_with fail
  refine (toFace_any F hF A c _ ((hAW.go hB2 hws).go ((Below.refl _ _).drew) (Nat.le_refl _)) hnF).mono ?_
  rintro e w3 ⟨Q1, rfl, hQ1, hb3⟩
  replace hb3 := (Below.refl _ _).drew.trans hb3
  change Below w2.heap.size w2 w3 at hb3
  change PairsIn w3 w2.heap.size Q1 F.ps at hQ1
  have hB3 := hB2.trans (hb3.mono hB2.size)
  have z3 := hb3.size
  clear hB2
  have qq1 : Below w2.heap.size w2 w3 := hb3
  go_wp2_with fail
  refine ⟨qq1, sc_step rfl ?_⟩
  go_wp2_with fail
  refine (toPrices_any P hP _).mono ?_
  rintro e w4 ⟨rfl, hb4⟩
  have hB4 := hB3.trans (hb4.mono hB3.size)
  have z4 := hb4.size
  have c_aF_4 := hQ1.below hb4 (Nat.le_refl _)
  clear hQ1 hB3
  have qq2 := qq1.trans (hb4.mono qq1.size)
  clear qq1
  go_wp2_with fail
  refine ⟨qq2, sc_step rfl ?_⟩
  go_wp2_with fail
  refine (toStringS_any T ts ct _ (hTW.go hB4) hnstrs).mono ?_
  rintro e w5 ⟨Q2, rfl, hQ2, hb5⟩
  have hB5 := hB4.trans (hb5.mono hB4.size)
  have z5 := hb5.size
  have c_aF_5 := c_aF_4.below hb5 (Nat.le_refl _)
  clear c_aF_4 hB4
  have qq3 := qq2.trans (hb5.mono qq2.size)
  clear qq2
  go_wp2_with fail
  refine ⟨qq3, sc_step rfl ?_⟩
  go_wp2_with fail
  refine (specCheapestOf_any F hF Q1 _ P hP hPx Q2 ts _ htn htx _ c_aF_5.at_ hQ2.at_).mono ?_
  rintro e w6 ⟨rfl, hb6⟩
  have hB6 := hB5.trans (hb6.mono hB5.size)
  have z6 := hb6.size
  clear hB5
  clear c_aF_5 hQ2
  have qq4 := qq3.trans (hb6.mono qq3.size)
  clear qq3
  go_wp2_with fail
  refine ⟨qq4, sc_step rfl ?_⟩
  go_wp2_with fail
  refine ⟨qq4, sc_take _ rfl (.inl ⟨rfl, fun w _ => rfl⟩) (sc_take _ rfl (.inl ⟨rfl, fun w _ => rfl⟩) (sc_take _ rfl (.inl ⟨rfl, fun w _ => rfl⟩) ?_))⟩
  simp only [Act.put, List.setIfInBounds_toArray, List.set_cons_zero, List.set_cons_succ]
  refine sc_step rfl ?_
  go_wp2_with fail
  refine ⟨qq4, sc_step rfl ?_⟩
  go_wp2_with fail
  refine ⟨qq4, sc_step rfl ?_⟩
  go_wp2_with fail
  refine ⟨qq4, sc_nil ?_⟩
  clear qq4 HK2 r02 rP2
  have rr6 := rangeAt_over r0 hB6 s0
  go_wp2_with (refine wpList_load_mid rfl 26 (.tmp 3) rfl _ 0 rfl (fc F (.slice A F.ps.length c)) _ rr6 Tryd.underlying26 rfl HIL.out ?_)
  clear rr6
  refine (toFace_any F hF A c _ (hAW.go hB6 hws) hnF).mono ?_
  rintro e w7 ⟨Q3, rfl, hQ3, hb7⟩
  have hB7 := hB6.trans (hb7.mono hB6.size)
  have z7 := hb7.size
  clear hB6
  have bd_x0 := blkP_bd hQ3
  obtain ⟨w8, hW8, r8, b8, s8, t8, t80⟩ := stored_face w7 F hW.out (.slice Q3 F.ps.length F.ps.length)
  have HW8 := hide hW8
  clear hW8
  have hB8 := hB7.trans (b8.mono hB7.size)
  have z8 := b8.size
  have d_x0_8 := hQ3.below b8 (Nat.le_refl _)
  clear hQ3 hB7
  have rr8 := rangeAt_over r0 hB8 s0
  go_wp2_with (first | (refine wpList_store_mid rfl 36 (.tmp 11) (.tmp 38) rfl w7.heap.size 0 _ rfl rfl t80 (HII.out _) (fc_one _ _ _ _) ?_; rw [← HW8.out]) | (refine wpList_load_mid rfl 26 (.tmp 3) rfl _ 0 rfl (fc F (.slice A F.ps.length c)) _ rr8 Tryd.underlying26 rfl HIL.out ?_) | (refine wpList_load_mid rfl 36 (.tmp 11) rfl _ 0 rfl (fc F (.slice Q3 F.ps.length F.ps.length)) _ r8 Tryd.underlying36 rfl (HII.out _) ?_))
  clear rr8
  refine (toStringS_any T ts ct _ (hTW.go hB8) hnstrs).mono ?_
  rintro e w9 ⟨Q4, rfl, hQ4, hb9⟩
  have hB9 := hB8.trans (hb9.mono hB8.size)
  have z9 := hb9.size
  have d_x0_9 := d_x0_8.below hb9 (Nat.le_refl _)
  have xrow_9 := rangeAt_over r8 hb9 (by omega)
  clear d_x0_8 r8 hB8
  have bd_x2 := blkS_bd hQ4
  go_wp2
  have rP9 := rangeAt_over rP hB9 (by omega)
  have HK9 := hide (fun w' (hb : Below w9.heap.size w9 w') => (⟨rangeAt_below xrow_9 hb (by omega), rangeAt_below rP9 hb (by omega)⟩ : w'.rangeAt w7.heap.size 0 (fc F (.slice Q3 F.ps.length F.ps.length)) ∧ w'.rangeAt (w.heap.size + 1) 0 (pw P)))
  refine wp_region_script [(0, true), (1, true), (3, true), (2, false), (4, false), (5, false), (6, true), (7, true), (8, true), (9, false), (10, false), (11, false)]
    (fun w' => Below w9.heap.size w9 w') (by kernel_rfl) (by kernel_rfl) (of_decide_eq_true (by kernel_rfl)) (by kernel_rfl) (fun _ _ d _ _ h => by cases d <;> exact h) ((Below.refl _ _).drew) ?_
  refine sc_take (.agg (fc F (.slice Q3 F.ps.length F.ps.length)).toArray) rfl (yieldsIf_load_mid (by rfl) _ (.tmp 11) rfl _ 0 rfl _ _ (fun w h => (HK9.out w h).1) Tryd.underlying36 rfl (HII.out _)) ?_
  refine sc_take (.agg (pw P).toArray) rfl (yieldsIf_load_mid (by rfl) _ (.tmp 4) rfl _ 0 rfl _ _ (fun w h => (HK9.out w h).2) Tryd.underlying30 rfl HIP.out) ?_
  refine sc_take _ rfl (.inl ⟨rfl, fun w _ => rfl⟩) ?_
  simp only [Act.put, List.setIfInBounds_toArray, List.set_cons_zero, List.set_cons_succ]
  refine sc_step rfl ?_
  go_wp2_with fail
  refine (toPrices_any P hP _).mono ?_
  rintro e w10 ⟨rfl, hb10⟩
  replace hb10 := (Below.refl _ _).drew.trans hb10
  change Below w9.heap.size w9 w10 at hb10
  have hB10 := hB9.trans (hb10.mono hB9.size)
  have z10 := hb10.size
  have d_x0_10 := d_x0_9.below hb10 (Nat.le_refl _)
  have xrow_10 := rangeAt_over xrow_9 hb10 (by omega)
  have d_x2_10 := hQ4.go hb10
  clear d_x0_9 xrow_9 hQ4 hB9
  have qq5 : Below w9.heap.size w9 w10 := hb10
  go_wp2_with fail
  refine ⟨qq5, sc_step rfl ?_⟩
  go_wp2_with fail
  refine (implCheapestOf_any F hF Q3 _ P hP hPx Q4 ts _ htn htx _ ((hG.below b0).below hB10) d_x0_10.at_ d_x2_10.at_).mono ?_
  rintro e w11 ⟨rfl, hb11⟩
  have hB11 := hB10.trans (hb11.mono hB10.size)
  have z11 := hb11.size
  have d_x0_11 := d_x0_10.below hb11 (Nat.le_refl _)
  have xrow_11 := rangeAt_over xrow_10 hb11 (by omega)
  have d_x2_11 := d_x2_10.go hb11
  clear d_x0_10 xrow_10 d_x2_10 hB10
  have qq6 := qq5.trans (hb11.mono qq5.size)
  clear qq5
  go_wp2_with fail
  refine ⟨qq6, sc_step rfl ?_⟩
  go_wp2_with fail
  refine ⟨qq6, sc_take _ rfl (.inl ⟨rfl, fun w _ => rfl⟩) (sc_take _ rfl (.inl ⟨rfl, fun w _ => rfl⟩) (sc_take _ rfl (.inl ⟨rfl, fun w _ => rfl⟩) ?_))⟩
  simp only [Act.put, List.setIfInBounds_toArray, List.set_cons_zero, List.set_cons_succ]
  refine sc_step rfl ?_
  go_wp2_with fail
  refine ⟨qq6, sc_step rfl ?_⟩
  go_wp2_with fail
  refine ⟨qq6, sc_step rfl ?_⟩
  go_wp2_with fail
  refine ⟨qq6, sc_nil ?_⟩
  clear qq6 HK9 rP9
  have qa11 := rangeAt_over r0 hB11 s0
  have sq11 : w.heap.size < w11.heap.size := by omega
  have sx11 : w7.heap.size < w11.heap.size := by omega
  have hK11 : ∀ w', Below w11.heap.size w11 w' → _ := fun w' hb => keepS hb xrow_11 sx11 qa11 sq11
  have CA11 := hAW.go hB11 hws
  have HEQ := hide (fun A' w => eqFace_same F hF Q3 A' F.ps.length F.ps.length w)
  go_wp2
  refine wp_region_take2 0 1 [2, 3, 4] 3 (vi := .agg (fc F (.slice Q3 F.ps.length F.ps.length)).toArray) (vj := .agg (fc F (.slice A F.ps.length c)).toArray)
    (fun w' => Below w11.heap.size w11 w' ∧ w'.rangeAt w7.heap.size 0 (fc F (.slice Q3 F.ps.length F.ps.length)) ∧ w'.rangeAt w.heap.size 0 (fc F (.slice A F.ps.length c)))
    (by kernel_rfl) rfl (by decide) rfl rfl (by kernel_rfl) (by kernel_rfl) (by kernel_rfl) (by kernel_rfl) (by kernel_rfl) (by kernel_rfl) (fun _ _ _ h => h) (fun _ _ _ h => h)
    (yieldsIf_load_mid (by rfl) _ (.tmp 11) rfl _ 0 rfl _ _ (fun w h => h.2.1) Tryd.underlying36 rfl (HII.out _)) (yieldsIf_load_mid (by rfl) _ (.tmp 3) rfl _ 0 rfl _ _ (fun w h => h.2.2) Tryd.underlying26 rfl HIL.out) (hK11 _ (Below.refl _ _).drew) ?_
  simp only [Act.put, List.setIfInBounds_toArray, List.set_cons_zero, List.set_cons_succ]
  refine wpForced_cons rfl ?_
  go_wp2_with fail
  refine (toFace_any F hF A c _ (CA11.go ((Below.refl _ _).drew) (Nat.le_refl _)) hnF).mono ?_
  rintro e wa11 ⟨A3, rfl, hP3, hba11⟩
  have hX11 : Below w11.heap.size w11 wa11 := (Below.refl _ _).drew.trans hba11
  go_wp2_with fail
  refine ⟨hK11 _ hX11, wpForced_cons rfl ?_⟩
  go_wp2_with fail
  refine (HEQ.out _ _ ((d_x0_11.below hX11 (Nat.le_refl _)).at_) hP3.at_).mono ?_
  rintro e w12 ⟨rfl, hbb11⟩
  have hY11 := hX11.trans (hbb11.mono hX11.size)
  go_wp2_with fail
  refine ⟨hK11 _ hY11, wpForced_cons rfl ?_⟩
  go_wp2_with fail
  refine ⟨hK11 _ hY11, wpForced_nil ?_⟩
  clear hK11 CA11 HEQ hP3 hba11 hX11 hbb11 qa11
  have hB12 := hB11.trans (hY11.mono hB11.size)
  have z12 := hY11.size
  have d_x0_12 := d_x0_11.below hY11 (Nat.le_refl _)
  have xrow_12 := rangeAt_over xrow_11 hY11 (by omega)
  have d_x2_12 := d_x2_11.go hY11
  clear d_x0_11 xrow_11 d_x2_11 hB11
  have rr12 := rangeAt_over r0 hB12 s0
  go_wp2_with (first | (refine wpList_load_mid rfl 26 (.tmp 3) rfl _ 0 rfl (fc F (.slice A F.ps.length c)) _ rr12 Tryd.underlying26 rfl HIL.out ?_) | (refine wpList_load_mid rfl 36 (.tmp 11) rfl _ 0 rfl (fc F (.slice Q3 F.ps.length F.ps.length)) _ xrow_12 Tryd.underlying36 rfl (HII.out _) ?_))
  clear rr12
  refine (toStringS_any T ts ct _ (hTW.go hB12) hnstrs).mono ?_
  rintro e w13 ⟨Q5, rfl, hQ5, hb13⟩
  have hB13 := hB12.trans (hb13.mono hB12.size)
  have z13 := hb13.size
  have d_x0_13 := d_x0_12.below hb13 (Nat.le_refl _)
  have xrow_13 := rangeAt_over xrow_12 hb13 (by omega)
  have d_x2_13 := d_x2_12.go hb13
  clear d_x0_12 xrow_12 d_x2_12 hB12
  have rr13 := rangeAt_over r0 hB13 s0
  go_wp2_with (first | (refine wpList_load_mid rfl 26 (.tmp 3) rfl _ 0 rfl (fc F (.slice A F.ps.length c)) _ rr13 Tryd.underlying26 rfl HIL.out ?_) | (refine wpList_load_mid rfl 36 (.tmp 11) rfl _ 0 rfl (fc F (.slice Q3 F.ps.length F.ps.length)) _ xrow_13 Tryd.underlying36 rfl (HII.out _) ?_))
  clear rr13
  refine (eqStringS_same Q4 Q5 ts _ _ _ htn d_x2_13.at_ hQ5.at_).mono ?_
  rintro e w14 ⟨rfl, hb14⟩
  have hB14 := hB13.trans (hb14.mono hB13.size)
  have z14 := hb14.size
  have d_x0_14 := d_x0_13.below hb14 (Nat.le_refl _)
  have xrow_14 := rangeAt_over xrow_13 hb14 (by omega)
  have d_x2_14 := d_x2_13.go hb14
  clear d_x0_13 xrow_13 d_x2_13 hB13
  clear hQ5
  go_wp2
  go_ret
  exact ⟨rfl, b0.trans (hB14.mono b0.size)⟩
end Go.Proofs.YtjgcadohjccfaaaDoor
