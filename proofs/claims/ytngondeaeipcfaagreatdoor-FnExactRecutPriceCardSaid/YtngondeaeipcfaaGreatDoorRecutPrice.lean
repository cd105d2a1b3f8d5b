/- RecutPrice: the model and the program give the same answer for every argument. -/
import Derived.Test.YtngondeaeipcfaaGreatDoorRpS
import Derived.Test.YtngondeaeipcfaaGreatDoorG5
import Derived.Test.YtngondeaeipcfaaGreatDoorMarkG
import Derived.Test.YtngondeaeipcfaaGreatDoorGs
namespace Go.Proofs.YtngondeaeipcfaaGreatDoor
open Go.RowKit

set_option maxRecDepth 100000 in
set_option maxHeartbeats 16000000 in
theorem lawRecutPrice_any (F : Fc) (hF : F.ok) (A : Option Addr) (c : Nat) (P : List Int) (hP : P.length = 29) (hPx : ∀ x ∈ P, i16ok x) (s : ByteArray) (hs : s.size ≤ maxLen) (s2 : ByteArray) (hs2 : s2.size ≤ maxLen) (w : World) (hG : Glob w) (hA : PairsAt w w.heap.size A F.ps) :
    Calls Tryz.prog 7 #[.agg (fc F (.slice A F.ps.length c)).toArray, .agg (pw P).toArray, .string s, .string s2] w fun e w' => e = .returned (.bool true) ∧ Below w.heap.size w w' := by
  have hW := hide hF.len
  have HIL := hide (show (Tryz.prog.info? 97).map (·.size) = some (fc F (.slice A F.ps.length c)).length from by rw [fc_length hW.out]; kernel_rfl)
  have HII := hide (show ∀ sl, (Tryz.prog.info? 28).map (·.size) = some (fc F sl).length from fun sl => by rw [fc_length hW.out]; kernel_rfl)
  have HSZ := hide (szFace_any F hF A c 1048576)
  have b0 : Below w.heap.size w ((w.alloc (.cells (fc F (.slice A F.ps.length c)).toArray 97)).alloc (.cells (pw P).toArray 98)) := (((Below.refl _ _).alloc (by simp) _).alloc (by simp) _)
  have s0 : w.heap.size < ((w.alloc (.cells (fc F (.slice A F.ps.length c)).toArray 97)).alloc (.cells (pw P).toArray 98)).heap.size := by simp; omega
  have s0n : w.heap.size + 2 ≤ ((w.alloc (.cells (fc F (.slice A F.ps.length c)).toArray 97)).alloc (.cells (pw P).toArray 98)).heap.size := by simp
  have r0 : ((w.alloc (.cells (fc F (.slice A F.ps.length c)).toArray 97)).alloc (.cells (pw P).toArray 98)).rangeAt (w.heap.size) 0 (fc F (.slice A F.ps.length c)) := (World.rangeAt_alloc (rangeAt_newg (w := w) (cs := (fc F (.slice A F.ps.length c)).toArray) (t := 97) (g := w.heap.size) (by simp) rfl) _)
  have rP : ((w.alloc (.cells (fc F (.slice A F.ps.length c)).toArray 97)).alloc (.cells (pw P).toArray 98)).rangeAt (w.heap.size + 1) 0 (pw P) := (rangeAt_newg (w := (w.alloc (.cells (fc F (.slice A F.ps.length c)).toArray 97))) (cs := (pw P).toArray) (t := 98) (g := w.heap.size + 1) (by simp) rfl)
  have HIP := hide (show (Tryz.prog.info? 98).map (·.size) = some ((pw P) : List Value).length from by rw [pw_length, hP]; kernel_rfl)
  have hm_s := hs
  unfold maxLen at hm_s
  by_cases ht_s : 1048576 < s.size
  · have hd : decide ((1048576 : Int) < s.size) = true := by simp; omega
    have hd' : decide (1048576 < s.size) = true := by simp; omega
    go_enter Tryz.func7, Tryz.ntmps7
    go_wp2
    go_ret
    exact ⟨rfl, b0⟩
  have hd0_s : decide ((1048576 : Int) < s.size) = false := by simp; omega
  have hd1_s : decide (1048576 < s.size) = false := by simp; omega
  have hn_s : s.size ≤ 1048576 := by omega
  clear ht_s hm_s
  have hm_s2 := hs2
  unfold maxLen at hm_s2
  by_cases ht_s2 : 1048576 < s2.size
  · have hd : decide ((1048576 : Int) < s2.size) = true := by simp; omega
    have hd' : decide (1048576 < s2.size) = true := by simp; omega
    go_enter Tryz.func7, Tryz.ntmps7
    go_wp2
    go_ret
    exact ⟨rfl, b0⟩
  have hd0_s2 : decide ((1048576 : Int) < s2.size) = false := by simp; omega
  have hd1_s2 : decide (1048576 < s2.size) = false := by simp; omega
  have hn_s2 : s2.size ≤ 1048576 := by omega
  clear ht_s2 hm_s2
  by_cases hbig : szL 1048576 F.ps.length < 0
  · go_enter Tryz.func7, Tryz.ntmps7
    go_wp2_with (first | (refine wpList_load_mid rfl 97 (.tmp 4) rfl _ 0 rfl (fc F (.slice A F.ps.length c)) _ r0 Tryz.underlying97 rfl HIL.out ?_) | (go_at_call 97; refine (HSZ.out _ (by omega) (by omega)).mono ?_; rintro e w1 ⟨rfl, hb1⟩))
    go_ret
    exact ⟨rfl, b0.trans (hb1.mono b0.size)⟩
  have hd : decide (szL 1048576 F.ps.length < 0) = false := by simpa using hbig
  have hnF : F.ps.length ≤ 1048576 := by unfold szL at hbig; split at hbig <;> omega
  have hnF2 : F.ps.length ≤ 2097152 := by omega
  clear hbig
  have hAW := hA.below b0
  go_enter Tryz.func7, Tryz.ntmps7
  go_wp2_with (refine wpList_load_mid rfl 97 (.tmp 4) rfl _ 0 rfl (fc F (.slice A F.ps.length c)) _ r0 Tryz.underlying97 rfl HIL.out ?_)
  generalize ((w.alloc (.cells (fc F (.slice A F.ps.length c)).toArray 97)).alloc (.cells (pw P).toArray 98)) = W0 at *
  have hws := b0.size
  refine (HSZ.out _ (by omega) (by omega)).mono ?_
  rintro e w1 ⟨rfl, hb1⟩
  have hB1 := hb1
  have z1 := hb1.size
  go_wp2
  have r01 := rangeAt_over r0 hB1 s0
  have rP1 := rangeAt_over rP hB1 (by omega)
  have HK1 := hide (fun w' (hb : Below w1.heap.size w1 w') => (⟨rangeAt_below r01 hb (by omega), rangeAt_below rP1 hb (by omega)⟩ : w'.rangeAt (w.heap.size) 0 (fc F (.slice A F.ps.length c)) ∧ w'.rangeAt (w.heap.size + 1) 0 (pw P)))
  refine wp_region_script [(0, true), (2, true), (4, true), (5, true), (1, false), (3, false), (6, false), (7, false), (8, true), (9, true), (10, false), (11, false)]
    (fun w' => Below w1.heap.size w1 w') (by kernel_rfl) (by kernel_rfl) (of_decide_eq_true (by kernel_rfl)) (by kernel_rfl) (fun _ _ d _ _ h => by cases d <;> exact h) ((Below.refl _ _).drew) ?_
  refine sc_take (.agg (fc F (.slice A F.ps.length c)).toArray) rfl (yieldsIf_load_mid (by rfl) _ (.tmp 4) rfl _ 0 rfl _ _ (fun w h => (HK1.out w h).1) Tryz.underlying97 rfl HIL.out) ?_
  refine sc_take (.agg (pw P).toArray) rfl (yieldsIf_load_mid (by rfl) _ (.tmp 5) rfl _ 0 rfl _ _ (fun w h => (HK1.out w h).2) Tryz.underlying98 rfl HIP.out) ?_
  refine sc_take _ rfl (.inl ⟨rfl, fun w _ => rfl⟩) ?_
  refine sc_take _ rfl (.inl ⟨rfl, fun w _ => rfl⟩) ?_
  simp only [Act.put, List.setIfInBounds_toArray, List.set_cons_zero, List.set_cons_succ]
  refine sc_step rfl ?_
  go_wp2_with fail
  refine (toFace_any F hF A c _ ((hAW.go hB1 hws).go ((Below.refl _ _).drew) (Nat.le_refl _)) hnF).mono ?_
  rintro e w2 ⟨Q1, rfl, hQ1, hb2⟩
  replace hb2 := (Below.refl _ _).drew.trans hb2
  change Below w1.heap.size w1 w2 at hb2
  change PairsIn w2 w1.heap.size Q1 F.ps at hQ1
  have hB2 := hB1.trans (hb2.mono hB1.size)
  have z2 := hb2.size
  clear hB1
  have qq1 : Below w1.heap.size w1 w2 := hb2
  go_wp2_with fail
  refine ⟨qq1, sc_step rfl ?_⟩
  go_wp2_with fail
  refine (toPrices_any P hP _).mono ?_
  rintro e w3 ⟨rfl, hb3⟩
  have hB3 := hB2.trans (hb3.mono hB2.size)
  have z3 := hb3.size
  have c_aF_3 := hQ1.below hb3 (Nat.le_refl _)
  clear hQ1 hB2
  have qq2 := qq1.trans (hb3.mono qq1.size)
  clear qq1
  go_wp2_with fail
  refine ⟨qq2, sc_step rfl ?_⟩
  go_wp2_with fail
  refine (specRecutPrice_any F hF Q1 _ P hP hPx s hs s2 hs2 _ c_aF_3.at_).mono ?_
  rintro e w4 ⟨rfl, hb4⟩
  have hB4 := hB3.trans (hb4.mono hB3.size)
  have z4 := hb4.size
  clear hB3
  clear c_aF_3
  have qq3 := qq2.trans (hb4.mono qq2.size)
  clear qq2
  go_wp2_with fail
  refine ⟨qq3, sc_step rfl ?_⟩
  go_wp2_with fail
  refine ⟨qq3, sc_take _ rfl (.inl ⟨rfl, fun w _ => rfl⟩) (sc_take _ rfl (.inl ⟨rfl, fun w _ => rfl⟩) ?_)⟩
  simp only [Act.put, List.setIfInBounds_toArray, List.set_cons_zero, List.set_cons_succ]
  refine sc_step rfl ?_
  go_wp2_with fail
  refine ⟨qq3, sc_step rfl ?_⟩
  go_wp2_with fail
  refine ⟨qq3, sc_nil ?_⟩
  clear qq3 HK1 r01 rP1
  have rr4 := rangeAt_over r0 hB4 s0
  go_wp2_with (refine wpList_load_mid rfl 97 (.tmp 4) rfl _ 0 rfl (fc F (.slice A F.ps.length c)) _ rr4 Tryz.underlying97 rfl HIL.out ?_)
  clear rr4
  refine (toFace_any F hF A c _ (hAW.go hB4 hws) hnF).mono ?_
  rintro e w5 ⟨Q2, rfl, hQ2, hb5⟩
  have hB5 := hB4.trans (hb5.mono hB4.size)
  have z5 := hb5.size
  clear hB4
  have bd_x0 := blkP_bd hQ2
  obtain ⟨w6, hW6, r6, b6, s6, t6, t60⟩ := stored_face w5 F hW.out (.slice Q2 F.ps.length F.ps.length)
  have HW6 := hide hW6
  clear hW6
  have hB6 := hB5.trans (b6.mono hB5.size)
  have z6 := b6.size
  have d_x0_6 := hQ2.below b6 (Nat.le_refl _)
  clear hQ2 hB5
  go_wp2_with (refine wpList_store_mid rfl 28 (.tmp 12) (.tmp 37) rfl w5.heap.size 0 _ rfl rfl t60 (HII.out _) (fc_one _ _ _ _) ?_; rw [← HW6.out])
  have rP6 := rangeAt_over rP hB6 (by omega)
  have HK6 := hide (fun w' (hb : Below w6.heap.size w6 w') => (⟨rangeAt_below r6 hb (by omega), rangeAt_below rP6 hb (by omega)⟩ : w'.rangeAt w5.heap.size 0 (fc F (.slice Q2 F.ps.length F.ps.length)) ∧ w'.rangeAt (w.heap.size + 1) 0 (pw P)))
  refine wp_region_script [(0, true), (1, true), (3, true), (4, true), (2, false), (5, false), (6, false), (7, true), (8, true), (9, false), (10, false)]
    (fun w' => Below w6.heap.size w6 w') (by kernel_rfl) (by kernel_rfl) (of_decide_eq_true (by kernel_rfl)) (by kernel_rfl) (fun _ _ d _ _ h => by cases d <;> exact h) ((Below.refl _ _).drew) ?_
  refine sc_take (.agg (fc F (.slice Q2 F.ps.length F.ps.length)).toArray) rfl (yieldsIf_load_mid (by rfl) _ (.tmp 12) rfl _ 0 rfl _ _ (fun w h => (HK6.out w h).1) Tryz.underlying28 rfl (HII.out _)) ?_
  refine sc_take (.agg (pw P).toArray) rfl (yieldsIf_load_mid (by rfl) _ (.tmp 5) rfl _ 0 rfl _ _ (fun w h => (HK6.out w h).2) Tryz.underlying98 rfl HIP.out) ?_
  refine sc_take _ rfl (.inl ⟨rfl, fun w _ => rfl⟩) ?_
  refine sc_take _ rfl (.inl ⟨rfl, fun w _ => rfl⟩) ?_
  simp only [Act.put, List.setIfInBounds_toArray, List.set_cons_zero, List.set_cons_succ]
  refine sc_step rfl ?_
  go_wp2_with fail
  refine (toPrices_any P hP _).mono ?_
  rintro e w7 ⟨rfl, hb7⟩
  replace hb7 := (Below.refl _ _).drew.trans hb7
  change Below w6.heap.size w6 w7 at hb7
  have hB7 := hB6.trans (hb7.mono hB6.size)
  have z7 := hb7.size
  have d_x0_7 := d_x0_6.below hb7 (Nat.le_refl _)
  have xrow_7 := rangeAt_over r6 hb7 (by omega)
  clear d_x0_6 r6 hB6
  have qq4 : Below w6.heap.size w6 w7 := hb7
  go_wp2_with fail
  refine ⟨qq4, sc_step rfl ?_⟩
  go_wp2_with fail
  refine (implRecutPrice_any F hF Q2 _ P hP hPx s hs s2 hs2 _ ((hG.below b0).below hB7) d_x0_7.at_).mono ?_
  rintro e w8 ⟨rfl, hb8⟩
  have hB8 := hB7.trans (hb8.mono hB7.size)
  have z8 := hb8.size
  have d_x0_8 := d_x0_7.below hb8 (Nat.le_refl _)
  have xrow_8 := rangeAt_over xrow_7 hb8 (by omega)
  clear d_x0_7 xrow_7 hB7
  have qq5 := qq4.trans (hb8.mono qq4.size)
  clear qq4
  go_wp2_with fail
  refine ⟨qq5, sc_step rfl ?_⟩
  go_wp2_with fail
  refine ⟨qq5, sc_take _ rfl (.inl ⟨rfl, fun w _ => rfl⟩) (sc_take _ rfl (.inl ⟨rfl, fun w _ => rfl⟩) ?_)⟩
  simp only [Act.put, List.setIfInBounds_toArray, List.set_cons_zero, List.set_cons_succ]
  refine sc_step rfl ?_
  go_wp2_with fail
  refine ⟨qq5, sc_step rfl ?_⟩
  go_wp2_with fail
  refine ⟨qq5, sc_nil ?_⟩
  clear qq5 HK6 rP6
  have qa8 := rangeAt_over r0 hB8 s0
  have sq8 : w.heap.size < w8.heap.size := by omega
  have sx8 : w5.heap.size < w8.heap.size := by omega
  have hK8 : ∀ w', Below w8.heap.size w8 w' → _ := fun w' hb => keepS hb xrow_8 sx8 qa8 sq8
  have CA8 := hAW.go hB8 hws
  have HEQ := hide (fun A' w => eqFace_same F hF Q2 A' F.ps.length F.ps.length w)
  go_wp2
  refine wp_region_take2 0 1 [2, 3, 4] 3 (vi := .agg (fc F (.slice Q2 F.ps.length F.ps.length)).toArray) (vj := .agg (fc F (.slice A F.ps.length c)).toArray)
    (fun w' => Below w8.heap.size w8 w' ∧ w'.rangeAt w5.heap.size 0 (fc F (.slice Q2 F.ps.length F.ps.length)) ∧ w'.rangeAt w.heap.size 0 (fc F (.slice A F.ps.length c)))
    (by kernel_rfl) rfl (by decide) rfl rfl (by kernel_rfl) (by kernel_rfl) (by kernel_rfl) (by kernel_rfl) (by kernel_rfl) (by kernel_rfl) (fun _ _ _ h => h) (fun _ _ _ h => h)
    (yieldsIf_load_mid (by rfl) _ (.tmp 12) rfl _ 0 rfl _ _ (fun w h => h.2.1) Tryz.underlying28 rfl (HII.out _)) (yieldsIf_load_mid (by rfl) _ (.tmp 4) rfl _ 0 rfl _ _ (fun w h => h.2.2) Tryz.underlying97 rfl HIL.out) (hK8 _ (Below.refl _ _).drew) ?_
  simp only [Act.put, List.setIfInBounds_toArray, List.set_cons_zero, List.set_cons_succ]
  refine wpForced_cons rfl ?_
  go_wp2_with fail
  refine (toFace_any F hF A c _ (CA8.go ((Below.refl _ _).drew) (Nat.le_refl _)) hnF).mono ?_
  rintro e wa8 ⟨A3, rfl, hP3, hba8⟩
  have hX8 : Below w8.heap.size w8 wa8 := (Below.refl _ _).drew.trans hba8
  go_wp2_with fail
  refine ⟨hK8 _ hX8, wpForced_cons rfl ?_⟩
  go_wp2_with fail
  refine (HEQ.out _ _ ((d_x0_8.below hX8 (Nat.le_refl _)).at_) hP3.at_).mono ?_
  rintro e w9 ⟨rfl, hbb8⟩
  have hY8 := hX8.trans (hbb8.mono hX8.size)
  go_wp2_with fail
  refine ⟨hK8 _ hY8, wpForced_cons rfl ?_⟩
  go_wp2_with fail
  refine ⟨hK8 _ hY8, wpForced_nil ?_⟩
  clear hK8 CA8 HEQ hP3 hba8 hX8 hbb8 qa8
  have hB9 := hB8.trans (hY8.mono hB8.size)
  have z9 := hY8.size
  have d_x0_9 := d_x0_8.below hY8 (Nat.le_refl _)
  have xrow_9 := rangeAt_over xrow_8 hY8 (by omega)
  clear d_x0_8 xrow_8 hB8
  go_wp2
  go_ret
  exact ⟨rfl, b0.trans (hB9.mono b0.size)⟩
end Go.Proofs.YtngondeaeipcfaaGreatDoor
