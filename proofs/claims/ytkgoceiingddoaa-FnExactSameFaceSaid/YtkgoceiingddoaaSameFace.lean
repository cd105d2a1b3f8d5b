/- SameFace: the model and the program give the same answer for every two faces. -/
import Derived.Test.YtkgoceiingddoaaSame2
namespace Go.Proofs.Ytkgoceiingddoaa
open Go.RowKit

set_option maxRecDepth 100000 in
set_option maxHeartbeats 8000000 in
theorem lawSameFace_any (F : Fc) (hF : F.ok) (A : Option Addr) (c : Nat) (G : Fc) (hG : G.ok) (A' : Option Addr) (c' : Nat) (w : World) (hA : PairsAt w w.heap.size A F.ps) (hA' : PairsAt w w.heap.size A' G.ps) :
    Calls Try.prog 5 #[.agg (fc F (.slice A F.ps.length c)).toArray, .agg (fc G (.slice A' G.ps.length c')).toArray] w fun e w' => e = .returned (.bool true) ∧ Below w.heap.size w w' := by
  have hW := hide hF.len
  have hV := hide hG.len
  have r1 := World.rangeAt_alloc (rangeAt_new w (fc F (.slice A F.ps.length c)) 28) (.cells (fc G (.slice A' G.ps.length c')).toArray 28)
  have r2 := rangeAt_newg (w := w.alloc (.cells (fc F (.slice A F.ps.length c)).toArray 28)) (cs := (fc G (.slice A' G.ps.length c')).toArray) (t := 28) (g := w.heap.size + 1) (l := fc G (.slice A' G.ps.length c')) (by simp) rfl
  have b0 : Below w.heap.size w ((w.alloc (.cells (fc F (.slice A F.ps.length c)).toArray 28)).alloc (.cells (fc G (.slice A' G.ps.length c')).toArray 28)) := ((Below.refl _ _).alloc (Nat.le_refl _) _).alloc (by simp) _
  have s1 : w.heap.size + 1 < ((w.alloc (.cells (fc F (.slice A F.ps.length c)).toArray 28)).alloc (.cells (fc G (.slice A' G.ps.length c')).toArray 28)).heap.size := by simp
  have hiL : ∀ F : Fc, F.W.length = 26 → ∀ sl, (Try.prog.info? 28).map (·.size) = some (fc F sl).length := fun F h sl => by rw [fc_length h]; kernel_rfl
  have hiI : ∀ F : Fc, F.W.length = 26 → ∀ sl, (Try.prog.info? 33).map (·.size) = some (fc F sl).length := fun F h sl => by rw [fc_length h]; kernel_rfl
  have HIL := hide hiL
  have HII := hide hiI
  clear hiL hiI
  have HSZ := hide (szFace_any F hF A c)
  have HSZ' := hide (szFace_any G hG A' c')
  have BA := hA.below b0
  have BA' := hA'.below b0
  by_cases hbig : szL 1048576 F.ps.length < 0
  · go_enter Try.func5, Try.ntmps5
    go_wp2_with (first
      | (refine wpList_load_mid rfl 28 (.tmp 2) rfl _ 0 rfl (fc F (.slice A F.ps.length c)) _ r1 Try.underlying28 rfl (HIL.out F hW.out _) ?_)
      | (go_at_call 21; refine (HSZ.out _ _ (by omega) (by omega)).mono ?_; rintro e w1 ⟨rfl, hb1⟩))
    go_ret
    exact ⟨rfl, b0.trans (hb1.mono b0.size)⟩
  · have hd : decide (szL 1048576 F.ps.length < 0) = false := by simpa using hbig
    have hn : F.ps.length ≤ 1048576 := by unfold szL at hbig; split at hbig <;> omega
    have hm : -1 ≤ szL 1048576 F.ps.length ∧ szL 1048576 F.ps.length ≤ 1048576 := by unfold szL; split <;> omega
    have HM := hide hm
    clear hbig hm
    go_enter Try.func5, Try.ntmps5
    go_wp2_with (refine wpList_load_mid rfl 28 (.tmp 2) rfl _ 0 rfl (fc F (.slice A F.ps.length c)) _ r1 Try.underlying28 rfl (HIL.out F hW.out _) ?_)
    generalize ((w.alloc (.cells (fc F (.slice A F.ps.length c)).toArray 28)).alloc (.cells (fc G (.slice A' G.ps.length c')).toArray 28)) = W0 at *
    have hws := b0.size
    refine (HSZ.out _ _ (by omega) (by omega)).mono ?_
    rintro e w1 ⟨rfl, hb1⟩
    have q1 := rangeAt_over r2 hb1 s1
    by_cases hbig2 : szL (szL 1048576 F.ps.length) G.ps.length < 0
    · go_wp2_with (refine wpList_load_mid rfl 28 (.tmp 3) rfl _ 0 rfl (fc G (.slice A' G.ps.length c')) _ q1 Try.underlying28 rfl (HIL.out G hV.out _) ?_)
      refine (HSZ'.out _ _ HM.out.1 HM.out.2).mono ?_
      rintro e w2 ⟨rfl, hb2⟩
      have hB2 := hb1.trans (hb2.mono hb1.size)
      go_wp2
      go_ret
      exact ⟨rfl, b0.trans (hB2.mono b0.size)⟩
    · have hd2 : decide (szL (szL 1048576 F.ps.length) G.ps.length < 0) = false := by simpa using hbig2
      have hn2 : G.ps.length ≤ 1048576 := by have := HM.out; unfold szL at hbig2; simp only [szL] at this; split at hbig2 <;> omega
      clear hbig2
      go_wp2_with (refine wpList_load_mid rfl 28 (.tmp 3) rfl _ 0 rfl (fc G (.slice A' G.ps.length c')) _ q1 Try.underlying28 rfl (HIL.out G hV.out _) ?_)
      refine (HSZ'.out _ _ HM.out.1 HM.out.2).mono ?_
      rintro e w2 ⟨rfl, hb2⟩
      have hB2 := hb1.trans (hb2.mono hb1.size)
      clear q1 hb1 hb2
      have s02 := hB2.size
      have r3 := rangeAt_over r1 hB2 (by omega)
      have q3 := rangeAt_over r2 hB2 s1
      have hK : ∀ w', Below w2.heap.size w2 w' → _ := fun w' hb => keepS hb r3 (Nat.lt_of_lt_of_le (by omega) s02) q3 (Nat.lt_of_lt_of_le s1 s02)
      have C2 := BA.go hB2 hws
      have C2' := BA'.go hB2 hws
      go_wp2
      refine wp_region_take2 0 2 [1, 3, 4, 5] 4 (vi := .agg (fc F (.slice A F.ps.length c)).toArray) (vj := .agg (fc G (.slice A' G.ps.length c')).toArray)
        (fun w' => Below w2.heap.size w2 w' ∧ w'.rangeAt w.heap.size 0 (fc F (.slice A F.ps.length c)) ∧ w'.rangeAt (w.heap.size + 1) 0 (fc G (.slice A' G.ps.length c')))
        (by kernel_rfl) rfl (by decide) rfl rfl (by kernel_rfl) (by kernel_rfl) (by kernel_rfl) (by kernel_rfl) (by kernel_rfl) (by kernel_rfl) (fun _ _ _ h => h) (fun _ _ _ h => h)
        (yieldsIf_load_mid (by rfl) _ (.tmp 2) rfl _ 0 rfl _ _ (fun w h => h.2.1) Try.underlying28 rfl (HIL.out F hW.out _)) (yieldsIf_load_mid (by rfl) _ (.tmp 3) rfl _ 0 rfl _ _ (fun w h => h.2.2) Try.underlying28 rfl (HIL.out G hV.out _)) (hK _ (Below.refl _ _).drew) ?_
      simp only [Act.put, List.setIfInBounds_toArray, List.set_cons_zero, List.set_cons_succ]
      refine wpForced_cons rfl ?_
      go_wp2_with fail
      refine (toFace_any F hF A c _ (C2.go ((Below.refl _ _).drew) (Nat.le_refl _)) hn).mono ?_
      rintro e w3 ⟨A1, rfl, hP1, hb3⟩
      have hb23 : Below w2.heap.size w2 w3 := (Below.refl _ _).drew.trans hb3
      go_wp2_with fail
      refine ⟨hK _ hb23, wpForced_cons rfl ?_⟩
      go_wp2_with fail
      refine (toFace_any G hG A' c' _ (C2'.go hb23 (Nat.le_refl _)) hn2).mono ?_
      rintro e w4 ⟨A2, rfl, hP2, hb4⟩
      have hb24 := hb23.trans (hb4.mono hb23.size)
      go_wp2_with fail
      refine ⟨hK _ hb24, wpForced_cons rfl ?_⟩
      go_wp2_with fail
      refine (specSameFace_any F G hF hG A1 A2 _ _ _ (hP1.go hb4) hP2.at_).mono ?_
      rintro e w5 ⟨rfl, hb5⟩
      have hb25 := hb24.trans (hb5.mono hb24.size)
      go_wp2_with fail
      refine ⟨hK _ hb25, wpForced_cons rfl ?_⟩
      go_wp2_with fail
      refine ⟨hK _ hb25, wpForced_nil ?_⟩
      have hB5 := hB2.trans (hb25.mono s02)
      clear hP1 hP2 hb3 hb4 hb5 hb23 hb24 hb25 C2 C2' hK r3 q3 hB2 s02
      have r5 := rangeAt_over r1 hB5 (by omega)
      go_wp2_with (refine wpList_load_mid rfl 28 (.tmp 2) rfl _ 0 rfl (fc F (.slice A F.ps.length c)) _ r5 Try.underlying28 rfl (HIL.out F hW.out _) ?_)
      refine (toFace_any F hF A c _ (BA.go hB5 hws) hn).mono ?_
      rintro e w6 ⟨A3, rfl, hP3, hb6⟩
      have hB6 := hB5.trans (hb6.mono hB5.size)
      obtain ⟨W7, hW7, r7, b7, s7, _, t7⟩ := stored_face w6 F hW.out (.slice A3 F.ps.length F.ps.length)
      have HW7 := hide hW7
      clear hW7 r5 hb6
      have hB7 := hB6.trans (b7.mono hB6.size)
      have q7 := rangeAt_over r2 hB7 s1
      go_wp2_with (first
        | (refine wpList_store_mid rfl 33 (.tmp 7) (.tmp 26) rfl w6.heap.size 0 _ rfl rfl t7 (HII.out F hW.out _) (fc_one _ _ _ _) ?_; rw [← HW7.out])
        | (refine wpList_load_mid rfl 28 (.tmp 3) rfl _ 0 rfl (fc G (.slice A' G.ps.length c')) _ q7 Try.underlying28 rfl (HIL.out G hV.out _) ?_))
      have P7 := hP3.below b7 (Nat.le_refl _)
      refine (toFace_any G hG A' c' _ (BA'.go hB7 hws) hn2).mono ?_
      rintro e w8 ⟨A4, rfl, hP4, hb8⟩
      have hB8 := hB7.trans (hb8.mono hB7.size)
      have r8 := rangeAt_over r7 hb8 s7
      have P8 := P7.below hb8 (Nat.le_refl _)
      have s78 := Nat.lt_of_lt_of_le s7 hb8.size
      obtain ⟨W9, hW9, q9, b9, s9, _, t9⟩ := stored_face w8 G hV.out (.slice A4 G.ps.length G.ps.length)
      have HW9 := hide hW9
      clear hW9 q7 b7 r7 t7 HW7 hb8 P7 hP3
      have hB9 := hB8.trans (b9.mono hB8.size)
      have r9 := rangeAt_over r8 b9 s78
      have P9 := P8.below b9 (Nat.le_refl _)
      have Q9 := hP4.below b9 (Nat.le_refl _)
      have s79 := Nat.lt_of_lt_of_le s78 b9.size
      go_wp2_with (first
        | (refine wpList_store_mid rfl 33 (.tmp 8) (.tmp 28) rfl w8.heap.size 0 _ rfl rfl t9 (HII.out G hV.out _) (fc_one _ _ _ _) ?_; rw [← HW9.out])
        | (refine wpList_load_mid rfl 33 (.tmp 7) rfl _ 0 rfl (fc F (.slice A3 F.ps.length F.ps.length)) _ r9 Try.underlying33 rfl (HII.out F hW.out _) ?_)
        | (refine wpList_load_mid rfl 33 (.tmp 8) rfl _ 0 rfl (fc G (.slice A4 G.ps.length G.ps.length)) _ q9 Try.underlying33 rfl (HII.out G hV.out _) ?_))
      refine (implSameFace_any F G hF hG A3 A4 _ _ _ P9.at_ Q9.at_).mono ?_
      rintro e w10 ⟨rfl, hb10⟩
      have hB10 := hB9.trans (hb10.mono hB9.size)
      have rX := rangeAt_over r9 hb10 s79
      have qX := rangeAt_over q9 hb10 s9
      have rL := rangeAt_over r1 hB10 (by omega)
      have qL := rangeAt_over r2 hB10 s1
      have PX := P9.below hb10 (Nat.le_refl _)
      have QX := Q9.below hb10 (Nat.le_refl _)
      have z := hb10.size
      have z0 := hB10.size
      have hKF : ∀ w', Below w10.heap.size w10 w' → _ := fun w' hb => keepS hb rX (by omega) rL (by omega)
      have hKG : ∀ w', Below w10.heap.size w10 w' → _ := fun w' hb => keepS hb qX (by omega) qL (by omega)
      have CA := BA.go hB10 hws
      have CA' := BA'.go hB10 hws
      have HEQ := hide (fun A' w => eqFace_same F hF A3 A' F.ps.length F.ps.length w)
      have HEQ' := hide (fun A' w => eqFace_same G hG A4 A' G.ps.length G.ps.length w)
      have HB := hide (b0.trans (hB10.mono b0.size))
      clear r8 s78 t9 HW9 b9 r9 P9 Q9 q9 s9 s79 hB5 hB6 hB7 hB8 hB9 hb10 rX qX rL qL P8 hP4 BA BA' r1 r2 hB10
      cases hv : sameF F G
      all_goals
        go_wp2
        refine wp_region_take2 0 1 [2, 3, 4] 3 (vi := .agg (fc F (.slice A3 F.ps.length F.ps.length)).toArray) (vj := .agg (fc F (.slice A F.ps.length c)).toArray)
          (fun w' => Below w10.heap.size w10 w' ∧ w'.rangeAt w6.heap.size 0 (fc F (.slice A3 F.ps.length F.ps.length)) ∧ w'.rangeAt w.heap.size 0 (fc F (.slice A F.ps.length c)))
          (by kernel_rfl) rfl (by decide) rfl rfl (by kernel_rfl) (by kernel_rfl) (by kernel_rfl) (by kernel_rfl) (by kernel_rfl) (by kernel_rfl) (fun _ _ _ h => h) (fun _ _ _ h => h)
          (yieldsIf_load_mid (by rfl) _ (.tmp 7) rfl _ 0 rfl _ _ (fun w h => h.2.1) Try.underlying33 rfl (HII.out F hW.out _)) (yieldsIf_load_mid (by rfl) _ (.tmp 2) rfl _ 0 rfl _ _ (fun w h => h.2.2) Try.underlying28 rfl (HIL.out F hW.out _)) (hKF _ (Below.refl _ _).drew) ?_
        simp only [Act.put, List.setIfInBounds_toArray, List.set_cons_zero, List.set_cons_succ]
        refine wpForced_cons rfl ?_
        go_wp2_with fail
        refine (toFace_any F hF A c _ (CA.go ((Below.refl _ _).drew) (Nat.le_refl _)) hn).mono ?_
        rintro e w11 ⟨A5, rfl, hP5, hb11⟩
        have hX : Below w10.heap.size w10 w11 := (Below.refl _ _).drew.trans hb11
        go_wp2_with fail
        refine ⟨hKF _ hX, wpForced_cons rfl ?_⟩
        go_wp2_with fail
        refine (HEQ.out _ _ (PX.go hX) hP5.at_).mono ?_
        rintro e w12 ⟨rfl, hb12⟩
        have hY := hX.trans (hb12.mono hX.size)
        go_wp2_with fail
        refine ⟨hKF _ hY, wpForced_cons rfl ?_⟩
        go_wp2_with fail
        refine ⟨hKF _ hY, wpForced_nil ?_⟩
        have KG := hKG _ hY
        have hKG2 : ∀ w', Below w12.heap.size w12 w' → _ := fun w' hb => hKG w' (hY.trans (hb.mono hY.size))
        have QY := QX.go hY
        have CY := CA'.go hY (Nat.le_refl _)
        go_wp2
        refine wp_region_take2 0 1 [2, 3, 4] 3 (vi := .agg (fc G (.slice A4 G.ps.length G.ps.length)).toArray) (vj := .agg (fc G (.slice A' G.ps.length c')).toArray)
          (fun w' => Below w10.heap.size w10 w' ∧ w'.rangeAt w8.heap.size 0 (fc G (.slice A4 G.ps.length G.ps.length)) ∧ w'.rangeAt (w.heap.size + 1) 0 (fc G (.slice A' G.ps.length c')))
          (by kernel_rfl) rfl (by decide) rfl rfl (by kernel_rfl) (by kernel_rfl) (by kernel_rfl) (by kernel_rfl) (by kernel_rfl) (by kernel_rfl) (fun _ _ _ h => h) (fun _ _ _ h => h)
          (yieldsIf_load_mid (by rfl) _ (.tmp 8) rfl _ 0 rfl _ _ (fun w h => h.2.1) Try.underlying33 rfl (HII.out G hV.out _)) (yieldsIf_load_mid (by rfl) _ (.tmp 3) rfl _ 0 rfl _ _ (fun w h => h.2.2) Try.underlying28 rfl (HIL.out G hV.out _)) (hKG2 _ (Below.refl _ _).drew) ?_
        simp only [Act.put, List.setIfInBounds_toArray, List.set_cons_zero, List.set_cons_succ]
        refine wpForced_cons rfl ?_
        go_wp2_with fail
        refine (toFace_any G hG A' c' _ (CY.go ((Below.refl _ _).drew) (Nat.le_refl _)) hn2).mono ?_
        rintro e w13 ⟨A6, rfl, hP6, hb13⟩
        have hZ : Below w12.heap.size w12 w13 := (Below.refl _ _).drew.trans hb13
        go_wp2_with fail
        refine ⟨hKG2 _ hZ, wpForced_cons rfl ?_⟩
        go_wp2_with fail
        refine (HEQ'.out _ _ (QX.go (hY.trans (hZ.mono hY.size))) hP6.at_).mono ?_
        rintro e w14 ⟨rfl, hb14⟩
        have hT := hZ.trans (hb14.mono hZ.size)
        go_wp2_with fail
        refine ⟨hKG2 _ hT, wpForced_cons rfl ?_⟩
        go_wp2_with fail
        refine ⟨hKG2 _ hT, wpForced_nil ?_⟩
        go_wp2
        go_ret
        exact ⟨rfl, HB.out.trans ((hY.trans (hT.mono hY.size)).mono HB.out.size)⟩
end Go.Proofs.Ytkgoceiingddoaa
