/- LoosenFace: the model and the program give the same face and number for every face, and what comes back owns its memory. -/
import Derived.Test.YtkgoceiingddoaaLoosenS
namespace Go.Proofs.Ytkgoceiingddoaa
open Go.RowKit

set_option maxRecDepth 100000 in
set_option maxHeartbeats 16000000 in
theorem lawLoosenFace_any (F : Fc) (hF : F.ok) (A : Option Addr) (c : Nat) (x : Int) (hx : (Lit.int .i64 x).wf = true) (w : World) (hA : PairsAt w w.heap.size A F.ps) :
    Calls Try.prog 18 #[.agg (fc F (.slice A F.ps.length c)).toArray, .int .i64 x] w fun e w' => e = .returned (.bool true) ∧ Below w.heap.size w w' := by
  have hW := hide hF.len
  have r0 := rangeAt_new w (fc F (.slice A F.ps.length c)) 28
  have b0 : Below w.heap.size w (w.alloc (.cells (fc F (.slice A F.ps.length c)).toArray 28)) := (Below.refl _ _).alloc (Nat.le_refl _) _
  have s0 : w.heap.size < (w.alloc (.cells (fc F (.slice A F.ps.length c)).toArray 28)).heap.size := by simp
  have HIL := hide (show (Try.prog.info? 28).map (·.size) = some (fc F (.slice A F.ps.length c)).length from by rw [fc_length hW.out]; kernel_rfl)
  have HII := hide (show ∀ F : Fc, F.W.length = 26 → ∀ sl, (Try.prog.info? 33).map (·.size) = some (fc F sl).length from fun F h sl => by rw [fc_length h]; kernel_rfl)
  have HSZ := hide (szFace_any F hF A c 1048576)
  by_cases hbig : szL 1048576 F.ps.length < 0
  · go_enter Try.func18, Try.ntmps18
    go_wp2_with (first
      | (refine wpList_load_mid rfl 28 (.tmp 2) rfl _ 0 rfl (fc F (.slice A F.ps.length c)) _ r0 Try.underlying28 rfl HIL.out ?_)
      | (go_at_call 21; refine (HSZ.out _ (by omega) (by omega)).mono ?_; rintro e w1 ⟨rfl, hb1⟩))
    go_ret
    exact ⟨rfl, b0.trans (hb1.mono b0.size)⟩
  · have hd : decide (szL 1048576 F.ps.length < 0) = false := by simpa using hbig
    have hn : F.ps.length ≤ 1048576 := by unfold szL at hbig; split at hbig <;> omega
    clear hbig
    have hRok : (lfF F x).ok := lfF_ok hF x
    have hRn : (lfF F x).ps.length ≤ 1048577 := lfF_len F x (by omega)
    have HSP := hide (fun A c w => specLoosenFace_any F hF A c x hx w hn)
    have HIM := hide (fun A c w => implLoosenFace_any F hF A c x hx w hn)
    generalize lfF F x = R at *
    generalize lfC F x = C at *
    have hRW := hide hRok.len
    have hAW := hA.below b0
    have hd1 : decide ((1 : Int) + 3 * F.ps.length < 0) = false := by simp; omega
    have hd2 : decide ((1 : Int) + 3 * R.ps.length < 0) = false := by simp; omega
    have hn2 : F.ps.length ≤ 2097152 := by omega
    have hRn2 : R.ps.length ≤ 2097152 := by omega
    go_enter Try.func18, Try.ntmps18
    go_wp2_with (refine wpList_load_mid rfl 28 (.tmp 2) rfl _ 0 rfl (fc F (.slice A F.ps.length c)) _ r0 Try.underlying28 rfl HIL.out ?_)
    generalize (w.alloc (.cells (fc F (.slice A F.ps.length c)).toArray 28)) = W0 at *
    have hws := b0.size
    refine (HSZ.out _ (by omega) (by omega)).mono ?_
    rintro e w1 ⟨rfl, hb1⟩
    have r1 := rangeAt_over r0 hb1 s0
    go_wp2_with (refine wpList_load_mid rfl 28 (.tmp 2) rfl _ 0 rfl (fc F (.slice A F.ps.length c)) _ r1 Try.underlying28 rfl HIL.out ?_)
    refine (toFace_any F hF A c _ (hAW.go hb1 hws) hn).mono ?_
    rintro e w2 ⟨A1, rfl, hP1, hb2⟩
    have hB2 := hb1.trans (hb2.mono hb1.size)
    go_wp2_with fail
    refine (HSP.out A1 _ _ hP1.at_).mono ?_
    rintro e w3 ⟨As, cs, rfl, hPs, hb3⟩
    have hB3 := hB2.trans (hb3.mono hB2.size)
    obtain ⟨W4, hW4, r4, b4, s4, _, t4⟩ := stored_face w3 R hRW.out (.slice As R.ps.length cs)
    have HW4 := hide hW4
    have hB4 := hB3.trans (b4.mono hB3.size)
    have q4 := rangeAt_over r0 hB4 s0
    have Ps4 := hPs.below b4 (Nat.le_refl _)
    have PsW : PairsIn W4 w2.heap.size As R.ps := Ps4
    clear hW4 hP1 hb1 hb2 hb3 r1 hB2
    go_wp2_with (first
      | (refine wpList_store_mid rfl 33 (.tmp 6) (.tmp 26) rfl w3.heap.size 0 _ rfl rfl t4 (HII.out R hRW.out _) (fc_one _ _ _ _) ?_; rw [← HW4.out])
      | (refine wpList_load_mid rfl 28 (.tmp 2) rfl _ 0 rfl (fc F (.slice A F.ps.length c)) _ q4 Try.underlying28 rfl HIL.out ?_))
    refine (toFace_any F hF A c _ (hAW.go hB4 hws) hn).mono ?_
    rintro e w5 ⟨A2, rfl, hP2, hb5⟩
    have hK5 : Below W4.heap.size W4 w5 := hb5
    obtain ⟨W6, hW6, r6, b6, s6, _, t6⟩ := stored_face w5 F hW.out (.slice A2 F.ps.length F.ps.length)
    have HW6 := hide hW6
    have hK6 := hK5.trans (b6.mono hK5.size)
    have hP6 := hP2.below b6 (Nat.le_refl _)
    have bd2 := blkP_bd hP2
    clear hW6 q4 t4 HW4 b4
    go_wp2_with (first
      | (refine wpList_store_mid rfl 33 (.tmp 8) (.tmp 29) rfl w5.heap.size 0 _ rfl rfl t6 (HII.out F hW.out _) (fc_one _ _ _ _) ?_; rw [← HW6.out])
      | (refine wpList_load_mid rfl 33 (.tmp 8) rfl _ 0 rfl (fc F (.slice A2 F.ps.length F.ps.length)) _ r6 Try.underlying33 rfl (HII.out F hW.out _) ?_))
    refine (HIM.out A2 _ _ hP6.at_).mono ?_
    rintro e w7 ⟨Ag, cg, rfl, hPg, hb7⟩
    have bdg := blkP_bd hPg
    obtain ⟨W8, hW8, r8, b8, s8, _, t8⟩ := stored_face w7 R hRW.out (.slice Ag R.ps.length cg)
    have HW8 := hide hW8
    have hL8 : Below W6.heap.size W6 W8 := hb7.trans (b8.mono hb7.size)
    have hK8 := hK6.trans (hL8.mono hK6.size)
    have x8 := rangeAt_over r6 hL8 s6
    have q8 := rangeAt_over r4 hK8 s4
    have hP8 := hP6.below hL8 (Nat.le_refl _)
    have Ps8 := Ps4.below hK8 (Nat.le_refl _)
    have Pg8 := hPg.below b8 (Nat.le_refl _)
    clear hW8 t6 HW6 hPs hPg hP6 Ps4
    go_wp2_with (first
      | (refine wpList_store_mid rfl 33 (.tmp 9) (.tmp 34) rfl w7.heap.size 0 _ rfl rfl t8 (HII.out R hRW.out _) (fc_one _ _ _ _) ?_; rw [← HW8.out])
      | (refine wpList_load_mid rfl 33 (.tmp 9) rfl _ 0 rfl (fc R (.slice Ag R.ps.length cg)) _ r8 Try.underlying33 rfl (HII.out R hRW.out _) ?_)
      | (refine wpList_load_mid rfl 33 (.tmp 6) rfl _ 0 rfl (fc R (.slice As R.ps.length cs)) _ q8 Try.underlying33 rfl (HII.out R hRW.out _) ?_))
    refine (eqFace_same R hRok Ag As cg cs _ Pg8.at_ Ps8.at_).mono ?_
    rintro e w9 ⟨rfl, hb9⟩
    have hK9 := hK8.trans (hb9.mono hK8.size)
    have hB9 := hB4.trans (hK9.mono hB4.size)
    have r9 := rangeAt_over r8 hb9 s8
    have x9 := rangeAt_over x8 hb9 (Nat.lt_of_lt_of_le s6 hL8.size)
    have l9 := rangeAt_over r0 hB9 s0
    have hP9 := hP8.below hb9 (Nat.le_refl _)
    have Pg9 := Pg8.below hb9 (Nat.le_refl _)
    have z48 := hK8.size
    have z68 := hL8.size
    have z89 := hb9.size
    have z04 := hB4.size
    have z45 := hK5.size
    have z56 := b6.size
    have z67 := hb7.size
    have z78 := b8.size
    clear t8 HW8 x8 r8 hP8 Pg8 r6
    have sx9 : w5.heap.size < w9.heap.size := by omega
    have sl9 : w.heap.size < w9.heap.size := by omega
    have hKF : ∀ w', Below w9.heap.size w9 w' → _ := fun w' hb => keepS hb x9 sx9 l9 sl9
    have CA := hAW.go hB9 hws
    have HEQ := hide (fun A' w => eqFace_same F hF A2 A' F.ps.length F.ps.length w)
    go_wp2
    refine wp_region_take2 0 1 [2, 3, 4] 3 (vi := .agg (fc F (.slice A2 F.ps.length F.ps.length)).toArray) (vj := .agg (fc F (.slice A F.ps.length c)).toArray)
      (fun w' => Below w9.heap.size w9 w' ∧ w'.rangeAt w5.heap.size 0 (fc F (.slice A2 F.ps.length F.ps.length)) ∧ w'.rangeAt w.heap.size 0 (fc F (.slice A F.ps.length c)))
      (by kernel_rfl) rfl (by decide) rfl rfl (by kernel_rfl) (by kernel_rfl) (by kernel_rfl) (by kernel_rfl) (by kernel_rfl) (by kernel_rfl) (fun _ _ _ h => h) (fun _ _ _ h => h)
      (yieldsIf_load_mid (by rfl) _ (.tmp 8) rfl _ 0 rfl _ _ (fun w h => h.2.1) Try.underlying33 rfl (HII.out F hW.out _)) (yieldsIf_load_mid (by rfl) _ (.tmp 2) rfl _ 0 rfl _ _ (fun w h => h.2.2) Try.underlying28 rfl HIL.out) (hKF _ (Below.refl _ _).drew) ?_
    simp only [Act.put, List.setIfInBounds_toArray, List.set_cons_zero, List.set_cons_succ]
    refine wpForced_cons rfl ?_
    go_wp2_with fail
    refine (toFace_any F hF A c _ (CA.go ((Below.refl _ _).drew) (Nat.le_refl _)) hn).mono ?_
    rintro e w10 ⟨A3, rfl, hP3, hb10⟩
    have hX : Below w9.heap.size w9 w10 := (Below.refl _ _).drew.trans hb10
    go_wp2_with fail
    refine ⟨hKF _ hX, wpForced_cons rfl ?_⟩
    go_wp2_with fail
    refine (HEQ.out _ _ ((hP9.below hX (Nat.le_refl _)).at_) hP3.at_).mono ?_
    rintro e w11 ⟨rfl, hb11⟩
    have hY := hX.trans (hb11.mono hX.size)
    go_wp2_with fail
    refine ⟨hKF _ hY, wpForced_cons rfl ?_⟩
    go_wp2_with fail
    refine ⟨hKF _ hY, wpForced_nil ?_⟩
    have x11 := rangeAt_over x9 hY sx9
    have r11 := rangeAt_over r9 hY (by omega)
    have hP11 := hP9.below hY (Nat.le_refl _)
    have Pg11 := Pg9.below hY (Nat.le_refl _)
    have hK11 := hK9.trans (hY.mono hK9.size)
    have z911 := hY.size
    clear hKF CA HEQ hP3 hb10 hX hb11 hP9 Pg9 r9 x9 l9
    go_wp2_with (refine wpList_load_mid rfl 33 (.tmp 8) rfl _ 0 rfl (fc F (.slice A2 F.ps.length F.ps.length)) _ x11 Try.underlying33 rfl (HII.out F hW.out _) ?_)
    refine (markFace_any F hF A2 _ W4.heap.size _ hn2 hP11).mono ?_
    rintro e w12 ⟨rfl, hg12, _⟩
    have z12 := hg12.size
    have hK12 : Below W4.heap.size W4 w12 := hK11.trans (grown_toBelow hg12 (by omega) (fun k hk => (bd2 k hk).1))
    have r12 := grown_row hg12 r11 (by omega) (fun e => by have := bd2 _ e.symm; omega)
    have Pg12 := grown_pairsIn hg12 Pg11 (fun b hb e => by have h1 := bdg b hb; have h2 := bd2 _ e.symm; omega)
    have q12 := rangeAt_over r4 hK12 s4
    clear Pg11 r11 x11 hP11
    go_wp2_with (first
      | (refine wpList_load_mid_g rfl 33 (.tmp 9) rfl _ 0 rfl (fc R (.slice Ag R.ps.length cg)) _ r12 Try.underlying33 rfl (HII.out R hRW.out _) ?_)
      | (refine wpList_load_mid_g rfl 33 (.tmp 6) rfl _ 0 rfl (fc R (.slice As R.ps.length cs)) _ q12 Try.underlying33 rfl (HII.out R hRW.out _) ?_))
    refine (eqFace_same R hRok Ag As cg cs _ Pg12.at_ (PsW.go hK12)).mono ?_
    rintro e w13 ⟨rfl, hb13⟩
    have hK13 := hK12.trans (hb13.mono hK12.size)
    have r13 := rangeAt_over r12 hb13 (by omega)
    have Pg13 := Pg12.below hb13 (Nat.le_refl _)
    have z13 := hb13.size
    clear Pg12 r12 q12
    go_wp2_with (refine wpList_load_mid rfl 33 (.tmp 9) rfl _ 0 rfl (fc R (.slice Ag R.ps.length cg)) _ r13 Try.underlying33 rfl (HII.out R hRW.out _) ?_)
    refine (markFace_any R hRok Ag _ W6.heap.size _ hRn2 Pg13).mono ?_
    rintro e w14 ⟨rfl, hg14, hM14⟩
    have z14 := hg14.size
    have hK14 : Below W4.heap.size W4 w14 := hK13.trans (grown_toBelow hg14 (by omega) (fun k hk => by have := bdg k hk; omega))
    have r14 := grown_row hg14 r13 (by omega) (fun e => by have := bdg _ e.symm; omega)
    clear Pg13 r13
    go_wp2_with (refine wpList_load_mid rfl 33 (.tmp 9) rfl _ 0 rfl (fc R (.slice Ag R.ps.length cg)) _ r14 Try.underlying33 rfl (HII.out R hRW.out _) ?_)
    refine (heldFace_any R hRok Ag _ _ hRn2 hM14.at_).mono ?_
    rintro e w15 ⟨rfl, hb15⟩
    have hK15 := hK14.trans (hb15.mono hK14.size)
    have hB15 := hB4.trans (hK15.mono hB4.size)
    have r15 := rangeAt_over r14 hb15 (by omega)
    have hM15 := hM14.below hb15 (Nat.le_refl _)
    have l15 := rangeAt_over r0 hB15 s0
    have z15 := hb15.size
    clear r14 hM14
    go_wp2_with (refine wpList_load_mid rfl 28 (.tmp 2) rfl _ 0 rfl (fc F (.slice A F.ps.length c)) _ l15 Try.underlying28 rfl HIL.out ?_)
    refine (toFace_any F hF A c _ (hAW.go hB15 hws) hn).mono ?_
    rintro e w16 ⟨A4, rfl, hP4, hb16⟩
    go_wp2_with fail
    refine (HIM.out A4 _ _ hP4.at_).mono ?_
    rintro e w17 ⟨Ah, ch, rfl, hPh, hb17⟩
    have h1517 := hb16.trans (hb17.mono hb16.size)
    obtain ⟨W18, hW18, r18, b18, s18, _, t18⟩ := stored_face w17 R hRW.out (.slice Ah R.ps.length ch)
    have HW18 := hide hW18
    have h1518 := h1517.trans (b18.mono h1517.size)
    have hK18 := hK15.trans (h1518.mono hK15.size)
    have q18 := rangeAt_over r4 hK18 s4
    have Ph18 := hPh.below b18 (Nat.le_refl _)
    have z18 := h1518.size
    clear hW18 hP4 hPh l15
    go_wp2_with (first
      | (refine wpList_store_mid rfl 33 (.tmp 14) (.tmp 82) rfl w17.heap.size 0 _ rfl rfl t18 (HII.out R hRW.out _) (fc_one _ _ _ _) ?_; rw [← HW18.out])
      | (refine wpList_load_mid rfl 33 (.tmp 14) rfl _ 0 rfl (fc R (.slice Ah R.ps.length ch)) _ r18 Try.underlying33 rfl (HII.out R hRW.out _) ?_)
      | (refine wpList_load_mid rfl 33 (.tmp 6) rfl _ 0 rfl (fc R (.slice As R.ps.length cs)) _ q18 Try.underlying33 rfl (HII.out R hRW.out _) ?_))
    refine (eqFace_same R hRok Ah As ch cs _ Ph18.at_ (PsW.go hK18)).mono ?_
    rintro e w19 ⟨rfl, hb19⟩
    have h1519 := h1518.trans (hb19.mono h1518.size)
    have r19 := rangeAt_over r15 h1519 (by omega)
    have hM19 := hM15.below h1519 (Nat.le_refl _)
    clear q18 r18 HW18 t18
    go_wp2_with (refine wpList_load_mid rfl 33 (.tmp 9) rfl _ 0 rfl (fc R (.slice Ag R.ps.length cg)) _ r19 Try.underlying33 rfl (HII.out R hRW.out _) ?_)
    refine (heldFace_any R hRok Ag _ _ hRn2 hM19.at_).mono ?_
    rintro e w20 ⟨rfl, hb20⟩
    have h1520 := h1519.trans (hb20.mono h1519.size)
    go_wp2
    go_ret
    exact ⟨rfl, b0.trans ((hB15.trans (h1520.mono hB15.size)).mono b0.size)⟩
end Go.Proofs.Ytkgoceiingddoaa
