/- FnRubbings: the law answers true for all bytes: up to its first loop. -/
import Derived.Test.YtngondeaeipcfaaDoorSrcL
import Derived.Test.YtngondeaeipcfaaDoorFrP
import Derived.Test.YtngondeaeipcfaaDoorRbF
import Derived.Test.YtngondeaeipcfaaDoorRbD
import Derived.Test.YtngondeaeipcfaaDoorBmI
import Derived.Test.YtngondeaeipcfaaDoorRtI
import Derived.Test.YtngondeaeipcfaaDoorRd
import Derived.Test.YtngondeaeipcfaaDoorFnI
namespace Go.Proofs.YtngondeaeipcfaaDoor
open Go Go.RowKit

theorem run_neq_rub (A B : List Nat) (hA : A.length = 8) (hB : B.length = 8) (w : World) :
    (binOp .neq 26 (.agg (rwc A).toArray) (.agg (rwc B).toArray)).run Tryd.prog w = .ok (.bool (!decide (A = B))) w := by
  rw [rwc_ints, rwc_ints, ← cast_eq]
  exact run_neq_ints (P := Tryd.prog) (k := .u16) Tryd.underlying26 Tryd.underlying24 (fun _ => by kernel_rfl) _ _ (by simpa using hA) (by simpa using hB) w
theorem neq_self (A : List Nat) (hA : A.length = 8) (w : World) : (binOp .neq 26 (.agg (rwc A).toArray) (.agg (rwc A).toArray)).run Tryd.prog w = .ok (.bool false) w := by
  rw [run_neq_rub A A hA hA]; simp
theorem rtB_list (R : List Nat) : (rtB R).data.toList = rtT R 8 := by simp [rtB]
theorem rtB_size (R : List Nat) : (rtB R).size ≤ 1048576 := by
  have : (rtB R).size = 136 := by show (rtT R 8).toArray.size = 136; rw [List.size_toArray, rtT_len]
  omega

set_option maxRecDepth 1000000 in
set_option maxHeartbeats 32000000 in
theorem lawFnRubbings_any (A : Option Addr) (xs : List Int) (c : Nat) (hn : xs.length ≤ maxLen) (hxs : u8s xs) (B : Option Addr) (ys : List Int) (d : Nat) (hm : ys.length ≤ maxLen) (hys : u8s ys) (w : World) (hG : ErrT w) (hA : U8At w w.heap.size A xs) (hY : U8At w w.heap.size B ys) :
    Calls Tryd.prog 3 #[.slice A xs.length c, .slice B ys.length d] w fun e w' => e = .returned (.bool true) ∧ Below w.heap.size w w' := by
  have HL := hide (fun W => a2Long_any A B xs.length ys.length c d hn hm W)
  by_cases hl : (decide (3000 < xs.length) || decide (3000 < ys.length)) = true
  · rw [hl] at HL
    clear hA hY hG
    go_enter Tryd.func3, Tryd.ntmps3
    go_wp2_with (go_at_call 10; refine (HL.out _).mono ?_; rintro e w1 ⟨rfl, rfl⟩)
    go_ret
    exact ⟨rfl, Below.refl _ _⟩
  have hl' : (decide (3000 < xs.length) || decide (3000 < ys.length)) = false := by simpa using hl
  rw [hl'] at HL
  have hl2 : xs.length ≤ 3000 ∧ ys.length ≤ 3000 := by simp at hl; omega
  have HK := hide (a2Like_any A xs c w hl2.1 hxs hA)
  unfold TwoRub at HK
  clear hl hl'
  go_enter Tryd.func3, Tryd.ntmps3
  go_wp2_with (go_at_call 10; refine (HL.out _).mono ?_; rintro e w1 ⟨rfl, rfl⟩)
  refine HK.out.mono ?_
  rintro e w2 ⟨R, S, rfl, hR, hS, hb2⟩
  have z2 := hb2.size
  obtain ⟨W1, w3, h1, h2, h3, h4, a_3, b_3, h7, h8⟩ := stored_two w2 R S hR.1 hS.1
  have H1 := hide h1
  have H2 := hide h2
  have z3 : w2.heap.size + 2 ≤ w3.heap.size := by omega
  have hB3 := hb2.trans (h7.mono z2)
  have HR := hide hR
  have HS := hide hS
  clear h1 h2 h7 h8 hb2 HL HK
  go_wp2_with (first
    | (refine wpList_store_mid rfl 26 (.tmp 5) (.tmp 44) rfl w2.heap.size 0 _ rfl rfl h3 (rub_info HR.out.1) (rwc_one _) ?_; rw [← H1.out])
    | (refine wpList_store_mid rfl 26 (.tmp 6) (.tmp 45) rfl (w2.heap.size + 1) 0 _ rfl rfl h4 (rub_info HS.out.1) (rwc_one _) ?_; rw [← H2.out])
    | (refine wpList_load_mid rfl 26 (.tmp 5) rfl _ 0 rfl (rwc R) _ a_3 Tryd.underlying26 rfl (rub_info' HR.out.1) ?_)
    | (refine wpList_load_mid rfl 26 (.tmp 6) rfl _ 0 rfl (rwc S) _ b_3 Tryd.underlying26 rfl (rub_info' HS.out.1) ?_))
  refine (implBestMove_any R HR.out S HS.out _).mono ?_
  rintro e w4 ⟨rfl, hb4⟩
  have z4 := hb4.size
  have hB4 := hB3.trans (hb4.mono hB3.size)
  have a_4 := rangeAt_below a_3 hb4 (by omega)
  have b_4 := rangeAt_below b_3 hb4 (by omega)
  clear a_3 b_3
  clear hB3
  go_wp2_with (first
    | (refine wpList_load_mid rfl 26 (.tmp 5) rfl _ 0 rfl (rwc R) _ a_4 Tryd.underlying26 rfl (rub_info' HR.out.1) ?_)
    | (refine wpList_load_mid rfl 26 (.tmp 6) rfl _ 0 rfl (rwc S) _ b_4 Tryd.underlying26 rfl (rub_info' HS.out.1) ?_))
  refine (specBestMove_any R HR.out S HS.out _).mono ?_
  rintro e w5 ⟨rfl, hb5⟩
  have z5 := hb5.size
  have hB5 := hB4.trans (hb5.mono hB4.size)
  have a_5 := rangeAt_below a_4 hb5 (by omega)
  have b_5 := rangeAt_below b_4 hb5 (by omega)
  clear a_4 b_4
  clear hB4
  generalize hV : bmV (bmF R S) = V at *
  have HV := hide hV
  clear hV
  go_wp2_with (first
    | (refine wpList_load_mid rfl 26 (.tmp 5) rfl _ 0 rfl (rwc R) _ a_5 Tryd.underlying26 rfl (rub_info' HR.out.1) ?_)
    | (refine wpList_load_mid rfl 26 (.tmp 6) rfl _ 0 rfl (rwc S) _ b_5 Tryd.underlying26 rfl (rub_info' HS.out.1) ?_))
  refine (implRubbingText_any R HR.out _).mono ?_
  rintro e w6 ⟨rfl, hb6⟩
  have z6 := hb6.size
  have hB6 := hB5.trans (hb6.mono hB5.size)
  have a_6 := rangeAt_below a_5 hb6 (by omega)
  have b_6 := rangeAt_below b_5 hb6 (by omega)
  clear a_5 b_5
  clear hB5
  go_wp2_with (first
    | (refine wpList_load_mid rfl 26 (.tmp 5) rfl _ 0 rfl (rwc R) _ a_6 Tryd.underlying26 rfl (rub_info' HR.out.1) ?_)
    | (refine wpList_load_mid rfl 26 (.tmp 6) rfl _ 0 rfl (rwc S) _ b_6 Tryd.underlying26 rfl (rub_info' HS.out.1) ?_))
  refine (implReadRubbing_any (rtB R) (rtB_size R) _).mono ?_
  rintro e w7 ⟨rfl, hb7⟩
  have z7 := hb7.size
  have hB7 := hB6.trans (hb7.mono hB6.size)
  have a_7 := rangeAt_below a_6 hb7 (by omega)
  have b_7 := rangeAt_below b_6 hb7 (by omega)
  clear a_6 b_6
  clear hB6
  rw [rtB_list, (rd_yes (okT_text R)).1, (rd_yes (okT_text R)).2, rd_text HR.out]
  obtain ⟨w8, hW8, q_8, b8, s8, t8⟩ := stored_rub w7 R (HR.out.1)
  have HW8 := hide hW8
  clear hW8
  have z8 := b8.size
  have hB8 := hB7.trans (b8.mono hB7.size)
  have a_8 := rangeAt_below a_7 b8 (by omega)
  have b_8 := rangeAt_below b_7 b8 (by omega)
  clear a_7 b_7
  clear hB7
  go_wp2_with (first
    | (refine wpList_store_mid rfl 26 (.tmp 13) (.tmp 64) rfl w7.heap.size 0 _ rfl rfl t8 (rub_info (HR.out.1)) (rwc_one _) ?_; rw [← HW8.out])
    | (refine wpList_load_mid rfl 26 (.tmp 5) rfl _ 0 rfl (rwc R) _ a_8 Tryd.underlying26 rfl (rub_info' HR.out.1) ?_)
    | (refine wpList_load_mid rfl 26 (.tmp 6) rfl _ 0 rfl (rwc S) _ b_8 Tryd.underlying26 rfl (rub_info' HS.out.1) ?_)
    | (refine wpList_load_mid rfl 26 (.tmp 13) rfl _ 0 rfl (rwc R) _ q_8 Tryd.underlying26 rfl (rub_info' HR.out.1) ?_))
  refine (implMirrorRubbing_any R HR.out _).mono ?_
  rintro e w9 ⟨rfl, hb9⟩
  have z9 := hb9.size
  have hB9 := hB8.trans (hb9.mono hB8.size)
  have a_9 := rangeAt_below a_8 hb9 (by omega)
  have b_9 := rangeAt_below b_8 hb9 (by omega)
  have q_9 := rangeAt_below q_8 hb9 (by omega)
  clear a_8 b_8 q_8
  clear hB8
  obtain ⟨w10, hW10, m_10, b10, s10, t10⟩ := stored_rub w9 (mirR R) ((mirR_ok R).1)
  have HW10 := hide hW10
  clear hW10
  have z10 := b10.size
  have hB10 := hB9.trans (b10.mono hB9.size)
  have a_10 := rangeAt_below a_9 b10 (by omega)
  have b_10 := rangeAt_below b_9 b10 (by omega)
  have q_10 := rangeAt_below q_9 b10 (by omega)
  clear a_9 b_9 q_9
  clear hB9
  go_wp2_with (first
    | (refine wpList_store_mid rfl 26 (.tmp 15) (.tmp 67) rfl w9.heap.size 0 _ rfl rfl t10 (rub_info ((mirR_ok R).1)) (rwc_one _) ?_; rw [← HW10.out])
    | (refine wpList_load_mid rfl 26 (.tmp 5) rfl _ 0 rfl (rwc R) _ a_10 Tryd.underlying26 rfl (rub_info' HR.out.1) ?_)
    | (refine wpList_load_mid rfl 26 (.tmp 6) rfl _ 0 rfl (rwc S) _ b_10 Tryd.underlying26 rfl (rub_info' HS.out.1) ?_)
    | (refine wpList_load_mid rfl 26 (.tmp 13) rfl _ 0 rfl (rwc R) _ q_10 Tryd.underlying26 rfl (rub_info' HR.out.1) ?_)
    | (refine wpList_load_mid rfl 26 (.tmp 15) rfl _ 0 rfl (rwc (mirR R)) _ m_10 Tryd.underlying26 rfl (rub_info' (mirR_ok R).1) ?_))
  refine (implCountDark_any R HR.out _).mono ?_
  rintro e w11 ⟨rfl, hb11⟩
  have z11 := hb11.size
  have hB11 := hB10.trans (hb11.mono hB10.size)
  have a_11 := rangeAt_below a_10 hb11 (by omega)
  have b_11 := rangeAt_below b_10 hb11 (by omega)
  have q_11 := rangeAt_below q_10 hb11 (by omega)
  have m_11 := rangeAt_below m_10 hb11 (by omega)
  clear a_10 b_10 q_10 m_10
  clear hB10
  go_wp2_with (first
    | (refine wpList_load_mid rfl 26 (.tmp 5) rfl _ 0 rfl (rwc R) _ a_11 Tryd.underlying26 rfl (rub_info' HR.out.1) ?_)
    | (refine wpList_load_mid rfl 26 (.tmp 6) rfl _ 0 rfl (rwc S) _ b_11 Tryd.underlying26 rfl (rub_info' HS.out.1) ?_)
    | (refine wpList_load_mid rfl 26 (.tmp 13) rfl _ 0 rfl (rwc R) _ q_11 Tryd.underlying26 rfl (rub_info' HR.out.1) ?_)
    | (refine wpList_load_mid rfl 26 (.tmp 15) rfl _ 0 rfl (rwc (mirR R)) _ m_11 Tryd.underlying26 rfl (rub_info' (mirR_ok R).1) ?_))
  refine (implDarkRows_any R HR.out _).mono ?_
  rintro e w12 ⟨A', c', rfl, hc', hI, hb12⟩
  have z12 := hb12.size
  have hB12 := hB11.trans (hb12.mono hB11.size)
  have a_12 := rangeAt_below a_11 hb12 (by omega)
  have b_12 := rangeAt_below b_11 hb12 (by omega)
  have q_12 := rangeAt_below q_11 hb12 (by omega)
  have m_12 := rangeAt_below m_11 hb12 (by omega)
  clear a_11 b_11 q_11 m_11
  clear hB11
  rw [drkL_len]
  have HI := hide hI
  clear hI
  go_wp2
  have HMM := hide (fun W => show Calls Tryd.prog 16 #[.agg (rwc (mirR R)).toArray] W fun e w' => e = .returned (.agg (rwc R).toArray) ∧ Below W.heap.size W w' from by have h := implMirrorRubbing_any (mirR R) (mirR_ok R) W; rwa [mir_mir HR.out] at h)
  have HCM := hide (fun W => show Calls Tryd.prog 17 #[.agg (rwc (mirR R)).toArray] W fun e w' => e = .returned (.int .i64 (cntN R 8)) ∧ Below W.heap.size W w' from by have h := implCountDark_any (mirR R) (mirR_ok R) W; rwa [cnt_mir HR.out] at h)
  have Ha_12 := hide (over_row a_12 (show w2.heap.size < w12.heap.size by omega))
  have Hb_12 := hide (over_row b_12 (show w2.heap.size + 1 < w12.heap.size by omega))
  have Hq_12 := hide (over_row q_12 (show w7.heap.size < w12.heap.size by omega))
  have Hm_12 := hide (over_row m_12 (show w9.heap.size < w12.heap.size by omega))
  have hq1 := neq_self R HR.out.1
  have hq2 := neq_self (mirR R) (mirR_ok R).1
  refine wp_region_over (by kernel_rfl) (by kernel_rfl) ?_
  repeat (first
    | (refine wpQuiet_load_row rfl 26 (.tmp 5) rfl _ 0 rfl _ _ Ha_12.out Tryd.underlying26 rfl (rub_info' HR.out.1) ?_; simp only [Act.put, List.setIfInBounds_toArray, List.set_cons_zero, List.set_cons_succ])
    | (refine wpQuiet_load_row rfl 26 (.tmp 6) rfl _ 0 rfl _ _ Hb_12.out Tryd.underlying26 rfl (rub_info' HS.out.1) ?_; simp only [Act.put, List.setIfInBounds_toArray, List.set_cons_zero, List.set_cons_succ])
    | (refine wpQuiet_load_row rfl 26 (.tmp 13) rfl _ 0 rfl _ _ Hq_12.out Tryd.underlying26 rfl (rub_info' HR.out.1) ?_; simp only [Act.put, List.setIfInBounds_toArray, List.set_cons_zero, List.set_cons_succ])
    | (refine wpQuiet_load_row rfl 26 (.tmp 15) rfl _ 0 rfl _ _ Hm_12.out Tryd.underlying26 rfl (rub_info' (mirR_ok R).1) ?_; simp only [Act.put, List.setIfInBounds_toArray, List.set_cons_zero, List.set_cons_succ])
    | go_big_quiet_step ((first | (go_at_call 19; exact over_call (specMirrorRubbing_any R HR.out _)) | (go_at_call 16; exact over_call (HMM.out _)) | (go_at_call 17; exact over_call (HCM.out _)) | (go_at_call 20; exact over_call (specCountDark_any R HR.out _)))))
  refine wpQuiet_nil ?_
  intro w13 hb13
  have z13 := hb13.size
  have hB13 := hB12.trans (hb13.mono hB12.size)
  clear Ha_12 Hb_12 Hq_12 Hm_12
  have a_13 := rangeAt_below a_12 hb13 (by omega)
  have b_13 := rangeAt_below b_12 hb13 (by omega)
  have q_13 := rangeAt_below q_12 hb13 (by omega)
  have m_13 := rangeAt_below m_12 hb13 (by omega)
  clear a_12 b_12 q_12 m_12
  clear hB12
  have HI2 := hide (HI.out.go hb13)
  clear HMM HCM hq1 hq2 HI
  clear hb4 hb5 hb6 hb7 hb9 hb11 hb12 hb13
  go_wp2
  have HBR := hide (fun (y : Nat) (hy : y < 8) => show (((bitN (R.getD y 0) 16 : Nat) : Int) == 0) = (((R.getD y 0 : Nat) : Int) == 0) from by
    have := bitN_zero (rok_at HR.out y)
    rw [Bool.eq_iff_iff]; simp only [beq_iff_eq]; omega)
  have HBL := hide (fun y => bitN_le (R.getD y 0) 16)
  have HCN := hide (fun y => show cntN R (y + 1) = cntN R y + bitN (R.getD y 0) 16 from rfl)
  have HCL := hide (fun y => cntN_le R y)
  have HAG := hide (fun (y : Nat) (hy : y < 8) => rangeAt_cell a_13 (rwc_get (k := y) (by rw [HR.out.1]; exact hy)))
  go_loopw [18, 19] (fun su i wq => ∃ y : Nat, y ≤ 8 ∧ i = .int .i64 y ∧ su = .int .i64 (cntN R y) ∧ Below w13.heap.size w13 wq) (fun _ i _ => 8 - (intOf i).toNat)
  case atStart => exact ⟨0, by omega, rfl, rfl, Below.refl _ _⟩
  case round =>
    obtain ⟨y, hy, rfl, rfl, hB⟩ := hrel
    by_cases hlt : y < 8
    · obtain ⟨bi, oi, rfl, _, hbi, hcs, _⟩ := HI2.out (by intro e; have h := drkL_len R; rw [e] at h; simp at h)
      have ci := (hB.cell (p := ⟨bi, oi + y, none⟩) hbi).trans (hcs y _ (show (drkL R)[y]? = some (((bitN (R.getD y 0) 16 : Nat) : Int)) from by simp [drkL, hlt]))
      have ca := (hB.cell (p := ⟨w2.heap.size, y, none⟩) (by show w2.heap.size < _; omega)).trans (HAG.out y hlt)
      have hbe := HBR.out y hlt
      have hbl := HBL.out y
      have hcn := HCN.out y
      have hcl := HCL.out y
      have hi : (y : Int) < 8 := by omega
      have h0 : (0 : Int) ≤ y := by omega
      generalize R.getD y 0 = m at *
      generalize bitN m 16 = v at *
      generalize cntN R y = u at *
      have hv0 : ¬ (v : Int) < 0 := by omega
      have hv1 : ¬ (16 : Int) < v := by omega
      have hwu := IntWalk.i64_in ((u : Int) + v) ⟨by omega, by omega⟩
      have HE : Hid (((cntN R (y + 1) : Nat) : Int) = (u : Int) + v) := hide (by rw [hcn]; omega)
      clear hcn hcs
      go_wp2
      go_quiet (fail)
      go_wp2
      exact ⟨⟨y + 1, by omega, by go_num, by rw [HE.out], below_drewN hB _⟩, by simp [intOf]; omega⟩
    · obtain rfl : y = 8 := by omega
      clear HBR HBL HCN HCL HAG HI2
      obtain ⟨w14, hw14⟩ : ∃ w14, w14 = wr := ⟨_, rfl⟩
      subst hw14
      have hb14 := hB
      clear hB
      have z14 := hb14.size
      have hB14 := hB13.trans (hb14.mono hB13.size)
      have a_14 := rangeAt_below a_13 hb14 (by omega)
      have b_14 := rangeAt_below b_13 hb14 (by omega)
      have q_14 := rangeAt_below q_13 hb14 (by omega)
      have m_14 := rangeAt_below m_13 hb14 (by omega)
      clear a_13 b_13 q_13 m_13
      clear hB13 hb14
      have HBM := hide (bm_best (bmF R S) (bmF_bd R S))
      rw [HV.out] at HBM
      go_wp2
      have Ha_14 := hide (over_row a_14 (show w2.heap.size < w14.heap.size by omega))
      have Hb_14 := hide (over_row b_14 (show w2.heap.size + 1 < w14.heap.size by omega))
      have Hq_14 := hide (over_row q_14 (show w7.heap.size < w14.heap.size by omega))
      have Hm_14 := hide (over_row m_14 (show w9.heap.size < w14.heap.size by omega))
      have hm1 : (((mtN R R : Nat) : Int) != ((cntN R 8 : Nat) : Int)) = false := by rw [mt_self HR.out]; simp
      refine wp_region_over (by kernel_rfl) (by kernel_rfl) ?_
      repeat (first
        | (refine wpQuiet_load_row rfl 26 (.tmp 5) rfl _ 0 rfl _ _ Ha_14.out Tryd.underlying26 rfl (rub_info' HR.out.1) ?_; simp only [Act.put, List.setIfInBounds_toArray, List.set_cons_zero, List.set_cons_succ])
        | (refine wpQuiet_load_row rfl 26 (.tmp 6) rfl _ 0 rfl _ _ Hb_14.out Tryd.underlying26 rfl (rub_info' HS.out.1) ?_; simp only [Act.put, List.setIfInBounds_toArray, List.set_cons_zero, List.set_cons_succ])
        | (refine wpQuiet_load_row rfl 26 (.tmp 13) rfl _ 0 rfl _ _ Hq_14.out Tryd.underlying26 rfl (rub_info' HR.out.1) ?_; simp only [Act.put, List.setIfInBounds_toArray, List.set_cons_zero, List.set_cons_succ])
        | (refine wpQuiet_load_row rfl 26 (.tmp 15) rfl _ 0 rfl _ _ Hm_14.out Tryd.underlying26 rfl (rub_info' (mirR_ok R).1) ?_; simp only [Act.put, List.setIfInBounds_toArray, List.set_cons_zero, List.set_cons_succ])
        | go_big_quiet_step ((first | (go_at_call 21; exact over_call (implMatchOf_any R HR.out _ (by first | exact HS.out | exact HR.out) _)) | (go_at_call 22; exact over_call (specMatchOf_any R HR.out S HS.out _)))))
      refine wpQuiet_nil ?_
      intro w15 hb15
      have z15 := hb15.size
      have hB15 := hB14.trans (hb15.mono hB14.size)
      clear Ha_14 Hb_14 Hq_14 Hm_14
      have a_15 := rangeAt_below a_14 hb15 (by omega)
      have b_15 := rangeAt_below b_14 hb15 (by omega)
      have q_15 := rangeAt_below q_14 hb15 (by omega)
      have m_15 := rangeAt_below m_14 hb15 (by omega)
      clear a_14 b_14 q_14 m_14
      clear hB14
      clear hm1 hb15
      obtain ⟨mx, my, top⟩ := V
      obtain ⟨hin, htop, hbest⟩ := HBM.out
      dsimp only at hin htop hbest ⊢
      have hin1 := hin.1
      have hin2 := hin.2
      have HT := hide htop
      have HBE := hide hbest
      have hw1 := IntWalk.i64_in (-mx) ⟨by omega, by omega⟩
      have hw2 := IntWalk.i64_in (-my) ⟨by omega, by omega⟩
      have hw3 := IntWalk.i64_in (max mx (-mx) + max my (-my)) ⟨by omega, by omega⟩
      clear HBM HV htop hbest hin
      go_wp2
      refine fr_outer R S HR.out HS.out mx my top (max mx (-mx) + max my (-my)) ⟨hin1, hin2⟩ HT.out HBE.out rfl w2.heap.size w15 a_15 b_15 (by omega) _ _ _ _ _ _ _ _ _ _ _ _ _ _ _ _ _ _ _ _ _ _ _ _ _ _ _ _ _ _ _ _ _ _ _ _ _ _ _ _ _ _ _ _ _ _ _ _ _ _ _ _ _ _ _ _ _ _ _ _ _ _ _ _ _ _ _ _ _ _ _ _ _ _ _ _ _ _ _ _ _ _ _ _ _ _ _ _ _ _ _ _ _ _ _ _ _ _ _ _ _ _ _ _ _ _ _ _ _ _ _ _ _ _ _ _ _ _ _ _ _ _ _ _ _ _ _ _ _ _ _ _ _ _ _ _ _ _ _ _ _ _ _ _ _ _ _ _ _ _ _ _ _ _ _ _ _ _ _ _ _ _ _ _ _ _ _ _ _ _ _ _ _ _ _ _ _ _ _ _ _ _ _ _ _ _ _ _ _ _ _ _ _ _ _ _ _ _ _ _ _ _ _ _ _ _ _ _ _ _ _ _ _ _ _ _ _ _ _ _ _ _ _ _ _ _ _ _ _ _ _ _ _ _ _ _ _ _ _ _ _ _ _ _ _ _ _ _ _ _ _ _ _ _ _ _ _ _ _ _ _ _ _ _ _ _ _ _ _ _ _ _ _ _ _ _ _ _ _ _ _ _ _ _ _ _ _ _ _ _ _ _ _ _ _ _ _ _ _ _ _ _ _ _ _ _ _ _ _ _ _ _ _ _ _ _ _ _ _ _ _ _ _ _ _ _ _ _ _ _ _ _ _ _ _ _ _ _ _ _ _ _ _ _ _ _ _ _ _ _ _ _ _ ?_
      intro u4 u22 u23 u24 u25 u186 u187 u188 u189 u190 u191 u192 u193 u194 u195 u196 u197 u198 u199 u200 u201 u202 u203 u204 u205 u206 u207 u208 u209 u210 u211 u212 u213 u214 u215 u216 u217 u218 u219 u220 u221 u222 u223 u224 u225 u226 u227 u228 u229 u230 u231 u232 u233 u234 u235 u236 u237 u238 u239 u240 u241 u242 u243 u244 u245 u246 u247 u248 u249 u250 u251 u252 u253 u254 u255 u256 u257 u258 u259 u260 u261 u262 wl hbl
      clear HT HBE hw1 hw2 hw3
      obtain ⟨w16, hw16⟩ : ∃ w16, w16 = wl := ⟨_, rfl⟩
      subst hw16
      have hb16 := hbl
      clear hbl
      have z16 := hb16.size
      have hB16 := hB15.trans (hb16.mono hB15.size)
      have a_16 := rangeAt_below a_15 hb16 (by omega)
      have b_16 := rangeAt_below b_15 hb16 (by omega)
      have q_16 := rangeAt_below q_15 hb16 (by omega)
      have m_16 := rangeAt_below m_15 hb16 (by omega)
      clear a_15 b_15 q_15 m_15
      clear hB15 hb16
      have HA0 := hide (fun W (h : Below w.heap.size w W) => show Calls Tryd.prog 24 #[.slice B ys.length d, .int .i64 0, .int .i64 11] W fun e w' => e = .returned (.int .i64 (atV ys 0 11)) ∧ W = w' from a2At_any B ys d 0 11 hl2.2 (by omega) (by omega) hys W (CellsAt.mono (CellsAt.below hY h) h.size))
      have HA1 := hide (fun W (h : Below w.heap.size w W) => show Calls Tryd.prog 24 #[.slice B ys.length d, .int .i64 1, .int .i64 11] W fun e w' => e = .returned (.int .i64 (atV ys 1 11)) ∧ W = w' from a2At_any B ys d 1 11 hl2.2 (by omega) (by omega) hys W (CellsAt.mono (CellsAt.below hY h) h.size))
      have hx0 := atV_bd hys 0 (show (0 : Int) < 11 by omega)
      have hx1 := atV_bd hys 1 (show (0 : Int) < 11 by omega)
      generalize atV ys 0 11 = x0 at *
      generalize atV ys 1 11 = x1 at *
      obtain ⟨x, hxx⟩ : ∃ x, x0 - 5 = x := ⟨_, rfl⟩
      obtain ⟨y, hyy⟩ : ∃ y, x1 - 5 = y := ⟨_, rfl⟩
      have hxb : -5 ≤ x ∧ x ≤ 5 := by omega
      have hyb : -5 ≤ y ∧ y ≤ 5 := by omega
      have hwx := (IntWalk.i64_in (x0 - 5) ⟨by omega, by omega⟩).trans hxx
      have hwy := (IntWalk.i64_in (x1 - 5) ⟨by omega, by omega⟩).trans hyy
      have hwnx := IntWalk.i64_in (-x) ⟨by omega, by omega⟩
      have hwny := IntWalk.i64_in (-y) ⟨by omega, by omega⟩
      have hmay : mayM x y = true := by unfold mayM; rw [inB_true.2 hxb, inB_true.2 hyb]; rfl
      have hmay2 : mayM (-x) (-y) = true := by unfold mayM; rw [inB_true.2 (show -5 ≤ -x ∧ -x ≤ 5 by omega), inB_true.2 (show -5 ≤ -y ∧ -y ≤ 5 by omega)]; rfl
      have HIM := hide (fun W (h : ErrT W) => show Calls Tryd.prog 25 #[.agg (rwc R).toArray, .int .i64 x, .int .i64 y] W fun e w' => e = .returned (.tuple #[.agg (rwc (mvR R x y)).toArray, .int .i64 0]) ∧ Below W.heap.size W w' from by
        have h := implMoveRubbing_any R HR.out x y W h
        unfold RubBack at h
        rwa [(mb_yes hmay R).1, (mb_yes hmay R).2] at h)
      have HSM := hide (fun W => show Calls Tryd.prog 26 #[.agg (rwc R).toArray, .int .i64 x, .int .i64 y] W fun e w' => e = .returned (.tuple #[.agg (rwc (mvR R x y)).toArray, .int .i64 0]) ∧ Below W.heap.size W w' from by
        have h := specMoveRubbing_any R HR.out x y W
        unfold RubBack at h
        rwa [(mb_yes hmay R).1, (mb_yes hmay R).2] at h)
      have HBK := hide (fun W (h : ErrT W) => show Calls Tryd.prog 25 #[.agg (rwc (mvR R x y)).toArray, .int .i64 (-x), .int .i64 (-y)] W fun e w' => e = .returned (.tuple #[.agg (rwc (bkR R x y)).toArray, .int .i64 0]) ∧ Below W.heap.size W w' from by
        have h := implMoveRubbing_any (mvR R x y) (mvR_ok' R x y) (-x) (-y) W h
        unfold RubBack at h
        rwa [(mb_yes hmay2 _).1, (mb_yes hmay2 R).2] at h)
      have HMA := hide (fun W (h : ErrT W) => show Calls Tryd.prog 27 #[.agg (rwc R).toArray, .agg (rwc S).toArray, .int .i64 x, .int .i64 y] W fun e w' => e = .returned (.tuple #[.int .i64 (maV R S x y), .int .i64 0]) ∧ Below W.heap.size W w' from by
        have h := implMatchAt_any R HR.out S HS.out x y W h
        rwa [(mb_yes hmay R).2] at h)
      have HMB := hide (fun W => show Calls Tryd.prog 23 #[.agg (rwc R).toArray, .agg (rwc S).toArray, .int .i64 x, .int .i64 y] W fun e w' => e = .returned (.tuple #[.int .i64 (maV R S x y), .int .i64 0]) ∧ Below W.heap.size W w' from by
        have h := specMatchAt_any R HR.out S HS.out x y W
        rwa [(mb_yes hmay R).2] at h)
      have HWO := hide (fun W => show Calls Tryd.prog 28 #[.agg (rwc R).toArray, .agg (rwc (bkR R x y)).toArray] W fun e w' => e = .returned (.bool true) ∧ Below W.heap.size W w' from by
        have h := implMayBeWorn_any R HR.out (bkR R x y) (bkR_ok R x y) W
        rwa [bk_worn HR.out x y, decide_eq_true rfl] at h)
      have HCD := hide (fun W => implCountDark_any (mvR R x y) (mvR_ok' R x y) W)
      have HLE := hide (cnt_mv R x y)
      have HEQ := hide (fun h => bk_eq HR.out x y h)
      have HM := hide (mvR_ok' R x y)
      have HB' := hide (bkR_ok R x y)
      clear hmay hmay2 hxb hyb hxx hyy hx0 hx1
      generalize maV R S x y = mav at *
      go_wp2_with fail
      refine (HA0.out _ hB16).mono ?_
      rintro e wa ⟨rfl, rfl⟩
      go_wp2_with fail
      refine (HA1.out _ hB16).mono ?_
      rintro e wa ⟨rfl, rfl⟩
      go_wp2_with (first
        | (refine wpList_load_mid rfl 26 (.tmp 5) rfl _ 0 rfl (rwc R) _ a_16 Tryd.underlying26 rfl (rub_info' HR.out.1) ?_)
        | (refine wpList_load_mid rfl 26 (.tmp 6) rfl _ 0 rfl (rwc S) _ b_16 Tryd.underlying26 rfl (rub_info' HS.out.1) ?_)
        | (refine wpList_load_mid rfl 26 (.tmp 13) rfl _ 0 rfl (rwc R) _ q_16 Tryd.underlying26 rfl (rub_info' HR.out.1) ?_)
        | (refine wpList_load_mid rfl 26 (.tmp 15) rfl _ 0 rfl (rwc (mirR R)) _ m_16 Tryd.underlying26 rfl (rub_info' (mirR_ok R).1) ?_))
      refine (HIM.out _ (hG.below hB16)).mono ?_
      rintro e w17 ⟨rfl, hb17⟩
      have z17 := hb17.size
      have hB17 := hB16.trans (hb17.mono hB16.size)
      have a_17 := rangeAt_below a_16 hb17 (by omega)
      have b_17 := rangeAt_below b_16 hb17 (by omega)
      have q_17 := rangeAt_below q_16 hb17 (by omega)
      have m_17 := rangeAt_below m_16 hb17 (by omega)
      clear a_16 b_16 q_16 m_16
      clear hB16
      obtain ⟨w18, hW18, u_18, b18, s18, t18⟩ := stored_rub w17 (mvR R x y) (HM.out.1)
      have HW18 := hide hW18
      clear hW18
      have z18 := b18.size
      have hB18 := hB17.trans (b18.mono hB17.size)
      have a_18 := rangeAt_below a_17 b18 (by omega)
      have b_18 := rangeAt_below b_17 b18 (by omega)
      have q_18 := rangeAt_below q_17 b18 (by omega)
      have m_18 := rangeAt_below m_17 b18 (by omega)
      clear a_17 b_17 q_17 m_17
      clear hB17
      go_wp2_with (first
        | (refine wpList_store_mid rfl 26 (.tmp 28) (.tmp 274) rfl w17.heap.size 0 _ rfl rfl t18 (rub_info (HM.out.1)) (rwc_one _) ?_; rw [← HW18.out])
        | (refine wpList_load_mid rfl 26 (.tmp 5) rfl _ 0 rfl (rwc R) _ a_18 Tryd.underlying26 rfl (rub_info' HR.out.1) ?_)
        | (refine wpList_load_mid rfl 26 (.tmp 6) rfl _ 0 rfl (rwc S) _ b_18 Tryd.underlying26 rfl (rub_info' HS.out.1) ?_)
        | (refine wpList_load_mid rfl 26 (.tmp 13) rfl _ 0 rfl (rwc R) _ q_18 Tryd.underlying26 rfl (rub_info' HR.out.1) ?_)
        | (refine wpList_load_mid rfl 26 (.tmp 15) rfl _ 0 rfl (rwc (mirR R)) _ m_18 Tryd.underlying26 rfl (rub_info' (mirR_ok R).1) ?_)
        | (refine wpList_load_mid rfl 26 (.tmp 28) rfl _ 0 rfl (rwc (mvR R x y)) _ u_18 Tryd.underlying26 rfl (rub_info' HM.out.1) ?_))
      refine (HSM.out _).mono ?_
      rintro e w19 ⟨rfl, hb19⟩
      have z19 := hb19.size
      have hB19 := hB18.trans (hb19.mono hB18.size)
      have a_19 := rangeAt_below a_18 hb19 (by omega)
      have b_19 := rangeAt_below b_18 hb19 (by omega)
      have q_19 := rangeAt_below q_18 hb19 (by omega)
      have m_19 := rangeAt_below m_18 hb19 (by omega)
      have u_19 := rangeAt_below u_18 hb19 (by omega)
      clear a_18 b_18 q_18 m_18 u_18
      clear hB18
      obtain ⟨w20, hW20, v_20, b20, s20, t20⟩ := stored_rub w19 (mvR R x y) (HM.out.1)
      have HW20 := hide hW20
      clear hW20
      have z20 := b20.size
      have hB20 := hB19.trans (b20.mono hB19.size)
      have a_20 := rangeAt_below a_19 b20 (by omega)
      have b_20 := rangeAt_below b_19 b20 (by omega)
      have q_20 := rangeAt_below q_19 b20 (by omega)
      have m_20 := rangeAt_below m_19 b20 (by omega)
      have u_20 := rangeAt_below u_19 b20 (by omega)
      clear a_19 b_19 q_19 m_19 u_19
      clear hB19
      go_wp2_with (first
        | (refine wpList_store_mid rfl 26 (.tmp 30) (.tmp 281) rfl w19.heap.size 0 _ rfl rfl t20 (rub_info (HM.out.1)) (rwc_one _) ?_; rw [← HW20.out])
        | (refine wpList_load_mid rfl 26 (.tmp 5) rfl _ 0 rfl (rwc R) _ a_20 Tryd.underlying26 rfl (rub_info' HR.out.1) ?_)
        | (refine wpList_load_mid rfl 26 (.tmp 6) rfl _ 0 rfl (rwc S) _ b_20 Tryd.underlying26 rfl (rub_info' HS.out.1) ?_)
        | (refine wpList_load_mid rfl 26 (.tmp 13) rfl _ 0 rfl (rwc R) _ q_20 Tryd.underlying26 rfl (rub_info' HR.out.1) ?_)
        | (refine wpList_load_mid rfl 26 (.tmp 15) rfl _ 0 rfl (rwc (mirR R)) _ m_20 Tryd.underlying26 rfl (rub_info' (mirR_ok R).1) ?_)
        | (refine wpList_load_mid rfl 26 (.tmp 28) rfl _ 0 rfl (rwc (mvR R x y)) _ u_20 Tryd.underlying26 rfl (rub_info' HM.out.1) ?_)
        | (refine wpList_load_mid rfl 26 (.tmp 30) rfl _ 0 rfl (rwc (mvR R x y)) _ v_20 Tryd.underlying26 rfl (rub_info' HM.out.1) ?_))
      refine (HBK.out _ (hG.below hB20)).mono ?_
      rintro e w21 ⟨rfl, hb21⟩
      have z21 := hb21.size
      have hB21 := hB20.trans (hb21.mono hB20.size)
      have a_21 := rangeAt_below a_20 hb21 (by omega)
      have b_21 := rangeAt_below b_20 hb21 (by omega)
      have q_21 := rangeAt_below q_20 hb21 (by omega)
      have m_21 := rangeAt_below m_20 hb21 (by omega)
      have u_21 := rangeAt_below u_20 hb21 (by omega)
      have v_21 := rangeAt_below v_20 hb21 (by omega)
      clear a_20 b_20 q_20 m_20 u_20 v_20
      clear hB20
      obtain ⟨w22, hW22, k_22, b22, s22, t22⟩ := stored_rub w21 (bkR R x y) (HB'.out.1)
      have HW22 := hide hW22
      clear hW22
      have z22 := b22.size
      have hB22 := hB21.trans (b22.mono hB21.size)
      have a_22 := rangeAt_below a_21 b22 (by omega)
      have b_22 := rangeAt_below b_21 b22 (by omega)
      have q_22 := rangeAt_below q_21 b22 (by omega)
      have m_22 := rangeAt_below m_21 b22 (by omega)
      have u_22 := rangeAt_below u_21 b22 (by omega)
      have v_22 := rangeAt_below v_21 b22 (by omega)
      clear a_21 b_21 q_21 m_21 u_21 v_21
      clear hB21
      go_wp2_with (first
        | (refine wpList_store_mid rfl 26 (.tmp 32) (.tmp 290) rfl w21.heap.size 0 _ rfl rfl t22 (rub_info (HB'.out.1)) (rwc_one _) ?_; rw [← HW22.out])
        | (refine wpList_load_mid rfl 26 (.tmp 5) rfl _ 0 rfl (rwc R) _ a_22 Tryd.underlying26 rfl (rub_info' HR.out.1) ?_)
        | (refine wpList_load_mid rfl 26 (.tmp 6) rfl _ 0 rfl (rwc S) _ b_22 Tryd.underlying26 rfl (rub_info' HS.out.1) ?_)
        | (refine wpList_load_mid rfl 26 (.tmp 13) rfl _ 0 rfl (rwc R) _ q_22 Tryd.underlying26 rfl (rub_info' HR.out.1) ?_)
        | (refine wpList_load_mid rfl 26 (.tmp 15) rfl _ 0 rfl (rwc (mirR R)) _ m_22 Tryd.underlying26 rfl (rub_info' (mirR_ok R).1) ?_)
        | (refine wpList_load_mid rfl 26 (.tmp 28) rfl _ 0 rfl (rwc (mvR R x y)) _ u_22 Tryd.underlying26 rfl (rub_info' HM.out.1) ?_)
        | (refine wpList_load_mid rfl 26 (.tmp 30) rfl _ 0 rfl (rwc (mvR R x y)) _ v_22 Tryd.underlying26 rfl (rub_info' HM.out.1) ?_)
        | (refine wpList_load_mid rfl 26 (.tmp 32) rfl _ 0 rfl (rwc (bkR R x y)) _ k_22 Tryd.underlying26 rfl (rub_info' HB'.out.1) ?_))
      refine (HMA.out _ (hG.below hB22)).mono ?_
      rintro e w23 ⟨rfl, hb23⟩
      have z23 := hb23.size
      have hB23 := hB22.trans (hb23.mono hB22.size)
      have a_23 := rangeAt_below a_22 hb23 (by omega)
      have b_23 := rangeAt_below b_22 hb23 (by omega)
      have q_23 := rangeAt_below q_22 hb23 (by omega)
      have m_23 := rangeAt_below m_22 hb23 (by omega)
      have u_23 := rangeAt_below u_22 hb23 (by omega)
      have v_23 := rangeAt_below v_22 hb23 (by omega)
      have k_23 := rangeAt_below k_22 hb23 (by omega)
      clear a_22 b_22 q_22 m_22 u_22 v_22 k_22
      clear hB22
      go_wp2_with (first
        | (refine wpList_load_mid rfl 26 (.tmp 5) rfl _ 0 rfl (rwc R) _ a_23 Tryd.underlying26 rfl (rub_info' HR.out.1) ?_)
        | (refine wpList_load_mid rfl 26 (.tmp 6) rfl _ 0 rfl (rwc S) _ b_23 Tryd.underlying26 rfl (rub_info' HS.out.1) ?_)
        | (refine wpList_load_mid rfl 26 (.tmp 13) rfl _ 0 rfl (rwc R) _ q_23 Tryd.underlying26 rfl (rub_info' HR.out.1) ?_)
        | (refine wpList_load_mid rfl 26 (.tmp 15) rfl _ 0 rfl (rwc (mirR R)) _ m_23 Tryd.underlying26 rfl (rub_info' (mirR_ok R).1) ?_)
        | (refine wpList_load_mid rfl 26 (.tmp 28) rfl _ 0 rfl (rwc (mvR R x y)) _ u_23 Tryd.underlying26 rfl (rub_info' HM.out.1) ?_)
        | (refine wpList_load_mid rfl 26 (.tmp 30) rfl _ 0 rfl (rwc (mvR R x y)) _ v_23 Tryd.underlying26 rfl (rub_info' HM.out.1) ?_)
        | (refine wpList_load_mid rfl 26 (.tmp 32) rfl _ 0 rfl (rwc (bkR R x y)) _ k_23 Tryd.underlying26 rfl (rub_info' HB'.out.1) ?_))
      refine (HMB.out _).mono ?_
      rintro e w24 ⟨rfl, hb24⟩
      have z24 := hb24.size
      have hB24 := hB23.trans (hb24.mono hB23.size)
      have a_24 := rangeAt_below a_23 hb24 (by omega)
      have b_24 := rangeAt_below b_23 hb24 (by omega)
      have q_24 := rangeAt_below q_23 hb24 (by omega)
      have m_24 := rangeAt_below m_23 hb24 (by omega)
      have u_24 := rangeAt_below u_23 hb24 (by omega)
      have v_24 := rangeAt_below v_23 hb24 (by omega)
      have k_24 := rangeAt_below k_23 hb24 (by omega)
      clear a_23 b_23 q_23 m_23 u_23 v_23 k_23
      clear hB23
      have hq3 := neq_self (mvR R x y) HM.out.1
      have hgt : ¬ ((cntN R 8 : Nat) : Int) < ((cntN (mvR R x y) 8 : Nat) : Int) := by have := HLE.out; omega
      go_wp2_with (first
        | (refine wpList_load_mid rfl 26 (.tmp 5) rfl _ 0 rfl (rwc R) _ a_24 Tryd.underlying26 rfl (rub_info' HR.out.1) ?_)
        | (refine wpList_load_mid rfl 26 (.tmp 28) rfl _ 0 rfl (rwc (mvR R x y)) _ u_24 Tryd.underlying26 rfl (rub_info' HM.out.1) ?_)
        | (refine wpList_load_mid rfl 26 (.tmp 30) rfl _ 0 rfl (rwc (mvR R x y)) _ v_24 Tryd.underlying26 rfl (rub_info' HM.out.1) ?_)
        | (refine wpList_load_mid rfl 26 (.tmp 32) rfl _ 0 rfl (rwc (bkR R x y)) _ k_24 Tryd.underlying26 rfl (rub_info' HB'.out.1) ?_)
        | (refine wpList_load_mid_g rfl 26 (.tmp 5) rfl _ 0 rfl (rwc R) _ a_24 Tryd.underlying26 rfl (rub_info' HR.out.1) ?_)
        | (refine wpList_load_mid_g rfl 26 (.tmp 28) rfl _ 0 rfl (rwc (mvR R x y)) _ u_24 Tryd.underlying26 rfl (rub_info' HM.out.1) ?_)
        | (refine wpList_load_mid_g rfl 26 (.tmp 30) rfl _ 0 rfl (rwc (mvR R x y)) _ v_24 Tryd.underlying26 rfl (rub_info' HM.out.1) ?_)
        | (refine wpList_load_mid_g rfl 26 (.tmp 32) rfl _ 0 rfl (rwc (bkR R x y)) _ k_24 Tryd.underlying26 rfl (rub_info' HB'.out.1) ?_))
      refine (HWO.out _).mono ?_
      rintro e w25 ⟨rfl, hb25⟩
      have z25 := hb25.size
      have hB25 := hB24.trans (hb25.mono hB24.size)
      have a_25 := rangeAt_below a_24 hb25 (by omega)
      have u_25 := rangeAt_below u_24 hb25 (by omega)
      have v_25 := rangeAt_below v_24 hb25 (by omega)
      have k_25 := rangeAt_below k_24 hb25 (by omega)
      clear a_24 u_24 v_24 k_24
      clear hB24
      go_wp2_with (first
        | (refine wpList_load_mid rfl 26 (.tmp 5) rfl _ 0 rfl (rwc R) _ a_25 Tryd.underlying26 rfl (rub_info' HR.out.1) ?_)
        | (refine wpList_load_mid rfl 26 (.tmp 28) rfl _ 0 rfl (rwc (mvR R x y)) _ u_25 Tryd.underlying26 rfl (rub_info' HM.out.1) ?_)
        | (refine wpList_load_mid rfl 26 (.tmp 30) rfl _ 0 rfl (rwc (mvR R x y)) _ v_25 Tryd.underlying26 rfl (rub_info' HM.out.1) ?_)
        | (refine wpList_load_mid rfl 26 (.tmp 32) rfl _ 0 rfl (rwc (bkR R x y)) _ k_25 Tryd.underlying26 rfl (rub_info' HB'.out.1) ?_)
        | (refine wpList_load_mid_g rfl 26 (.tmp 5) rfl _ 0 rfl (rwc R) _ a_25 Tryd.underlying26 rfl (rub_info' HR.out.1) ?_)
        | (refine wpList_load_mid_g rfl 26 (.tmp 28) rfl _ 0 rfl (rwc (mvR R x y)) _ u_25 Tryd.underlying26 rfl (rub_info' HM.out.1) ?_)
        | (refine wpList_load_mid_g rfl 26 (.tmp 30) rfl _ 0 rfl (rwc (mvR R x y)) _ v_25 Tryd.underlying26 rfl (rub_info' HM.out.1) ?_)
        | (refine wpList_load_mid_g rfl 26 (.tmp 32) rfl _ 0 rfl (rwc (bkR R x y)) _ k_25 Tryd.underlying26 rfl (rub_info' HB'.out.1) ?_))
      refine (HCD.out _).mono ?_
      rintro e w26 ⟨rfl, hb26⟩
      have z26 := hb26.size
      have hB26 := hB25.trans (hb26.mono hB25.size)
      have a_26 := rangeAt_below a_25 hb26 (by omega)
      have u_26 := rangeAt_below u_25 hb26 (by omega)
      have v_26 := rangeAt_below v_25 hb26 (by omega)
      have k_26 := rangeAt_below k_25 hb26 (by omega)
      clear a_25 u_25 v_25 k_25
      clear hB25
      go_wp2_with (first
        | (refine wpList_load_mid rfl 26 (.tmp 5) rfl _ 0 rfl (rwc R) _ a_26 Tryd.underlying26 rfl (rub_info' HR.out.1) ?_)
        | (refine wpList_load_mid rfl 26 (.tmp 28) rfl _ 0 rfl (rwc (mvR R x y)) _ u_26 Tryd.underlying26 rfl (rub_info' HM.out.1) ?_)
        | (refine wpList_load_mid rfl 26 (.tmp 30) rfl _ 0 rfl (rwc (mvR R x y)) _ v_26 Tryd.underlying26 rfl (rub_info' HM.out.1) ?_)
        | (refine wpList_load_mid rfl 26 (.tmp 32) rfl _ 0 rfl (rwc (bkR R x y)) _ k_26 Tryd.underlying26 rfl (rub_info' HB'.out.1) ?_)
        | (refine wpList_load_mid_g rfl 26 (.tmp 5) rfl _ 0 rfl (rwc R) _ a_26 Tryd.underlying26 rfl (rub_info' HR.out.1) ?_)
        | (refine wpList_load_mid_g rfl 26 (.tmp 28) rfl _ 0 rfl (rwc (mvR R x y)) _ u_26 Tryd.underlying26 rfl (rub_info' HM.out.1) ?_)
        | (refine wpList_load_mid_g rfl 26 (.tmp 30) rfl _ 0 rfl (rwc (mvR R x y)) _ v_26 Tryd.underlying26 rfl (rub_info' HM.out.1) ?_)
        | (refine wpList_load_mid_g rfl 26 (.tmp 32) rfl _ 0 rfl (rwc (bkR R x y)) _ k_26 Tryd.underlying26 rfl (rub_info' HB'.out.1) ?_))
      refine (HCD.out _).mono ?_
      rintro e w27 ⟨rfl, hb27⟩
      have z27 := hb27.size
      have hB27 := hB26.trans (hb27.mono hB26.size)
      have a_27 := rangeAt_below a_26 hb27 (by omega)
      have u_27 := rangeAt_below u_26 hb27 (by omega)
      have v_27 := rangeAt_below v_26 hb27 (by omega)
      have k_27 := rangeAt_below k_26 hb27 (by omega)
      clear a_26 u_26 v_26 k_26
      clear hB26
      have hqe := fun h W => run_eql_rub (bkR R x y) R HB'.out.1 HR.out.1 W |>.trans (by rw [decide_eq_true (HEQ.out h)])
      by_cases hc : cntN (mvR R x y) 8 = cntN R 8
      · have hq5 := hqe hc
        have hc1 : (((cntN (mvR R x y) 8 : Nat) : Int) != ((cntN R 8 : Nat) : Int)) = false := by simp [hc]
        clear hc hqe
        go_wp2_with (first
          | (refine wpList_load_mid rfl 26 (.tmp 5) rfl _ 0 rfl (rwc R) _ a_27 Tryd.underlying26 rfl (rub_info' HR.out.1) ?_)
          | (refine wpList_load_mid rfl 26 (.tmp 28) rfl _ 0 rfl (rwc (mvR R x y)) _ u_27 Tryd.underlying26 rfl (rub_info' HM.out.1) ?_)
          | (refine wpList_load_mid rfl 26 (.tmp 30) rfl _ 0 rfl (rwc (mvR R x y)) _ v_27 Tryd.underlying26 rfl (rub_info' HM.out.1) ?_)
          | (refine wpList_load_mid rfl 26 (.tmp 32) rfl _ 0 rfl (rwc (bkR R x y)) _ k_27 Tryd.underlying26 rfl (rub_info' HB'.out.1) ?_)
          | (refine wpList_load_mid_g rfl 26 (.tmp 5) rfl _ 0 rfl (rwc R) _ a_27 Tryd.underlying26 rfl (rub_info' HR.out.1) ?_)
          | (refine wpList_load_mid_g rfl 26 (.tmp 28) rfl _ 0 rfl (rwc (mvR R x y)) _ u_27 Tryd.underlying26 rfl (rub_info' HM.out.1) ?_)
          | (refine wpList_load_mid_g rfl 26 (.tmp 30) rfl _ 0 rfl (rwc (mvR R x y)) _ v_27 Tryd.underlying26 rfl (rub_info' HM.out.1) ?_)
          | (refine wpList_load_mid_g rfl 26 (.tmp 32) rfl _ 0 rfl (rwc (bkR R x y)) _ k_27 Tryd.underlying26 rfl (rub_info' HB'.out.1) ?_))
        go_ret
        exact ⟨rfl, hB27⟩
      · have hc1 : (((cntN (mvR R x y) 8 : Nat) : Int) != ((cntN R 8 : Nat) : Int)) = true := by simp; omega
        clear hc hqe
        go_wp2_with (first
          | (refine wpList_load_mid rfl 26 (.tmp 5) rfl _ 0 rfl (rwc R) _ a_27 Tryd.underlying26 rfl (rub_info' HR.out.1) ?_)
          | (refine wpList_load_mid rfl 26 (.tmp 28) rfl _ 0 rfl (rwc (mvR R x y)) _ u_27 Tryd.underlying26 rfl (rub_info' HM.out.1) ?_)
          | (refine wpList_load_mid rfl 26 (.tmp 30) rfl _ 0 rfl (rwc (mvR R x y)) _ v_27 Tryd.underlying26 rfl (rub_info' HM.out.1) ?_)
          | (refine wpList_load_mid rfl 26 (.tmp 32) rfl _ 0 rfl (rwc (bkR R x y)) _ k_27 Tryd.underlying26 rfl (rub_info' HB'.out.1) ?_)
          | (refine wpList_load_mid_g rfl 26 (.tmp 5) rfl _ 0 rfl (rwc R) _ a_27 Tryd.underlying26 rfl (rub_info' HR.out.1) ?_)
          | (refine wpList_load_mid_g rfl 26 (.tmp 28) rfl _ 0 rfl (rwc (mvR R x y)) _ u_27 Tryd.underlying26 rfl (rub_info' HM.out.1) ?_)
          | (refine wpList_load_mid_g rfl 26 (.tmp 30) rfl _ 0 rfl (rwc (mvR R x y)) _ v_27 Tryd.underlying26 rfl (rub_info' HM.out.1) ?_)
          | (refine wpList_load_mid_g rfl 26 (.tmp 32) rfl _ 0 rfl (rwc (bkR R x y)) _ k_27 Tryd.underlying26 rfl (rub_info' HB'.out.1) ?_))
        go_ret
        exact ⟨rfl, hB27⟩
end Go.Proofs.YtngondeaeipcfaaDoor
