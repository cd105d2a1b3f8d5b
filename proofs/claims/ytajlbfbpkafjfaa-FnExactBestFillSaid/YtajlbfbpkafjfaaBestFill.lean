/- BestFill: the model and the program give the same answer for every argument. -/
import Derived.Test.YtajlbfbpkafjfaaBfL
import Derived.Test.YtajlbfbpkafjfaaG5
import Derived.Test.YtajlbfbpkafjfaaMarkG
namespace Go.Proofs.Ytajlbfbpkafjfaa
open Go.RowKit

set_option maxRecDepth 100000 in
set_option maxHeartbeats 16000000 in
theorem lawBestFill_any (F : Fc) (hF : F.ok) (A : Option Addr) (c : Nat) (s : ByteArray) (hs : s.size ≤ maxLen) (s2 : ByteArray) (hs2 : s2.size ≤ maxLen) (T : Option Addr) (ts : List ByteArray) (ct : Nat) (htn : ts.length ≤ maxLen) (htx : ∀ x ∈ ts, x.size ≤ maxLen) (x : Int) (hx : (Lit.int .i64 x).wf = true) (w : World) (hG : Glob w) (hA : PairsAt w w.heap.size A F.ps) (hT : StrsAt w w.heap.size T ts) :
    Calls Try.prog 5 #[.agg (fc F (.slice A F.ps.length c)).toArray, .string s, .string s2, .slice T ts.length ct, .int .i64 x] w fun e w' => e = .returned (.bool true) ∧ Below w.heap.size w w' := by
  have hW := hide hF.len
  have r0 := rangeAt_new w (fc F (.slice A F.ps.length c)) 31
  have b0 : Below w.heap.size w (w.alloc (.cells (fc F (.slice A F.ps.length c)).toArray 31)) := (Below.refl _ _).alloc (Nat.le_refl _) _
  have s0 : w.heap.size < (w.alloc (.cells (fc F (.slice A F.ps.length c)).toArray 31)).heap.size := by simp
  have HIL := hide (show (Try.prog.info? 31).map (·.size) = some (fc F (.slice A F.ps.length c)).length from by rw [fc_length hW.out]; kernel_rfl)
  have HII := hide (show ∀ sl, (Try.prog.info? 38).map (·.size) = some (fc F sl).length from fun sl => by rw [fc_length hW.out]; kernel_rfl)
  have HSZ := hide (szFace_any F hF A c 1048576)
  have hm_s := hs
  unfold maxLen at hm_s
  by_cases ht_s : 1048576 < s.size
  · have hd : decide ((1048576 : Int) < s.size) = true := by simp; omega
    have hd' : decide (1048576 < s.size) = true := by simp; omega
    go_enter Try.func5, Try.ntmps5
    go_wp2
    go_ret
    exact ⟨rfl, b0⟩
  have hd0_s : decide ((1048576 : Int) < s.size) = false := by simp; omega
  have hd1_s : decide (1048576 < s.size) = false := by simp; omega
  have hn_s : s.size ≤ 1048576 := by omega
  clear ht_s hm_s
  have hm_s2 := hs2
  unfold maxLen at hm_s2
  by_cases ht_s2 : 1048576 < s2.size
  · have hd : decide ((1048576 : Int) < s2.size) = true := by simp; omega
    have hd' : decide (1048576 < s2.size) = true := by simp; omega
    go_enter Try.func5, Try.ntmps5
    go_wp2
    go_ret
    exact ⟨rfl, b0⟩
  have hd0_s2 : decide ((1048576 : Int) < s2.size) = false := by simp; omega
  have hd1_s2 : decide (1048576 < s2.size) = false := by simp; omega
  have hn_s2 : s2.size ≤ 1048576 := by omega
  clear ht_s2 hm_s2
  by_cases hbig : szL 1048576 F.ps.length < 0
  · go_enter Try.func5, Try.ntmps5
    go_wp2_with (first | (refine wpList_load_mid rfl 31 (.tmp 5) rfl _ 0 rfl (fc F (.slice A F.ps.length c)) _ r0 Try.underlying31 rfl HIL.out ?_) | (go_at_call 23; refine (HSZ.out _ (by omega) (by omega)).mono ?_; rintro e w1 ⟨rfl, hb1⟩))
    go_ret
    exact ⟨rfl, b0.trans (hb1.mono b0.size)⟩
  have hd : decide (szL 1048576 F.ps.length < 0) = false := by simpa using hbig
  have hnF : F.ps.length ≤ 1048576 := by unfold szL at hbig; split at hbig <;> omega
  have hnF2 : F.ps.length ≤ 2097152 := by omega
  clear hbig
  have hAW := hA.below b0
  have hTW := (hT.below b0).mono b0.size
  go_enter Try.func5, Try.ntmps5
  go_wp2_with (refine wpList_load_mid rfl 31 (.tmp 5) rfl _ 0 rfl (fc F (.slice A F.ps.length c)) _ r0 Try.underlying31 rfl HIL.out ?_)
  generalize (w.alloc (.cells (fc F (.slice A F.ps.length c)).toArray 31)) = W0 at *
  have hws := b0.size
  refine (HSZ.out _ (by omega) (by omega)).mono ?_
  rintro e w1 ⟨rfl, hb1⟩
  have hB1 := hb1
  have z1 := hb1.size
  have rr1 := rangeAt_over r0 hB1 s0
  go_wp2_with (refine wpList_load_mid rfl 31 (.tmp 5) rfl _ 0 rfl (fc F (.slice A F.ps.length c)) _ rr1 Try.underlying31 rfl HIL.out ?_)
  clear rr1
  have hl0 : 0 ≤ szL 1048576 F.ps.length ∧ szL 1048576 F.ps.length ≤ 1048576 ∧ szL 1048576 F.ps.length = 1048576 - F.ps.length := by unfold szL at hd ⊢; split <;> simp_all <;> omega
  obtain ⟨hl0a, hl0b, hl0c⟩ := hl0
  have HL0 := hide hl0c
  clear hl0c
  have HSS := hide (szStringS_any T ts ct (szL 1048576 F.ps.length) _ (by omega) (by omega) htn htx (hTW.go hB1))
  refine HSS.out.mono ?_
  rintro e w2 ⟨rfl, hsame⟩
  clear HSS
  have hb2 : Below w1.heap.size w1 w2 := by rw [← hsame]; exact Below.refl _ _
  clear hsame
  have hB2 := hB1.trans (hb2.mono hB1.size)
  have z2 := hb2.size
  clear hB1
  have hge := szS_ge (xs := ts) (l := (szL 1048576 F.ps.length))
  by_cases hneg : szS (szL 1048576 F.ps.length) ts < 0
  · have hdl : decide (szS (szL 1048576 F.ps.length) ts < 0) = true := by simpa using hneg
    go_wp2
    go_ret
    exact ⟨rfl, b0.trans (hB2.mono b0.size)⟩
  have hdl : decide (szS (szL 1048576 F.ps.length) ts < 0) = false := by simpa using hneg
  have hge2 := hge (by omega) (by omega)
  have hsum : F.ps.length + ts.length ≤ 1048576 := by have := HL0.out; omega
  have hnstrs : ts.length ≤ 1048576 := by omega
  have hxstrs : sumL (ts.map byts) ≤ 1048576 := by omega
  clear hneg hge hge2
  have rr2 := rangeAt_over r0 hB2 s0
  go_wp2_with (refine wpList_load_mid rfl 31 (.tmp 5) rfl _ 0 rfl (fc F (.slice A F.ps.length c)) _ rr2 Try.underlying31 rfl HIL.out ?_)
  clear rr2
  refine (toFace_any F hF A c _ (hAW.go hB2 hws) hnF).mono ?_
  rintro e w3 ⟨Q1, rfl, hQ1, hb3⟩
  have hB3 := hB2.trans (hb3.mono hB2.size)
  have z3 := hb3.size
  clear hB2
  have rr3 := rangeAt_over r0 hB3 s0
  go_wp2_with (refine wpList_load_mid rfl 31 (.tmp 5) rfl _ 0 rfl (fc F (.slice A F.ps.length c)) _ rr3 Try.underlying31 rfl HIL.out ?_)
  clear rr3
  refine (toStringS_any T ts ct _ (hTW.go hB3) hnstrs).mono ?_
  rintro e w4 ⟨Q2, rfl, hQ2, hb4⟩
  have hB4 := hB3.trans (hb4.mono hB3.size)
  have z4 := hb4.size
  have c_aF_4 := hQ1.below hb4 (Nat.le_refl _)
  clear hQ1 hB3
  have rr4 := rangeAt_over r0 hB4 s0
  go_wp2_with (refine wpList_load_mid rfl 31 (.tmp 5) rfl _ 0 rfl (fc F (.slice A F.ps.length c)) _ rr4 Try.underlying31 rfl HIL.out ?_)
  clear rr4
  refine (specBestFill_any F hF Q1 _ s hn_s s2 hn_s2 Q2 ts _ htn htx x _ c_aF_4.at_ hQ2.at_).mono ?_
  rintro e w5 ⟨rfl, hb5⟩
  have hB5 := hB4.trans (hb5.mono hB4.size)
  have z5 := hb5.size
  clear hB4
  clear c_aF_4 hQ2
  have rr5 := rangeAt_over r0 hB5 s0
  go_wp2_with (refine wpList_load_mid rfl 31 (.tmp 5) rfl _ 0 rfl (fc F (.slice A F.ps.length c)) _ rr5 Try.underlying31 rfl HIL.out ?_)
  clear rr5
  refine (toFace_any F hF A c _ (hAW.go hB5 hws) hnF).mono ?_
  rintro e w6 ⟨Q3, rfl, hQ3, hb6⟩
  have hB6 := hB5.trans (hb6.mono hB5.size)
  have z6 := hb6.size
  clear hB5
  have bd_x0 := blkP_bd hQ3
  obtain ⟨w7, hW7, r7, b7, s7, t7, t70⟩ := stored_face w6 F hW.out (.slice Q3 F.ps.length F.ps.length)
  have HW7 := hide hW7
  clear hW7
  have hB7 := hB6.trans (b7.mono hB6.size)
  have z7 := b7.size
  have d_x0_7 := hQ3.below b7 (Nat.le_refl _)
  clear hQ3 hB6
  have rr7 := rangeAt_over r0 hB7 s0
  go_wp2_with (first | (refine wpList_store_mid rfl 38 (.tmp 15) (.tmp 49) rfl w6.heap.size 0 _ rfl rfl t70 (HII.out _) (fc_one _ _ _ _) ?_; rw [← HW7.out]) | (refine wpList_load_mid rfl 31 (.tmp 5) rfl _ 0 rfl (fc F (.slice A F.ps.length c)) _ rr7 Try.underlying31 rfl HIL.out ?_) | (refine wpList_load_mid rfl 38 (.tmp 15) rfl _ 0 rfl (fc F (.slice Q3 F.ps.length F.ps.length)) _ r7 Try.underlying38 rfl (HII.out _) ?_))
  clear rr7
  refine (toStringS_any T ts ct _ (hTW.go hB7) hnstrs).mono ?_
  rintro e w8 ⟨Q4, rfl, hQ4, hb8⟩
  have hB8 := hB7.trans (hb8.mono hB7.size)
  have z8 := hb8.size
  have d_x0_8 := d_x0_7.below hb8 (Nat.le_refl _)
  have xrow_8 := rangeAt_over r7 hb8 (by omega)
  clear d_x0_7 r7 hB7
  have bd_x3 := blkS_bd hQ4
  have rr8 := rangeAt_over r0 hB8 s0
  go_wp2_with (first | (refine wpList_load_mid rfl 31 (.tmp 5) rfl _ 0 rfl (fc F (.slice A F.ps.length c)) _ rr8 Try.underlying31 rfl HIL.out ?_) | (refine wpList_load_mid rfl 38 (.tmp 15) rfl _ 0 rfl (fc F (.slice Q3 F.ps.length F.ps.length)) _ xrow_8 Try.underlying38 rfl (HII.out _) ?_))
  clear rr8
  refine (implBestFill_any F hF Q3 _ s hn_s s2 hn_s2 Q4 ts _ htn htx x _ ((hG.below b0).below hB8) d_x0_8.at_ hQ4.at_).mono ?_
  rintro e w9 ⟨rfl, hb9⟩
  have hB9 := hB8.trans (hb9.mono hB8.size)
  have z9 := hb9.size
  have d_x0_9 := d_x0_8.below hb9 (Nat.le_refl _)
  have xrow_9 := rangeAt_over xrow_8 hb9 (by omega)
  have d_x3_9 := hQ4.go hb9
  clear d_x0_8 xrow_8 hQ4 hB8
  have qa9 := rangeAt_over r0 hB9 s0
  have sq9 : w.heap.size < w9.heap.size := by omega
  have sx9 : w6.heap.size < w9.heap.size := by omega
  have hK9 : ∀ w', Below w9.heap.size w9 w' → _ := fun w' hb => keepS hb xrow_9 sx9 qa9 sq9
  have CA9 := hAW.go hB9 hws
  have HEQ := hide (fun A' w => eqFace_same F hF Q3 A' F.ps.length F.ps.length w)
  go_wp2
  refine wp_region_take2 0 1 [2, 3, 4] 3 (vi := .agg (fc F (.slice Q3 F.ps.length F.ps.length)).toArray) (vj := .agg (fc F (.slice A F.ps.length c)).toArray)
    (fun w' => Below w9.heap.size w9 w' ∧ w'.rangeAt w6.heap.size 0 (fc F (.slice Q3 F.ps.length F.ps.length)) ∧ w'.rangeAt w.heap.size 0 (fc F (.slice A F.ps.length c)))
    (by kernel_rfl) rfl (by decide) rfl rfl (by kernel_rfl) (by kernel_rfl) (by kernel_rfl) (by kernel_rfl) (by kernel_rfl) (by kernel_rfl) (fun _ _ _ h => h) (fun _ _ _ h => h)
    (yieldsIf_load_mid (by rfl) _ (.tmp 15) rfl _ 0 rfl _ _ (fun w h => h.2.1) Try.underlying38 rfl (HII.out _)) (yieldsIf_load_mid (by rfl) _ (.tmp 5) rfl _ 0 rfl _ _ (fun w h => h.2.2) Try.underlying31 rfl HIL.out) (hK9 _ (Below.refl _ _).drew) ?_
  simp only [Act.put, List.setIfInBounds_toArray, List.set_cons_zero, List.set_cons_succ]
  refine wpForced_cons rfl ?_
  go_wp2_with fail
  refine (toFace_any F hF A c _ (CA9.go ((Below.refl _ _).drew) (Nat.le_refl _)) hnF).mono ?_
  rintro e wa9 ⟨A3, rfl, hP3, hba9⟩
  have hX9 : Below w9.heap.size w9 wa9 := (Below.refl _ _).drew.trans hba9
  go_wp2_with fail
  refine ⟨hK9 _ hX9, wpForced_cons rfl ?_⟩
  go_wp2_with fail
  refine (HEQ.out _ _ ((d_x0_9.below hX9 (Nat.le_refl _)).at_) hP3.at_).mono ?_
  rintro e w10 ⟨rfl, hbb9⟩
  have hY9 := hX9.trans (hbb9.mono hX9.size)
  go_wp2_with fail
  refine ⟨hK9 _ hY9, wpForced_cons rfl ?_⟩
  go_wp2_with fail
  refine ⟨hK9 _ hY9, wpForced_nil ?_⟩
  clear hK9 CA9 HEQ hP3 hba9 hX9 hbb9 qa9
  have hB10 := hB9.trans (hY9.mono hB9.size)
  have z10 := hY9.size
  have d_x0_10 := d_x0_9.below hY9 (Nat.le_refl _)
  have xrow_10 := rangeAt_over xrow_9 hY9 (by omega)
  have d_x3_10 := d_x3_9.go hY9
  clear d_x0_9 xrow_9 d_x3_9 hB9
  have rr10 := rangeAt_over r0 hB10 s0
  go_wp2_with (first | (refine wpList_load_mid rfl 31 (.tmp 5) rfl _ 0 rfl (fc F (.slice A F.ps.length c)) _ rr10 Try.underlying31 rfl HIL.out ?_) | (refine wpList_load_mid rfl 38 (.tmp 15) rfl _ 0 rfl (fc F (.slice Q3 F.ps.length F.ps.length)) _ xrow_10 Try.underlying38 rfl (HII.out _) ?_))
  clear rr10
  refine (toStringS_any T ts ct _ (hTW.go hB10) hnstrs).mono ?_
  rintro e w11 ⟨Q5, rfl, hQ5, hb11⟩
  have hB11 := hB10.trans (hb11.mono hB10.size)
  have z11 := hb11.size
  have d_x0_11 := d_x0_10.below hb11 (Nat.le_refl _)
  have xrow_11 := rangeAt_over xrow_10 hb11 (by omega)
  have d_x3_11 := d_x3_10.go hb11
  clear d_x0_10 xrow_10 d_x3_10 hB10
  have rr11 := rangeAt_over r0 hB11 s0
  go_wp2_with (first | (refine wpList_load_mid rfl 31 (.tmp 5) rfl _ 0 rfl (fc F (.slice A F.ps.length c)) _ rr11 Try.underlying31 rfl HIL.out ?_) | (refine wpList_load_mid rfl 38 (.tmp 15) rfl _ 0 rfl (fc F (.slice Q3 F.ps.length F.ps.length)) _ xrow_11 Try.underlying38 rfl (HII.out _) ?_))
  clear rr11
  refine (eqStringS_same Q4 Q5 ts _ _ _ htn d_x3_11.at_ hQ5.at_).mono ?_
  rintro e w12 ⟨rfl, hb12⟩
  have hB12 := hB11.trans (hb12.mono hB11.size)
  have z12 := hb12.size
  have d_x0_12 := d_x0_11.below hb12 (Nat.le_refl _)
  have xrow_12 := rangeAt_over xrow_11 hb12 (by omega)
  have d_x3_12 := d_x3_11.go hb12
  clear d_x0_11 xrow_11 d_x3_11 hB11
  clear hQ5
  go_wp2
  go_ret
  exact ⟨rfl, b0.trans (hB12.mono b0.size)⟩
end Go.Proofs.Ytajlbfbpkafjfaa
