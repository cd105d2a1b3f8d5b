/- FillTwo: the model and the program give the same answer for every argument, and what comes back owns its memory. -/
import Derived.Test.YtajlbfbpkafjfaaF2S
import Derived.Test.YtajlbfbpkafjfaaG5
import Derived.Test.YtajlbfbpkafjfaaMarkG
namespace Go.Proofs.Ytajlbfbpkafjfaa
open Go.RowKit

set_option maxRecDepth 100000 in
set_option maxHeartbeats 16000000 in
theorem lawFillTwo_any (F : Fc) (hF : F.ok) (A : Option Addr) (c : Nat) (s : ByteArray) (hs : s.size ≤ maxLen) (s2 : ByteArray) (hs2 : s2.size ≤ maxLen) (T : Option Addr) (ts : List ByteArray) (ct : Nat) (htn : ts.length ≤ maxLen) (htx : ∀ x ∈ ts, x.size ≤ maxLen) (x : Int) (hx : (Lit.int .i64 x).wf = true) (y : Int) (hy : (Lit.int .i64 y).wf = true) (w : World) (hG : Glob w) (hA : PairsAt w w.heap.size A F.ps) (hT : StrsAt w w.heap.size T ts) :
    Calls Try.prog 6 #[.agg (fc F (.slice A F.ps.length c)).toArray, .string s, .string s2, .slice T ts.length ct, .int .i64 x, .int .i64 y] w fun e w' => e = .returned (.bool true) ∧ Below w.heap.size w w' := by
  have hW := hide hF.len
  have r0 := rangeAt_new w (fc F (.slice A F.ps.length c)) 31
  have b0 : Below w.heap.size w (w.alloc (.cells (fc F (.slice A F.ps.length c)).toArray 31)) := (Below.refl _ _).alloc (Nat.le_refl _) _
  have s0 : w.heap.size < (w.alloc (.cells (fc F (.slice A F.ps.length c)).toArray 31)).heap.size := by simp
  have HIL := hide (show (Try.prog.info? 31).map (·.size) = some (fc F (.slice A F.ps.length c)).length from by rw [fc_length hW.out]; kernel_rfl)
  have HII := hide (show ∀ sl, (Try.prog.info? 38).map (·.size) = some (fc F sl).length from fun sl => by rw [fc_length hW.out]; kernel_rfl)
  have HSZ := hide (szFace_any F hF A c 1048576)
  have hm_s := hs
  unfold maxLen at hm_s
  by_cases ht_s : 1048576 < s.size
  · have hd : decide ((1048576 : Int) < s.size) = true := by simp; omega
    have hd' : decide (1048576 < s.size) = true := by simp; omega
    go_enter Try.func6, Try.ntmps6
    go_wp2
    go_ret
    exact ⟨rfl, b0⟩
  have hd0_s : decide ((1048576 : Int) < s.size) = false := by simp; omega
  have hd1_s : decide (1048576 < s.size) = false := by simp; omega
  have hn_s : s.size ≤ 1048576 := by omega
  clear ht_s hm_s
  have hm_s2 := hs2
  unfold maxLen at hm_s2
  by_cases ht_s2 : 1048576 < s2.size
  · have hd : decide ((1048576 : Int) < s2.size) = true := by simp; omega
    have hd' : decide (1048576 < s2.size) = true := by simp; omega
    go_enter Try.func6, Try.ntmps6
    go_wp2
    go_ret
    exact ⟨rfl, b0⟩
  have hd0_s2 : decide ((1048576 : Int) < s2.size) = false := by simp; omega
  have hd1_s2 : decide (1048576 < s2.size) = false := by simp; omega
  have hn_s2 : s2.size ≤ 1048576 := by omega
  clear ht_s2 hm_s2
  by_cases hbig : szL 1048576 F.ps.length < 0
  · go_enter Try.func6, Try.ntmps6
    go_wp2_with (first | (refine wpList_load_mid rfl 31 (.tmp 6) rfl _ 0 rfl (fc F (.slice A F.ps.length c)) _ r0 Try.underlying31 rfl HIL.out ?_) | (go_at_call 23; refine (HSZ.out _ (by omega) (by omega)).mono ?_; rintro e w1 ⟨rfl, hb1⟩))
    go_ret
    exact ⟨rfl, b0.trans (hb1.mono b0.size)⟩
  have hd : decide (szL 1048576 F.ps.length < 0) = false := by simpa using hbig
  have hnF : F.ps.length ≤ 1048576 := by unfold szL at hbig; split at hbig <;> omega
  have hnF2 : F.ps.length ≤ 2097152 := by omega
  clear hbig
  have hAW := hA.below b0
  have hTW := (hT.below b0).mono b0.size
  have hRn : (f2R F s s2 ts x y).length ≤ 1048577 := f2R_len F s s2 ts x y
  have HSP := hide (fun (A : Option Addr) (c : Nat) (T : Option Addr) (ct : Nat) w => specFillTwo_any F hF A c s hn_s s2 hn_s2 T ts ct htn htx x y w)
  have HIM := hide (fun (A : Option Addr) (c : Nat) (T : Option Addr) (ct : Nat) w => implFillTwo_any F hF A c s hn_s s2 hn_s2 T ts ct htn htx x y w)
  generalize f2R F s s2 ts x y = R at HSP HIM hRn
  generalize flC F s.data.toList s2.data.toList ts x y = C at HSP HIM
  go_enter Try.func6, Try.ntmps6
  go_wp2_with (refine wpList_load_mid rfl 31 (.tmp 6) rfl _ 0 rfl (fc F (.slice A F.ps.length c)) _ r0 Try.underlying31 rfl HIL.out ?_)
  generalize (w.alloc (.cells (fc F (.slice A F.ps.length c)).toArray 31)) = W0 at *
  have hws := b0.size
  refine (HSZ.out _ (by omega) (by omega)).mono ?_
  rintro e w1 ⟨rfl, hb1⟩
  have hB1 := hb1
  have z1 := hb1.size
  have rr1 := rangeAt_over r0 hB1 s0
  go_wp2_with (refine wpList_load_mid rfl 31 (.tmp 6) rfl _ 0 rfl (fc F (.slice A F.ps.length c)) _ rr1 Try.underlying31 rfl HIL.out ?_)
  clear rr1
  have hl0 : 0 ≤ szL 1048576 F.ps.length ∧ szL 1048576 F.ps.length ≤ 1048576 ∧ szL 1048576 F.ps.length = 1048576 - F.ps.length := by unfold szL at hd ⊢; split <;> simp_all <;> omega
  obtain ⟨hl0a, hl0b, hl0c⟩ := hl0
  have HL0 := hide hl0c
  clear hl0c
  have HSS := hide (szStringS_any T ts ct (szL 1048576 F.ps.length) _ (by omega) (by omega) htn htx (hTW.go hB1))
  refine HSS.out.mono ?_
  rintro e w2 ⟨rfl, hsame⟩
  clear HSS
  have hb2 : Below w1.heap.size w1 w2 := by rw [← hsame]; exact Below.refl _ _
  clear hsame
  have hB2 := hB1.trans (hb2.mono hB1.size)
  have z2 := hb2.size
  clear hB1
  have hge := szS_ge (xs := ts) (l := (szL 1048576 F.ps.length))
  by_cases hneg : szS (szL 1048576 F.ps.length) ts < 0
  · have hdl : decide (szS (szL 1048576 F.ps.length) ts < 0) = true := by simpa using hneg
    go_wp2
    go_ret
    exact ⟨rfl, b0.trans (hB2.mono b0.size)⟩
  have hdl : decide (szS (szL 1048576 F.ps.length) ts < 0) = false := by simpa using hneg
  have hge2 := hge (by omega) (by omega)
  have hsum : F.ps.length + ts.length ≤ 1048576 := by have := HL0.out; omega
  have hnstrs : ts.length ≤ 1048576 := by omega
  have hxstrs : sumL (ts.map byts) ≤ 1048576 := by omega
  clear hneg hge hge2
  have rr2 := rangeAt_over r0 hB2 s0
  go_wp2_with (refine wpList_load_mid rfl 31 (.tmp 6) rfl _ 0 rfl (fc F (.slice A F.ps.length c)) _ rr2 Try.underlying31 rfl HIL.out ?_)
  clear rr2
  refine (toFace_any F hF A c _ (hAW.go hB2 hws) hnF).mono ?_
  rintro e w3 ⟨Q1, rfl, hQ1, hb3⟩
  have hB3 := hB2.trans (hb3.mono hB2.size)
  have z3 := hb3.size
  clear hB2
  have rr3 := rangeAt_over r0 hB3 s0
  go_wp2_with (refine wpList_load_mid rfl 31 (.tmp 6) rfl _ 0 rfl (fc F (.slice A F.ps.length c)) _ rr3 Try.underlying31 rfl HIL.out ?_)
  clear rr3
  refine (toStringS_any T ts ct _ (hTW.go hB3) hnstrs).mono ?_
  rintro e w4 ⟨Q2, rfl, hQ2, hb4⟩
  have hB4 := hB3.trans (hb4.mono hB3.size)
  have z4 := hb4.size
  have c_aF_4 := hQ1.below hb4 (Nat.le_refl _)
  clear hQ1 hB3
  have rr4 := rangeAt_over r0 hB4 s0
  go_wp2_with (refine wpList_load_mid rfl 31 (.tmp 6) rfl _ 0 rfl (fc F (.slice A F.ps.length c)) _ rr4 Try.underlying31 rfl HIL.out ?_)
  clear rr4
  refine (HSP.out Q1 _ Q2 _ _ c_aF_4.at_ hQ2.at_).mono ?_
  rintro e w5 ⟨Aw, cw, rfl, hPw, hb5⟩
  have hB5 := hB4.trans (hb5.mono hB4.size)
  have z5 := hb5.size
  clear hB4
  clear c_aF_4 hQ2
  have pw_5 := hPw.at_
  clear hPw
  have rr5 := rangeAt_over r0 hB5 s0
  go_wp2_with (refine wpList_load_mid rfl 31 (.tmp 6) rfl _ 0 rfl (fc F (.slice A F.ps.length c)) _ rr5 Try.underlying31 rfl HIL.out ?_)
  clear rr5
  refine (toFace_any F hF A c _ (hAW.go hB5 hws) hnF).mono ?_
  rintro e w6 ⟨Q3, rfl, hQ3, hb6⟩
  have hB6 := hB5.trans (hb6.mono hB5.size)
  have z6 := hb6.size
  have pw_6 := pw_5.below (hb6.mono (by omega))
  clear pw_5 hB5
  have bd_x0 := blkP_bd hQ3
  obtain ⟨w7, hW7, r7, b7, s7, t7, t70⟩ := stored_face w6 F hW.out (.slice Q3 F.ps.length F.ps.length)
  have HW7 := hide hW7
  clear hW7
  have hB7 := hB6.trans (b7.mono hB6.size)
  have z7 := b7.size
  have pw_7 := pw_6.below (b7.mono (by omega))
  have d_x0_7 := hQ3.below b7 (Nat.le_refl _)
  clear pw_6 hQ3 hB6
  have rr7 := rangeAt_over r0 hB7 s0
  go_wp2_with (first | (refine wpList_store_mid rfl 38 (.tmp 16) (.tmp 54) rfl w6.heap.size 0 _ rfl rfl t70 (HII.out _) (fc_one _ _ _ _) ?_; rw [← HW7.out]) | (refine wpList_load_mid rfl 31 (.tmp 6) rfl _ 0 rfl (fc F (.slice A F.ps.length c)) _ rr7 Try.underlying31 rfl HIL.out ?_) | (refine wpList_load_mid rfl 38 (.tmp 16) rfl _ 0 rfl (fc F (.slice Q3 F.ps.length F.ps.length)) _ r7 Try.underlying38 rfl (HII.out _) ?_))
  clear rr7
  refine (toStringS_any T ts ct _ (hTW.go hB7) hnstrs).mono ?_
  rintro e w8 ⟨Q4, rfl, hQ4, hb8⟩
  have hB8 := hB7.trans (hb8.mono hB7.size)
  have z8 := hb8.size
  have pw_8 := pw_7.below (hb8.mono (by omega))
  have d_x0_8 := d_x0_7.below hb8 (Nat.le_refl _)
  have xrow_8 := rangeAt_over r7 hb8 (by omega)
  clear pw_7 d_x0_7 r7 hB7
  have bd_x3 := blkS_bd hQ4
  have rr8 := rangeAt_over r0 hB8 s0
  go_wp2_with (first | (refine wpList_load_mid rfl 31 (.tmp 6) rfl _ 0 rfl (fc F (.slice A F.ps.length c)) _ rr8 Try.underlying31 rfl HIL.out ?_) | (refine wpList_load_mid rfl 38 (.tmp 16) rfl _ 0 rfl (fc F (.slice Q3 F.ps.length F.ps.length)) _ xrow_8 Try.underlying38 rfl (HII.out _) ?_))
  clear rr8
  refine (HIM.out Q3 _ Q4 _ _ ((hG.below b0).below hB8) d_x0_8.at_ hQ4.at_).mono ?_
  rintro e w9 ⟨Ag, cg, rfl, hPg, hb9⟩
  have hB9 := hB8.trans (hb9.mono hB8.size)
  have z9 := hb9.size
  have pw_9 := pw_8.below (hb9.mono (by omega))
  have d_x0_9 := d_x0_8.below hb9 (Nat.le_refl _)
  have xrow_9 := rangeAt_over xrow_8 hb9 (by omega)
  have d_x3_9 := hQ4.go hb9
  clear pw_8 d_x0_8 xrow_8 hQ4 hB8
  have bd_g := blk2_bd hPg
  have rr9 := rangeAt_over r0 hB9 s0
  go_wp2_with (first | (refine wpList_load_mid rfl 31 (.tmp 6) rfl _ 0 rfl (fc F (.slice A F.ps.length c)) _ rr9 Try.underlying31 rfl HIL.out ?_) | (refine wpList_load_mid rfl 38 (.tmp 16) rfl _ 0 rfl (fc F (.slice Q3 F.ps.length F.ps.length)) _ xrow_9 Try.underlying38 rfl (HII.out _) ?_))
  clear rr9
  refine (eqInt64A2S_same Ag Aw R cg cw _ (by unfold maxLen; omega) hPg.at_ (pw_9.mono (by omega))).mono ?_
  rintro e w10 ⟨rfl, hb10⟩
  have hB10 := hB9.trans (hb10.mono hB9.size)
  have z10 := hb10.size
  have pw_10 := pw_9.below (hb10.mono (by omega))
  have d_x0_10 := d_x0_9.below hb10 (Nat.le_refl _)
  have xrow_10 := rangeAt_over xrow_9 hb10 (by omega)
  have d_x3_10 := d_x3_9.go hb10
  have pg_10 := hPg.go hb10
  clear pw_9 d_x0_9 xrow_9 d_x3_9 hPg hB9
  have qa10 := rangeAt_over r0 hB10 s0
  have sq10 : w.heap.size < w10.heap.size := by omega
  have sx10 : w6.heap.size < w10.heap.size := by omega
  have hK10 : ∀ w', Below w10.heap.size w10 w' → _ := fun w' hb => keepS hb xrow_10 sx10 qa10 sq10
  have CA10 := hAW.go hB10 hws
  have HEQ := hide (fun A' w => eqFace_same F hF Q3 A' F.ps.length F.ps.length w)
  go_wp2
  refine wp_region_take2 0 1 [2, 3, 4] 3 (vi := .agg (fc F (.slice Q3 F.ps.length F.ps.length)).toArray) (vj := .agg (fc F (.slice A F.ps.length c)).toArray)
    (fun w' => Below w10.heap.size w10 w' ∧ w'.rangeAt w6.heap.size 0 (fc F (.slice Q3 F.ps.length F.ps.length)) ∧ w'.rangeAt w.heap.size 0 (fc F (.slice A F.ps.length c)))
    (by kernel_rfl) rfl (by decide) rfl rfl (by kernel_rfl) (by kernel_rfl) (by kernel_rfl) (by kernel_rfl) (by kernel_rfl) (by kernel_rfl) (fun _ _ _ h => h) (fun _ _ _ h => h)
    (yieldsIf_load_mid (by rfl) _ (.tmp 16) rfl _ 0 rfl _ _ (fun w h => h.2.1) Try.underlying38 rfl (HII.out _)) (yieldsIf_load_mid (by rfl) _ (.tmp 6) rfl _ 0 rfl _ _ (fun w h => h.2.2) Try.underlying31 rfl HIL.out) (hK10 _ (Below.refl _ _).drew) ?_
  simp only [Act.put, List.setIfInBounds_toArray, List.set_cons_zero, List.set_cons_succ]
  refine wpForced_cons rfl ?_
  go_wp2_with fail
  refine (toFace_any F hF A c _ (CA10.go ((Below.refl _ _).drew) (Nat.le_refl _)) hnF).mono ?_
  rintro e wa10 ⟨A3, rfl, hP3, hba10⟩
  have hX10 : Below w10.heap.size w10 wa10 := (Below.refl _ _).drew.trans hba10
  go_wp2_with fail
  refine ⟨hK10 _ hX10, wpForced_cons rfl ?_⟩
  go_wp2_with fail
  refine (HEQ.out _ _ ((d_x0_10.below hX10 (Nat.le_refl _)).at_) hP3.at_).mono ?_
  rintro e w11 ⟨rfl, hbb10⟩
  have hY10 := hX10.trans (hbb10.mono hX10.size)
  go_wp2_with fail
  refine ⟨hK10 _ hY10, wpForced_cons rfl ?_⟩
  go_wp2_with fail
  refine ⟨hK10 _ hY10, wpForced_nil ?_⟩
  clear hK10 CA10 HEQ hP3 hba10 hX10 hbb10 qa10
  have hB11 := hB10.trans (hY10.mono hB10.size)
  have z11 := hY10.size
  have pw_11 := pw_10.below (hY10.mono (by omega))
  have d_x0_11 := d_x0_10.below hY10 (Nat.le_refl _)
  have xrow_11 := rangeAt_over xrow_10 hY10 (by omega)
  have d_x3_11 := d_x3_10.go hY10
  have pg_11 := pg_10.go hY10
  clear pw_10 d_x0_10 xrow_10 d_x3_10 pg_10 hB10
  have rr11 := rangeAt_over r0 hB11 s0
  go_wp2_with (first | (refine wpList_load_mid rfl 31 (.tmp 6) rfl _ 0 rfl (fc F (.slice A F.ps.length c)) _ rr11 Try.underlying31 rfl HIL.out ?_) | (refine wpList_load_mid rfl 38 (.tmp 16) rfl _ 0 rfl (fc F (.slice Q3 F.ps.length F.ps.length)) _ xrow_11 Try.underlying38 rfl (HII.out _) ?_))
  clear rr11
  refine (toStringS_any T ts ct _ (hTW.go hB11) hnstrs).mono ?_
  rintro e w12 ⟨Q5, rfl, hQ5, hb12⟩
  have hB12 := hB11.trans (hb12.mono hB11.size)
  have z12 := hb12.size
  have pw_12 := pw_11.below (hb12.mono (by omega))
  have d_x0_12 := d_x0_11.below hb12 (Nat.le_refl _)
  have xrow_12 := rangeAt_over xrow_11 hb12 (by omega)
  have d_x3_12 := d_x3_11.go hb12
  have pg_12 := pg_11.go hb12
  clear pw_11 d_x0_11 xrow_11 d_x3_11 pg_11 hB11
  have rr12 := rangeAt_over r0 hB12 s0
  go_wp2_with (first | (refine wpList_load_mid rfl 31 (.tmp 6) rfl _ 0 rfl (fc F (.slice A F.ps.length c)) _ rr12 Try.underlying31 rfl HIL.out ?_) | (refine wpList_load_mid rfl 38 (.tmp 16) rfl _ 0 rfl (fc F (.slice Q3 F.ps.length F.ps.length)) _ xrow_12 Try.underlying38 rfl (HII.out _) ?_))
  clear rr12
  refine (eqStringS_same Q4 Q5 ts _ _ _ htn d_x3_12.at_ hQ5.at_).mono ?_
  rintro e w13 ⟨rfl, hb13⟩
  have hB13 := hB12.trans (hb13.mono hB12.size)
  have z13 := hb13.size
  have pw_13 := pw_12.below (hb13.mono (by omega))
  have d_x0_13 := d_x0_12.below hb13 (Nat.le_refl _)
  have xrow_13 := rangeAt_over xrow_12 hb13 (by omega)
  have d_x3_13 := d_x3_12.go hb13
  have pg_13 := pg_12.go hb13
  clear pw_12 d_x0_12 xrow_12 d_x3_12 pg_12 hB12
  clear hQ5
  have rr13 := rangeAt_over r0 hB13 s0
  go_wp2_with (first | (refine wpList_load_mid rfl 31 (.tmp 6) rfl _ 0 rfl (fc F (.slice A F.ps.length c)) _ rr13 Try.underlying31 rfl HIL.out ?_) | (refine wpList_load_mid rfl 38 (.tmp 16) rfl _ 0 rfl (fc F (.slice Q3 F.ps.length F.ps.length)) _ xrow_13 Try.underlying38 rfl (HII.out _) ?_))
  clear rr13
  refine (markFace_any F hF Q3 _ w5.heap.size _ hnF2 d_x0_13).mono ?_
  rintro e w14 ⟨rfl, hg14, _⟩
  have hB14 := hB13.trans (grown_toBelow hg14 (by omega) (fun k hk => by have := bd_x0 k hk; omega))
  have z14 := hg14.size
  have pw_14 := grown_p2At hg14 pw_13 (by omega) (fun k hk => by have := bd_x0 k hk; omega)
  have d_x3_14 := grown_strsIn hg14 d_x3_13 (fun b hb e => by have h1 := bd_x3 b hb; have h2 := bd_x0 _ e.symm; omega)
  have pg_14 := grown_p2In hg14 pg_13 (fun b hb e => by have h1 := bd_g b hb; have h2 := bd_x0 _ e.symm; omega)
  clear pw_13 d_x3_13 pg_13 hB13
  have hdk14 : decide ((1 : Int) + 3 * (F.ps.length : Int) < 0) = false := by simp; omega
  clear d_x0_13
  have rr14 := rangeAt_over r0 hB14 s0
  go_wp2_with (refine wpList_load_mid rfl 31 (.tmp 6) rfl _ 0 rfl (fc F (.slice A F.ps.length c)) _ rr14 Try.underlying31 rfl HIL.out ?_)
  clear rr14
  have hkc : (1 : Int) + 3 * (F.ps.length : Int) = ((1 + 3 * F.ps.length : Nat) : Int) := by omega
  rw [hkc]
  clear hkc
  have hmk14 := markStringS_gen Q4 ts ts.length (1 + 3 * F.ps.length) w7.heap.size _ (by omega) d_x3_14
  refine hmk14.mono ?_
  rintro e w15 ⟨rfl, hg15, _⟩
  clear hmk14
  have hB15 := hB14.trans (grown_toBelow hg15 (by omega) (fun k hk => by have := bd_x3 k hk; omega))
  have z15 := hg15.size
  have pw_15 := grown_p2At hg15 pw_14 (by omega) (fun k hk => by have := bd_x3 k hk; omega)
  have pg_15 := grown_p2In hg15 pg_14 (fun b hb e => by have h1 := bd_g b hb; have h2 := bd_x3 _ e.symm; omega)
  clear pw_14 pg_14 hB14
  have hdk15 : decide (((1 + 3 * F.ps.length + ts.length : Nat) : Int) < 0) = false := by simp; omega
  clear d_x3_14
  have rr15 := rangeAt_over r0 hB15 s0
  go_wp2_with (refine wpList_load_mid rfl 31 (.tmp 6) rfl _ 0 rfl (fc F (.slice A F.ps.length c)) _ rr15 Try.underlying31 rfl HIL.out ?_)
  clear rr15
  refine (eqInt64A2S_same Ag Aw R cg cw _ (by unfold maxLen; omega) pg_15.at_ (pw_15.mono (by omega))).mono ?_
  rintro e w16 ⟨rfl, hb16⟩
  have hB16 := hB15.trans (hb16.mono hB15.size)
  have z16 := hb16.size
  have pw_16 := pw_15.below (hb16.mono (by omega))
  have pg_16 := pg_15.go hb16
  clear pw_15 pg_15 hB15
  have rr16 := rangeAt_over r0 hB16 s0
  go_wp2_with (refine wpList_load_mid rfl 31 (.tmp 6) rfl _ 0 rfl (fc F (.slice A F.ps.length c)) _ rr16 Try.underlying31 rfl HIL.out ?_)
  clear rr16
  refine (mark21_any Ag R _ _ _ (by omega) pg_16).mono ?_
  rintro e w17 ⟨rfl, hg17, hM⟩
  have hB17 := hB16.trans (grown_toBelow hg17 (by omega) (fun k hk => by have := bd_g k hk; omega))
  have z17 := hg17.size
  have pw_17 := grown_p2At hg17 pw_16 (by omega) (fun k hk => by have := bd_g k hk; omega)
  clear pw_16 hB16
  clear pg_16
  have hdq : decide (((1 + 2 * R.length : Nat) : Int) < 0) = false := by simp; omega
  have HH := hide (fun (W : World) (L : Nat) (h : P2In W L Ag (marks2 1 R.length)) => held21_any Ag R.length cg L W (by omega) h)
  generalize ((1 + 2 * R.length : Nat) : Int) = Qn at hdq HH ⊢
  have rr17 := rangeAt_over r0 hB17 s0
  go_wp2_with (refine wpList_load_mid rfl 31 (.tmp 6) rfl _ 0 rfl (fc F (.slice A F.ps.length c)) _ rr17 Try.underlying31 rfl HIL.out ?_)
  clear rr17
  refine (HH.out _ _ hM).mono ?_
  rintro e w18 ⟨rfl, hb18⟩
  have hB18 := hB17.trans (hb18.mono hB17.size)
  have z18 := hb18.size
  have pw_18 := pw_17.below (hb18.mono (by omega))
  have pm_18 := hM.go hb18
  clear pw_17 hM hB17
  have rr18 := rangeAt_over r0 hB18 s0
  go_wp2_with (refine wpList_load_mid rfl 31 (.tmp 6) rfl _ 0 rfl (fc F (.slice A F.ps.length c)) _ rr18 Try.underlying31 rfl HIL.out ?_)
  clear rr18
  refine (toFace_any F hF A c _ (hAW.go hB18 hws) hnF).mono ?_
  rintro e w19 ⟨Q6, rfl, hQ6, hb19⟩
  have hB19 := hB18.trans (hb19.mono hB18.size)
  have z19 := hb19.size
  have pw_19 := pw_18.below (hb19.mono (by omega))
  have pm_19 := pm_18.go hb19
  clear pw_18 pm_18 hB18
  have rr19 := rangeAt_over r0 hB19 s0
  go_wp2_with (refine wpList_load_mid rfl 31 (.tmp 6) rfl _ 0 rfl (fc F (.slice A F.ps.length c)) _ rr19 Try.underlying31 rfl HIL.out ?_)
  clear rr19
  refine (toStringS_any T ts ct _ (hTW.go hB19) hnstrs).mono ?_
  rintro e w20 ⟨Q7, rfl, hQ7, hb20⟩
  have hB20 := hB19.trans (hb20.mono hB19.size)
  have z20 := hb20.size
  have pw_20 := pw_19.below (hb20.mono (by omega))
  have pm_20 := pm_19.go hb20
  have c_aF_20 := hQ6.below hb20 (Nat.le_refl _)
  clear pw_19 pm_19 hQ6 hB19
  have rr20 := rangeAt_over r0 hB20 s0
  go_wp2_with (refine wpList_load_mid rfl 31 (.tmp 6) rfl _ 0 rfl (fc F (.slice A F.ps.length c)) _ rr20 Try.underlying31 rfl HIL.out ?_)
  clear rr20
  refine (HIM.out Q6 _ Q7 _ _ ((hG.below b0).below hB20) c_aF_20.at_ hQ7.at_).mono ?_
  rintro e w21 ⟨Ah, ch, rfl, hPh, hb21⟩
  have hB21 := hB20.trans (hb21.mono hB20.size)
  have z21 := hb21.size
  have pw_21 := pw_20.below (hb21.mono (by omega))
  have pm_21 := pm_20.go hb21
  clear pw_20 pm_20 hB20
  clear c_aF_20 hQ7
  have bd_h := blk2_bd hPh
  have rr21 := rangeAt_over r0 hB21 s0
  go_wp2_with (refine wpList_load_mid rfl 31 (.tmp 6) rfl _ 0 rfl (fc F (.slice A F.ps.length c)) _ rr21 Try.underlying31 rfl HIL.out ?_)
  clear rr21
  refine (eqInt64A2S_same Ah Aw R ch cw _ (by unfold maxLen; omega) hPh.at_ (pw_21.mono (by omega))).mono ?_
  rintro e w22 ⟨rfl, hb22⟩
  have hB22 := hB21.trans (hb22.mono hB21.size)
  have z22 := hb22.size
  have pw_22 := pw_21.below (hb22.mono (by omega))
  have pm_22 := pm_21.go hb22
  have ph_22 := hPh.go hb22
  clear pw_21 pm_21 hPh hB21
  clear ph_22
  have rr22 := rangeAt_over r0 hB22 s0
  go_wp2_with (refine wpList_load_mid rfl 31 (.tmp 6) rfl _ 0 rfl (fc F (.slice A F.ps.length c)) _ rr22 Try.underlying31 rfl HIL.out ?_)
  clear rr22
  refine (HH.out _ _ pm_22).mono ?_
  rintro e w23 ⟨rfl, hb23⟩
  have hB23 := hB22.trans (hb23.mono hB22.size)
  have z23 := hb23.size
  have pw_23 := pw_22.below (hb23.mono (by omega))
  have pm_23 := pm_22.go hb23
  clear pw_22 pm_22 hB22
  go_wp2
  go_ret
  exact ⟨rfl, b0.trans (hB23.mono b0.size)⟩
end Go.Proofs.Ytajlbfbpkafjfaa
