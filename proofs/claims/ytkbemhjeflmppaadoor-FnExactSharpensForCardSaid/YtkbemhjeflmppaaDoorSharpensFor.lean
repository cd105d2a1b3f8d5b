/- SharpensFor: the model and the program give the same answer for every argument, and what comes back owns its memory. -/
import Derived.Test.YtkbemhjeflmppaaDoorChR
import Derived.Test.YtkbemhjeflmppaaDoorG5
import Derived.Test.YtkbemhjeflmppaaDoorMarkG
import Derived.Test.YtkbemhjeflmppaaDoorScript
import Derived.Test.YtkbemhjeflmppaaDoorG2
namespace Go.Proofs.YtkbemhjeflmppaaDoor
open Go.RowKit

set_option maxRecDepth 100000 in
set_option maxHeartbeats 16000000 in
theorem lawSharpensFor_any (S : List Int) (hS : S.length = 26) (hSx : ∀ x ∈ S, i8ok x) (ch : Int) (hch : -32768 ≤ ch ∧ ch ≤ 32767) (cp : Int) (hcp : i8ok cp) (s : ByteArray) (hs : s.size ≤ maxLen) (w : World) (hG : Glob w)  :
    Calls Tryd.prog 4 #[.agg (wc S).toArray, .agg #[.int .i16 ch, .int .i8 cp], .string s] w fun e w' => e = .returned (.bool true) ∧ Below w.heap.size w w' := by
  have b0 : Below w.heap.size w ((w.alloc (.cells (wc S).toArray 23)).alloc (.cells #[.int .i16 ch, .int .i8 cp] 31)) := (((Below.refl _ _).alloc (by simp) _).alloc (by simp) _)
  have s0 : w.heap.size + 2 ≤ ((w.alloc (.cells (wc S).toArray 23)).alloc (.cells #[.int .i16 ch, .int .i8 cp] 31)).heap.size := by simp
  have rS : ((w.alloc (.cells (wc S).toArray 23)).alloc (.cells #[.int .i16 ch, .int .i8 cp] 31)).rangeAt (w.heap.size) 0 (wc S) := (World.rangeAt_alloc (rangeAt_newg (w := w) (cs := (wc S).toArray) (t := 23) (g := w.heap.size) (by simp) rfl) _)
  have rC : ((w.alloc (.cells (wc S).toArray 23)).alloc (.cells #[.int .i16 ch, .int .i8 cp] 31)).rangeAt (w.heap.size + 1) 0 [.int .i16 ch, .int .i8 cp] := (rangeAt_newg (w := (w.alloc (.cells (wc S).toArray 23))) (cs := #[.int .i16 ch, .int .i8 cp]) (t := 31) (g := w.heap.size + 1) (by simp) rfl)
  have HIC := hide (show (Tryd.prog.info? 31).map (·.size) = some ([.int .i16 ch, .int .i8 cp] : List Value).length from by kernel_rfl)
  have HIS := hide (show (Tryd.prog.info? 23).map (·.size) = some (wc S).length from by rw [wc_length, hS]; kernel_rfl)
  have hm_s := hs
  unfold maxLen at hm_s
  by_cases ht_s : 1048576 < s.size
  · have hd : decide ((1048576 : Int) < s.size) = true := by simp; omega
    have hd' : decide (1048576 < s.size) = true := by simp; omega
    go_enter Tryd.func4, Tryd.ntmps4
    go_wp2
    go_ret
    exact ⟨rfl, b0⟩
  have hd0_s : decide ((1048576 : Int) < s.size) = false := by simp; omega
  have hd1_s : decide (1048576 < s.size) = false := by simp; omega
  have hn_s : s.size ≤ 1048576 := by omega
  clear ht_s hm_s
  have hRn : (sfR S ch cp s.data.toList).length ≤ 1048577 := sfR_len S ch cp s.data.toList
  have HSP := hide (fun  w => specSharpensFor_any S hS hSx ch hch cp hcp s hs w)
  have HIM := hide (fun  w => implSharpensFor_any S hS hSx ch hch cp hcp s hs w)
  generalize sfR S ch cp s.data.toList = R at HSP HIM hRn
  generalize tfC S ch cp s.data.toList = C at HSP HIM
  go_enter Tryd.func4, Tryd.ntmps4
  go_wp2
  generalize ((w.alloc (.cells (wc S).toArray 23)).alloc (.cells #[.int .i16 ch, .int .i8 cp] 31)) = W0 at *
  have hws := b0.size
  have HK0 := hide (fun w' (hb : Below W0.heap.size W0 w') => (⟨rangeAt_below rS hb (by omega), rangeAt_below rC hb (by omega)⟩ : w'.rangeAt (w.heap.size) 0 (wc S) ∧ w'.rangeAt (w.heap.size + 1) 0 [.int .i16 ch, .int .i8 cp]))
  refine wp_region_script [(0, true), (2, true), (4, true), (1, false), (3, false), (5, false), (6, false), (7, true), (8, true), (9, false), (10, false)]
    (fun w' => Below W0.heap.size W0 w') (by kernel_rfl) (by kernel_rfl) (of_decide_eq_true (by kernel_rfl)) (by kernel_rfl) (fun _ _ d _ _ h => by cases d <;> exact h) ((Below.refl _ _).drew) ?_
  refine sc_take (.agg (wc S).toArray) rfl (yieldsIf_load_mid (by rfl) _ (.tmp 3) rfl _ 0 rfl _ _ (fun w h => (HK0.out w h).1) Tryd.underlying23 rfl HIS.out) ?_
  refine sc_take (.agg #[.int .i16 ch, .int .i8 cp]) rfl (yieldsIf_load_mid (by rfl) _ (.tmp 4) rfl _ 0 rfl _ _ (fun w h => (HK0.out w h).2) Tryd.underlying31 rfl HIC.out) ?_
  refine sc_take _ rfl (.inl ⟨rfl, fun w _ => rfl⟩) ?_
  simp only [Act.put, List.setIfInBounds_toArray, List.set_cons_zero, List.set_cons_succ]
  refine sc_step rfl ?_
  go_wp2_with fail
  refine (toStrokes_any S hS _).mono ?_
  rintro e w1 ⟨rfl, hb1⟩
  replace hb1 := (Below.refl _ _).drew.trans hb1
  change Below W0.heap.size W0 w1 at hb1
  have hB1 := hb1
  have z1 := hb1.size
  have qq1 : Below W0.heap.size W0 w1 := hb1
  go_wp2_with fail
  refine ⟨qq1, sc_step rfl ?_⟩
  go_wp2_with fail
  refine (toChisel_any ch cp _).mono ?_
  rintro e w2 ⟨rfl, hb2⟩
  have hB2 := hB1.trans (hb2.mono hB1.size)
  have z2 := hb2.size
  clear hB1
  have qq2 := qq1.trans (hb2.mono qq1.size)
  clear qq1
  go_wp2_with fail
  refine ⟨qq2, sc_step rfl ?_⟩
  go_wp2_with fail
  refine (HSP.out  _ ).mono ?_
  rintro e w3 ⟨Aw, cw, rfl, hPw, hb3⟩
  have hB3 := hB2.trans (hb3.mono hB2.size)
  have z3 := hb3.size
  clear hB2
  have qq3 := qq2.trans (hb3.mono qq2.size)
  clear qq2
  go_wp2_with fail
  refine ⟨qq3, sc_step rfl ?_⟩
  go_wp2_with fail
  refine ⟨qq3, sc_take _ rfl (.inl ⟨rfl, fun w _ => rfl⟩) (sc_take _ rfl (.inl ⟨rfl, fun w _ => rfl⟩) ?_)⟩
  simp only [Act.put, List.setIfInBounds_toArray, List.set_cons_zero, List.set_cons_succ]
  refine sc_step rfl ?_
  go_wp2_with fail
  refine ⟨qq3, sc_step rfl ?_⟩
  go_wp2_with fail
  refine ⟨qq3, sc_nil ?_⟩
  clear qq3 HK0
  have pw_3 := hPw.at_
  clear hPw
  go_wp2
  have rS3 := rangeAt_over rS hB3 (by omega)
  have rC3 := rangeAt_over rC hB3 (by omega)
  have HK3 := hide (fun w' (hb : Below w3.heap.size w3 w') => (⟨rangeAt_below rS3 hb (by omega), rangeAt_below rC3 hb (by omega)⟩ : w'.rangeAt (w.heap.size) 0 (wc S) ∧ w'.rangeAt (w.heap.size + 1) 0 [.int .i16 ch, .int .i8 cp]))
  refine wp_region_script [(0, true), (2, true), (4, true), (1, false), (3, false), (5, false), (6, false), (7, true), (8, true), (9, false), (10, false)]
    (fun w' => Below w3.heap.size w3 w') (by kernel_rfl) (by kernel_rfl) (of_decide_eq_true (by kernel_rfl)) (by kernel_rfl) (fun _ _ d _ _ h => by cases d <;> exact h) ((Below.refl _ _).drew) ?_
  refine sc_take (.agg (wc S).toArray) rfl (yieldsIf_load_mid (by rfl) _ (.tmp 3) rfl _ 0 rfl _ _ (fun w h => (HK3.out w h).1) Tryd.underlying23 rfl HIS.out) ?_
  refine sc_take (.agg #[.int .i16 ch, .int .i8 cp]) rfl (yieldsIf_load_mid (by rfl) _ (.tmp 4) rfl _ 0 rfl _ _ (fun w h => (HK3.out w h).2) Tryd.underlying31 rfl HIC.out) ?_
  refine sc_take _ rfl (.inl ⟨rfl, fun w _ => rfl⟩) ?_
  simp only [Act.put, List.setIfInBounds_toArray, List.set_cons_zero, List.set_cons_succ]
  refine sc_step rfl ?_
  go_wp2_with fail
  refine (toStrokes_any S hS _).mono ?_
  rintro e w4 ⟨rfl, hb4⟩
  replace hb4 := (Below.refl _ _).drew.trans hb4
  change Below w3.heap.size w3 w4 at hb4
  have hB4 := hB3.trans (hb4.mono hB3.size)
  have z4 := hb4.size
  have pw_4 := pw_3.below (hb4.mono (by omega))
  clear pw_3 hB3
  have qq4 : Below w3.heap.size w3 w4 := hb4
  go_wp2_with fail
  refine ⟨qq4, sc_step rfl ?_⟩
  go_wp2_with fail
  refine (toChisel_any ch cp _).mono ?_
  rintro e w5 ⟨rfl, hb5⟩
  have hB5 := hB4.trans (hb5.mono hB4.size)
  have z5 := hb5.size
  have pw_5 := pw_4.below (hb5.mono (by omega))
  clear pw_4 hB4
  have qq5 := qq4.trans (hb5.mono qq4.size)
  clear qq4
  go_wp2_with fail
  refine ⟨qq5, sc_step rfl ?_⟩
  go_wp2_with fail
  refine (HIM.out  _ ((hG.below b0).below hB5)).mono ?_
  rintro e w6 ⟨Ag, cg, rfl, hPg, hb6⟩
  have hB6 := hB5.trans (hb6.mono hB5.size)
  have z6 := hb6.size
  have pw_6 := pw_5.below (hb6.mono (by omega))
  clear pw_5 hB5
  have qq6 := qq5.trans (hb6.mono qq5.size)
  clear qq5
  go_wp2_with fail
  refine ⟨qq6, sc_step rfl ?_⟩
  go_wp2_with fail
  refine ⟨qq6, sc_take _ rfl (.inl ⟨rfl, fun w _ => rfl⟩) (sc_take _ rfl (.inl ⟨rfl, fun w _ => rfl⟩) ?_)⟩
  simp only [Act.put, List.setIfInBounds_toArray, List.set_cons_zero, List.set_cons_succ]
  refine sc_step rfl ?_
  go_wp2_with fail
  refine ⟨qq6, sc_step rfl ?_⟩
  go_wp2_with fail
  refine ⟨qq6, sc_nil ?_⟩
  clear qq6 HK3 rS3 rC3
  have bd_g := blkI_bd hPg
  have rS6 := rangeAt_over rS hB6 (by omega)
  have rC6 := rangeAt_over rC hB6 (by omega)
  have cA6 := rangeAt_cell (k := 0) rC6 rfl
  have cB6 := rangeAt_cell (k := 1) rC6 rfl
  go_wp2_with (refine wpList_load_mid rfl 23 (.tmp 3) rfl _ 0 rfl (wc S) _ rS6 Tryd.underlying23 rfl HIS.out ?_)
  clear rS6
  clear rC6 cA6 cB6
  refine (eqInt64S_same Ag Aw R cg cw _ (by unfold maxLen; omega) hPg.at_ (pw_6.mono (by omega))).mono ?_
  rintro e w7 ⟨rfl, hb7⟩
  have hB7 := hB6.trans (hb7.mono hB6.size)
  have z7 := hb7.size
  have pw_7 := pw_6.below (hb7.mono (by omega))
  have pg_7 := hPg.go hb7
  clear pw_6 hPg hB6
  have rS7 := rangeAt_over rS hB7 (by omega)
  have rC7 := rangeAt_over rC hB7 (by omega)
  have cA7 := rangeAt_cell (k := 0) rC7 rfl
  have cB7 := rangeAt_cell (k := 1) rC7 rfl
  go_wp2_with (refine wpList_load_mid rfl 23 (.tmp 3) rfl _ 0 rfl (wc S) _ rS7 Tryd.underlying23 rfl HIS.out ?_)
  clear rS7
  clear rC7 cA7 cB7
  refine (markI1_any Ag R _ _ _ (by omega) pg_7).mono ?_
  rintro e w8 ⟨rfl, hg8, hM⟩
  have hB8 := hB7.trans (grown_toBelow hg8 (by omega) (fun k hk => by have := bd_g k hk; omega))
  have z8 := hg8.size
  have pw_8 := grown_intsAt hg8 pw_7 (by omega) (fun k hk => by have := bd_g k hk; omega)
  clear pw_7 hB7
  clear pg_7
  have hdq : decide (((1 + R.length : Nat) : Int) < 0) = false := by simp; omega
  have HH := hide (fun (W : World) (L : Nat) (h : IntsIn W L Ag (marksI 1 R.length)) => heldI1_any Ag R.length cg L W (by omega) h)
  generalize ((1 + R.length : Nat) : Int) = Qn at hdq HH ⊢
  have rS8 := rangeAt_over rS hB8 (by omega)
  have rC8 := rangeAt_over rC hB8 (by omega)
  have cA8 := rangeAt_cell (k := 0) rC8 rfl
  have cB8 := rangeAt_cell (k := 1) rC8 rfl
  go_wp2_with (refine wpList_load_mid rfl 23 (.tmp 3) rfl _ 0 rfl (wc S) _ rS8 Tryd.underlying23 rfl HIS.out ?_)
  clear rS8
  clear rC8 cA8 cB8
  refine (HH.out _ _ hM).mono ?_
  rintro e w9 ⟨rfl, hb9⟩
  have hB9 := hB8.trans (hb9.mono hB8.size)
  have z9 := hb9.size
  have pw_9 := pw_8.below (hb9.mono (by omega))
  have pm_9 := hM.go hb9
  clear pw_8 hM hB8
  go_wp2
  have rS9 := rangeAt_over rS hB9 (by omega)
  have rC9 := rangeAt_over rC hB9 (by omega)
  have HK9 := hide (fun w' (hb : Below w9.heap.size w9 w') => (⟨rangeAt_below rS9 hb (by omega), rangeAt_below rC9 hb (by omega)⟩ : w'.rangeAt (w.heap.size) 0 (wc S) ∧ w'.rangeAt (w.heap.size + 1) 0 [.int .i16 ch, .int .i8 cp]))
  refine wp_region_script [(0, true), (2, true), (4, true), (1, false), (3, false), (5, false), (6, false), (7, true), (8, true), (9, false), (10, false)]
    (fun w' => Below w9.heap.size w9 w') (by kernel_rfl) (by kernel_rfl) (of_decide_eq_true (by kernel_rfl)) (by kernel_rfl) (fun _ _ d _ _ h => by cases d <;> exact h) ((Below.refl _ _).drew) ?_
  refine sc_take (.agg (wc S).toArray) rfl (yieldsIf_load_mid (by rfl) _ (.tmp 3) rfl _ 0 rfl _ _ (fun w h => (HK9.out w h).1) Tryd.underlying23 rfl HIS.out) ?_
  refine sc_take (.agg #[.int .i16 ch, .int .i8 cp]) rfl (yieldsIf_load_mid (by rfl) _ (.tmp 4) rfl _ 0 rfl _ _ (fun w h => (HK9.out w h).2) Tryd.underlying31 rfl HIC.out) ?_
  refine sc_take _ rfl (.inl ⟨rfl, fun w _ => rfl⟩) ?_
  simp only [Act.put, List.setIfInBounds_toArray, List.set_cons_zero, List.set_cons_succ]
  refine sc_step rfl ?_
  go_wp2_with fail
  refine (toStrokes_any S hS _).mono ?_
  rintro e w10 ⟨rfl, hb10⟩
  replace hb10 := (Below.refl _ _).drew.trans hb10
  change Below w9.heap.size w9 w10 at hb10
  have hB10 := hB9.trans (hb10.mono hB9.size)
  have z10 := hb10.size
  have pw_10 := pw_9.below (hb10.mono (by omega))
  have pm_10 := pm_9.go hb10
  clear pw_9 pm_9 hB9
  have qq7 : Below w9.heap.size w9 w10 := hb10
  go_wp2_with fail
  refine ⟨qq7, sc_step rfl ?_⟩
  go_wp2_with fail
  refine (toChisel_any ch cp _).mono ?_
  rintro e w11 ⟨rfl, hb11⟩
  have hB11 := hB10.trans (hb11.mono hB10.size)
  have z11 := hb11.size
  have pw_11 := pw_10.below (hb11.mono (by omega))
  have pm_11 := pm_10.go hb11
  clear pw_10 pm_10 hB10
  have qq8 := qq7.trans (hb11.mono qq7.size)
  clear qq7
  go_wp2_with fail
  refine ⟨qq8, sc_step rfl ?_⟩
  go_wp2_with fail
  refine (HIM.out  _ ((hG.below b0).below hB11)).mono ?_
  rintro e w12 ⟨Ah, ch, rfl, hPh, hb12⟩
  have hB12 := hB11.trans (hb12.mono hB11.size)
  have z12 := hb12.size
  have pw_12 := pw_11.below (hb12.mono (by omega))
  have pm_12 := pm_11.go hb12
  clear pw_11 pm_11 hB11
  have qq9 := qq8.trans (hb12.mono qq8.size)
  clear qq8
  go_wp2_with fail
  refine ⟨qq9, sc_step rfl ?_⟩
  go_wp2_with fail
  refine ⟨qq9, sc_take _ rfl (.inl ⟨rfl, fun w _ => rfl⟩) (sc_take _ rfl (.inl ⟨rfl, fun w _ => rfl⟩) ?_)⟩
  simp only [Act.put, List.setIfInBounds_toArray, List.set_cons_zero, List.set_cons_succ]
  refine sc_step rfl ?_
  go_wp2_with fail
  refine ⟨qq9, sc_step rfl ?_⟩
  go_wp2_with fail
  refine ⟨qq9, sc_nil ?_⟩
  clear qq9 HK9 rS9 rC9
  have bd_h := blkI_bd hPh
  have rS12 := rangeAt_over rS hB12 (by omega)
  have rC12 := rangeAt_over rC hB12 (by omega)
  have cA12 := rangeAt_cell (k := 0) rC12 rfl
  have cB12 := rangeAt_cell (k := 1) rC12 rfl
  go_wp2_with (refine wpList_load_mid rfl 23 (.tmp 3) rfl _ 0 rfl (wc S) _ rS12 Tryd.underlying23 rfl HIS.out ?_)
  clear rS12
  clear rC12 cA12 cB12
  refine (eqInt64S_same Ah Aw R ch cw _ (by unfold maxLen; omega) hPh.at_ (pw_12.mono (by omega))).mono ?_
  rintro e w13 ⟨rfl, hb13⟩
  have hB13 := hB12.trans (hb13.mono hB12.size)
  have z13 := hb13.size
  have pw_13 := pw_12.below (hb13.mono (by omega))
  have pm_13 := pm_12.go hb13
  have ph_13 := hPh.go hb13
  clear pw_12 pm_12 hPh hB12
  clear ph_13
  have rS13 := rangeAt_over rS hB13 (by omega)
  have rC13 := rangeAt_over rC hB13 (by omega)
  have cA13 := rangeAt_cell (k := 0) rC13 rfl
  have cB13 := rangeAt_cell (k := 1) rC13 rfl
  go_wp2_with (refine wpList_load_mid rfl 23 (.tmp 3) rfl _ 0 rfl (wc S) _ rS13 Tryd.underlying23 rfl HIS.out ?_)
  clear rS13
  clear rC13 cA13 cB13
  refine (HH.out _ _ pm_13).mono ?_
  rintro e w14 ⟨rfl, hb14⟩
  have hB14 := hB13.trans (hb14.mono hB13.size)
  have z14 := hb14.size
  have pw_14 := pw_13.below (hb14.mono (by omega))
  have pm_14 := pm_13.go hb14
  clear pw_13 pm_13 hB13
  go_wp2
  go_ret
  exact ⟨rfl, b0.trans (hB14.mono b0.size)⟩
end Go.Proofs.YtkbemhjeflmppaaDoor
