/- LateLines: the model and the program give the same answer for every argument, and what comes back owns its memory. -/
import Derived.Test.YtkbemhjeflmppaaChG
import Derived.Test.YtkbemhjeflmppaaG5
import Derived.Test.YtkbemhjeflmppaaMarkG
import Derived.Test.YtkbemhjeflmppaaG2
namespace Go.Proofs.Ytkbemhjeflmppaa
open Go.RowKit

set_option maxRecDepth 100000 in
set_option maxHeartbeats 16000000 in
theorem lawLateLines_any (B : Option Addr) (bs : List Int) (cb : Nat) (hbn : bs.length ≤ maxLen) (E : Option Addr) (es : List Int) (ce : Nat) (hen : es.length ≤ maxLen) (w : World) (hB : IntsAt w w.heap.size B bs) (hE : IntsAt w w.heap.size E es) :
    Calls Try.prog 6 #[.slice B bs.length cb, .slice E es.length ce] w fun e w' => e = .returned (.bool true) ∧ Below w.heap.size w w' := by
  have hmints := hbn
  unfold maxLen at hmints
  by_cases htints : 1048576 < bs.length
  · have hd : decide ((1048576 : Int) < bs.length) = true := by simp; omega
    have hd' : decide (1048576 < bs.length) = true := by simp; omega
    go_enter Try.func6, Try.ntmps6
    go_wp2
    go_ret
    exact ⟨rfl, Below.refl _ _⟩
  have hd0ints : decide ((1048576 : Int) < bs.length) = false := by simp; omega
  have hd1ints : decide (1048576 < bs.length) = false := by simp; omega
  have hnints : bs.length ≤ 1048576 := by omega
  clear htints hmints
  have hmints2 := hen
  unfold maxLen at hmints2
  by_cases htints2 : 1048576 < es.length
  · have hd : decide ((1048576 : Int) < es.length) = true := by simp; omega
    have hd' : decide (1048576 < es.length) = true := by simp; omega
    go_enter Try.func6, Try.ntmps6
    go_wp2
    go_ret
    exact ⟨rfl, Below.refl _ _⟩
  have hd0ints2 : decide ((1048576 : Int) < es.length) = false := by simp; omega
  have hd1ints2 : decide (1048576 < es.length) = false := by simp; omega
  have hnints2 : es.length ≤ 1048576 := by omega
  clear htints2 hmints2
  have hBW := hB
  have hEW := hE
  have hRn : (llR bs es).length ≤ 1048577 := llR_len bs es
  have HSP := hide (fun (B : Option Addr) (cb : Nat) (E : Option Addr) (ce : Nat) w => specLateLines_any B bs cb hbn E es ce hen w)
  have HIM := hide (fun (B : Option Addr) (cb : Nat) (E : Option Addr) (ce : Nat) w => implLateLines_any B bs cb hbn E es ce hen w)
  generalize llR bs es = R at HSP HIM hRn
  generalize llC bs es = C at HSP HIM
  go_enter Try.func6, Try.ntmps6
  go_wp2_with fail
  refine (toInt64S_any B bs cb _ hBW hnints).mono ?_
  rintro e w1 ⟨Q1, rfl, hQ1, hb1⟩
  have hB1 := hb1
  have z1 := hb1.size
  go_wp2_with fail
  refine (toInt64S_any E es ce _ (hEW.go hB1) hnints2).mono ?_
  rintro e w2 ⟨Q2, rfl, hQ2, hb2⟩
  have hB2 := hB1.trans (hb2.mono hB1.size)
  have z2 := hb2.size
  have c_aTimes_2 := hQ1.go hb2
  clear hQ1 hB1
  go_wp2_with fail
  refine (HSP.out Q1 _ Q2 _ _ c_aTimes_2.at_ hQ2.at_).mono ?_
  rintro e w3 ⟨Aw, cw, rfl, hPw, hb3⟩
  have hB3 := hB2.trans (hb3.mono hB2.size)
  have z3 := hb3.size
  clear hB2
  clear c_aTimes_2 hQ2
  have pw_3 := hPw.at_
  clear hPw
  go_wp2_with fail
  refine (toInt64S_any B bs cb _ (hBW.go hB3) hnints).mono ?_
  rintro e w4 ⟨Q3, rfl, hQ3, hb4⟩
  have hB4 := hB3.trans (hb4.mono hB3.size)
  have z4 := hb4.size
  have pw_4 := pw_3.below (hb4.mono (by omega))
  clear pw_3 hB3
  have bd_x0 := blkI_bd hQ3
  go_wp2_with fail
  refine (toInt64S_any E es ce _ (hEW.go hB4) hnints2).mono ?_
  rintro e w5 ⟨Q4, rfl, hQ4, hb5⟩
  have hB5 := hB4.trans (hb5.mono hB4.size)
  have z5 := hb5.size
  have pw_5 := pw_4.below (hb5.mono (by omega))
  have d_x0_5 := hQ3.go hb5
  clear pw_4 hQ3 hB4
  have bd_x1 := blkI_bd hQ4
  go_wp2_with fail
  refine (HIM.out Q3 _ Q4 _ _ d_x0_5.at_ hQ4.at_).mono ?_
  rintro e w6 ⟨Ag, cg, rfl, hPg, hb6⟩
  have hB6 := hB5.trans (hb6.mono hB5.size)
  have z6 := hb6.size
  have pw_6 := pw_5.below (hb6.mono (by omega))
  have d_x0_6 := d_x0_5.go hb6
  have d_x1_6 := hQ4.go hb6
  clear pw_5 d_x0_5 hQ4 hB5
  have bd_g := blkI_bd hPg
  go_wp2_with fail
  refine (eqInt64S_same Ag Aw R cg cw _ (by unfold maxLen; omega) hPg.at_ (pw_6.mono (by omega))).mono ?_
  rintro e w7 ⟨rfl, hb7⟩
  have hB7 := hB6.trans (hb7.mono hB6.size)
  have z7 := hb7.size
  have pw_7 := pw_6.below (hb7.mono (by omega))
  have d_x0_7 := d_x0_6.go hb7
  have d_x1_7 := d_x1_6.go hb7
  have pg_7 := hPg.go hb7
  clear pw_6 d_x0_6 d_x1_6 hPg hB6
  go_wp2_with fail
  refine (toInt64S_any B bs cb _ (hBW.go hB7) hnints).mono ?_
  rintro e w8 ⟨Q5, rfl, hQ5, hb8⟩
  have hB8 := hB7.trans (hb8.mono hB7.size)
  have z8 := hb8.size
  have pw_8 := pw_7.below (hb8.mono (by omega))
  have d_x0_8 := d_x0_7.go hb8
  have d_x1_8 := d_x1_7.go hb8
  have pg_8 := pg_7.go hb8
  clear pw_7 d_x0_7 d_x1_7 pg_7 hB7
  go_wp2_with fail
  refine (eqInt64S_same Q3 Q5 bs _ _ _ hbn d_x0_8.at_ hQ5.at_).mono ?_
  rintro e w9 ⟨rfl, hb9⟩
  have hB9 := hB8.trans (hb9.mono hB8.size)
  have z9 := hb9.size
  have pw_9 := pw_8.below (hb9.mono (by omega))
  have d_x0_9 := d_x0_8.go hb9
  have d_x1_9 := d_x1_8.go hb9
  have pg_9 := pg_8.go hb9
  clear pw_8 d_x0_8 d_x1_8 pg_8 hB8
  clear hQ5
  go_wp2_with fail
  refine (toInt64S_any E es ce _ (hEW.go hB9) hnints2).mono ?_
  rintro e w10 ⟨Q6, rfl, hQ6, hb10⟩
  have hB10 := hB9.trans (hb10.mono hB9.size)
  have z10 := hb10.size
  have pw_10 := pw_9.below (hb10.mono (by omega))
  have d_x0_10 := d_x0_9.go hb10
  have d_x1_10 := d_x1_9.go hb10
  have pg_10 := pg_9.go hb10
  clear pw_9 d_x0_9 d_x1_9 pg_9 hB9
  go_wp2_with fail
  refine (eqInt64S_same Q4 Q6 es _ _ _ hen d_x1_10.at_ hQ6.at_).mono ?_
  rintro e w11 ⟨rfl, hb11⟩
  have hB11 := hB10.trans (hb11.mono hB10.size)
  have z11 := hb11.size
  have pw_11 := pw_10.below (hb11.mono (by omega))
  have d_x0_11 := d_x0_10.go hb11
  have d_x1_11 := d_x1_10.go hb11
  have pg_11 := pg_10.go hb11
  clear pw_10 d_x0_10 d_x1_10 pg_10 hB10
  clear hQ6
  go_wp2_with fail
  have hmk11 := markInt64S_any Q3 bs bs.length (1) w3.heap.size _ (by omega) (by omega) d_x0_11
  refine hmk11.mono ?_
  rintro e w12 ⟨rfl, hg12, _⟩
  clear hmk11
  have hB12 := hB11.trans (grown_toBelow hg12 (by omega) (fun k hk => by have := bd_x0 k hk; omega))
  have z12 := hg12.size
  have pw_12 := grown_intsAt hg12 pw_11 (by omega) (fun k hk => by have := bd_x0 k hk; omega)
  have d_x1_12 := grown_intsIn hg12 d_x1_11 (fun b hb e => by have h1 := bd_x1 b hb; have h2 := bd_x0 _ e.symm; omega)
  have pg_12 := grown_intsIn hg12 pg_11 (fun b hb e => by have h1 := bd_g b hb; have h2 := bd_x0 _ e.symm; omega)
  clear pw_11 d_x1_11 pg_11 hB11
  have hdk12 : decide (((1 + bs.length : Nat) : Int) < 0) = false := by simp; omega
  clear d_x0_11
  go_wp2_with fail
  have hmk12 := markInt64S_any Q4 es es.length (1 + bs.length) w4.heap.size _ (by omega) (by omega) d_x1_12
  refine hmk12.mono ?_
  rintro e w13 ⟨rfl, hg13, _⟩
  clear hmk12
  have hB13 := hB12.trans (grown_toBelow hg13 (by omega) (fun k hk => by have := bd_x1 k hk; omega))
  have z13 := hg13.size
  have pw_13 := grown_intsAt hg13 pw_12 (by omega) (fun k hk => by have := bd_x1 k hk; omega)
  have pg_13 := grown_intsIn hg13 pg_12 (fun b hb e => by have h1 := bd_g b hb; have h2 := bd_x1 _ e.symm; omega)
  clear pw_12 pg_12 hB12
  have hdk13 : decide (((1 + bs.length + es.length : Nat) : Int) < 0) = false := by simp; omega
  clear d_x1_12
  go_wp2_with fail
  refine (eqInt64S_same Ag Aw R cg cw _ (by unfold maxLen; omega) pg_13.at_ (pw_13.mono (by omega))).mono ?_
  rintro e w14 ⟨rfl, hb14⟩
  have hB14 := hB13.trans (hb14.mono hB13.size)
  have z14 := hb14.size
  have pw_14 := pw_13.below (hb14.mono (by omega))
  have pg_14 := pg_13.go hb14
  clear pw_13 pg_13 hB13
  go_wp2_with fail
  refine (markI1_any Ag R _ _ _ (by omega) pg_14).mono ?_
  rintro e w15 ⟨rfl, hg15, hM⟩
  have hB15 := hB14.trans (grown_toBelow hg15 (by omega) (fun k hk => by have := bd_g k hk; omega))
  have z15 := hg15.size
  have pw_15 := grown_intsAt hg15 pw_14 (by omega) (fun k hk => by have := bd_g k hk; omega)
  clear pw_14 hB14
  clear pg_14
  have hdq : decide (((1 + R.length : Nat) : Int) < 0) = false := by simp; omega
  have HH := hide (fun (W : World) (L : Nat) (h : IntsIn W L Ag (marksI 1 R.length)) => heldI1_any Ag R.length cg L W (by omega) h)
  generalize ((1 + R.length : Nat) : Int) = Qn at hdq HH ⊢
  go_wp2_with fail
  refine (HH.out _ _ hM).mono ?_
  rintro e w16 ⟨rfl, hb16⟩
  have hB16 := hB15.trans (hb16.mono hB15.size)
  have z16 := hb16.size
  have pw_16 := pw_15.below (hb16.mono (by omega))
  have pm_16 := hM.go hb16
  clear pw_15 hM hB15
  go_wp2_with fail
  refine (toInt64S_any B bs cb _ (hBW.go hB16) hnints).mono ?_
  rintro e w17 ⟨Q7, rfl, hQ7, hb17⟩
  have hB17 := hB16.trans (hb17.mono hB16.size)
  have z17 := hb17.size
  have pw_17 := pw_16.below (hb17.mono (by omega))
  have pm_17 := pm_16.go hb17
  clear pw_16 pm_16 hB16
  go_wp2_with fail
  refine (toInt64S_any E es ce _ (hEW.go hB17) hnints2).mono ?_
  rintro e w18 ⟨Q8, rfl, hQ8, hb18⟩
  have hB18 := hB17.trans (hb18.mono hB17.size)
  have z18 := hb18.size
  have pw_18 := pw_17.below (hb18.mono (by omega))
  have pm_18 := pm_17.go hb18
  have c_aTimes_18 := hQ7.go hb18
  clear pw_17 pm_17 hQ7 hB17
  go_wp2_with fail
  refine (HIM.out Q7 _ Q8 _ _ c_aTimes_18.at_ hQ8.at_).mono ?_
  rintro e w19 ⟨Ah, ch, rfl, hPh, hb19⟩
  have hB19 := hB18.trans (hb19.mono hB18.size)
  have z19 := hb19.size
  have pw_19 := pw_18.below (hb19.mono (by omega))
  have pm_19 := pm_18.go hb19
  clear pw_18 pm_18 hB18
  clear c_aTimes_18 hQ8
  have bd_h := blkI_bd hPh
  go_wp2_with fail
  refine (eqInt64S_same Ah Aw R ch cw _ (by unfold maxLen; omega) hPh.at_ (pw_19.mono (by omega))).mono ?_
  rintro e w20 ⟨rfl, hb20⟩
  have hB20 := hB19.trans (hb20.mono hB19.size)
  have z20 := hb20.size
  have pw_20 := pw_19.below (hb20.mono (by omega))
  have pm_20 := pm_19.go hb20
  have ph_20 := hPh.go hb20
  clear pw_19 pm_19 hPh hB19
  clear ph_20
  go_wp2_with fail
  refine (HH.out _ _ pm_20).mono ?_
  rintro e w21 ⟨rfl, hb21⟩
  have hB21 := hB20.trans (hb21.mono hB20.size)
  have z21 := hb21.size
  have pw_21 := pw_20.below (hb21.mono (by omega))
  have pm_21 := pm_20.go hb21
  clear pw_20 pm_20 hB20
  go_wp2
  go_ret
  exact ⟨rfl, hB21⟩
end Go.Proofs.Ytkbemhjeflmppaa
