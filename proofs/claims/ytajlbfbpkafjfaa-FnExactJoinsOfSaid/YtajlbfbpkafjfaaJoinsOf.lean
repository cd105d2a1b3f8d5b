/- JoinsOf: the model and the program give the same answer for every argument, and what comes back owns its memory. -/
import Derived.Test.YtajlbfbpkafjfaaIvJo
import Derived.Test.YtajlbfbpkafjfaaG5
namespace Go.Proofs.Ytajlbfbpkafjfaa
open Go.RowKit

set_option maxRecDepth 100000 in
set_option maxHeartbeats 16000000 in
theorem lawJoinsOf_any (P : Option Addr) (pz : List Pcx) (cp : Nat) (hpn : pz.length ≤ maxLen) (hpx : ∀ x ∈ pz, pxok x) (w : World) (hPc : PcAt w w.heap.size P pz) :
    Calls Try.prog 15 #[.slice P pz.length cp] w fun e w' => e = .returned (.bool true) ∧ Below w.heap.size w w' := by
  have hPW := hPc
  have hRn : (joR pz).length ≤ 1048577 := joR_len pz
  have HSP := hide (fun (P : Option Addr) (cp : Nat) w => specJoinsOf_any P pz cp hpn hpx w)
  have HIM := hide (fun (P : Option Addr) (cp : Nat) w => implJoinsOf_any P pz cp hpn hpx w)
  generalize joR pz = R at HSP HIM hRn
  generalize joC pz = C at HSP HIM
  go_enter Try.func15, Try.ntmps15
  go_wp2_with fail
  refine (szPieceS_any P pz cp _ hpn (fun x h => (hpx x h).1) hPW).mono ?_
  rintro e w1 ⟨vl, rfl, hvl, hb1⟩
  have hB1 := hb1
  have z1 := hb1.size
  by_cases hneg : vl < 0
  · have hdl : decide (vl < 0) = true := by simpa using hneg
    go_wp2
    go_ret
    exact ⟨rfl, hB1⟩
  have hdl : decide (vl < 0) = false := by simpa using hneg
  obtain ⟨hnP, _⟩ := hvl hneg
  clear hneg hvl
  go_wp2_with fail
  refine (toPieceS_any P pz cp _ (hPW.go hB1) hnP).mono ?_
  rintro e w2 ⟨Q1, rfl, hQ1, hb2⟩
  have hB2 := hB1.trans (hb2.mono hB1.size)
  have z2 := hb2.size
  clear hB1
  go_wp2_with fail
  refine (HSP.out Q1 _ _ hQ1.at_).mono ?_
  rintro e w3 ⟨Aw, cw, rfl, hPw, hb3⟩
  have hB3 := hB2.trans (hb3.mono hB2.size)
  have z3 := hb3.size
  clear hB2
  clear hQ1
  have pw_3 := hPw.at_
  clear hPw
  go_wp2_with fail
  refine (toPieceS_any P pz cp _ (hPW.go hB3) hnP).mono ?_
  rintro e w4 ⟨Q2, rfl, hQ2, hb4⟩
  have hB4 := hB3.trans (hb4.mono hB3.size)
  have z4 := hb4.size
  have pw_4 := pw_3.below (hb4.mono (by omega))
  clear pw_3 hB3
  have bd_x0 := RowsIn.blk hQ2
  go_wp2_with fail
  refine (HIM.out Q2 _ _ hQ2.at_).mono ?_
  rintro e w5 ⟨Ag, cg, rfl, hPg, hb5⟩
  have hB5 := hB4.trans (hb5.mono hB4.size)
  have z5 := hb5.size
  have pw_5 := pw_4.below (hb5.mono (by omega))
  have d_x0_5 := hQ2.go hb5
  clear pw_4 hQ2 hB4
  have bd_g := blk2_bd hPg
  go_wp2_with fail
  refine (eqInt64A2S_same Ag Aw R cg cw _ (by unfold maxLen; omega) hPg.at_ (pw_5.mono (by omega))).mono ?_
  rintro e w6 ⟨rfl, hb6⟩
  have hB6 := hB5.trans (hb6.mono hB5.size)
  have z6 := hb6.size
  have pw_6 := pw_5.below (hb6.mono (by omega))
  have d_x0_6 := d_x0_5.go hb6
  have pg_6 := hPg.go hb6
  clear pw_5 d_x0_5 hPg hB5
  go_wp2_with fail
  refine (toPieceS_any P pz cp _ (hPW.go hB6) hnP).mono ?_
  rintro e w7 ⟨Q3, rfl, hQ3, hb7⟩
  have hB7 := hB6.trans (hb7.mono hB6.size)
  have z7 := hb7.size
  have pw_7 := pw_6.below (hb7.mono (by omega))
  have d_x0_7 := d_x0_6.go hb7
  have pg_7 := pg_6.go hb7
  clear pw_6 d_x0_6 pg_6 hB6
  go_wp2_with fail
  refine (eqPieceS_same Q2 Q3 pz _ _ _ hpn d_x0_7.at_ hQ3.at_).mono ?_
  rintro e w8 ⟨rfl, hb8⟩
  have hB8 := hB7.trans (hb8.mono hB7.size)
  have z8 := hb8.size
  have pw_8 := pw_7.below (hb8.mono (by omega))
  have d_x0_8 := d_x0_7.go hb8
  have pg_8 := pg_7.go hb8
  clear pw_7 d_x0_7 pg_7 hB7
  clear hQ3
  go_wp2_with fail
  refine (markPieceS_any Q2 pz _ w3.heap.size _ hnP d_x0_8 (by omega)).mono ?_
  rintro e w9 ⟨rfl, _, _, hg9⟩
  have hB9 := hB8.trans (grown_toBelow hg9 (by omega) (fun k hk => by have := bd_x0 k hk; omega))
  have z9 := hg9.size
  have pw_9 := grown_p2At hg9 pw_8 (by omega) (fun k hk => by have := bd_x0 k hk; omega)
  have pg_9 := grown_p2In hg9 pg_8 (fun b hb e => by have h1 := bd_g b hb; have h2 := bd_x0 _ e.symm; omega)
  clear pw_8 pg_8 hB8
  have hdk9 : decide (((1 + 3 * pz.length : Nat) : Int) < 0) = false := by simp; omega
  clear d_x0_8
  go_wp2_with fail
  refine (eqInt64A2S_same Ag Aw R cg cw _ (by unfold maxLen; omega) pg_9.at_ (pw_9.mono (by omega))).mono ?_
  rintro e w10 ⟨rfl, hb10⟩
  have hB10 := hB9.trans (hb10.mono hB9.size)
  have z10 := hb10.size
  have pw_10 := pw_9.below (hb10.mono (by omega))
  have pg_10 := pg_9.go hb10
  clear pw_9 pg_9 hB9
  go_wp2_with fail
  refine (mark21_any Ag R _ _ _ (by omega) pg_10).mono ?_
  rintro e w11 ⟨rfl, hg11, hM⟩
  have hB11 := hB10.trans (grown_toBelow hg11 (by omega) (fun k hk => by have := bd_g k hk; omega))
  have z11 := hg11.size
  have pw_11 := grown_p2At hg11 pw_10 (by omega) (fun k hk => by have := bd_g k hk; omega)
  clear pw_10 hB10
  clear pg_10
  have hdq : decide (((1 + 2 * R.length : Nat) : Int) < 0) = false := by simp; omega
  have HH := hide (fun (W : World) (L : Nat) (h : P2In W L Ag (marks2 1 R.length)) => held21_any Ag R.length cg L W (by omega) h)
  generalize ((1 + 2 * R.length : Nat) : Int) = Qn at hdq HH ⊢
  go_wp2_with fail
  refine (HH.out _ _ hM).mono ?_
  rintro e w12 ⟨rfl, hb12⟩
  have hB12 := hB11.trans (hb12.mono hB11.size)
  have z12 := hb12.size
  have pw_12 := pw_11.below (hb12.mono (by omega))
  have pm_12 := hM.go hb12
  clear pw_11 hM hB11
  go_wp2_with fail
  refine (toPieceS_any P pz cp _ (hPW.go hB12) hnP).mono ?_
  rintro e w13 ⟨Q4, rfl, hQ4, hb13⟩
  have hB13 := hB12.trans (hb13.mono hB12.size)
  have z13 := hb13.size
  have pw_13 := pw_12.below (hb13.mono (by omega))
  have pm_13 := pm_12.go hb13
  clear pw_12 pm_12 hB12
  go_wp2_with fail
  refine (HIM.out Q4 _ _ hQ4.at_).mono ?_
  rintro e w14 ⟨Ah, ch, rfl, hPh, hb14⟩
  have hB14 := hB13.trans (hb14.mono hB13.size)
  have z14 := hb14.size
  have pw_14 := pw_13.below (hb14.mono (by omega))
  have pm_14 := pm_13.go hb14
  clear pw_13 pm_13 hB13
  clear hQ4
  have bd_h := blk2_bd hPh
  go_wp2_with fail
  refine (eqInt64A2S_same Ah Aw R ch cw _ (by unfold maxLen; omega) hPh.at_ (pw_14.mono (by omega))).mono ?_
  rintro e w15 ⟨rfl, hb15⟩
  have hB15 := hB14.trans (hb15.mono hB14.size)
  have z15 := hb15.size
  have pw_15 := pw_14.below (hb15.mono (by omega))
  have pm_15 := pm_14.go hb15
  have ph_15 := hPh.go hb15
  clear pw_14 pm_14 hPh hB14
  clear ph_15
  go_wp2_with fail
  refine (HH.out _ _ pm_15).mono ?_
  rintro e w16 ⟨rfl, hb16⟩
  have hB16 := hB15.trans (hb16.mono hB15.size)
  have z16 := hb16.size
  have pw_16 := pw_15.below (hb16.mono (by omega))
  have pm_16 := pm_15.go hb16
  clear pw_15 pm_15 hB15
  go_wp2
  go_ret
  exact ⟨rfl, hB16⟩
end Go.Proofs.Ytajlbfbpkafjfaa
