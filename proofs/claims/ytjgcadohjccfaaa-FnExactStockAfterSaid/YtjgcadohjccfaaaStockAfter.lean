/- StockAfter: the model and the program give the same answer for every argument, and what comes back owns its memory. -/
import Derived.Test.YtjgcadohjccfaaaBk
import Derived.Test.YtjgcadohjccfaaaG5
import Derived.Test.YtjgcadohjccfaaaMarkG
import Derived.Test.YtjgcadohjccfaaaScript
import Derived.Test.YtjgcadohjccfaaaG2
namespace Go.Proofs.Ytjgcadohjccfaaa
open Go.RowKit

set_option maxRecDepth 100000 in
set_option maxHeartbeats 16000000 in
theorem lawStockAfter_any (x : Int) (hx : (Lit.int .i64 x).wf = true) (B : Option Addr) (bs : List Int) (cb : Nat) (hbn : bs.length ≤ maxLen) (w : World) (hB : IntsAt w w.heap.size B bs) :
    Calls Try.prog 12 #[.int .i64 x, .slice B bs.length cb] w fun e w' => e = .returned (.bool true) ∧ Below w.heap.size w w' := by
  have hmints := hbn
  unfold maxLen at hmints
  by_cases htints : 1048576 < bs.length
  · have hd : decide ((1048576 : Int) < bs.length) = true := by simp; omega
    have hd' : decide (1048576 < bs.length) = true := by simp; omega
    go_enter Try.func12, Try.ntmps12
    go_wp2
    go_ret
    exact ⟨rfl, Below.refl _ _⟩
  have hd0ints : decide ((1048576 : Int) < bs.length) = false := by simp; omega
  have hd1ints : decide (1048576 < bs.length) = false := by simp; omega
  have hnints : bs.length ≤ 1048576 := by omega
  clear htints hmints
  have hBW := hB
  have hRn : (saR x bs).length ≤ 1048577 := saR_len x bs
  have HSP := hide (fun (B : Option Addr) (cb : Nat) w => specStockAfter_any x hx B bs cb hbn w)
  have HIM := hide (fun (B : Option Addr) (cb : Nat) w => implStockAfter_any x hx B bs cb hbn w)
  generalize saR x bs = R at HSP HIM hRn
  generalize saC x bs = C at HSP HIM
  go_enter Try.func12, Try.ntmps12
  go_wp2_with fail
  refine (toInt64S_any B bs cb _ hBW hnints).mono ?_
  rintro e w1 ⟨Q1, rfl, hQ1, hb1⟩
  have hB1 := hb1
  have z1 := hb1.size
  go_wp2_with fail
  refine (HSP.out Q1 _ _ hQ1.at_).mono ?_
  rintro e w2 ⟨Aw, cw, rfl, hPw, hb2⟩
  have hB2 := hB1.trans (hb2.mono hB1.size)
  have z2 := hb2.size
  clear hB1
  clear hQ1
  have pw_2 := hPw.at_
  clear hPw
  go_wp2_with fail
  refine (toInt64S_any B bs cb _ (hBW.go hB2) hnints).mono ?_
  rintro e w3 ⟨Q2, rfl, hQ2, hb3⟩
  have hB3 := hB2.trans (hb3.mono hB2.size)
  have z3 := hb3.size
  have pw_3 := pw_2.below (hb3.mono (by omega))
  clear pw_2 hB2
  have bd_x1 := blkI_bd hQ2
  go_wp2_with fail
  refine (HIM.out Q2 _ _ hQ2.at_).mono ?_
  rintro e w4 ⟨Ag, cg, rfl, hPg, hb4⟩
  have hB4 := hB3.trans (hb4.mono hB3.size)
  have z4 := hb4.size
  have pw_4 := pw_3.below (hb4.mono (by omega))
  have d_x1_4 := hQ2.go hb4
  clear pw_3 hQ2 hB3
  have bd_g := blkI_bd hPg
  go_wp2_with fail
  refine (eqInt64S_same Ag Aw R cg cw _ (by unfold maxLen; omega) hPg.at_ (pw_4.mono (by omega))).mono ?_
  rintro e w5 ⟨rfl, hb5⟩
  have hB5 := hB4.trans (hb5.mono hB4.size)
  have z5 := hb5.size
  have pw_5 := pw_4.below (hb5.mono (by omega))
  have d_x1_5 := d_x1_4.go hb5
  have pg_5 := hPg.go hb5
  clear pw_4 d_x1_4 hPg hB4
  go_wp2_with fail
  refine (toInt64S_any B bs cb _ (hBW.go hB5) hnints).mono ?_
  rintro e w6 ⟨Q3, rfl, hQ3, hb6⟩
  have hB6 := hB5.trans (hb6.mono hB5.size)
  have z6 := hb6.size
  have pw_6 := pw_5.below (hb6.mono (by omega))
  have d_x1_6 := d_x1_5.go hb6
  have pg_6 := pg_5.go hb6
  clear pw_5 d_x1_5 pg_5 hB5
  go_wp2_with fail
  refine (eqInt64S_same Q2 Q3 bs _ _ _ hbn d_x1_6.at_ hQ3.at_).mono ?_
  rintro e w7 ⟨rfl, hb7⟩
  have hB7 := hB6.trans (hb7.mono hB6.size)
  have z7 := hb7.size
  have pw_7 := pw_6.below (hb7.mono (by omega))
  have d_x1_7 := d_x1_6.go hb7
  have pg_7 := pg_6.go hb7
  clear pw_6 d_x1_6 pg_6 hB6
  clear hQ3
  go_wp2_with fail
  have hmk7 := markInt64S_any Q2 bs bs.length (1) w2.heap.size _ (by omega) (by omega) d_x1_7
  refine hmk7.mono ?_
  rintro e w8 ⟨rfl, hg8, _⟩
  clear hmk7
  have hB8 := hB7.trans (grown_toBelow hg8 (by omega) (fun k hk => by have := bd_x1 k hk; omega))
  have z8 := hg8.size
  have pw_8 := grown_intsAt hg8 pw_7 (by omega) (fun k hk => by have := bd_x1 k hk; omega)
  have pg_8 := grown_intsIn hg8 pg_7 (fun b hb e => by have h1 := bd_g b hb; have h2 := bd_x1 _ e.symm; omega)
  clear pw_7 pg_7 hB7
  have hdk8 : decide (((1 + bs.length : Nat) : Int) < 0) = false := by simp; omega
  clear d_x1_7
  go_wp2_with fail
  refine (eqInt64S_same Ag Aw R cg cw _ (by unfold maxLen; omega) pg_8.at_ (pw_8.mono (by omega))).mono ?_
  rintro e w9 ⟨rfl, hb9⟩
  have hB9 := hB8.trans (hb9.mono hB8.size)
  have z9 := hb9.size
  have pw_9 := pw_8.below (hb9.mono (by omega))
  have pg_9 := pg_8.go hb9
  clear pw_8 pg_8 hB8
  go_wp2_with fail
  refine (markI1_any Ag R _ _ _ (by omega) pg_9).mono ?_
  rintro e w10 ⟨rfl, hg10, hM⟩
  have hB10 := hB9.trans (grown_toBelow hg10 (by omega) (fun k hk => by have := bd_g k hk; omega))
  have z10 := hg10.size
  have pw_10 := grown_intsAt hg10 pw_9 (by omega) (fun k hk => by have := bd_g k hk; omega)
  clear pw_9 hB9
  clear pg_9
  have hdq : decide (((1 + R.length : Nat) : Int) < 0) = false := by simp; omega
  have HH := hide (fun (W : World) (L : Nat) (h : IntsIn W L Ag (marksI 1 R.length)) => heldI1_any Ag R.length cg L W (by omega) h)
  generalize ((1 + R.length : Nat) : Int) = Qn at hdq HH ⊢
  go_wp2_with fail
  refine (HH.out _ _ hM).mono ?_
  rintro e w11 ⟨rfl, hb11⟩
  have hB11 := hB10.trans (hb11.mono hB10.size)
  have z11 := hb11.size
  have pw_11 := pw_10.below (hb11.mono (by omega))
  have pm_11 := hM.go hb11
  clear pw_10 hM hB10
  go_wp2_with fail
  refine (toInt64S_any B bs cb _ (hBW.go hB11) hnints).mono ?_
  rintro e w12 ⟨Q4, rfl, hQ4, hb12⟩
  have hB12 := hB11.trans (hb12.mono hB11.size)
  have z12 := hb12.size
  have pw_12 := pw_11.below (hb12.mono (by omega))
  have pm_12 := pm_11.go hb12
  clear pw_11 pm_11 hB11
  go_wp2_with fail
  refine (HIM.out Q4 _ _ hQ4.at_).mono ?_
  rintro e w13 ⟨Ah, ch, rfl, hPh, hb13⟩
  have hB13 := hB12.trans (hb13.mono hB12.size)
  have z13 := hb13.size
  have pw_13 := pw_12.below (hb13.mono (by omega))
  have pm_13 := pm_12.go hb13
  clear pw_12 pm_12 hB12
  clear hQ4
  have bd_h := blkI_bd hPh
  go_wp2_with fail
  refine (eqInt64S_same Ah Aw R ch cw _ (by unfold maxLen; omega) hPh.at_ (pw_13.mono (by omega))).mono ?_
  rintro e w14 ⟨rfl, hb14⟩
  have hB14 := hB13.trans (hb14.mono hB13.size)
  have z14 := hb14.size
  have pw_14 := pw_13.below (hb14.mono (by omega))
  have pm_14 := pm_13.go hb14
  have ph_14 := hPh.go hb14
  clear pw_13 pm_13 hPh hB13
  clear ph_14
  go_wp2_with fail
  refine (HH.out _ _ pm_14).mono ?_
  rintro e w15 ⟨rfl, hb15⟩
  have hB15 := hB14.trans (hb15.mono hB14.size)
  have z15 := hb15.size
  have pw_15 := pw_14.below (hb15.mono (by omega))
  have pm_15 := pm_14.go hb15
  clear pw_14 pm_14 hB14
  go_wp2
  go_ret
  exact ⟨rfl, hB15⟩
end Go.Proofs.Ytjgcadohjccfaaa
