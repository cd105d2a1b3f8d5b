/- OldSystem: the model and the program give the same answer for every argument, and what comes back owns its memory. -/
import Derived.Test.YtgklhdacnklhdaaOldW
import Derived.Test.YtgklhdacnklhdaaSys
import Derived.Test.YtgklhdacnklhdaaSyBack
namespace Go.Proofs.Ytgklhdacnklhdaa
open Go.RowKit

set_option maxRecDepth 100000 in
set_option maxHeartbeats 16000000 in
theorem lawOldSystem_any (q : Bool) (w : World)  :
    Calls Try.prog 9 #[.bool q] w fun e w' => e = .returned (.bool true) ∧ Below w.heap.size w w' := by
  have hRn : (osR q).sg.length ≤ 1048576 ∧ (osR q).mn.length ≤ 1048576 := osR_len q
  have hRk : (osR q).ok := osR_ok q
  have HSP := hide (fun  w => specOldSystem_any q w)
  have HIM := hide (fun  w => implOldSystem_any q w)
  generalize osR q = R at HSP HIM hRn hRk
  go_enter Try.func9, Try.ntmps9
  go_wp2_with fail
  refine (HSP.out  _ ).mono ?_
  rintro e w1 ⟨Aw, Dw, ccw, ddw, rfl, hPw, hb1⟩
  have hB1 := hb1
  have z1 := hb1.size
  have pw0 := hPw.at_
  clear hPw
  go_wp2_with fail
  have bx2 : Below w1.heap.size w1 (w1.alloc (.cells #[.slice Aw R.sg.length ccw, .slice Dw R.mn.length ddw] 69)) := (Below.refl _ _).alloc (Nat.le_refl _) _
  have rx2 : (w1.alloc (.cells #[.slice Aw R.sg.length ccw, .slice Dw R.mn.length ddw] 69)).rangeAt w1.heap.size 0 [.slice Aw R.sg.length ccw, .slice Dw R.mn.length ddw] := rangeAt_new w1 [.slice Aw R.sg.length ccw, .slice Dw R.mn.length ddw] _
  have sx2 : w1.heap.size < (w1.alloc (.cells #[.slice Aw R.sg.length ccw, .slice Dw R.mn.length ddw] 69)).heap.size := by simp
  obtain ⟨w2, ew2⟩ : ∃ W, W = (w1.alloc (.cells #[.slice Aw R.sg.length ccw, .slice Dw R.mn.length ddw] 69)) := ⟨_, rfl⟩
  rw [← ew2] at bx2 rx2 sx2 ⊢
  clear ew2
  have bs2 := sx2
  have hB2 := hB1.trans (bx2.mono hB1.size)
  have z2 := bx2.size
  have pw_2 := pw0.below (bx2.mono (by omega))
  clear pw0 hB1
  refine (HIM.out  _ ).mono ?_
  rintro e w3 ⟨Ag, Dg, ccg, ddg, rfl, hPg, hb3⟩
  have hB3 := hB2.trans (hb3.mono hB2.size)
  have z3 := hb3.size
  have pw_3 := pw_2.below (hb3.mono (by omega))
  have bw_3 := rangeAt_below rx2 hb3 sx2
  have sbw_3 := Nat.lt_of_lt_of_le sx2 hb3.size
  clear pw_2 sx2 rx2 hB2
  have bd_g := And.intro hPg.sg.blk hPg.mn.blk
  have xbw_0 := rangeAt_cell bw_3 (k := 0) rfl
  have xbw_1 := rangeAt_cell bw_3 (k := 1) rfl
  have xbw_a := rangeAt_below bw_3 ((Below.refl _ _).alloc (Nat.le_refl _) (.cells #[.slice Ag R.sg.length ccg, .slice Dg R.mn.length ddg] 69)) sbw_3
  have xbw_a0 := rangeAt_cell xbw_a (k := 0) rfl
  have xbw_a1 := rangeAt_cell xbw_a (k := 1) rfl
  clear xbw_a
  go_wp2_with fail
  clear xbw_a0 xbw_a1
  have bx4 : Below w3.heap.size w3 (w3.alloc (.cells #[.slice Ag R.sg.length ccg, .slice Dg R.mn.length ddg] 69)) := (Below.refl _ _).alloc (Nat.le_refl _) _
  have rx4 : (w3.alloc (.cells #[.slice Ag R.sg.length ccg, .slice Dg R.mn.length ddg] 69)).rangeAt w3.heap.size 0 [.slice Ag R.sg.length ccg, .slice Dg R.mn.length ddg] := rangeAt_new w3 [.slice Ag R.sg.length ccg, .slice Dg R.mn.length ddg] _
  have sx4 : w3.heap.size < (w3.alloc (.cells #[.slice Ag R.sg.length ccg, .slice Dg R.mn.length ddg] 69)).heap.size := by simp
  obtain ⟨w4, ew4⟩ : ∃ W, W = (w3.alloc (.cells #[.slice Ag R.sg.length ccg, .slice Dg R.mn.length ddg] 69)) := ⟨_, rfl⟩
  rw [← ew4] at bx4 rx4 sx4 ⊢
  clear ew4
  have bs4 := sx4
  clear xbw_0 xbw_1
  have hB4 := hB3.trans (bx4.mono hB3.size)
  have z4 := bx4.size
  have pw_4 := pw_3.below (bx4.mono (by omega))
  have bw_4 := rangeAt_below bw_3 bx4 sbw_3
  have sbw_4 := Nat.lt_of_lt_of_le sbw_3 bx4.size
  have pg_4 := hPg.go bx4
  clear pw_3 sbw_3 bw_3 hPg hB3
  refine (eqSystem_same R hRk Ag Dg Aw Dw _ _ _ _ _ pg_4.at_ (pw_4.mono (by omega))).mono ?_
  rintro e w5 ⟨rfl, hb5⟩
  have hB5 := hB4.trans (hb5.mono hB4.size)
  have z5 := hb5.size
  have pw_5 := pw_4.below (hb5.mono (by omega))
  have bw_5 := rangeAt_below bw_4 hb5 sbw_4
  have sbw_5 := Nat.lt_of_lt_of_le sbw_4 hb5.size
  have pg_5 := pg_4.go hb5
  have bg_5 := rangeAt_below rx4 hb5 sx4
  have sbg_5 := Nat.lt_of_lt_of_le sx4 hb5.size
  clear pw_4 sbw_4 bw_4 pg_4 sx4 rx4 hB4
  have xbw_0 := rangeAt_cell bw_5 (k := 0) rfl
  have xbw_1 := rangeAt_cell bw_5 (k := 1) rfl
  have xbg_0 := rangeAt_cell bg_5 (k := 0) rfl
  have xbg_1 := rangeAt_cell bg_5 (k := 1) rfl
  go_wp2_with fail
  clear xbw_0 xbw_1 xbg_0 xbg_1
  refine (markSystem_any R Ag Dg _ _ _ _ (by omega) (by omega) pg_5).mono ?_
  rintro e w7 ⟨rfl, ⟨w6, hg6, hg7⟩, hM⟩
  have hB6 := hB5.trans (grown_toBelow hg6 (by omega) (fun k hk => by have := bd_g.1 k hk; omega))
  have z6 := hg6.size
  have pw_6 := pw_5.below (grown_toBelow hg6 (by omega) (fun k hk => by have := bd_g.1 k hk; omega))
  have bw_6 := grown_row hg6 bw_5 sbw_5 (fun e => by have hh := bd_g.1 _ e.symm; omega)
  have sbw_6 := Nat.lt_of_lt_of_le sbw_5 hg6.size
  have bg_6 := grown_row hg6 bg_5 sbg_5 (fun e => by have hh := bd_g.1 _ e.symm; omega)
  have sbg_6 := Nat.lt_of_lt_of_le sbg_5 hg6.size
  clear pw_5 sbw_5 bw_5 sbg_5 bg_5 hB5
  have hB7 := hB6.trans (grown_toBelow hg7 (by omega) (fun k hk => by have := bd_g.2 k hk; omega))
  have z7 := hg7.size
  have pw_7 := pw_6.below (grown_toBelow hg7 (by omega) (fun k hk => by have := bd_g.2 k hk; omega))
  have bw_7 := grown_row hg7 bw_6 sbw_6 (fun e => by have hh := bd_g.2 _ e.symm; omega)
  have sbw_7 := Nat.lt_of_lt_of_le sbw_6 hg7.size
  have bg_7 := grown_row hg7 bg_6 sbg_6 (fun e => by have hh := bd_g.2 _ e.symm; omega)
  have sbg_7 := Nat.lt_of_lt_of_le sbg_6 hg7.size
  clear pw_6 sbw_6 bw_6 sbg_6 bg_6 hB6
  clear pg_5
  have hdq : decide (((1 : Int) + 2 * R.sg.length + 2 * R.mn.length) < 0) = false := by simp; omega
  have HH := hide (fun (W : World) (L : Nat) (h : SyMark W L Ag Dg R.sg.length R.mn.length) => heldSystem_any R Ag Dg ccg ddg L W (by omega) (by omega) h)
  generalize ((1 : Int) + 2 * R.sg.length + 2 * R.mn.length) = Qn at hdq HH ⊢
  have xbw_0 := rangeAt_cell bw_7 (k := 0) rfl
  have xbw_1 := rangeAt_cell bw_7 (k := 1) rfl
  have xbg_0 := rangeAt_cell bg_7 (k := 0) rfl
  have xbg_1 := rangeAt_cell bg_7 (k := 1) rfl
  go_wp2_with fail
  clear xbw_0 xbw_1 xbg_0 xbg_1
  refine (HH.out _ _ hM).mono ?_
  rintro e w8 ⟨rfl, hb8⟩
  have hB8 := hB7.trans (hb8.mono hB7.size)
  have z8 := hb8.size
  have pw_8 := pw_7.below (hb8.mono (by omega))
  have bw_8 := rangeAt_below bw_7 hb8 sbw_7
  have sbw_8 := Nat.lt_of_lt_of_le sbw_7 hb8.size
  have bg_8 := rangeAt_below bg_7 hb8 sbg_7
  have sbg_8 := Nat.lt_of_lt_of_le sbg_7 hb8.size
  have pm_8 := hM.go hb8
  clear pw_7 sbw_7 bw_7 sbg_7 bg_7 hM hB7
  go_wp2_with fail
  refine (HIM.out  _ ).mono ?_
  rintro e w9 ⟨Ah, Dh, cch, ddh, rfl, hPh, hb9⟩
  have hB9 := hB8.trans (hb9.mono hB8.size)
  have z9 := hb9.size
  have pw_9 := pw_8.below (hb9.mono (by omega))
  have bw_9 := rangeAt_below bw_8 hb9 sbw_8
  have sbw_9 := Nat.lt_of_lt_of_le sbw_8 hb9.size
  have bg_9 := rangeAt_below bg_8 hb9 sbg_8
  have sbg_9 := Nat.lt_of_lt_of_le sbg_8 hb9.size
  have pm_9 := pm_8.go hb9
  clear pw_8 sbw_8 bw_8 sbg_8 bg_8 pm_8 hB8
  have bd_h := And.intro hPh.sg.blk hPh.mn.blk
  have xbw_0 := rangeAt_cell bw_9 (k := 0) rfl
  have xbw_1 := rangeAt_cell bw_9 (k := 1) rfl
  have xbg_0 := rangeAt_cell bg_9 (k := 0) rfl
  have xbg_1 := rangeAt_cell bg_9 (k := 1) rfl
  have xbw_a := rangeAt_below bw_9 ((Below.refl _ _).alloc (Nat.le_refl _) (.cells #[.slice Ah R.sg.length cch, .slice Dh R.mn.length ddh] 69)) sbw_9
  have xbw_a0 := rangeAt_cell xbw_a (k := 0) rfl
  have xbw_a1 := rangeAt_cell xbw_a (k := 1) rfl
  clear xbw_a
  have xbg_a := rangeAt_below bg_9 ((Below.refl _ _).alloc (Nat.le_refl _) (.cells #[.slice Ah R.sg.length cch, .slice Dh R.mn.length ddh] 69)) sbg_9
  have xbg_a0 := rangeAt_cell xbg_a (k := 0) rfl
  have xbg_a1 := rangeAt_cell xbg_a (k := 1) rfl
  clear xbg_a
  go_wp2_with fail
  clear xbw_a0 xbw_a1 xbg_a0 xbg_a1
  have bx10 : Below w9.heap.size w9 (w9.alloc (.cells #[.slice Ah R.sg.length cch, .slice Dh R.mn.length ddh] 69)) := (Below.refl _ _).alloc (Nat.le_refl _) _
  have rx10 : (w9.alloc (.cells #[.slice Ah R.sg.length cch, .slice Dh R.mn.length ddh] 69)).rangeAt w9.heap.size 0 [.slice Ah R.sg.length cch, .slice Dh R.mn.length ddh] := rangeAt_new w9 [.slice Ah R.sg.length cch, .slice Dh R.mn.length ddh] _
  have sx10 : w9.heap.size < (w9.alloc (.cells #[.slice Ah R.sg.length cch, .slice Dh R.mn.length ddh] 69)).heap.size := by simp
  obtain ⟨w10, ew10⟩ : ∃ W, W = (w9.alloc (.cells #[.slice Ah R.sg.length cch, .slice Dh R.mn.length ddh] 69)) := ⟨_, rfl⟩
  rw [← ew10] at bx10 rx10 sx10 ⊢
  clear ew10
  have bs10 := sx10
  clear xbw_0 xbw_1 xbg_0 xbg_1
  have hB10 := hB9.trans (bx10.mono hB9.size)
  have z10 := bx10.size
  have pw_10 := pw_9.below (bx10.mono (by omega))
  have bw_10 := rangeAt_below bw_9 bx10 sbw_9
  have sbw_10 := Nat.lt_of_lt_of_le sbw_9 bx10.size
  have bg_10 := rangeAt_below bg_9 bx10 sbg_9
  have sbg_10 := Nat.lt_of_lt_of_le sbg_9 bx10.size
  have pm_10 := pm_9.go bx10
  have ph_10 := hPh.go bx10
  clear pw_9 sbw_9 bw_9 sbg_9 bg_9 pm_9 hPh hB9
  refine (eqSystem_same R hRk Ah Dh Aw Dw _ _ _ _ _ ph_10.at_ (pw_10.mono (by omega))).mono ?_
  rintro e w11 ⟨rfl, hb11⟩
  have hB11 := hB10.trans (hb11.mono hB10.size)
  have z11 := hb11.size
  have pw_11 := pw_10.below (hb11.mono (by omega))
  have bw_11 := rangeAt_below bw_10 hb11 sbw_10
  have sbw_11 := Nat.lt_of_lt_of_le sbw_10 hb11.size
  have bg_11 := rangeAt_below bg_10 hb11 sbg_10
  have sbg_11 := Nat.lt_of_lt_of_le sbg_10 hb11.size
  have pm_11 := pm_10.go hb11
  have ph_11 := ph_10.go hb11
  have bh_11 := rangeAt_below rx10 hb11 sx10
  have sbh_11 := Nat.lt_of_lt_of_le sx10 hb11.size
  clear pw_10 sbw_10 bw_10 sbg_10 bg_10 pm_10 ph_10 sx10 rx10 hB10
  clear ph_11
  have xbw_0 := rangeAt_cell bw_11 (k := 0) rfl
  have xbw_1 := rangeAt_cell bw_11 (k := 1) rfl
  have xbg_0 := rangeAt_cell bg_11 (k := 0) rfl
  have xbg_1 := rangeAt_cell bg_11 (k := 1) rfl
  go_wp2_with fail
  clear xbw_0 xbw_1 xbg_0 xbg_1
  refine (HH.out _ _ pm_11).mono ?_
  rintro e w12 ⟨rfl, hb12⟩
  have hB12 := hB11.trans (hb12.mono hB11.size)
  have z12 := hb12.size
  have pw_12 := pw_11.below (hb12.mono (by omega))
  have bw_12 := rangeAt_below bw_11 hb12 sbw_11
  have sbw_12 := Nat.lt_of_lt_of_le sbw_11 hb12.size
  have bg_12 := rangeAt_below bg_11 hb12 sbg_11
  have sbg_12 := Nat.lt_of_lt_of_le sbg_11 hb12.size
  have pm_12 := pm_11.go hb12
  clear pw_11 sbw_11 bw_11 sbg_11 bg_11 pm_11 hB11
  go_wp2
  go_ret
  exact ⟨rfl, hB12⟩
end Go.Proofs.Ytgklhdacnklhdaa
