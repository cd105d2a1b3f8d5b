/- PlainSystem: the model and the program give the same answer for every argument, and what comes back owns its memory. -/
import Derived.Test.YtgklhdacnklhdaaPlainS
import Derived.Test.YtgklhdacnklhdaaSys
import Derived.Test.YtgklhdacnklhdaaSyBack
namespace Go.Proofs.Ytgklhdacnklhdaa
open Go.RowKit

set_option maxRecDepth 100000 in
set_option maxHeartbeats 16000000 in
theorem lawPlainSystem_any (Y : Sy) (hY : Y.ok) (G J : Option Addr) (cg cj : Nat) (w : World) (hG : SyAt w w.heap.size G J Y) :
    Calls Try.prog 10 #[sv Y G J cg cj] w fun e w' => e = .returned (.bool true) ∧ Below w.heap.size w w' := by
  have b0 : Below w.heap.size w (w.alloc (.cells #[.slice G Y.sg.length cg, .slice J Y.mn.length cj] 64)) := (Below.refl _ _).alloc (Nat.le_refl _) _
  have r0 : (w.alloc (.cells #[.slice G Y.sg.length cg, .slice J Y.mn.length cj] 64)).rangeAt w.heap.size 0 [.slice G Y.sg.length cg, .slice J Y.mn.length cj] := rangeAt_new w [.slice G Y.sg.length cg, .slice J Y.mn.length cj] _
  have s0 : w.heap.size < (w.alloc (.cells #[.slice G Y.sg.length cg, .slice J Y.mn.length cj] 64)).heap.size := by simp only [World.size_alloc]; omega
  have hRn : (psR Y).sg.length ≤ 1048576 ∧ (psR Y).mn.length ≤ 1048576 := psR_len
  have hRk : (psR Y).ok := psR_ok hY
  have HSP := hide (fun (G J : Option Addr) (cg cj : Nat) w => specPlainSystem_any Y hY G J cg cj w)
  have HIM := hide (fun (G J : Option Addr) (cg cj : Nat) w => implPlainSystem_any Y hY G J cg cj w)
  generalize psR Y = R at HSP HIM hRn hRk
  generalize psC Y = C at HSP HIM
  go_enter Try.func10, Try.ntmps10
  go_wp2_with fail
  generalize (w.alloc (.cells #[.slice G Y.sg.length cg, .slice J Y.mn.length cj] 64)) = W0 at *
  have hws := b0.size
  have hA0 := (hG.below b0).mono b0.size
  refine (szSystem_any Y hY G J cg cj (1048576) _ (by omega) (by omega)).mono ?_
  rintro e w1 ⟨rfl, hb1⟩
  have hB1 := hb1
  have z1 := hb1.size
  by_cases hneg : szS (1048576) Y < 0
  · have hdl : decide (szS (1048576) Y < 0) = true := by simpa using hneg
    go_wp2
    go_ret
    exact ⟨rfl, b0.trans (hB1.mono b0.size)⟩
  have hdl0 : decide (szS (1048576) Y < 0) = false := by simpa using hneg
  obtain ⟨hn0, hm0, _⟩ := szS_ok (by omega) hneg
  clear hneg
  have p0_0 := rangeAt_cell (rangeAt_below r0 hB1 s0) (k := 0) rfl
  have p0_1 := rangeAt_cell (rangeAt_below r0 hB1 s0) (k := 1) rfl
  go_wp2_with fail
  clear p0_0 p0_1
  refine (toSystem_any Y G J cg cj _ (hA0.go hB1) hn0 hm0).mono ?_
  rintro e w2 ⟨Gq1, Jq1, rfl, hQ1, hb2⟩
  have hB2 := hB1.trans (hb2.mono hB1.size)
  have z2 := hb2.size
  clear hB1
  go_wp2_with fail
  refine (HSP.out Gq1 Jq1 _ _ _ hQ1.at_).mono ?_
  rintro e w3 ⟨Aw, Dw, ccw, ddw, rfl, hPw, hb3⟩
  have hB3 := hB2.trans (hb3.mono hB2.size)
  have z3 := hb3.size
  clear hB2
  clear hQ1
  have pw0 := hPw.at_
  clear hPw
  have p0_0 := rangeAt_cell (rangeAt_below r0 hB3 s0) (k := 0) rfl
  have p0_1 := rangeAt_cell (rangeAt_below r0 hB3 s0) (k := 1) rfl
  have p0_a := rangeAt_below (rangeAt_below r0 hB3 s0) ((Below.refl _ _).alloc (Nat.le_refl _) (.cells #[.slice Aw R.sg.length ccw, .slice Dw R.mn.length ddw] 69)) (Nat.lt_of_lt_of_le s0 hB3.size)
  have p0_a0 := rangeAt_cell p0_a (k := 0) rfl
  have p0_a1 := rangeAt_cell p0_a (k := 1) rfl
  clear p0_a
  go_wp2_with fail
  clear p0_a0 p0_a1
  have bx4 : Below w3.heap.size w3 (w3.alloc (.cells #[.slice Aw R.sg.length ccw, .slice Dw R.mn.length ddw] 69)) := (Below.refl _ _).alloc (Nat.le_refl _) _
  have rx4 : (w3.alloc (.cells #[.slice Aw R.sg.length ccw, .slice Dw R.mn.length ddw] 69)).rangeAt w3.heap.size 0 [.slice Aw R.sg.length ccw, .slice Dw R.mn.length ddw] := rangeAt_new w3 [.slice Aw R.sg.length ccw, .slice Dw R.mn.length ddw] _
  have sx4 : w3.heap.size < (w3.alloc (.cells #[.slice Aw R.sg.length ccw, .slice Dw R.mn.length ddw] 69)).heap.size := by simp
  obtain ⟨w4, ew4⟩ : ∃ W, W = (w3.alloc (.cells #[.slice Aw R.sg.length ccw, .slice Dw R.mn.length ddw] 69)) := ⟨_, rfl⟩
  rw [← ew4] at bx4 rx4 sx4 ⊢
  clear ew4
  have bs4 := sx4
  clear p0_0 p0_1
  have hB4 := hB3.trans (bx4.mono hB3.size)
  have z4 := bx4.size
  have pw_4 := pw0.below (bx4.mono (by omega))
  clear pw0 hB3
  refine (toSystem_any Y G J cg cj _ (hA0.go hB4) hn0 hm0).mono ?_
  rintro e w5 ⟨Gq2, Jq2, rfl, hQ2, hb5⟩
  have hB5 := hB4.trans (hb5.mono hB4.size)
  have z5 := hb5.size
  have pw_5 := pw_4.below (hb5.mono (by omega))
  have bw_5 := rangeAt_below rx4 hb5 sx4
  have sbw_5 := Nat.lt_of_lt_of_le sx4 hb5.size
  clear pw_4 sx4 rx4 hB4
  have bd_x0 := And.intro hQ2.sg.blk hQ2.mn.blk
  have p0_0 := rangeAt_cell (rangeAt_below r0 hB5 s0) (k := 0) rfl
  have p0_1 := rangeAt_cell (rangeAt_below r0 hB5 s0) (k := 1) rfl
  have xbw_0 := rangeAt_cell bw_5 (k := 0) rfl
  have xbw_1 := rangeAt_cell bw_5 (k := 1) rfl
  have p0_a := rangeAt_below (rangeAt_below r0 hB5 s0) ((Below.refl _ _).alloc (Nat.le_refl _) (.cells #[.slice Gq2 Y.sg.length Y.sg.length, .slice Jq2 Y.mn.length Y.mn.length] 69)) (Nat.lt_of_lt_of_le s0 hB5.size)
  have p0_a0 := rangeAt_cell p0_a (k := 0) rfl
  have p0_a1 := rangeAt_cell p0_a (k := 1) rfl
  clear p0_a
  have xbw_a := rangeAt_below bw_5 ((Below.refl _ _).alloc (Nat.le_refl _) (.cells #[.slice Gq2 Y.sg.length Y.sg.length, .slice Jq2 Y.mn.length Y.mn.length] 69)) sbw_5
  have xbw_a0 := rangeAt_cell xbw_a (k := 0) rfl
  have xbw_a1 := rangeAt_cell xbw_a (k := 1) rfl
  clear xbw_a
  go_wp2_with fail
  clear p0_a0 p0_a1 xbw_a0 xbw_a1
  have bx6 : Below w5.heap.size w5 (w5.alloc (.cells #[.slice Gq2 Y.sg.length Y.sg.length, .slice Jq2 Y.mn.length Y.mn.length] 69)) := (Below.refl _ _).alloc (Nat.le_refl _) _
  have rx6 : (w5.alloc (.cells #[.slice Gq2 Y.sg.length Y.sg.length, .slice Jq2 Y.mn.length Y.mn.length] 69)).rangeAt w5.heap.size 0 [.slice Gq2 Y.sg.length Y.sg.length, .slice Jq2 Y.mn.length Y.mn.length] := rangeAt_new w5 [.slice Gq2 Y.sg.length Y.sg.length, .slice Jq2 Y.mn.length Y.mn.length] _
  have sx6 : w5.heap.size < (w5.alloc (.cells #[.slice Gq2 Y.sg.length Y.sg.length, .slice Jq2 Y.mn.length Y.mn.length] 69)).heap.size := by simp
  obtain ⟨w6, ew6⟩ : ∃ W, W = (w5.alloc (.cells #[.slice Gq2 Y.sg.length Y.sg.length, .slice Jq2 Y.mn.length Y.mn.length] 69)) := ⟨_, rfl⟩
  rw [← ew6] at bx6 rx6 sx6 ⊢
  clear ew6
  have bs6 := sx6
  clear p0_0 p0_1 xbw_0 xbw_1
  have hB6 := hB5.trans (bx6.mono hB5.size)
  have z6 := bx6.size
  have pw_6 := pw_5.below (bx6.mono (by omega))
  have bw_6 := rangeAt_below bw_5 bx6 sbw_5
  have sbw_6 := Nat.lt_of_lt_of_le sbw_5 bx6.size
  have d_x0_6 := hQ2.go bx6
  clear pw_5 sbw_5 bw_5 hQ2 hB5
  refine (HIM.out Gq2 Jq2 _ _ _ d_x0_6.at_).mono ?_
  rintro e w7 ⟨Ag, Dg, ccg, ddg, rfl, hPg, hb7⟩
  have hB7 := hB6.trans (hb7.mono hB6.size)
  have z7 := hb7.size
  have pw_7 := pw_6.below (hb7.mono (by omega))
  have bw_7 := rangeAt_below bw_6 hb7 sbw_6
  have sbw_7 := Nat.lt_of_lt_of_le sbw_6 hb7.size
  have d_x0_7 := d_x0_6.go hb7
  have x0_7 := rangeAt_below rx6 hb7 sx6
  have sx0_7 := Nat.lt_of_lt_of_le sx6 hb7.size
  clear pw_6 sbw_6 bw_6 d_x0_6 sx6 rx6 hB6
  have bd_g := And.intro hPg.sg.blk hPg.mn.blk
  have p0_0 := rangeAt_cell (rangeAt_below r0 hB7 s0) (k := 0) rfl
  have p0_1 := rangeAt_cell (rangeAt_below r0 hB7 s0) (k := 1) rfl
  have xbw_0 := rangeAt_cell bw_7 (k := 0) rfl
  have xbw_1 := rangeAt_cell bw_7 (k := 1) rfl
  have xx0_0 := rangeAt_cell x0_7 (k := 0) rfl
  have xx0_1 := rangeAt_cell x0_7 (k := 1) rfl
  have p0_a := rangeAt_below (rangeAt_below r0 hB7 s0) ((Below.refl _ _).alloc (Nat.le_refl _) (.cells #[.slice Ag R.sg.length ccg, .slice Dg R.mn.length ddg] 69)) (Nat.lt_of_lt_of_le s0 hB7.size)
  have p0_a0 := rangeAt_cell p0_a (k := 0) rfl
  have p0_a1 := rangeAt_cell p0_a (k := 1) rfl
  clear p0_a
  have xbw_a := rangeAt_below bw_7 ((Below.refl _ _).alloc (Nat.le_refl _) (.cells #[.slice Ag R.sg.length ccg, .slice Dg R.mn.length ddg] 69)) sbw_7
  have xbw_a0 := rangeAt_cell xbw_a (k := 0) rfl
  have xbw_a1 := rangeAt_cell xbw_a (k := 1) rfl
  clear xbw_a
  have xx0_a := rangeAt_below x0_7 ((Below.refl _ _).alloc (Nat.le_refl _) (.cells #[.slice Ag R.sg.length ccg, .slice Dg R.mn.length ddg] 69)) sx0_7
  have xx0_a0 := rangeAt_cell xx0_a (k := 0) rfl
  have xx0_a1 := rangeAt_cell xx0_a (k := 1) rfl
  clear xx0_a
  go_wp2_with fail
  clear p0_a0 p0_a1 xbw_a0 xbw_a1 xx0_a0 xx0_a1
  have bx8 : Below w7.heap.size w7 (w7.alloc (.cells #[.slice Ag R.sg.length ccg, .slice Dg R.mn.length ddg] 69)) := (Below.refl _ _).alloc (Nat.le_refl _) _
  have rx8 : (w7.alloc (.cells #[.slice Ag R.sg.length ccg, .slice Dg R.mn.length ddg] 69)).rangeAt w7.heap.size 0 [.slice Ag R.sg.length ccg, .slice Dg R.mn.length ddg] := rangeAt_new w7 [.slice Ag R.sg.length ccg, .slice Dg R.mn.length ddg] _
  have sx8 : w7.heap.size < (w7.alloc (.cells #[.slice Ag R.sg.length ccg, .slice Dg R.mn.length ddg] 69)).heap.size := by simp
  obtain ⟨w8, ew8⟩ : ∃ W, W = (w7.alloc (.cells #[.slice Ag R.sg.length ccg, .slice Dg R.mn.length ddg] 69)) := ⟨_, rfl⟩
  rw [← ew8] at bx8 rx8 sx8 ⊢
  clear ew8
  have bs8 := sx8
  clear p0_0 p0_1 xbw_0 xbw_1 xx0_0 xx0_1
  have hB8 := hB7.trans (bx8.mono hB7.size)
  have z8 := bx8.size
  have pw_8 := pw_7.below (bx8.mono (by omega))
  have bw_8 := rangeAt_below bw_7 bx8 sbw_7
  have sbw_8 := Nat.lt_of_lt_of_le sbw_7 bx8.size
  have d_x0_8 := d_x0_7.go bx8
  have x0_8 := rangeAt_below x0_7 bx8 sx0_7
  have sx0_8 := Nat.lt_of_lt_of_le sx0_7 bx8.size
  have pg_8 := hPg.go bx8
  clear pw_7 sbw_7 bw_7 d_x0_7 sx0_7 x0_7 hPg hB7
  refine (eqSystem_same R hRk Ag Dg Aw Dw _ _ _ _ _ pg_8.at_ (pw_8.mono (by omega))).mono ?_
  rintro e w9 ⟨rfl, hb9⟩
  have hB9 := hB8.trans (hb9.mono hB8.size)
  have z9 := hb9.size
  have pw_9 := pw_8.below (hb9.mono (by omega))
  have bw_9 := rangeAt_below bw_8 hb9 sbw_8
  have sbw_9 := Nat.lt_of_lt_of_le sbw_8 hb9.size
  have d_x0_9 := d_x0_8.go hb9
  have x0_9 := rangeAt_below x0_8 hb9 sx0_8
  have sx0_9 := Nat.lt_of_lt_of_le sx0_8 hb9.size
  have pg_9 := pg_8.go hb9
  have bg_9 := rangeAt_below rx8 hb9 sx8
  have sbg_9 := Nat.lt_of_lt_of_le sx8 hb9.size
  clear pw_8 sbw_8 bw_8 d_x0_8 sx0_8 x0_8 pg_8 sx8 rx8 hB8
  have hK9 : ∀ w', Below w9.heap.size w9 w' → _ := fun w' hb => keep2 hb x0_9 sx0_9 (rangeAt_below r0 hB9 s0) (Nat.lt_of_lt_of_le s0 hB9.size)
  have HH0 := hide (fun (w' : World) (hh : Below w9.heap.size w9 w') => hA0.go (hB9.trans (hh.mono hB9.size)))
  have HX0 := hide (fun (w' : World) (hh : Below w9.heap.size w9 w') => (d_x0_9.go hh).at_)
  go_wp2
  refine wp_region_take2 0 1 [2, 3, 4] 3 (vi := .agg #[.slice Gq2 Y.sg.length Y.sg.length, .slice Jq2 Y.mn.length Y.mn.length]) (vj := .agg #[.slice G Y.sg.length cg, .slice J Y.mn.length cj])
    (fun w' => Below w9.heap.size w9 w' ∧ w'.rangeAt w5.heap.size 0 [.slice Gq2 Y.sg.length Y.sg.length, .slice Jq2 Y.mn.length Y.mn.length] ∧ w'.rangeAt w.heap.size 0 [.slice G Y.sg.length cg, .slice J Y.mn.length cj])
    (by kernel_rfl) rfl (by decide) rfl rfl (by kernel_rfl) (by kernel_rfl) (by kernel_rfl) (by kernel_rfl) (by kernel_rfl) (by kernel_rfl) (fun _ _ _ h => h) (fun _ _ _ h => h)
    (yieldsIf_load_mid (by rfl) _ (.tmp 6) rfl _ 0 rfl _ _ (fun w h => h.2.1) Try.underlying69 rfl (by kernel_rfl)) (yieldsIf_load_mid (by rfl) _ (.tmp 1) rfl _ 0 rfl _ _ (fun w h => h.2.2) Try.underlying64 rfl (by kernel_rfl)) (hK9 _ (Below.refl _ _).drew) ?_
  simp only [Act.put, List.setIfInBounds_toArray, List.set_cons_zero, List.set_cons_succ]
  refine wpForced_cons rfl ?_
  go_wp2_with fail
  refine (toSystem_any Y G J cg cj _ (HH0.out _ ((Below.refl _ _).drew)) hn0 hm0).mono ?_
  rintro e wr ⟨Gr, Jr, rfl, hQr, hbr⟩
  have hX : Below w9.heap.size w9 wr := (Below.refl _ _).drew.trans hbr
  go_wp2_with fail
  refine ⟨hK9 _ hX, wpForced_cons rfl ?_⟩
  go_wp2_with fail
  refine (eqSystem_same Y hY Gq2 Jq2 _ _ _ _ _ _ _ (HX0.out _ hX) hQr.at_).mono ?_
  rintro e w10 ⟨rfl, hbe⟩
  have hb10 := hX.trans (hbe.mono hX.size)
  go_wp2_with fail
  refine ⟨hK9 _ hb10, wpForced_cons rfl ?_⟩
  go_wp2_with fail
  refine ⟨hK9 _ hb10, wpForced_nil ?_⟩
  clear hK9 HH0 HX0 hQr hbr hbe hX
  have hB10 := hB9.trans (hb10.mono hB9.size)
  have z10 := hb10.size
  have pw_10 := pw_9.below (hb10.mono (by omega))
  have bw_10 := rangeAt_below bw_9 hb10 sbw_9
  have sbw_10 := Nat.lt_of_lt_of_le sbw_9 hb10.size
  have d_x0_10 := d_x0_9.go hb10
  have x0_10 := rangeAt_below x0_9 hb10 sx0_9
  have sx0_10 := Nat.lt_of_lt_of_le sx0_9 hb10.size
  have pg_10 := pg_9.go hb10
  have bg_10 := rangeAt_below bg_9 hb10 sbg_9
  have sbg_10 := Nat.lt_of_lt_of_le sbg_9 hb10.size
  clear pw_9 sbw_9 bw_9 d_x0_9 sx0_9 x0_9 pg_9 sbg_9 bg_9 hB9
  have p0_0 := rangeAt_cell (rangeAt_below r0 hB10 s0) (k := 0) rfl
  have p0_1 := rangeAt_cell (rangeAt_below r0 hB10 s0) (k := 1) rfl
  have xbw_0 := rangeAt_cell bw_10 (k := 0) rfl
  have xbw_1 := rangeAt_cell bw_10 (k := 1) rfl
  have xx0_0 := rangeAt_cell x0_10 (k := 0) rfl
  have xx0_1 := rangeAt_cell x0_10 (k := 1) rfl
  have xbg_0 := rangeAt_cell bg_10 (k := 0) rfl
  have xbg_1 := rangeAt_cell bg_10 (k := 1) rfl
  go_wp2_with fail
  clear p0_0 p0_1 xbw_0 xbw_1 xx0_0 xx0_1 xbg_0 xbg_1
  refine (markSystem_any Y Gq2 Jq2 _ _ _ _ (by omega) (by omega) d_x0_10).mono ?_
  rintro e w12 ⟨rfl, ⟨w11, hg11, hg12⟩, _⟩
  have hB11 := hB10.trans (grown_toBelow hg11 (by omega) (fun k hk => by have := bd_x0.1 k hk; omega))
  have z11 := hg11.size
  have pw_11 := pw_10.below (grown_toBelow hg11 (by omega) (fun k hk => by have := bd_x0.1 k hk; omega))
  have bw_11 := grown_row hg11 bw_10 sbw_10 (fun e => by have hh := bd_x0.1 _ e.symm; omega)
  have sbw_11 := Nat.lt_of_lt_of_le sbw_10 hg11.size
  have pg_11 : SyIn _ _ _ _ _ := ⟨grown_rowsIn hg11 pg_10.sg (fun b hb e => by have h1 := bd_g.1 b hb; have h2 := bd_x0.1 _ e.symm; omega), grown_rowsIn hg11 pg_10.mn (fun b hb e => by have h1 := bd_g.2 b hb; have h2 := bd_x0.1 _ e.symm; omega), pg_10.ap⟩
  have bg_11 := grown_row hg11 bg_10 sbg_10 (fun e => by have hh := bd_x0.1 _ e.symm; omega)
  have sbg_11 := Nat.lt_of_lt_of_le sbg_10 hg11.size
  clear pw_10 sbw_10 bw_10 pg_10 sbg_10 bg_10 hB10
  have hB12 := hB11.trans (grown_toBelow hg12 (by omega) (fun k hk => by have := bd_x0.2 k hk; omega))
  have z12 := hg12.size
  have pw_12 := pw_11.below (grown_toBelow hg12 (by omega) (fun k hk => by have := bd_x0.2 k hk; omega))
  have bw_12 := grown_row hg12 bw_11 sbw_11 (fun e => by have hh := bd_x0.2 _ e.symm; omega)
  have sbw_12 := Nat.lt_of_lt_of_le sbw_11 hg12.size
  have pg_12 : SyIn _ _ _ _ _ := ⟨grown_rowsIn hg12 pg_11.sg (fun b hb e => by have h1 := bd_g.1 b hb; have h2 := bd_x0.2 _ e.symm; omega), grown_rowsIn hg12 pg_11.mn (fun b hb e => by have h1 := bd_g.2 b hb; have h2 := bd_x0.2 _ e.symm; omega), pg_11.ap⟩
  have bg_12 := grown_row hg12 bg_11 sbg_11 (fun e => by have hh := bd_x0.2 _ e.symm; omega)
  have sbg_12 := Nat.lt_of_lt_of_le sbg_11 hg12.size
  clear pw_11 sbw_11 bw_11 pg_11 sbg_11 bg_11 hB11
  have hdk : decide ((1 : Int) + 2 * Y.sg.length + 2 * Y.mn.length < 0) = false := by simp; omega
  clear d_x0_10
  have p0_0 := rangeAt_cell (rangeAt_below r0 hB12 s0) (k := 0) rfl
  have p0_1 := rangeAt_cell (rangeAt_below r0 hB12 s0) (k := 1) rfl
  have xbw_0 := rangeAt_cell bw_12 (k := 0) rfl
  have xbw_1 := rangeAt_cell bw_12 (k := 1) rfl
  have xbg_0 := rangeAt_cell bg_12 (k := 0) rfl
  have xbg_1 := rangeAt_cell bg_12 (k := 1) rfl
  go_wp2_with fail
  clear p0_0 p0_1 xbw_0 xbw_1 xbg_0 xbg_1
  refine (eqSystem_same R hRk Ag Dg Aw Dw _ _ _ _ _ pg_12.at_ (pw_12.mono (by omega))).mono ?_
  rintro e w13 ⟨rfl, hb13⟩
  have hB13 := hB12.trans (hb13.mono hB12.size)
  have z13 := hb13.size
  have pw_13 := pw_12.below (hb13.mono (by omega))
  have bw_13 := rangeAt_below bw_12 hb13 sbw_12
  have sbw_13 := Nat.lt_of_lt_of_le sbw_12 hb13.size
  have pg_13 := pg_12.go hb13
  have bg_13 := rangeAt_below bg_12 hb13 sbg_12
  have sbg_13 := Nat.lt_of_lt_of_le sbg_12 hb13.size
  clear pw_12 sbw_12 bw_12 pg_12 sbg_12 bg_12 hB12
  have p0_0 := rangeAt_cell (rangeAt_below r0 hB13 s0) (k := 0) rfl
  have p0_1 := rangeAt_cell (rangeAt_below r0 hB13 s0) (k := 1) rfl
  have xbw_0 := rangeAt_cell bw_13 (k := 0) rfl
  have xbw_1 := rangeAt_cell bw_13 (k := 1) rfl
  have xbg_0 := rangeAt_cell bg_13 (k := 0) rfl
  have xbg_1 := rangeAt_cell bg_13 (k := 1) rfl
  go_wp2_with fail
  clear p0_0 p0_1 xbw_0 xbw_1 xbg_0 xbg_1
  refine (markSystem_any R Ag Dg _ _ _ _ (by omega) (by omega) pg_13).mono ?_
  rintro e w15 ⟨rfl, ⟨w14, hg14, hg15⟩, hM⟩
  have hB14 := hB13.trans (grown_toBelow hg14 (by omega) (fun k hk => by have := bd_g.1 k hk; omega))
  have z14 := hg14.size
  have pw_14 := pw_13.below (grown_toBelow hg14 (by omega) (fun k hk => by have := bd_g.1 k hk; omega))
  have bw_14 := grown_row hg14 bw_13 sbw_13 (fun e => by have hh := bd_g.1 _ e.symm; omega)
  have sbw_14 := Nat.lt_of_lt_of_le sbw_13 hg14.size
  have bg_14 := grown_row hg14 bg_13 sbg_13 (fun e => by have hh := bd_g.1 _ e.symm; omega)
  have sbg_14 := Nat.lt_of_lt_of_le sbg_13 hg14.size
  clear pw_13 sbw_13 bw_13 sbg_13 bg_13 hB13
  have hB15 := hB14.trans (grown_toBelow hg15 (by omega) (fun k hk => by have := bd_g.2 k hk; omega))
  have z15 := hg15.size
  have pw_15 := pw_14.below (grown_toBelow hg15 (by omega) (fun k hk => by have := bd_g.2 k hk; omega))
  have bw_15 := grown_row hg15 bw_14 sbw_14 (fun e => by have hh := bd_g.2 _ e.symm; omega)
  have sbw_15 := Nat.lt_of_lt_of_le sbw_14 hg15.size
  have bg_15 := grown_row hg15 bg_14 sbg_14 (fun e => by have hh := bd_g.2 _ e.symm; omega)
  have sbg_15 := Nat.lt_of_lt_of_le sbg_14 hg15.size
  clear pw_14 sbw_14 bw_14 sbg_14 bg_14 hB14
  clear pg_13
  have hdq : decide (((1 : Int) + 2 * R.sg.length + 2 * R.mn.length) < 0) = false := by simp; omega
  have HH := hide (fun (W : World) (L : Nat) (h : SyMark W L Ag Dg R.sg.length R.mn.length) => heldSystem_any R Ag Dg ccg ddg L W (by omega) (by omega) h)
  generalize ((1 : Int) + 2 * R.sg.length + 2 * R.mn.length) = Qn at hdq HH ⊢
  have p0_0 := rangeAt_cell (rangeAt_below r0 hB15 s0) (k := 0) rfl
  have p0_1 := rangeAt_cell (rangeAt_below r0 hB15 s0) (k := 1) rfl
  have xbw_0 := rangeAt_cell bw_15 (k := 0) rfl
  have xbw_1 := rangeAt_cell bw_15 (k := 1) rfl
  have xbg_0 := rangeAt_cell bg_15 (k := 0) rfl
  have xbg_1 := rangeAt_cell bg_15 (k := 1) rfl
  go_wp2_with fail
  clear p0_0 p0_1 xbw_0 xbw_1 xbg_0 xbg_1
  refine (HH.out _ _ hM).mono ?_
  rintro e w16 ⟨rfl, hb16⟩
  have hB16 := hB15.trans (hb16.mono hB15.size)
  have z16 := hb16.size
  have pw_16 := pw_15.below (hb16.mono (by omega))
  have bw_16 := rangeAt_below bw_15 hb16 sbw_15
  have sbw_16 := Nat.lt_of_lt_of_le sbw_15 hb16.size
  have bg_16 := rangeAt_below bg_15 hb16 sbg_15
  have sbg_16 := Nat.lt_of_lt_of_le sbg_15 hb16.size
  have pm_16 := hM.go hb16
  clear pw_15 sbw_15 bw_15 sbg_15 bg_15 hM hB15
  have p0_0 := rangeAt_cell (rangeAt_below r0 hB16 s0) (k := 0) rfl
  have p0_1 := rangeAt_cell (rangeAt_below r0 hB16 s0) (k := 1) rfl
  have xbw_0 := rangeAt_cell bw_16 (k := 0) rfl
  have xbw_1 := rangeAt_cell bw_16 (k := 1) rfl
  have xbg_0 := rangeAt_cell bg_16 (k := 0) rfl
  have xbg_1 := rangeAt_cell bg_16 (k := 1) rfl
  go_wp2_with fail
  clear p0_0 p0_1 xbw_0 xbw_1 xbg_0 xbg_1
  refine (toSystem_any Y G J cg cj _ (hA0.go hB16) hn0 hm0).mono ?_
  rintro e w17 ⟨Gq3, Jq3, rfl, hQ3, hb17⟩
  have hB17 := hB16.trans (hb17.mono hB16.size)
  have z17 := hb17.size
  have pw_17 := pw_16.below (hb17.mono (by omega))
  have bw_17 := rangeAt_below bw_16 hb17 sbw_16
  have sbw_17 := Nat.lt_of_lt_of_le sbw_16 hb17.size
  have bg_17 := rangeAt_below bg_16 hb17 sbg_16
  have sbg_17 := Nat.lt_of_lt_of_le sbg_16 hb17.size
  have pm_17 := pm_16.go hb17
  clear pw_16 sbw_16 bw_16 sbg_16 bg_16 pm_16 hB16
  go_wp2_with fail
  refine (HIM.out Gq3 Jq3 _ _ _ hQ3.at_).mono ?_
  rintro e w18 ⟨Ah, Dh, cch, ddh, rfl, hPh, hb18⟩
  have hB18 := hB17.trans (hb18.mono hB17.size)
  have z18 := hb18.size
  have pw_18 := pw_17.below (hb18.mono (by omega))
  have bw_18 := rangeAt_below bw_17 hb18 sbw_17
  have sbw_18 := Nat.lt_of_lt_of_le sbw_17 hb18.size
  have bg_18 := rangeAt_below bg_17 hb18 sbg_17
  have sbg_18 := Nat.lt_of_lt_of_le sbg_17 hb18.size
  have pm_18 := pm_17.go hb18
  clear pw_17 sbw_17 bw_17 sbg_17 bg_17 pm_17 hB17
  clear hQ3
  have bd_h := And.intro hPh.sg.blk hPh.mn.blk
  have p0_0 := rangeAt_cell (rangeAt_below r0 hB18 s0) (k := 0) rfl
  have p0_1 := rangeAt_cell (rangeAt_below r0 hB18 s0) (k := 1) rfl
  have xbw_0 := rangeAt_cell bw_18 (k := 0) rfl
  have xbw_1 := rangeAt_cell bw_18 (k := 1) rfl
  have xbg_0 := rangeAt_cell bg_18 (k := 0) rfl
  have xbg_1 := rangeAt_cell bg_18 (k := 1) rfl
  have p0_a := rangeAt_below (rangeAt_below r0 hB18 s0) ((Below.refl _ _).alloc (Nat.le_refl _) (.cells #[.slice Ah R.sg.length cch, .slice Dh R.mn.length ddh] 69)) (Nat.lt_of_lt_of_le s0 hB18.size)
  have p0_a0 := rangeAt_cell p0_a (k := 0) rfl
  have p0_a1 := rangeAt_cell p0_a (k := 1) rfl
  clear p0_a
  have xbw_a := rangeAt_below bw_18 ((Below.refl _ _).alloc (Nat.le_refl _) (.cells #[.slice Ah R.sg.length cch, .slice Dh R.mn.length ddh] 69)) sbw_18
  have xbw_a0 := rangeAt_cell xbw_a (k := 0) rfl
  have xbw_a1 := rangeAt_cell xbw_a (k := 1) rfl
  clear xbw_a
  have xbg_a := rangeAt_below bg_18 ((Below.refl _ _).alloc (Nat.le_refl _) (.cells #[.slice Ah R.sg.length cch, .slice Dh R.mn.length ddh] 69)) sbg_18
  have xbg_a0 := rangeAt_cell xbg_a (k := 0) rfl
  have xbg_a1 := rangeAt_cell xbg_a (k := 1) rfl
  clear xbg_a
  go_wp2_with fail
  clear p0_a0 p0_a1 xbw_a0 xbw_a1 xbg_a0 xbg_a1
  have bx19 : Below w18.heap.size w18 (w18.alloc (.cells #[.slice Ah R.sg.length cch, .slice Dh R.mn.length ddh] 69)) := (Below.refl _ _).alloc (Nat.le_refl _) _
  have rx19 : (w18.alloc (.cells #[.slice Ah R.sg.length cch, .slice Dh R.mn.length ddh] 69)).rangeAt w18.heap.size 0 [.slice Ah R.sg.length cch, .slice Dh R.mn.length ddh] := rangeAt_new w18 [.slice Ah R.sg.length cch, .slice Dh R.mn.length ddh] _
  have sx19 : w18.heap.size < (w18.alloc (.cells #[.slice Ah R.sg.length cch, .slice Dh R.mn.length ddh] 69)).heap.size := by simp
  obtain ⟨w19, ew19⟩ : ∃ W, W = (w18.alloc (.cells #[.slice Ah R.sg.length cch, .slice Dh R.mn.length ddh] 69)) := ⟨_, rfl⟩
  rw [← ew19] at bx19 rx19 sx19 ⊢
  clear ew19
  have bs19 := sx19
  clear p0_0 p0_1 xbw_0 xbw_1 xbg_0 xbg_1
  have hB19 := hB18.trans (bx19.mono hB18.size)
  have z19 := bx19.size
  have pw_19 := pw_18.below (bx19.mono (by omega))
  have bw_19 := rangeAt_below bw_18 bx19 sbw_18
  have sbw_19 := Nat.lt_of_lt_of_le sbw_18 bx19.size
  have bg_19 := rangeAt_below bg_18 bx19 sbg_18
  have sbg_19 := Nat.lt_of_lt_of_le sbg_18 bx19.size
  have pm_19 := pm_18.go bx19
  have ph_19 := hPh.go bx19
  clear pw_18 sbw_18 bw_18 sbg_18 bg_18 pm_18 hPh hB18
  refine (eqSystem_same R hRk Ah Dh Aw Dw _ _ _ _ _ ph_19.at_ (pw_19.mono (by omega))).mono ?_
  rintro e w20 ⟨rfl, hb20⟩
  have hB20 := hB19.trans (hb20.mono hB19.size)
  have z20 := hb20.size
  have pw_20 := pw_19.below (hb20.mono (by omega))
  have bw_20 := rangeAt_below bw_19 hb20 sbw_19
  have sbw_20 := Nat.lt_of_lt_of_le sbw_19 hb20.size
  have bg_20 := rangeAt_below bg_19 hb20 sbg_19
  have sbg_20 := Nat.lt_of_lt_of_le sbg_19 hb20.size
  have pm_20 := pm_19.go hb20
  have ph_20 := ph_19.go hb20
  have bh_20 := rangeAt_below rx19 hb20 sx19
  have sbh_20 := Nat.lt_of_lt_of_le sx19 hb20.size
  clear pw_19 sbw_19 bw_19 sbg_19 bg_19 pm_19 ph_19 sx19 rx19 hB19
  clear ph_20
  have p0_0 := rangeAt_cell (rangeAt_below r0 hB20 s0) (k := 0) rfl
  have p0_1 := rangeAt_cell (rangeAt_below r0 hB20 s0) (k := 1) rfl
  have xbw_0 := rangeAt_cell bw_20 (k := 0) rfl
  have xbw_1 := rangeAt_cell bw_20 (k := 1) rfl
  have xbg_0 := rangeAt_cell bg_20 (k := 0) rfl
  have xbg_1 := rangeAt_cell bg_20 (k := 1) rfl
  go_wp2_with fail
  clear p0_0 p0_1 xbw_0 xbw_1 xbg_0 xbg_1
  refine (HH.out _ _ pm_20).mono ?_
  rintro e w21 ⟨rfl, hb21⟩
  have hB21 := hB20.trans (hb21.mono hB20.size)
  have z21 := hb21.size
  have pw_21 := pw_20.below (hb21.mono (by omega))
  have bw_21 := rangeAt_below bw_20 hb21 sbw_20
  have sbw_21 := Nat.lt_of_lt_of_le sbw_20 hb21.size
  have bg_21 := rangeAt_below bg_20 hb21 sbg_20
  have sbg_21 := Nat.lt_of_lt_of_le sbg_20 hb21.size
  have pm_21 := pm_20.go hb21
  clear pw_20 sbw_20 bw_20 sbg_20 bg_20 pm_20 hB20
  go_wp2
  go_ret
  exact ⟨rfl, b0.trans (hB21.mono b0.size)⟩
end Go.Proofs.Ytgklhdacnklhdaa
