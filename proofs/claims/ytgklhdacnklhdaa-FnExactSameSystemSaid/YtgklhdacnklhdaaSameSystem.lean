/- SameSystem: the model and the program give the same answer for every argument. -/
import Derived.Test.YtgklhdacnklhdaaSySameS
import Derived.Test.YtgklhdacnklhdaaSys
namespace Go.Proofs.Ytgklhdacnklhdaa
open Go.RowKit

set_option maxRecDepth 100000 in
set_option maxHeartbeats 16000000 in
theorem lawSameSystem_any (Y : Sy) (hY : Y.ok) (G J : Option Addr) (cg cj : Nat) (Z : Sy) (hZ : Z.ok) (G' J' : Option Addr) (cg' cj' : Nat) (w : World) (hG : SyAt w w.heap.size G J Y) (hG' : SyAt w w.heap.size G' J' Z) :
    Calls Try.prog 8 #[sv Y G J cg cj, sv Z G' J' cg' cj'] w fun e w' => e = .returned (.bool true) ∧ Below w.heap.size w w' := by
  have b0 : Below w.heap.size w ((w.alloc (.cells #[.slice G Y.sg.length cg, .slice J Y.mn.length cj] 64)).alloc (.cells #[.slice G' Z.sg.length cg', .slice J' Z.mn.length cj'] 64)) := ((Below.refl _ _).alloc (Nat.le_refl _) _).alloc (by simp) _
  have r0 : ((w.alloc (.cells #[.slice G Y.sg.length cg, .slice J Y.mn.length cj] 64)).alloc (.cells #[.slice G' Z.sg.length cg', .slice J' Z.mn.length cj'] 64)).rangeAt w.heap.size 0 [.slice G Y.sg.length cg, .slice J Y.mn.length cj] := World.rangeAt_alloc (rangeAt_new w [.slice G Y.sg.length cg, .slice J Y.mn.length cj] _) _
  have s0 : w.heap.size < ((w.alloc (.cells #[.slice G Y.sg.length cg, .slice J Y.mn.length cj] 64)).alloc (.cells #[.slice G' Z.sg.length cg', .slice J' Z.mn.length cj'] 64)).heap.size := by simp only [World.size_alloc]; omega
  have r1 : ((w.alloc (.cells #[.slice G Y.sg.length cg, .slice J Y.mn.length cj] 64)).alloc (.cells #[.slice G' Z.sg.length cg', .slice J' Z.mn.length cj'] 64)).rangeAt (w.heap.size + 1) 0 [.slice G' Z.sg.length cg', .slice J' Z.mn.length cj'] := rangeAt_newg (by simp) rfl
  have s1 : (w.heap.size + 1) < ((w.alloc (.cells #[.slice G Y.sg.length cg, .slice J Y.mn.length cj] 64)).alloc (.cells #[.slice G' Z.sg.length cg', .slice J' Z.mn.length cj'] 64)).heap.size := by simp only [World.size_alloc]; omega
  go_enter Try.func8, Try.ntmps8
  go_wp2_with fail
  generalize ((w.alloc (.cells #[.slice G Y.sg.length cg, .slice J Y.mn.length cj] 64)).alloc (.cells #[.slice G' Z.sg.length cg', .slice J' Z.mn.length cj'] 64)) = W0 at *
  have hws := b0.size
  have hA0 := (hG.below b0).mono b0.size
  have hA1 := (hG'.below b0).mono b0.size
  refine (szSystem_any Y hY G J cg cj (1048576) _ (by omega) (by omega)).mono ?_
  rintro e w1 ⟨rfl, hb1⟩
  have hB1 := hb1
  have z1 := hb1.size
  by_cases hneg : szS (1048576) Y < 0
  · have hdl : decide (szS (1048576) Y < 0) = true := by simpa using hneg
    go_wp2
    go_ret
    exact ⟨rfl, b0.trans (hB1.mono b0.size)⟩
  have hdl0 : decide (szS (1048576) Y < 0) = false := by simpa using hneg
  obtain ⟨hn0, hm0, _⟩ := szS_ok (by omega) hneg
  clear hneg
  have p0_0 := rangeAt_cell (rangeAt_below r0 hB1 s0) (k := 0) rfl
  have p0_1 := rangeAt_cell (rangeAt_below r0 hB1 s0) (k := 1) rfl
  have p1_0 := rangeAt_cell (rangeAt_below r1 hB1 s1) (k := 0) rfl
  have p1_1 := rangeAt_cell (rangeAt_below r1 hB1 s1) (k := 1) rfl
  go_wp2_with fail
  clear p0_0 p0_1 p1_0 p1_1
  refine (szSystem_any Z hZ G' J' cg' cj' (szS (1048576) Y) _ (szS_bd (by omega) (by omega)).1 (szS_bd (by omega) (by omega)).2).mono ?_
  rintro e w2 ⟨rfl, hb2⟩
  have hB2 := hB1.trans (hb2.mono hB1.size)
  have z2 := hb2.size
  clear hB1
  by_cases hneg : szS (szS (1048576) Y) Z < 0
  · have hdl : decide (szS (szS (1048576) Y) Z < 0) = true := by simpa using hneg
    go_wp2
    go_ret
    exact ⟨rfl, b0.trans (hB2.mono b0.size)⟩
  have hdl1 : decide (szS (szS (1048576) Y) Z < 0) = false := by simpa using hneg
  obtain ⟨hn1, hm1, _⟩ := szS_ok (szS_bd (by omega) (by omega)).2 hneg
  clear hneg
  have hK : ∀ w', Below w2.heap.size w2 w' → _ := fun w' hb => keep2 hb (rangeAt_below r0 hB2 s0) (Nat.lt_of_lt_of_le s0 hB2.size) (rangeAt_below r1 hB2 s1) (Nat.lt_of_lt_of_le s1 hB2.size)
  have HH0 := hide (fun (w' : World) (hh : Below w2.heap.size w2 w') => hA0.go (hB2.trans (hh.mono hB2.size)))
  have HH1 := hide (fun (w' : World) (hh : Below w2.heap.size w2 w') => hA1.go (hB2.trans (hh.mono hB2.size)))
  go_wp2
  refine wp_region_take2 0 2 [1, 3, 4, 5] 4 (vi := .agg #[.slice G Y.sg.length cg, .slice J Y.mn.length cj]) (vj := .agg #[.slice G' Z.sg.length cg', .slice J' Z.mn.length cj'])
    (fun w' => Below w2.heap.size w2 w' ∧ w'.rangeAt w.heap.size 0 [.slice G Y.sg.length cg, .slice J Y.mn.length cj] ∧ w'.rangeAt (w.heap.size + 1) 0 [.slice G' Z.sg.length cg', .slice J' Z.mn.length cj'])
    (by kernel_rfl) rfl (by decide) rfl rfl (by kernel_rfl) (by kernel_rfl) (by kernel_rfl) (by kernel_rfl) (by kernel_rfl) (by kernel_rfl) (fun _ _ _ h => h) (fun _ _ _ h => h)
    (yieldsIf_load_mid (by rfl) _ (.tmp 2) rfl _ 0 rfl _ _ (fun w h => h.2.1) Try.underlying64 rfl (by kernel_rfl)) (yieldsIf_load_mid (by rfl) _ (.tmp 3) rfl _ 0 rfl _ _ (fun w h => h.2.2) Try.underlying64 rfl (by kernel_rfl)) (hK _ (Below.refl _ _).drew) ?_
  simp only [Act.put, List.setIfInBounds_toArray, List.set_cons_zero, List.set_cons_succ]
  refine wpForced_cons rfl ?_
  go_wp2_with fail
  refine (toSystem_any Y G J cg cj _ (HH0.out _ ((Below.refl _ _).drew)) hn0 hm0).mono ?_
  rintro e wa0 ⟨Ga0, Ja0, rfl, hQa0, hba0⟩
  have hX0 : Below w2.heap.size w2 wa0 := (Below.refl _ _).drew.trans hba0
  go_wp2_with fail
  refine ⟨hK _ hX0, wpForced_cons rfl ?_⟩
  go_wp2_with fail
  refine (toSystem_any Z G' J' cg' cj' _ (HH1.out _ hX0) hn1 hm1).mono ?_
  rintro e wa1 ⟨Ga1, Ja1, rfl, hQa1, hba1⟩
  have hX1 : Below w2.heap.size w2 wa1 := hX0.trans (hba1.mono hX0.size)
  go_wp2_with fail
  refine ⟨hK _ hX1, wpForced_cons rfl ?_⟩
  go_wp2_with fail
  refine (specSameSystem_any Y Z hY hZ Ga0 Ja0 Ga1 Ja1 _ _ _ _ _ ((hQa0.go hba1).at_) hQa1.at_).mono ?_
  rintro e wa2 ⟨rfl, hba2⟩
  have hX2 := hX1.trans (hba2.mono hX1.size)
  go_wp2_with fail
  refine ⟨hK _ hX2, wpForced_cons rfl ?_⟩
  go_wp2_with fail
  refine ⟨hK _ hX2, wpForced_nil ?_⟩
  obtain ⟨w3, ew⟩ : ∃ W, W = wa2 := ⟨_, rfl⟩
  subst ew
  clear hK HH0 HH1 hX0 hX1 hba0 hba1 hba2 hQa0 hQa1
  have hB3 := hB2.trans (hX2.mono hB2.size)
  have z3 := hX2.size
  clear hB2
  have p0_0 := rangeAt_cell (rangeAt_below r0 hB3 s0) (k := 0) rfl
  have p0_1 := rangeAt_cell (rangeAt_below r0 hB3 s0) (k := 1) rfl
  have p1_0 := rangeAt_cell (rangeAt_below r1 hB3 s1) (k := 0) rfl
  have p1_1 := rangeAt_cell (rangeAt_below r1 hB3 s1) (k := 1) rfl
  go_wp2_with fail
  clear p0_0 p0_1 p1_0 p1_1
  refine (toSystem_any Y G J cg cj _ (hA0.go hB3) hn0 hm0).mono ?_
  rintro e w4 ⟨Gq1, Jq1, rfl, hQ1, hb4⟩
  have hB4 := hB3.trans (hb4.mono hB3.size)
  have z4 := hb4.size
  clear hB3
  have p0_0 := rangeAt_cell (rangeAt_below r0 hB4 s0) (k := 0) rfl
  have p0_1 := rangeAt_cell (rangeAt_below r0 hB4 s0) (k := 1) rfl
  have p1_0 := rangeAt_cell (rangeAt_below r1 hB4 s1) (k := 0) rfl
  have p1_1 := rangeAt_cell (rangeAt_below r1 hB4 s1) (k := 1) rfl
  have p0_a := rangeAt_below (rangeAt_below r0 hB4 s0) ((Below.refl _ _).alloc (Nat.le_refl _) (.cells #[.slice Gq1 Y.sg.length Y.sg.length, .slice Jq1 Y.mn.length Y.mn.length] 69)) (Nat.lt_of_lt_of_le s0 hB4.size)
  have p0_a0 := rangeAt_cell p0_a (k := 0) rfl
  have p0_a1 := rangeAt_cell p0_a (k := 1) rfl
  clear p0_a
  have p1_a := rangeAt_below (rangeAt_below r1 hB4 s1) ((Below.refl _ _).alloc (Nat.le_refl _) (.cells #[.slice Gq1 Y.sg.length Y.sg.length, .slice Jq1 Y.mn.length Y.mn.length] 69)) (Nat.lt_of_lt_of_le s1 hB4.size)
  have p1_a0 := rangeAt_cell p1_a (k := 0) rfl
  have p1_a1 := rangeAt_cell p1_a (k := 1) rfl
  clear p1_a
  go_wp2_with fail
  clear p0_a0 p0_a1 p1_a0 p1_a1
  have bx5 : Below w4.heap.size w4 (w4.alloc (.cells #[.slice Gq1 Y.sg.length Y.sg.length, .slice Jq1 Y.mn.length Y.mn.length] 69)) := (Below.refl _ _).alloc (Nat.le_refl _) _
  have rx5 : (w4.alloc (.cells #[.slice Gq1 Y.sg.length Y.sg.length, .slice Jq1 Y.mn.length Y.mn.length] 69)).rangeAt w4.heap.size 0 [.slice Gq1 Y.sg.length Y.sg.length, .slice Jq1 Y.mn.length Y.mn.length] := rangeAt_new w4 [.slice Gq1 Y.sg.length Y.sg.length, .slice Jq1 Y.mn.length Y.mn.length] _
  have sx5 : w4.heap.size < (w4.alloc (.cells #[.slice Gq1 Y.sg.length Y.sg.length, .slice Jq1 Y.mn.length Y.mn.length] 69)).heap.size := by simp
  obtain ⟨w5, ew5⟩ : ∃ W, W = (w4.alloc (.cells #[.slice Gq1 Y.sg.length Y.sg.length, .slice Jq1 Y.mn.length Y.mn.length] 69)) := ⟨_, rfl⟩
  rw [← ew5] at bx5 rx5 sx5 ⊢
  clear ew5
  have bs5 := sx5
  clear p0_0 p0_1 p1_0 p1_1
  have hB5 := hB4.trans (bx5.mono hB4.size)
  have z5 := bx5.size
  have d_x0_5 := hQ1.go bx5
  clear hQ1 hB4
  refine (toSystem_any Z G' J' cg' cj' _ (hA1.go hB5) hn1 hm1).mono ?_
  rintro e w6 ⟨Gq2, Jq2, rfl, hQ2, hb6⟩
  have hB6 := hB5.trans (hb6.mono hB5.size)
  have z6 := hb6.size
  have d_x0_6 := d_x0_5.go hb6
  have x0_6 := rangeAt_below rx5 hb6 sx5
  have sx0_6 := Nat.lt_of_lt_of_le sx5 hb6.size
  clear d_x0_5 sx5 rx5 hB5
  have p0_0 := rangeAt_cell (rangeAt_below r0 hB6 s0) (k := 0) rfl
  have p0_1 := rangeAt_cell (rangeAt_below r0 hB6 s0) (k := 1) rfl
  have p1_0 := rangeAt_cell (rangeAt_below r1 hB6 s1) (k := 0) rfl
  have p1_1 := rangeAt_cell (rangeAt_below r1 hB6 s1) (k := 1) rfl
  have xx0_0 := rangeAt_cell x0_6 (k := 0) rfl
  have xx0_1 := rangeAt_cell x0_6 (k := 1) rfl
  have p0_a := rangeAt_below (rangeAt_below r0 hB6 s0) ((Below.refl _ _).alloc (Nat.le_refl _) (.cells #[.slice Gq2 Z.sg.length Z.sg.length, .slice Jq2 Z.mn.length Z.mn.length] 69)) (Nat.lt_of_lt_of_le s0 hB6.size)
  have p0_a0 := rangeAt_cell p0_a (k := 0) rfl
  have p0_a1 := rangeAt_cell p0_a (k := 1) rfl
  clear p0_a
  have p1_a := rangeAt_below (rangeAt_below r1 hB6 s1) ((Below.refl _ _).alloc (Nat.le_refl _) (.cells #[.slice Gq2 Z.sg.length Z.sg.length, .slice Jq2 Z.mn.length Z.mn.length] 69)) (Nat.lt_of_lt_of_le s1 hB6.size)
  have p1_a0 := rangeAt_cell p1_a (k := 0) rfl
  have p1_a1 := rangeAt_cell p1_a (k := 1) rfl
  clear p1_a
  have xx0_a := rangeAt_below x0_6 ((Below.refl _ _).alloc (Nat.le_refl _) (.cells #[.slice Gq2 Z.sg.length Z.sg.length, .slice Jq2 Z.mn.length Z.mn.length] 69)) sx0_6
  have xx0_a0 := rangeAt_cell xx0_a (k := 0) rfl
  have xx0_a1 := rangeAt_cell xx0_a (k := 1) rfl
  clear xx0_a
  go_wp2_with fail
  clear p0_a0 p0_a1 p1_a0 p1_a1 xx0_a0 xx0_a1
  have bx7 : Below w6.heap.size w6 (w6.alloc (.cells #[.slice Gq2 Z.sg.length Z.sg.length, .slice Jq2 Z.mn.length Z.mn.length] 69)) := (Below.refl _ _).alloc (Nat.le_refl _) _
  have rx7 : (w6.alloc (.cells #[.slice Gq2 Z.sg.length Z.sg.length, .slice Jq2 Z.mn.length Z.mn.length] 69)).rangeAt w6.heap.size 0 [.slice Gq2 Z.sg.length Z.sg.length, .slice Jq2 Z.mn.length Z.mn.length] := rangeAt_new w6 [.slice Gq2 Z.sg.length Z.sg.length, .slice Jq2 Z.mn.length Z.mn.length] _
  have sx7 : w6.heap.size < (w6.alloc (.cells #[.slice Gq2 Z.sg.length Z.sg.length, .slice Jq2 Z.mn.length Z.mn.length] 69)).heap.size := by simp
  obtain ⟨w7, ew7⟩ : ∃ W, W = (w6.alloc (.cells #[.slice Gq2 Z.sg.length Z.sg.length, .slice Jq2 Z.mn.length Z.mn.length] 69)) := ⟨_, rfl⟩
  rw [← ew7] at bx7 rx7 sx7 ⊢
  clear ew7
  have bs7 := sx7
  clear p0_0 p0_1 p1_0 p1_1 xx0_0 xx0_1
  have hB7 := hB6.trans (bx7.mono hB6.size)
  have z7 := bx7.size
  have d_x0_7 := d_x0_6.go bx7
  have x0_7 := rangeAt_below x0_6 bx7 sx0_6
  have sx0_7 := Nat.lt_of_lt_of_le sx0_6 bx7.size
  have d_x1_7 := hQ2.go bx7
  clear d_x0_6 sx0_6 x0_6 hQ2 hB6
  refine (implSameSystem_any Y Z hY hZ Gq1 Jq1 Gq2 Jq2 _ _ _ _ _ d_x0_7.at_ d_x1_7.at_).mono ?_
  rintro e w8 ⟨rfl, hb8⟩
  have hB8 := hB7.trans (hb8.mono hB7.size)
  have z8 := hb8.size
  have d_x0_8 := d_x0_7.go hb8
  have x0_8 := rangeAt_below x0_7 hb8 sx0_7
  have sx0_8 := Nat.lt_of_lt_of_le sx0_7 hb8.size
  have d_x1_8 := d_x1_7.go hb8
  have x1_8 := rangeAt_below rx7 hb8 sx7
  have sx1_8 := Nat.lt_of_lt_of_le sx7 hb8.size
  clear d_x0_7 sx0_7 x0_7 d_x1_7 sx7 rx7 hB7
  have hK8 : ∀ w', Below w8.heap.size w8 w' → _ := fun w' hb => keep2 hb x0_8 sx0_8 (rangeAt_below r0 hB8 s0) (Nat.lt_of_lt_of_le s0 hB8.size)
  have HH0 := hide (fun (w' : World) (hh : Below w8.heap.size w8 w') => hA0.go (hB8.trans (hh.mono hB8.size)))
  have HX0 := hide (fun (w' : World) (hh : Below w8.heap.size w8 w') => (d_x0_8.go hh).at_)
  go_wp2
  refine wp_region_take2 0 1 [2, 3, 4] 3 (vi := .agg #[.slice Gq1 Y.sg.length Y.sg.length, .slice Jq1 Y.mn.length Y.mn.length]) (vj := .agg #[.slice G Y.sg.length cg, .slice J Y.mn.length cj])
    (fun w' => Below w8.heap.size w8 w' ∧ w'.rangeAt w4.heap.size 0 [.slice Gq1 Y.sg.length Y.sg.length, .slice Jq1 Y.mn.length Y.mn.length] ∧ w'.rangeAt w.heap.size 0 [.slice G Y.sg.length cg, .slice J Y.mn.length cj])
    (by kernel_rfl) rfl (by decide) rfl rfl (by kernel_rfl) (by kernel_rfl) (by kernel_rfl) (by kernel_rfl) (by kernel_rfl) (by kernel_rfl) (fun _ _ _ h => h) (fun _ _ _ h => h)
    (yieldsIf_load_mid (by rfl) _ (.tmp 7) rfl _ 0 rfl _ _ (fun w h => h.2.1) Try.underlying69 rfl (by kernel_rfl)) (yieldsIf_load_mid (by rfl) _ (.tmp 2) rfl _ 0 rfl _ _ (fun w h => h.2.2) Try.underlying64 rfl (by kernel_rfl)) (hK8 _ (Below.refl _ _).drew) ?_
  simp only [Act.put, List.setIfInBounds_toArray, List.set_cons_zero, List.set_cons_succ]
  refine wpForced_cons rfl ?_
  go_wp2_with fail
  refine (toSystem_any Y G J cg cj _ (HH0.out _ ((Below.refl _ _).drew)) hn0 hm0).mono ?_
  rintro e wr ⟨Gr, Jr, rfl, hQr, hbr⟩
  have hX : Below w8.heap.size w8 wr := (Below.refl _ _).drew.trans hbr
  go_wp2_with fail
  refine ⟨hK8 _ hX, wpForced_cons rfl ?_⟩
  go_wp2_with fail
  refine (eqSystem_same Y hY Gq1 Jq1 _ _ _ _ _ _ _ (HX0.out _ hX) hQr.at_).mono ?_
  rintro e w9 ⟨rfl, hbe⟩
  have hb9 := hX.trans (hbe.mono hX.size)
  go_wp2_with fail
  refine ⟨hK8 _ hb9, wpForced_cons rfl ?_⟩
  go_wp2_with fail
  refine ⟨hK8 _ hb9, wpForced_nil ?_⟩
  clear hK8 HH0 HX0 hQr hbr hbe hX
  have hB9 := hB8.trans (hb9.mono hB8.size)
  have z9 := hb9.size
  have d_x0_9 := d_x0_8.go hb9
  have x0_9 := rangeAt_below x0_8 hb9 sx0_8
  have sx0_9 := Nat.lt_of_lt_of_le sx0_8 hb9.size
  have d_x1_9 := d_x1_8.go hb9
  have x1_9 := rangeAt_below x1_8 hb9 sx1_8
  have sx1_9 := Nat.lt_of_lt_of_le sx1_8 hb9.size
  clear d_x0_8 sx0_8 x0_8 d_x1_8 sx1_8 x1_8 hB8
  have hK9 : ∀ w', Below w9.heap.size w9 w' → _ := fun w' hb => keep2 hb x1_9 sx1_9 (rangeAt_below r1 hB9 s1) (Nat.lt_of_lt_of_le s1 hB9.size)
  have HH0 := hide (fun (w' : World) (hh : Below w9.heap.size w9 w') => hA1.go (hB9.trans (hh.mono hB9.size)))
  have HX0 := hide (fun (w' : World) (hh : Below w9.heap.size w9 w') => (d_x1_9.go hh).at_)
  go_wp2
  refine wp_region_take2 0 1 [2, 3, 4] 3 (vi := .agg #[.slice Gq2 Z.sg.length Z.sg.length, .slice Jq2 Z.mn.length Z.mn.length]) (vj := .agg #[.slice G' Z.sg.length cg', .slice J' Z.mn.length cj'])
    (fun w' => Below w9.heap.size w9 w' ∧ w'.rangeAt w6.heap.size 0 [.slice Gq2 Z.sg.length Z.sg.length, .slice Jq2 Z.mn.length Z.mn.length] ∧ w'.rangeAt (w.heap.size + 1) 0 [.slice G' Z.sg.length cg', .slice J' Z.mn.length cj'])
    (by kernel_rfl) rfl (by decide) rfl rfl (by kernel_rfl) (by kernel_rfl) (by kernel_rfl) (by kernel_rfl) (by kernel_rfl) (by kernel_rfl) (fun _ _ _ h => h) (fun _ _ _ h => h)
    (yieldsIf_load_mid (by rfl) _ (.tmp 8) rfl _ 0 rfl _ _ (fun w h => h.2.1) Try.underlying69 rfl (by kernel_rfl)) (yieldsIf_load_mid (by rfl) _ (.tmp 3) rfl _ 0 rfl _ _ (fun w h => h.2.2) Try.underlying64 rfl (by kernel_rfl)) (hK9 _ (Below.refl _ _).drew) ?_
  simp only [Act.put, List.setIfInBounds_toArray, List.set_cons_zero, List.set_cons_succ]
  refine wpForced_cons rfl ?_
  go_wp2_with fail
  refine (toSystem_any Z G' J' cg' cj' _ (HH0.out _ ((Below.refl _ _).drew)) hn1 hm1).mono ?_
  rintro e wr ⟨Gr, Jr, rfl, hQr, hbr⟩
  have hX : Below w9.heap.size w9 wr := (Below.refl _ _).drew.trans hbr
  go_wp2_with fail
  refine ⟨hK9 _ hX, wpForced_cons rfl ?_⟩
  go_wp2_with fail
  refine (eqSystem_same Z hZ Gq2 Jq2 _ _ _ _ _ _ _ (HX0.out _ hX) hQr.at_).mono ?_
  rintro e w10 ⟨rfl, hbe⟩
  have hb10 := hX.trans (hbe.mono hX.size)
  go_wp2_with fail
  refine ⟨hK9 _ hb10, wpForced_cons rfl ?_⟩
  go_wp2_with fail
  refine ⟨hK9 _ hb10, wpForced_nil ?_⟩
  clear hK9 HH0 HX0 hQr hbr hbe hX
  have hB10 := hB9.trans (hb10.mono hB9.size)
  have z10 := hb10.size
  have d_x0_10 := d_x0_9.go hb10
  have x0_10 := rangeAt_below x0_9 hb10 sx0_9
  have sx0_10 := Nat.lt_of_lt_of_le sx0_9 hb10.size
  have d_x1_10 := d_x1_9.go hb10
  have x1_10 := rangeAt_below x1_9 hb10 sx1_9
  have sx1_10 := Nat.lt_of_lt_of_le sx1_9 hb10.size
  clear d_x0_9 sx0_9 x0_9 d_x1_9 sx1_9 x1_9 hB9
  go_wp2
  go_ret
  exact ⟨rfl, b0.trans (hB10.mono b0.size)⟩
end Go.Proofs.Ytgklhdacnklhdaa
