/- ValidSystem: the model and the program give the same answer for every argument. -/
import Derived.Test.YtgklhdacnklhdaaVSys
import Derived.Test.YtgklhdacnklhdaaSys
namespace Go.Proofs.Ytgklhdacnklhdaa
open Go.RowKit

set_option maxRecDepth 100000 in
set_option maxHeartbeats 16000000 in
theorem lawValidSystem_any (Y : Sy) (hY : Y.ok) (G J : Option Addr) (cg cj : Nat) (w : World) (hG : SyAt w w.heap.size G J Y) :
    Calls Try.prog 7 #[sv Y G J cg cj] w fun e w' => e = .returned (.bool true) ∧ Below w.heap.size w w' := by
  have b0 : Below w.heap.size w (w.alloc (.cells #[.slice G Y.sg.length cg, .slice J Y.mn.length cj] 64)) := (Below.refl _ _).alloc (Nat.le_refl _) _
  have r0 : (w.alloc (.cells #[.slice G Y.sg.length cg, .slice J Y.mn.length cj] 64)).rangeAt w.heap.size 0 [.slice G Y.sg.length cg, .slice J Y.mn.length cj] := rangeAt_new w [.slice G Y.sg.length cg, .slice J Y.mn.length cj] _
  have s0 : w.heap.size < (w.alloc (.cells #[.slice G Y.sg.length cg, .slice J Y.mn.length cj] 64)).heap.size := by simp
  go_enter Try.func7, Try.ntmps7
  go_wp2_with fail
  generalize (w.alloc (.cells #[.slice G Y.sg.length cg, .slice J Y.mn.length cj] 64)) = W0 at *
  have hws := b0.size
  have hA0 := (hG.below b0).mono b0.size
  refine (szSystem_any Y hY G J cg cj (1048576) _ (by omega) (by omega)).mono ?_
  rintro e w1 ⟨rfl, hb1⟩
  have hB1 := hb1
  have z1 := hb1.size
  by_cases hneg : szS (1048576) Y < 0
  · have hdl : decide (szS (1048576) Y < 0) = true := by simpa using hneg
    go_wp2
    go_ret
    exact ⟨rfl, b0.trans (hB1.mono b0.size)⟩
  have hdl0 : decide (szS (1048576) Y < 0) = false := by simpa using hneg
  obtain ⟨hn0, hm0, _⟩ := szS_ok (by omega) hneg
  clear hneg
  have p0_0 := rangeAt_cell (rangeAt_below r0 hB1 s0) (k := 0) rfl
  have p0_1 := rangeAt_cell (rangeAt_below r0 hB1 s0) (k := 1) rfl
  go_wp2_with fail
  clear p0_0 p0_1
  refine (toSystem_any Y G J cg cj _ (hA0.go hB1) hn0 hm0).mono ?_
  rintro e w2 ⟨Gq1, Jq1, rfl, hQ1, hb2⟩
  have hB2 := hB1.trans (hb2.mono hB1.size)
  have z2 := hb2.size
  clear hB1
  go_wp2_with fail
  refine (specValidSystem_any Y hY Gq1 Jq1 _ _ _ hQ1.at_).mono ?_
  rintro e w3 ⟨rfl, hb3⟩
  have hB3 := hB2.trans (hb3.mono hB2.size)
  have z3 := hb3.size
  clear hB2
  clear hQ1
  have p0_0 := rangeAt_cell (rangeAt_below r0 hB3 s0) (k := 0) rfl
  have p0_1 := rangeAt_cell (rangeAt_below r0 hB3 s0) (k := 1) rfl
  go_wp2_with fail
  clear p0_0 p0_1
  refine (toSystem_any Y G J cg cj _ (hA0.go hB3) hn0 hm0).mono ?_
  rintro e w4 ⟨Gq2, Jq2, rfl, hQ2, hb4⟩
  have hB4 := hB3.trans (hb4.mono hB3.size)
  have z4 := hb4.size
  clear hB3
  have p0_0 := rangeAt_cell (rangeAt_below r0 hB4 s0) (k := 0) rfl
  have p0_1 := rangeAt_cell (rangeAt_below r0 hB4 s0) (k := 1) rfl
  go_wp2_with fail
  have bx5 : Below w4.heap.size w4 (w4.alloc (.cells #[.slice Gq2 Y.sg.length Y.sg.length, .slice Jq2 Y.mn.length Y.mn.length] 69)) := (Below.refl _ _).alloc (Nat.le_refl _) _
  have rx5 : (w4.alloc (.cells #[.slice Gq2 Y.sg.length Y.sg.length, .slice Jq2 Y.mn.length Y.mn.length] 69)).rangeAt w4.heap.size 0 [.slice Gq2 Y.sg.length Y.sg.length, .slice Jq2 Y.mn.length Y.mn.length] := rangeAt_new w4 [.slice Gq2 Y.sg.length Y.sg.length, .slice Jq2 Y.mn.length Y.mn.length] _
  have sx5 : w4.heap.size < (w4.alloc (.cells #[.slice Gq2 Y.sg.length Y.sg.length, .slice Jq2 Y.mn.length Y.mn.length] 69)).heap.size := by simp
  obtain ⟨w5, ew5⟩ : ∃ W, W = (w4.alloc (.cells #[.slice Gq2 Y.sg.length Y.sg.length, .slice Jq2 Y.mn.length Y.mn.length] 69)) := ⟨_, rfl⟩
  rw [← ew5] at bx5 rx5 sx5 ⊢
  clear ew5
  clear p0_0 p0_1
  have hB5 := hB4.trans (bx5.mono hB4.size)
  have z5 := bx5.size
  have d_x0_5 := hQ2.go bx5
  clear hQ2 hB4
  refine (implValidSystem_any Y hY Gq2 Jq2 _ _ _ d_x0_5.at_).mono ?_
  rintro e w6 ⟨rfl, hb6⟩
  have hB6 := hB5.trans (hb6.mono hB5.size)
  have z6 := hb6.size
  have d_x0_6 := d_x0_5.go hb6
  have x0_6 := rangeAt_below rx5 hb6 sx5
  have sx0_6 := Nat.lt_of_lt_of_le sx5 hb6.size
  clear d_x0_5 sx5 rx5 hB5
  have p0_0 := fun w' (hh : Below w6.heap.size w6 w') => rangeAt_cell (rangeAt_below (rangeAt_below r0 hB6 s0) hh (Nat.lt_of_lt_of_le s0 hB6.size)) (k := 0) rfl
  have p0_1 := fun w' (hh : Below w6.heap.size w6 w') => rangeAt_cell (rangeAt_below (rangeAt_below r0 hB6 s0) hh (Nat.lt_of_lt_of_le s0 hB6.size)) (k := 1) rfl
  have xx0_0 := fun w' (hh : Below w6.heap.size w6 w') => rangeAt_cell (rangeAt_below x0_6 hh sx0_6) (k := 0) rfl
  have xx0_1 := fun w' (hh : Below w6.heap.size w6 w') => rangeAt_cell (rangeAt_below x0_6 hh sx0_6) (k := 1) rfl
  have HH0 : ∀ w', Below w6.heap.size w6 w' → SyAt w' w'.heap.size G J Y := fun w' hh => hA0.go (hB6.trans (hh.mono hB6.size))
  have HX0 : ∀ w', Below w6.heap.size w6 w' → SyAt w' w'.heap.size Gq2 Jq2 Y := fun w' hh => (d_x0_6.go hh).at_
  go_wp2
  go_region_held3 (fun w' => Below w6.heap.size w6 w') (first | exact (Below.refl _ _).drew | (refine Below.trans (by assumption) (Below.mono (by assumption) ?_); exact Below.size (by assumption)))
    (first | (go_at_call 40; refine (toSystem_any Y G J cg cj _ (HH0 _ (by assumption)) hn0 hm0).mono ?_; rintro e wr ⟨Gr, Jr, rfl, hQr, hbr⟩; have hQr' := hQr.at_) | (go_at_call 42; refine (eqSystem_same Y hY Gq2 Jq2 _ _ _ _ _ _ _ (HX0 _ (by assumption)) (by assumption)).mono ?_; rintro e we ⟨rfl, hbe⟩))
  obtain ⟨w7, ew⟩ : ∃ W, W = we := ⟨_, rfl⟩
  subst ew
  have hb7 : Below w6.heap.size w6 w7 := by assumption
  clear HH0 HX0
  clear p0_0 p0_1 xx0_0 xx0_1
  have hB7 := hB6.trans (hb7.mono hB6.size)
  have z7 := hb7.size
  have d_x0_7 := d_x0_6.go hb7
  have x0_7 := rangeAt_below x0_6 hb7 sx0_6
  have sx0_7 := Nat.lt_of_lt_of_le sx0_6 hb7.size
  clear d_x0_6 sx0_6 x0_6 hB6
  go_wp2
  go_ret
  exact ⟨rfl, b0.trans (hB7.mono b0.size)⟩
end Go.Proofs.Ytgklhdacnklhdaa
