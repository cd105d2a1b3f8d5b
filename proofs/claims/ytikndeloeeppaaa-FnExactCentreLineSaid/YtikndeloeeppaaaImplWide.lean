/- The program's width of a word. -/
import Derived.Test.YtikndeloeeppaaaWideP
import Derived.Test.YtikndeloeeppaaaFind
import Derived.Test.YtikndeloeeppaaaLawCommon
namespace Go.Proofs.Ytikndeloeeppaaa
open Go.RowKit

set_option maxHeartbeats 1000000 in
theorem index_any (x : Int) (w : World) (h : cap x = true) :
    Calls Try.prog 204 #[.int .u8 x] w fun e w' => e = .returned (.int .i64 (x - 65)) ∧ w = w' := by
  obtain ⟨h1, h2⟩ := cap_true.1 h
  clear h
  go_enter Try.func204, Try.ntmps204
  go_wp2
  go_ret
  exact ⟨rfl, rfl⟩

set_option maxRecDepth 100000 in
set_option maxHeartbeats 4000000 in
theorem letterWide_any (F : Fc) (hF : F.ok) (sl : Value) (x : Int) (w : World) (h : cap x = true) :
    Calls Try.prog 170 #[.agg (fc F sl).toArray, .int .u8 x] w fun e w' => e = .returned (.int .i64 (F.W.getD (x - 65).toNat 0)) ∧ Below w.heap.size w w' := by
  have hW := hide hF.len
  obtain ⟨q1, q2⟩ := capIdx h
  obtain ⟨h1, h2⟩ := cap_true.1 h
  have hr := rangeAt_new w (fc F sl) 32
  have hb0 : Below w.heap.size w (w.alloc (.cells (fc F sl).toArray 32)) := (Below.refl _ _).alloc (Nat.le_refl _) _
  have hc := rangeAt_cell hr (fc_W hW.out _ q1)
  have H := hide (fun w => index_any x w h)
  obtain ⟨wk1, wk2⟩ := hF.at_ (x - 65).toNat
  have e3 : (0 : Int) ≤ x - 65 := by omega
  have e4 : x - 65 < 26 := by omega
  rw [← List.getD_eq_getElem?_getD] at wk1 wk2
  generalize F.W.getD (x - 65).toNat 0 = V at *
  clear h q1 q2 hr
  go_enter Try.func170, Try.ntmps170
  go_wp2_with (go_at_call 204; refine (H.out _).mono ?_; rintro e w' ⟨rfl, rfl⟩)
  go_ret
  exact ⟨rfl, hb0⟩

set_option maxRecDepth 100000 in
set_option maxHeartbeats 4000000 in
theorem gapOf_any (F : Fc) (hF : F.ok) (A : Option Addr) (c : Nat) (x y : Int) (w : World) (hv : vface F = true) (hA : PairsAt w w.heap.size A F.ps) :
    Calls Try.prog 169 #[.agg (fc F (.slice A F.ps.length c)).toArray, .int .u8 x, .int .u8 y] w fun e w' => e = .returned (.int .i64 (F.gp + byL F.ps x y)) ∧ Below w.heap.size w w' := by
  have hW := hide hF.len
  have hr := rangeAt_new w (fc F (.slice A F.ps.length c)) 32
  have hb0 : Below w.heap.size w (w.alloc (.cells (fc F (.slice A F.ps.length c)).toArray 32)) := (Below.refl _ _).alloc (Nat.le_refl _) _
  have hs0 : w.heap.size < (w.alloc (.cells (fc F (.slice A F.ps.length c)).toArray 32)).heap.size := by simp
  have HII := hide (show ∀ sl, (Try.prog.info? 32).map (·.size) = some (fc F sl).length from fun sl => by rw [fc_length hW.out]; kernel_rfl)
  have x27 := rangeAt_cell hr (fc_gp hW.out _)
  have BA := hA.below hb0
  have h12 := (vface_true.1 hv).1
  obtain ⟨gp1, gp2⟩ := shape_gap (vface_true.1 hv).2.gp
  obtain ⟨y1, y2, y3, y4⟩ := byL_bd hv x y
  have e1 := IntWalk.i64_in (F.gp + byL F.ps x y) ⟨by omega, by omega⟩
  have hss := sorted_vface hv
  have HSS := hide hss
  clear hA hss hv
  go_enter Try.func169, Try.ntmps169
  go_wp2
  generalize (w.alloc (.cells (fc F (.slice A F.ps.length c)).toArray 32)) = W0 at *
  have z27 := Over.get x27
  have hrow := over_row hr hs0
  have HROW := hide hrow
  have hBs := hb0.size
  have HBY := hide (fun (s : Over W0) => byOf_any F hF A c x y s.w (by omega) HSS.out ((BA.below (s.h.mono hBs)).mono (Nat.le_trans hBs s.size)))
  clear x27 hr hrow
  refine wp_region_over (by kernel_rfl) (by kernel_rfl) ?_
  repeat (first | (refine wpQuiet_load_row rfl 32 (.tmp 3) rfl _ 0 rfl _ _ HROW.out Try.underlying32 rfl (HII.out _) ?_; simp only [Act.put, List.setIfInBounds_toArray, List.set_cons_zero, List.set_cons_succ]) | go_big_quiet_step ((go_at_call 203; exact over_call (HBY.out _))))
  refine wpQuiet_nil ?_
  intro w1 hb1
  go_wp2
  go_ret
  exact ⟨rfl, hb0.trans (hb1.mono hBs)⟩
end Go.Proofs.Ytikndeloeeppaaa
