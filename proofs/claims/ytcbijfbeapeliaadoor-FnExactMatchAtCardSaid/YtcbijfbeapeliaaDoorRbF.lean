/- Rubbings matched at a move, of both. -/
import Derived.Test.YtcbijfbeapeliaaDoorRbE
namespace Go.Proofs.YtcbijfbeapeliaaDoor
open Go Go.RowKit

def maV (R S : List Nat) (x y : Int) : Int := ((mtN R (mbR S x y) : Nat) : Int)
theorem ma_yes {x y : Int} (h : mayM x y = true) (R S : List Nat) : maV R S x y = ((mtN R (mvR S x y) : Nat) : Int) := by unfold maV; rw [(mb_yes h S).1]
theorem ma_no {x y : Int} (h : mayM x y = false) (R S : List Nat) : maV R S x y = 0 := by unfold maV; rw [(mb_no h S).1, mtN_zero]; rfl

set_option maxRecDepth 100000 in
set_option maxHeartbeats 4000000 in
theorem specMatchAt_any (R : List Nat) (hR : rok R) (R2 : List Nat) (hR2 : rok R2) (x y : Int) (w : World) :
    Calls Tryd.prog 18 #[.agg (rwc R).toArray, .agg (rwc R2).toArray, .int .i64 x, .int .i64 y] w fun e w' => e = .returned (.tuple #[.int .i64 (maV R R2 x y), .int .i64 (mbC x y)]) ∧ Below w.heap.size w w' := by
  have hb0 : Below w.heap.size w ((w.alloc (.cells (rwc R).toArray 24)).alloc (.cells (rwc R2).toArray 24)) := ((Below.refl _ _).alloc (Nat.le_refl _) _).alloc (by simp) _
  have r0 : ((w.alloc (.cells (rwc R).toArray 24)).alloc (.cells (rwc R2).toArray 24)).rangeAt w.heap.size 0 (rwc R) := World.rangeAt_alloc (rangeAt_new _ _ _) _
  have r1 : ((w.alloc (.cells (rwc R).toArray 24)).alloc (.cells (rwc R2).toArray 24)).rangeAt (w.heap.size + 1) 0 (rwc R2) := rangeAt_newg (by simp) rfl
  have HB := hide hb0
  cases h : mayM x y
  · rw [ma_no h, (mb_no h R).2]
    clear r0 r1 hR hR2 hb0
    go_enter Tryd.func18, Tryd.ntmps18
    go_wp2_with (go_at_call 53; refine (l07May_any _ _ _).mono ?_; rintro e w' ⟨rfl, rfl⟩; simp only [h])
    go_ret2
    exact ⟨rfl, HB.out⟩
  · have h' := h
    unfold mayM at h'
    simp only [Bool.and_eq_true, inB_true] at h'
    have HC := hide (l07At_any R R2 hR hR2 _ _ x y h'.1 h'.2 _ r0 r1)
    have HE := hide (ma_yes h R R2)
    rw [(mb_yes h R).2]
    clear r0 r1 hR hR2 hb0 h'
    go_enter Tryd.func18, Tryd.ntmps18
    go_wp2_with (first | (go_at_call 53; refine (l07May_any _ _ _).mono ?_; rintro e w' ⟨rfl, rfl⟩; simp only [h]) | (go_at_call 58; refine HC.out.mono ?_; rintro e w1 ⟨rfl, hb1⟩))
    go_ret2
    exact ⟨by rw [HE.out]; rfl, HB.out.trans (hb1.mono HB.out.size)⟩

set_option maxRecDepth 100000 in
set_option maxHeartbeats 8000000 in
theorem implMatchAt_any (R : List Nat) (hR : rok R) (R2 : List Nat) (hR2 : rok R2) (x y : Int) (w : World) (hg : ErrT w) :
    Calls Tryd.prog 19 #[.agg (rwc R).toArray, .agg (rwc R2).toArray, .int .i64 x, .int .i64 y] w fun e w' => e = .returned (.tuple #[.int .i64 (maV R R2 x y), .int .i64 (mbC x y)]) ∧ Below w.heap.size w w' := by
  have HI := hide (rw_info hR.1)
  have HI2 := hide (rw_info hR2.1)
  have hb0 : Below w.heap.size w ((w.alloc (.cells (rwc R).toArray 24)).alloc (.cells (rwc R2).toArray 24)) := ((Below.refl _ _).alloc (Nat.le_refl _) _).alloc (by simp) _
  have r0 : ((w.alloc (.cells (rwc R).toArray 24)).alloc (.cells (rwc R2).toArray 24)).rangeAt w.heap.size 0 (rwc R) := World.rangeAt_alloc (rangeAt_new _ _ _) _
  have r1 : ((w.alloc (.cells (rwc R).toArray 24)).alloc (.cells (rwc R2).toArray 24)).rangeAt (w.heap.size + 1) 0 (rwc R2) := rangeAt_newg (by simp) rfl
  have s0 : w.heap.size < ((w.alloc (.cells (rwc R).toArray 24)).alloc (.cells (rwc R2).toArray 24)).heap.size := by simp; omega
  have hg0 := hg.below hb0
  have HM := hide (fun W h => implMoveRubbing_any R2 hR2 x y W h)
  have HMO := hide (fun W => implMatchOf_any R hR (mbR R2 x y) (mbR_ok R2 x y) W)
  have HL := hide (mbR_ok R2 x y).1
  have HE := hide (show maV R R2 x y = ((mtN R (mbR R2 x y) : Nat) : Int) from rfl)
  have HB := hide hb0
  unfold RubBack at HM
  rw [HE.out]
  generalize mbR R2 x y = T at *
  clear hR hR2 hb0 hg HE
  go_enter Tryd.func19, Tryd.ntmps19
  go_wp2_with (refine wpList_load_mid rfl 24 (.tmp 5) rfl _ 0 rfl (rwc R2) _ r1 Tryd.underlying24 rfl HI2.out ?_)
  generalize ((w.alloc (.cells (rwc R).toArray 24)).alloc (.cells (rwc R2).toArray 24)) = W0 at *
  refine (HM.out W0 hg0).mono ?_
  rintro e w1 ⟨rfl, hb1⟩
  obtain ⟨w2, hW2, r2, b2, s2, t20⟩ := stored_rub w1 T HL.out
  have HW2 := hide hW2
  have hB2 := hb1.trans (b2.mono hb1.size)
  have r02 := rangeAt_below r0 hB2 s0
  clear hW2 hb1 b2 hg0 r0 r1
  go_wp2_with (first | (refine wpList_store_mid rfl 24 (.tmp 10) (.tmp 17) rfl w1.heap.size 0 _ rfl rfl t20 (rub_info HL.out) (rwc_one _) ?_; rw [← HW2.out]) | (refine wpList_load_mid rfl 24 (.tmp 4) rfl _ 0 rfl (rwc R) _ r02 Tryd.underlying24 rfl HI.out ?_) | (refine wpList_load_mid rfl 24 (.tmp 10) rfl _ 0 rfl (rwc T) _ r2 Tryd.underlying24 rfl (rub_info' HL.out) ?_) | (go_at_call 59; refine (HMO.out _).mono ?_; rintro e w3 ⟨rfl, hb3⟩))
  go_ret2
  exact ⟨rfl, HB.out.trans ((hB2.trans (hb3.mono hB2.size)).mono HB.out.size)⟩
end Go.Proofs.YtcbijfbeapeliaaDoor
