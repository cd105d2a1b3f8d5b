/- LineWide: the model and the program give the same answer for every face and every further argument. -/
import Derived.Test.YtkgoceiingddoaaLineW
namespace Go.Proofs.Ytkgoceiingddoaa
open Go.RowKit

set_option maxRecDepth 100000 in
set_option maxHeartbeats 8000000 in
theorem lawLineWide_any (F : Fc) (hF : F.ok) (A : Option Addr) (c : Nat) (s : ByteArray) (hs : s.size ≤ maxLen) (w : World) (hA : PairsAt w w.heap.size A F.ps) :
    Calls Try.prog 12 #[.agg (fc F (.slice A F.ps.length c)).toArray, .string s] w fun e w' => e = .returned (.bool true) ∧ Below w.heap.size w w' := by
  have hW := hide hF.len
  have r0 := rangeAt_new w (fc F (.slice A F.ps.length c)) 28
  have b0 : Below w.heap.size w (w.alloc (.cells (fc F (.slice A F.ps.length c)).toArray 28)) := (Below.refl _ _).alloc (Nat.le_refl _) _
  have s0 : w.heap.size < (w.alloc (.cells (fc F (.slice A F.ps.length c)).toArray 28)).heap.size := by simp
  have HIL := hide (show (Try.prog.info? 28).map (·.size) = some (fc F (.slice A F.ps.length c)).length from by rw [fc_length hW.out]; kernel_rfl)
  have HII := hide (show ∀ sl, (Try.prog.info? 33).map (·.size) = some (fc F sl).length from fun sl => by rw [fc_length hW.out]; kernel_rfl)
  have HSZ := hide (szFace_any F hF A c 1048576)
  have hsm := hs
  unfold maxLen at hsm
  by_cases hts : 1048576 < s.size
  · have hd : decide ((1048576 : Int) < s.size) = true := by simp; omega
    have hd' : decide (1048576 < s.size) = true := by simp; omega
    go_enter Try.func12, Try.ntmps12
    go_wp2
    go_ret
    exact ⟨rfl, b0⟩
  have hd0 : decide ((1048576 : Int) < s.size) = false := by simp; omega
  have hd0' : decide (1048576 < s.size) = false := by simp; omega
  clear hts
  by_cases hbig : szL 1048576 F.ps.length < 0
  · go_enter Try.func12, Try.ntmps12
    go_wp2_with (first
      | (refine wpList_load_mid rfl 28 (.tmp 2) rfl _ 0 rfl (fc F (.slice A F.ps.length c)) _ r0 Try.underlying28 rfl HIL.out ?_)
      | (go_at_call 21; refine (HSZ.out _ (by omega) (by omega)).mono ?_; rintro e w1 ⟨rfl, hb1⟩))
    go_ret
    exact ⟨rfl, b0.trans (hb1.mono b0.size)⟩
  · have hd : decide (szL 1048576 F.ps.length < 0) = false := by simpa using hbig
    have hn : F.ps.length ≤ 1048576 := by unfold szL at hbig; split at hbig <;> omega
    clear hbig
    have hAW := hA.below b0
    go_enter Try.func12, Try.ntmps12
    go_wp2_with (refine wpList_load_mid rfl 28 (.tmp 2) rfl _ 0 rfl (fc F (.slice A F.ps.length c)) _ r0 Try.underlying28 rfl HIL.out ?_)
    generalize (w.alloc (.cells (fc F (.slice A F.ps.length c)).toArray 28)) = W0 at *
    have hws := b0.size
    refine (HSZ.out _ (by omega) (by omega)).mono ?_
    rintro e w1 ⟨rfl, hb1⟩
    have r1 := rangeAt_over r0 hb1 s0
    go_wp2_with (refine wpList_load_mid rfl 28 (.tmp 2) rfl _ 0 rfl (fc F (.slice A F.ps.length c)) _ r1 Try.underlying28 rfl HIL.out ?_)
    refine (toFace_any F hF A c _ (hAW.go hb1 hws) hn).mono ?_
    rintro e w2 ⟨A1, rfl, hP1, hb2⟩
    have hB2 := hb1.trans (hb2.mono hb1.size)
    go_wp2_with fail
    refine (specLineWide_any F hF A1 _ s hs _ hP1.at_).mono ?_
    rintro e w3 ⟨rfl, hb3⟩
    have hB3 := hB2.trans (hb3.mono hB2.size)
    clear hP1
    have r3 := rangeAt_over r0 hB3 s0
    go_wp2_with (refine wpList_load_mid rfl 28 (.tmp 2) rfl _ 0 rfl (fc F (.slice A F.ps.length c)) _ r3 Try.underlying28 rfl HIL.out ?_)
    refine (toFace_any F hF A c _ (hAW.go hB3 hws) hn).mono ?_
    rintro e w4 ⟨A2, rfl, hP2, hb4⟩
    have hB4 := hB3.trans (hb4.mono hB3.size)
    clear hb1 hb2 hb3 hb4 hB2 hB3 r1 r3
    obtain ⟨W5, hW5, r5, b5, s5, t5, t50⟩ := stored_face w4 F hW.out (.slice A2 F.ps.length F.ps.length)
    have HW5 := hide hW5
    clear hW5
    go_wp2_with (first
      | (refine wpList_store_mid rfl 33 (.tmp 8) (.tmp 27) rfl w4.heap.size 0 _ rfl rfl t50 (HII.out _) (fc_one _ _ _ _) ?_; rw [← HW5.out])
      | (refine wpList_load_mid rfl 33 (.tmp 8) rfl _ 0 rfl (fc F (.slice A2 F.ps.length F.ps.length)) _ r5 Try.underlying33 rfl (HII.out _) ?_))
    have hP5 := hP2.below b5 (Nat.le_refl _)
    refine (implLineWide_any F hF A2 _ s hs _ hP5.at_).mono ?_
    rintro e w6 ⟨rfl, hb6⟩
    have hB6 := (hB4.trans (b5.mono hB4.size)).trans (hb6.mono (Nat.le_trans hB4.size b5.size))
    have r6 := rangeAt_over r5 hb6 s5
    have q6 := rangeAt_over r0 hB6 s0
    have s56 := Nat.lt_of_lt_of_le s5 hb6.size
    have s06 := Nat.lt_of_lt_of_le s0 hB6.size
    have hA6 := hAW.go hB6 hws
    have hP6 := hP5.go hb6
    clear hB4 b5 hb6 hP2 HW5 r5 t5 t50 hAW r0
    have HEQ := hide (fun A3 => eqFace_same F hF A2 A3 F.ps.length F.ps.length)
    have hK : ∀ w', Below w6.heap.size w6 w' → _ := fun w' hb => keepS hb r6 s56 q6 s06
    go_wp2
    refine wp_region_take2 0 1 [2, 3, 4] 3 (vi := .agg (fc F (.slice A2 F.ps.length F.ps.length)).toArray) (vj := .agg (fc F (.slice A F.ps.length c)).toArray)
      (fun w' => Below w6.heap.size w6 w' ∧ w'.rangeAt w4.heap.size 0 (fc F (.slice A2 F.ps.length F.ps.length)) ∧ w'.rangeAt w.heap.size 0 (fc F (.slice A F.ps.length c)))
      (by kernel_rfl) rfl (by decide) rfl rfl (by kernel_rfl) (by kernel_rfl) (by kernel_rfl) (by kernel_rfl) (by kernel_rfl) (by kernel_rfl) (fun _ _ _ h => h) (fun _ _ _ h => h)
      (yieldsIf_load_mid (by rfl) _ (.tmp 8) rfl _ 0 rfl _ _ (fun w h => h.2.1) Try.underlying33 rfl (HII.out _)) (yieldsIf_load_mid (by rfl) _ (.tmp 2) rfl _ 0 rfl _ _ (fun w h => h.2.2) Try.underlying28 rfl HIL.out) (hK _ (Below.refl _ _).drew) ?_
    simp only [Act.put, List.setIfInBounds_toArray, List.set_cons_zero, List.set_cons_succ]
    refine wpForced_cons rfl ?_
    go_wp2_with fail
    refine (toFace_any F hF A c _ (hA6.go ((Below.refl _ _).drew) (Nat.le_refl _)) hn).mono ?_
    rintro e w7 ⟨A3, rfl, hP3, hb7⟩
    have hb67 : Below w6.heap.size w6 w7 := (Below.refl _ _).drew.trans hb7
    go_wp2_with fail
    refine ⟨hK _ hb67, wpForced_cons rfl ?_⟩
    go_wp2_with fail
    refine (HEQ.out _ _ (hP6.go hb67 (Nat.le_refl _)) hP3.at_).mono ?_
    rintro e w8 ⟨rfl, hb8⟩
    have hb68 := hb67.trans (hb8.mono hb67.size)
    go_wp2_with fail
    refine ⟨hK _ hb68, wpForced_cons rfl ?_⟩
    go_wp2_with fail
    refine ⟨hK _ hb68, wpForced_nil ?_⟩
    go_wp2
    go_ret
    exact ⟨rfl, b0.trans ((hB6.trans (hb68.mono hB6.size)).mono b0.size)⟩
end Go.Proofs.Ytkgoceiingddoaa
