/- LineWide of the program. -/
import Derived.Test.YtkgoceiingddoaaImplLine
import Derived.Test.YtkgoceiingddoaaWordWideW
namespace Go.Proofs.Ytkgoceiingddoaa
open Go.RowKit

set_option maxRecDepth 100000 in
set_option maxHeartbeats 4000000 in
theorem implLineWide_any (F : Fc) (hF : F.ok) (A : Option Addr) (c : Nat) (s : ByteArray) (hs : s.size ≤ maxLen) (w : World) (hA : PairsAt w w.heap.size A F.ps) :
    Calls Try.prog 49 #[.agg (fc F (.slice A F.ps.length c)).toArray, .string s] w fun e w' => e = .returned (.tuple #[.int .i64 (lnV F s.data.toList), .int .i64 (lnC F s.data.toList)]) ∧ Below w.heap.size w w' := by
  have hW := hide hF.len
  have hr := rangeAt_new w (fc F (.slice A F.ps.length c)) 33
  have hb : Below w.heap.size w (w.alloc (.cells (fc F (.slice A F.ps.length c)).toArray 33)) := (Below.refl _ _).alloc (Nat.le_refl _) _
  have hs0 : w.heap.size < (w.alloc (.cells (fc F (.slice A F.ps.length c)).toArray 33)).heap.size := by simp
  have BA := hA.below hb
  have HC := hide (implValidFace_any F hF A c _ (BA.mono hb.size))
  have HII := hide (show ∀ sl, (Try.prog.info? 33).map (·.size) = some (fc F sl).length from fun sl => by rw [fc_length hW.out]; kernel_rfl)
  have HWo := hide (fun w => implValidText_any s w hs)
  generalize hv1 : lnV F s.data.toList = V
  generalize hv2 : lnC F s.data.toList = C
  have H1 := hide hv1
  have H2 := hide hv2
  clear hA hv1 hv2
  cases hv : vface F
  · have hp := ln_no (F := F) (L := s.data.toList) (fun e => by rw [hv] at e; cases e.1)
    have HP := hide (⟨hp.1, hp.2.1⟩ : _ ∧ _)
    clear hp
    go_enter Try.func49, Try.ntmps49
    go_wp2_with (first | (refine wpList_load_mid rfl 33 (.tmp 2) rfl _ 0 rfl _ _ hr Try.underlying33 rfl (HII.out _) ?_) | (go_at_call 24; refine HC.out.mono ?_; rintro e w1 ⟨rfl, hb1⟩; simp only [hv]))
    go_ret2
    exact ⟨ret_ii (HP.out.1.symm.trans H1.out) (HP.out.2.symm.trans H2.out), hb.trans (hb1.mono hb.size)⟩
  · cases hwd : vtext s.data.toList
    · have hp := ln_no (F := F) (L := s.data.toList) (fun e => by have := e.2; rw [hwd] at this; cases this)
      have HP := hide (⟨hp.1, hp.2.1⟩ : _ ∧ _)
      clear hp
      go_enter Try.func49, Try.ntmps49
      go_wp2_with (first | (refine wpList_load_mid rfl 33 (.tmp 2) rfl _ 0 rfl _ _ hr Try.underlying33 rfl (HII.out _) ?_) | (go_at_call 24; refine HC.out.mono ?_; rintro e w1 ⟨rfl, hb1⟩; simp only [hv]) | (go_at_call 29; refine (HWo.out _).mono ?_; rintro e w2 ⟨rfl, hb2⟩; simp only [hwd]))
      go_ret2
      exact ⟨ret_ii (HP.out.1.symm.trans H1.out) (HP.out.2.symm.trans H2.out), hb.trans ((hb1.trans (hb2.mono hb1.size)).mono hb.size)⟩
    · have hp := ln_ok hv hwd
      have HP := hide (⟨hp.1, hp.2.1⟩ : _ ∧ _)
      clear hp
      go_enter Try.func49, Try.ntmps49
      go_wp2_with (refine wpList_load_mid rfl 33 (.tmp 2) rfl _ 0 rfl _ _ hr Try.underlying33 rfl (HII.out _) ?_)
      generalize (w.alloc (.cells (fc F (.slice A F.ps.length c)).toArray 33)) = W0 at *
      refine HC.out.mono ?_
      rintro e w1 ⟨rfl, hb1⟩
      simp only [hv]
      go_wp2_with fail
      refine (HWo.out _).mono ?_
      rintro e w2 ⟨rfl, hb2⟩
      simp only [hwd]
      have hB := hb1.trans (hb2.mono hb1.size)
      have r2 := rangeAt_below hr hB hs0
      have HB := hide (lineWide_any F hF A c s w2 hv hwd ((BA.below (hB.mono hb.size)).mono (Nat.le_trans hb.size hB.size)))
      clear hr
      go_wp2_with (first | (refine wpList_load_mid rfl 33 (.tmp 2) rfl _ 0 rfl _ _ r2 Try.underlying33 rfl (HII.out _) ?_) | (go_at_call 99; refine HB.out.mono ?_; rintro e w3 ⟨rfl, hb3⟩))
      go_ret2
      exact ⟨ret_ii (HP.out.1.symm.trans H1.out) (HP.out.2.symm.trans H2.out), hb.trans ((hB.trans (hb3.mono hB.size)).mono hb.size)⟩
end Go.Proofs.Ytkgoceiingddoaa
