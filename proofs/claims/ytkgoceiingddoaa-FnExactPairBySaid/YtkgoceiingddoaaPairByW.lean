/- PairBy of the model and of the program: the same two numbers. -/
import Derived.Test.YtkgoceiingddoaaSpecBy
import Derived.Test.YtkgoceiingddoaaFind
import Derived.Test.YtkgoceiingddoaaLawCommon
namespace Go.Proofs.Ytkgoceiingddoaa
open Go.RowKit

/-- What PairBy answers. -/
noncomputable def pbV (F : Fc) (a b : Int) : Int := if vface F = true ∧ (cap a && cap b) = true then byL F.ps a b else 0
noncomputable def pbC (F : Fc) (a b : Int) : Int := if vface F = true then if (cap a && cap b) = true then 0 else 2 else 1
theorem pb_inv {F : Fc} (h : vface F = false) (a b : Int) : pbV F a b = 0 ∧ pbC F a b = 1 := by simp [pbV, pbC, h]
theorem pb_range {F : Fc} (h : vface F = true) {a b : Int} (h' : (cap a && cap b) = false) : pbV F a b = 0 ∧ pbC F a b = 2 := by
  unfold pbV pbC; rw [h, h']; simp
theorem pb_ok {F : Fc} (h : vface F = true) {a b : Int} (h' : (cap a && cap b) = true) : pbV F a b = byL F.ps a b ∧ pbC F a b = 0 := by
  unfold pbV pbC; rw [h, h']; simp
theorem sorted_vface {F : Fc} (h : vface F = true) : sortedP F.ps := sortedP_of_good (vface_true.1 h).2.ps

set_option maxRecDepth 100000 in
set_option maxHeartbeats 4000000 in
theorem specPairBy_any (F : Fc) (hF : F.ok) (A : Option Addr) (c : Nat) (x y : Int) (w : World) (hA : PairsAt w w.heap.size A F.ps) :
    Calls Try.prog 39 #[.agg (fc F (.slice A F.ps.length c)).toArray, .int .u8 x, .int .u8 y] w fun e w' => e = .returned (.tuple #[.int .i64 (pbV F x y), .int .i64 (pbC F x y)]) ∧ Below w.heap.size w w' := by
  have hr := rangeAt_new w (fc F (.slice A F.ps.length c)) 33
  have hb : Below w.heap.size w (w.alloc (.cells (fc F (.slice A F.ps.length c)).toArray 33)) := (Below.refl _ _).alloc (Nat.le_refl _) _
  have hs : w.heap.size < (w.alloc (.cells (fc F (.slice A F.ps.length c)).toArray 33)).heap.size := by simp
  have BA := hA.below hb
  have HC := hide (l01Face_any F hF _ A c _ hr (BA.mono hb.size))
  generalize hv1 : pbV F x y = V
  generalize hv2 : pbC F x y = C
  have H1 := hide hv1
  have H2 := hide hv2
  clear hA hv1 hv2
  cases hv : vface F
  · have HP := hide (pb_inv hv x y)
    go_enter Try.func39, Try.ntmps39
    go_wp2_with (go_at_call 68; refine HC.out.mono ?_; rintro e w1 ⟨rfl, hb1⟩; simp only [hv])
    go_ret2
    exact ⟨ret_ii (HP.out.1.symm.trans H1.out) (HP.out.2.symm.trans H2.out), hb.trans (hb1.mono hb.size)⟩
  · cases hx : cap x
    · have HP := hide (pb_range hv (a := x) (b := y) (by rw [hx]; rfl))
      go_enter Try.func39, Try.ntmps39
      go_wp2_with (first | (go_at_call 68; refine HC.out.mono ?_; rintro e w1 ⟨rfl, hb1⟩; simp only [hv]) | (go_at_call 85; refine (l01Letter_any _ _).mono ?_; rintro e w' ⟨rfl, rfl⟩))
      go_ret2
      exact ⟨ret_ii (HP.out.1.symm.trans H1.out) (HP.out.2.symm.trans H2.out), hb.trans (hb1.mono hb.size)⟩
    · cases hy : cap y
      · have HP := hide (pb_range hv (a := x) (b := y) (by rw [hx, hy]; rfl))
        go_enter Try.func39, Try.ntmps39
        go_wp2_with (first | (go_at_call 68; refine HC.out.mono ?_; rintro e w1 ⟨rfl, hb1⟩; simp only [hv]) | (go_at_call 85; refine (l01Letter_any _ _).mono ?_; rintro e w' ⟨rfl, rfl⟩))
        go_ret2
        exact ⟨ret_ii (HP.out.1.symm.trans H1.out) (HP.out.2.symm.trans H2.out), hb.trans (hb1.mono hb.size)⟩
      · have HP := hide (pb_ok hv (a := x) (b := y) (by rw [hx, hy]; rfl))
        go_enter Try.func39, Try.ntmps39
        go_wp2_with fail
        generalize (w.alloc (.cells (fc F (.slice A F.ps.length c)).toArray 33)) = W0 at *
        refine HC.out.mono ?_
        rintro e w1 ⟨rfl, hb1⟩
        simp only [hv]
        have HB := hide (l01By_any F hF _ A c x y w1 (rangeAt_below hr hb1 hs) ((BA.below (hb1.mono hb.size)).mono (Nat.le_trans hb.size hb1.size)))
        clear hr
        go_wp2_with (first | (go_at_call 85; refine (l01Letter_any _ _).mono ?_; rintro e w' ⟨rfl, rfl⟩) | (go_at_call 86; refine HB.out.mono ?_; rintro e w2 ⟨rfl, rfl⟩))
        go_ret2
        exact ⟨ret_ii (HP.out.1.symm.trans H1.out) (HP.out.2.symm.trans H2.out), hb.trans (hb1.mono hb.size)⟩

set_option maxRecDepth 100000 in
set_option maxHeartbeats 4000000 in
theorem implPairBy_any (F : Fc) (hF : F.ok) (A : Option Addr) (c : Nat) (x y : Int) (w : World) (hA : PairsAt w w.heap.size A F.ps) :
    Calls Try.prog 40 #[.agg (fc F (.slice A F.ps.length c)).toArray, .int .u8 x, .int .u8 y] w fun e w' => e = .returned (.tuple #[.int .i64 (pbV F x y), .int .i64 (pbC F x y)]) ∧ Below w.heap.size w w' := by
  have hW := hide hF.len
  have hr := rangeAt_new w (fc F (.slice A F.ps.length c)) 33
  have hb : Below w.heap.size w (w.alloc (.cells (fc F (.slice A F.ps.length c)).toArray 33)) := (Below.refl _ _).alloc (Nat.le_refl _) _
  have hs : w.heap.size < (w.alloc (.cells (fc F (.slice A F.ps.length c)).toArray 33)).heap.size := by simp
  have BA := hA.below hb
  have HC := hide (implValidFace_any F hF A c _ (BA.mono hb.size))
  have HII := hide (show ∀ sl, (Try.prog.info? 33).map (·.size) = some (fc F sl).length from fun sl => by rw [fc_length hW.out]; kernel_rfl)
  have HL := hide (hasLetters_any x y 0)
  generalize hv1 : pbV F x y = V
  generalize hv2 : pbC F x y = C
  have H1 := hide hv1
  have H2 := hide hv2
  clear hA hv1 hv2
  cases hv : vface F
  · have HP := hide (pb_inv hv x y)
    go_enter Try.func40, Try.ntmps40
    go_wp2_with (first | (refine wpList_load_mid rfl 33 (.tmp 3) rfl _ 0 rfl _ _ hr Try.underlying33 rfl (HII.out _) ?_) | (go_at_call 24; refine HC.out.mono ?_; rintro e w1 ⟨rfl, hb1⟩; simp only [hv]))
    go_ret2
    exact ⟨ret_ii (HP.out.1.symm.trans H1.out) (HP.out.2.symm.trans H2.out), hb.trans (hb1.mono hb.size)⟩
  · cases hl : (cap x && cap y)
    · have HP := hide (pb_range hv hl)
      go_enter Try.func40, Try.ntmps40
      go_wp2_with (first | (refine wpList_load_mid rfl 33 (.tmp 3) rfl _ 0 rfl _ _ hr Try.underlying33 rfl (HII.out _) ?_) | (go_at_call 24; refine HC.out.mono ?_; rintro e w1 ⟨rfl, hb1⟩; simp only [hv]) | (go_at_call 87; refine (HL.out _).mono ?_; rintro e w2 ⟨rfl, hb2⟩; simp only [hl]))
      go_ret2
      exact ⟨ret_ii (HP.out.1.symm.trans H1.out) (HP.out.2.symm.trans H2.out), hb.trans ((hb1.trans (hb2.mono hb1.size)).mono hb.size)⟩
    · have HP := hide (pb_ok hv hl)
      have h12 := (vface_true.1 hv).1
      go_enter Try.func40, Try.ntmps40
      go_wp2_with (refine wpList_load_mid rfl 33 (.tmp 3) rfl _ 0 rfl _ _ hr Try.underlying33 rfl (HII.out _) ?_)
      generalize (w.alloc (.cells (fc F (.slice A F.ps.length c)).toArray 33)) = W0 at *
      refine HC.out.mono ?_
      rintro e w1 ⟨rfl, hb1⟩
      simp only [hv]
      go_wp2_with fail
      refine (HL.out _).mono ?_
      rintro e w2 ⟨rfl, hb2⟩
      simp only [hl]
      have hB := hb1.trans (hb2.mono hb1.size)
      have r2 := rangeAt_below hr hB hs
      have HB := hide (byOf_any F hF A c x y w2 (by omega) (sorted_vface hv) ((BA.below (hB.mono hb.size)).mono (Nat.le_trans hb.size hB.size)))
      clear hr
      go_wp2_with (first | (refine wpList_load_mid rfl 33 (.tmp 3) rfl _ 0 rfl _ _ r2 Try.underlying33 rfl (HII.out _) ?_) | (go_at_call 88; refine HB.out.mono ?_; rintro e w3 ⟨rfl, hb3⟩))
      go_ret2
      exact ⟨ret_ii (HP.out.1.symm.trans H1.out) (HP.out.2.symm.trans H2.out), hb.trans ((hB.trans (hb3.mono hB.size)).mono hb.size)⟩
end Go.Proofs.Ytkgoceiingddoaa
