/- The model's ValidFace: the count of the pairs, and the shape. -/
import Derived.Test.YtkgoceiingddoaaSpecFace
namespace Go.Proofs.Ytkgoceiingddoaa
open Go.RowKit

set_option maxHeartbeats 1000000 in
theorem l01Face_any (F : Fc) (hF : F.ok) (b : Nat) (A : Option Addr) (c : Nat) (w : World) (hr : w.rangeAt b 0 (fc F (.slice A F.ps.length c))) (hA : PairsAt w w.heap.size A F.ps) :
    Calls Try.prog 68 #[.pointer (some ⟨b, 0, none⟩)] w fun e w' => e = .returned (.bool (vface F)) ∧ Below w.heap.size w w' := by
  have x28 := rangeAt_cell hr (fc_sl hF.len _)
  have HS := hide (l01Shape_any F hF b A c w hr hA)
  have hn := hF.n
  unfold maxLen at hn
  have hv : vface F = (decide (F.ps.length ≤ 12) && shapeB F) := rfl
  have HV := hide hv
  clear hr hA hv
  by_cases h : F.ps.length ≤ 12
  · have hd : decide ((F.ps.length : Int) ≤ 12) = true := by simp; omega
    go_enter Try.func68, Try.ntmps68
    go_wp2_with (go_at_call 90; refine HS.out.mono ?_; rintro e w1 ⟨rfl, hb1⟩)
    go_ret
    exact ⟨ret_bool (by rw [HV.out]; simp [h]), hb1⟩
  · have hd : decide ((F.ps.length : Int) ≤ 12) = false := by simp; omega
    go_enter Try.func68, Try.ntmps68
    go_wp2
    go_ret
    exact ⟨ret_bool (by rw [HV.out]; simp [h]), Below.refl _ _⟩

set_option maxHeartbeats 1000000 in
theorem specValidFace_any (F : Fc) (hF : F.ok) (A : Option Addr) (c : Nat) (w : World) (hA : PairsAt w w.heap.size A F.ps) :
    Calls Try.prog 22 #[.agg (fc F (.slice A F.ps.length c)).toArray] w fun e w' => e = .returned (.bool (vface F)) ∧ Below w.heap.size w w' := by
  have hr := rangeAt_new w (fc F (.slice A F.ps.length c)) 33
  have hb : Below w.heap.size w (w.alloc (.cells (fc F (.slice A F.ps.length c)).toArray 33)) := (Below.refl _ _).alloc (Nat.le_refl _) _
  have HC := hide (l01Face_any F hF _ A c _ hr ((hA.below hb).mono hb.size))
  clear hr hA
  have HB := hide hb
  clear hb
  go_enter Try.func22, Try.ntmps22
  go_wp2_with (go_at_call 68; refine HC.out.mono ?_; rintro e w1 ⟨rfl, hb1⟩)
  go_ret
  exact ⟨rfl, HB.out.trans (hb1.mono HB.out.size)⟩
end Go.Proofs.Ytkgoceiingddoaa
