/- The model's ValidFace: the count of the pairs, and the shape. -/
import Derived.Test.YtikndeloeeppaaaSpecFace
namespace Go.Proofs.Ytikndeloeeppaaa
open Go.RowKit

set_option maxHeartbeats 1000000 in
theorem l01Face_any (F : Fc) (hF : F.ok) (b : Nat) (A : Option Addr) (c : Nat) (w : World) (hr : w.rangeAt b 0 (fc F (.slice A F.ps.length c))) (hA : PairsAt w w.heap.size A F.ps) :
    Calls Try.prog 81 #[.pointer (some ⟨b, 0, none⟩)] w fun e w' => e = .returned (.bool (vface F)) ∧ Below w.heap.size w w' := by
  have x28 := rangeAt_cell hr (fc_sl hF.len _)
  have HS := hide (l01Shape_any F hF b A c w hr hA)
  have hn := hF.n
  unfold maxLen at hn
  have hv : vface F = (decide (F.ps.length ≤ 12) && shapeB F) := rfl
  have HV := hide hv
  clear hr hA hv
  by_cases h : F.ps.length ≤ 12
  · have hd : decide ((F.ps.length : Int) ≤ 12) = true := by simp; omega
    go_enter Try.func81, Try.ntmps81
    go_wp2_with (go_at_call 84; refine HS.out.mono ?_; rintro e w1 ⟨rfl, hb1⟩)
    go_ret
    exact ⟨ret_bool (by rw [HV.out]; simp [h]), hb1⟩
  · have hd : decide ((F.ps.length : Int) ≤ 12) = false := by simp; omega
    go_enter Try.func81, Try.ntmps81
    go_wp2
    go_ret
    exact ⟨ret_bool (by rw [HV.out]; simp [h]), Below.refl _ _⟩

end Go.Proofs.Ytikndeloeeppaaa
