/- CutAgain: the model and the program give the same answer for every argument. -/
import Derived.Test.YtnanminbnfgcfaaDoorCaI
import Derived.Test.YtnanminbnfgcfaaDoorG5
import Derived.Test.YtnanminbnfgcfaaDoorMarkG
import Derived.Test.YtnanminbnfgcfaaDoorScript
namespace Go.Proofs.YtnanminbnfgcfaaDoor
open Go.RowKit

set_option maxRecDepth 100000 in
set_option maxHeartbeats 16000000 in
theorem lawCutAgain_any (s : ByteArray) (hs : s.size ≤ maxLen) (s2 : ByteArray) (hs2 : s2.size ≤ maxLen) (w : World) (hG : Glob w)  :
    Calls Tryd.prog 5 #[.string s, .string s2] w fun e w' => e = .returned (.bool true) ∧ Below w.heap.size w w' := by
  have hm_s := hs
  unfold maxLen at hm_s
  by_cases ht_s : 1048576 < s.size
  · have hd : decide ((1048576 : Int) < s.size) = true := by simp; omega
    have hd' : decide (1048576 < s.size) = true := by simp; omega
    go_enter Tryd.func5, Tryd.ntmps5
    go_wp2
    go_ret
    exact ⟨rfl, Below.refl _ _⟩
  have hd0_s : decide ((1048576 : Int) < s.size) = false := by simp; omega
  have hd1_s : decide (1048576 < s.size) = false := by simp; omega
  have hn_s : s.size ≤ 1048576 := by omega
  clear ht_s hm_s
  have hm_s2 := hs2
  unfold maxLen at hm_s2
  by_cases ht_s2 : 1048576 < s2.size
  · have hd : decide ((1048576 : Int) < s2.size) = true := by simp; omega
    have hd' : decide (1048576 < s2.size) = true := by simp; omega
    go_enter Tryd.func5, Tryd.ntmps5
    go_wp2
    go_ret
    exact ⟨rfl, Below.refl _ _⟩
  have hd0_s2 : decide ((1048576 : Int) < s2.size) = false := by simp; omega
  have hd1_s2 : decide (1048576 < s2.size) = false := by simp; omega
  have hn_s2 : s2.size ≤ 1048576 := by omega
  clear ht_s2 hm_s2
  go_enter Tryd.func5, Tryd.ntmps5
  go_wp2_with fail
  refine (specCutAgain_any s hs s2 hs2 _ ).mono ?_
  rintro e w1 ⟨rfl, hb1⟩
  have hB1 := hb1
  have z1 := hb1.size
  go_wp2_with fail
  refine (implCutAgain_any s hs s2 hs2 _ (hG.below hB1)).mono ?_
  rintro e w2 ⟨rfl, hb2⟩
  have hB2 := hB1.trans (hb2.mono hB1.size)
  have z2 := hb2.size
  clear hB1
  go_wp2
  go_ret
  exact ⟨rfl, hB2⟩
end Go.Proofs.YtnanminbnfgcfaaDoor
