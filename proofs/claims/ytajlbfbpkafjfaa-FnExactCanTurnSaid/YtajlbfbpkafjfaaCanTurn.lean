/- CanTurn: the model and the program give the same answer for every argument. -/
import Derived.Test.YtajlbfbpkafjfaaIvTx
import Derived.Test.YtajlbfbpkafjfaaG5
namespace Go.Proofs.Ytajlbfbpkafjfaa
open Go.RowKit

set_option maxRecDepth 100000 in
set_option maxHeartbeats 16000000 in
theorem lawCanTurn_any (s : ByteArray) (hs : s.size ≤ maxLen) (w : World)  :
    Calls Try.prog 11 #[.string s] w fun e w' => e = .returned (.bool true) ∧ Below w.heap.size w w' := by
  have hm_s := hs
  unfold maxLen at hm_s
  by_cases ht_s : 1048576 < s.size
  · have hd : decide ((1048576 : Int) < s.size) = true := by simp; omega
    have hd' : decide (1048576 < s.size) = true := by simp; omega
    go_enter Try.func11, Try.ntmps11
    go_wp2
    go_ret
    exact ⟨rfl, Below.refl _ _⟩
  have hd0_s : decide ((1048576 : Int) < s.size) = false := by simp; omega
  have hd1_s : decide (1048576 < s.size) = false := by simp; omega
  have hn_s : s.size ≤ 1048576 := by omega
  clear ht_s hm_s
  go_enter Try.func11, Try.ntmps11
  go_wp2_with fail
  refine (specCanTurn_any s hn_s _ ).mono ?_
  rintro e w1 ⟨rfl, hb1⟩
  have hB1 := hb1
  have z1 := hb1.size
  go_wp2_with fail
  refine (implCanTurn_any s hn_s _ ).mono ?_
  rintro e w2 ⟨rfl, hb2⟩
  have hB2 := hB1.trans (hb2.mono hB1.size)
  have z2 := hb2.size
  clear hB1
  go_wp2
  go_ret
  exact ⟨rfl, hB2⟩
end Go.Proofs.Ytajlbfbpkafjfaa
