/- ValidText: the model and the program give the same answer for every text. -/
import Derived.Test.YtkgoceiingddoaaSpecText
import Derived.Test.YtkgoceiingddoaaImplText
namespace Go.Proofs.Ytkgoceiingddoaa
open Go.RowKit

set_option maxHeartbeats 2000000 in
theorem specValidText_any (s : ByteArray) (w : World) (hs : s.size ≤ maxLen) :
    Calls Try.prog 28 #[.string s] w fun e w' => e = .returned (.bool (vtext s.data.toList)) ∧ w = w' := by
  have HT := hide (l01Text_any s w hs)
  clear hs
  go_enter Try.func28, Try.ntmps28
  go_wp2_with (go_at_call 75; refine HT.out.mono ?_; rintro e w' ⟨rfl, rfl⟩)
  go_ret
  exact ⟨rfl, rfl⟩

set_option maxHeartbeats 2000000 in
theorem lawValidText_any (s : ByteArray) (hs : s.size ≤ maxLen) (w : World) :
    Calls Try.prog 6 #[.string s] w fun e w' => e = .returned (.bool true) ∧ Below w.heap.size w w' := by
  have HT := hide (specValidText_any s w hs)
  have HI := hide (implValidText_any s w hs)
  unfold maxLen at hs
  by_cases hbig : 1048576 < s.size
  · have hd : decide ((1048576 : Int) < s.size) = true := by simp; omega
    have hd' : decide (1048576 < s.size) = true := by simp; omega
    go_enter Try.func6, Try.ntmps6
    go_wp2
    go_ret
    exact ⟨rfl, Below.refl _ _⟩
  · have hd : decide ((1048576 : Int) < s.size) = false := by simp; omega
    have hd' : decide (1048576 < s.size) = false := by simp; omega
    clear hbig
    cases hv : vtext s.data.toList
    all_goals
      go_enter Try.func6, Try.ntmps6
      go_wp2_with (first | (go_at_call 28; refine HT.out.mono ?_; rintro e w' ⟨rfl, rfl⟩) | (go_at_call 29; refine HI.out.mono ?_; rintro e w2 ⟨rfl, hb2⟩))
      go_ret
      exact ⟨rfl, hb2⟩
end Go.Proofs.Ytkgoceiingddoaa
