/- ReadRubbing: the model and the program give the same answer for every argument. -/
import Derived.Test.YtjmkbdghenjlaaaRd
import Derived.Test.YtjmkbdghenjlaaaG5
import Derived.Test.YtjmkbdghenjlaaaMarkG
import Derived.Test.YtjmkbdghenjlaaaGs
namespace Go.Proofs.Ytjmkbdghenjlaaa
open Go.RowKit

set_option maxRecDepth 100000 in
set_option maxHeartbeats 16000000 in
theorem lawReadRubbing_any (s : ByteArray) (hs : s.size ≤ maxLen) (w : World)  :
    Calls Try.prog 5 #[.string s] w fun e w' => e = .returned (.bool true) ∧ Below w.heap.size w w' := by
  have hm_s := hs
  unfold maxLen at hm_s
  by_cases ht_s : 1048576 < s.size
  · have hd : decide ((1048576 : Int) < s.size) = true := by simp; omega
    have hd' : decide (1048576 < s.size) = true := by simp; omega
    go_enter Try.func5, Try.ntmps5
    go_wp2
    go_ret
    exact ⟨rfl, Below.refl _ _⟩
  have hd0_s : decide ((1048576 : Int) < s.size) = false := by simp; omega
  have hd1_s : decide (1048576 < s.size) = false := by simp; omega
  have hn_s : s.size ≤ 1048576 := by omega
  clear ht_s hm_s
  go_enter Try.func5, Try.ntmps5
  go_wp2_with fail
  refine (specReadRubbing_any s hn_s _ ).mono ?_
  rintro e w1 ⟨rfl, hb1⟩
  have hB1 := hb1
  have z1 := hb1.size
  obtain ⟨w2, hW2, rw_, b2, sw_, t20⟩ := stored_rub w1 (rdV s.data.toList) ((rdV_ok s.data.toList).1)
  have HW2 := hide hW2
  clear hW2
  have hB2 := hB1.trans (b2.mono hB1.size)
  have z2 := b2.size
  clear hB1
  go_wp2_with (refine wpList_store_mid rfl 26 (.tmp 3) (.tmp 13) rfl w1.heap.size 0 _ rfl rfl t20 (rub_info ((rdV_ok s.data.toList).1)) (rwc_one _) ?_; rw [← HW2.out])
  refine (implReadRubbing_any s hn_s _ ).mono ?_
  rintro e w3 ⟨rfl, hb3⟩
  have hB3 := hB2.trans (hb3.mono hB2.size)
  have z3 := hb3.size
  have rw_3 := rangeAt_over rw_ hb3 (by omega)
  clear rw_ hB2
  obtain ⟨w4, hW4, rg_, b4, sg_, t40⟩ := stored_rub w3 (rdV s.data.toList) ((rdV_ok s.data.toList).1)
  have HW4 := hide hW4
  clear hW4
  have hB4 := hB3.trans (b4.mono hB3.size)
  have z4 := b4.size
  have rw_4 := rangeAt_over rw_3 b4 (by omega)
  clear rw_3 hB3
  go_wp2_with (first | (refine wpList_store_mid rfl 26 (.tmp 5) (.tmp 18) rfl w3.heap.size 0 _ rfl rfl t40 (rub_info ((rdV_ok s.data.toList).1)) (rwc_one _) ?_; rw [← HW4.out]) | (refine wpList_load_mid rfl 26 (.tmp 5) rfl _ 0 rfl (rwc (rdV s.data.toList)) _ rg_ Try.underlying26 rfl (rub_info' ((rdV_ok s.data.toList).1)) ?_) | (refine wpList_load_mid rfl 26 (.tmp 3) rfl _ 0 rfl (rwc (rdV s.data.toList)) _ rw_4 Try.underlying26 rfl (rub_info' ((rdV_ok s.data.toList).1)) ?_))
  refine (eqRubbing_same _ ((rdV_ok s.data.toList).1) _).mono ?_
  rintro e w5 ⟨rfl, hb5⟩
  have hB5 := hB4.trans (hb5.mono hB4.size)
  have z5 := hb5.size
  have rw_5 := rangeAt_over rw_4 hb5 (by omega)
  have rg_5 := rangeAt_over rg_ hb5 (by omega)
  clear rw_4 rg_ hB4
  go_wp2
  go_ret
  exact ⟨rfl, hB5⟩
end Go.Proofs.Ytjmkbdghenjlaaa
