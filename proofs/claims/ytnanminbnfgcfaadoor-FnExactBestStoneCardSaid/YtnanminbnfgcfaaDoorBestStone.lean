/- BestStone: the model and the program give the same answer for every argument. -/
import Derived.Test.YtnanminbnfgcfaaDoorBsI
import Derived.Test.YtnanminbnfgcfaaDoorG5
import Derived.Test.YtnanminbnfgcfaaDoorMarkG
import Derived.Test.YtnanminbnfgcfaaDoorScript
namespace Go.Proofs.YtnanminbnfgcfaaDoor
open Go.RowKit

set_option maxRecDepth 100000 in
set_option maxHeartbeats 16000000 in
theorem lawBestStone_any (T : Option Addr) (ts : List ByteArray) (ct : Nat) (htn : ts.length ≤ maxLen) (htx : ∀ x ∈ ts, x.size ≤ maxLen) (s : ByteArray) (hs : s.size ≤ maxLen) (w : World) (hG : Glob w) (hT : StrsAt w w.heap.size T ts) :
    Calls Tryd.prog 6 #[.slice T ts.length ct, .string s] w fun e w' => e = .returned (.bool true) ∧ Below w.heap.size w w' := by
  have hm_s := hs
  unfold maxLen at hm_s
  by_cases ht_s : 1048576 < s.size
  · have hd : decide ((1048576 : Int) < s.size) = true := by simp; omega
    have hd' : decide (1048576 < s.size) = true := by simp; omega
    go_enter Tryd.func6, Tryd.ntmps6
    go_wp2
    go_ret
    exact ⟨rfl, Below.refl _ _⟩
  have hd0_s : decide ((1048576 : Int) < s.size) = false := by simp; omega
  have hd1_s : decide (1048576 < s.size) = false := by simp; omega
  have hn_s : s.size ≤ 1048576 := by omega
  clear ht_s hm_s
  have hTW := hT
  go_enter Tryd.func6, Tryd.ntmps6
  go_wp2_with fail
  have HSS := hide (szStringS_any T ts ct 1048576 _ (by omega) (by omega) htn htx hTW)
  refine HSS.out.mono ?_
  rintro e w1 ⟨rfl, hsame⟩
  clear HSS
  have hb1 : Below w.heap.size w w1 := by rw [← hsame]; exact Below.refl _ _
  clear hsame
  have hB1 := hb1
  have z1 := hb1.size
  have hge := szS_ge (xs := ts) (l := 1048576)
  by_cases hneg : szS 1048576 ts < 0
  · have hdl : decide (szS 1048576 ts < 0) = true := by simpa using hneg
    go_wp2
    go_ret
    exact ⟨rfl, hB1⟩
  have hdl : decide (szS 1048576 ts < 0) = false := by simpa using hneg
  have hge2 := hge (by omega) (by omega)
  have hnstrs : ts.length ≤ 1048576 := by omega
  have hxstrs : sumL (ts.map byts) ≤ 1048576 := by omega
  clear hneg hge hge2
  go_wp2_with fail
  refine (toStringS_any T ts ct _ (hTW.go hB1) hnstrs).mono ?_
  rintro e w2 ⟨Q1, rfl, hQ1, hb2⟩
  have hB2 := hB1.trans (hb2.mono hB1.size)
  have z2 := hb2.size
  clear hB1
  go_wp2_with fail
  refine (specBestStone_any Q1 ts _ htn htx s hs _ hQ1.at_).mono ?_
  rintro e w3 ⟨rfl, hb3⟩
  have hB3 := hB2.trans (hb3.mono hB2.size)
  have z3 := hb3.size
  clear hB2
  clear hQ1
  go_wp2_with fail
  refine (toStringS_any T ts ct _ (hTW.go hB3) hnstrs).mono ?_
  rintro e w4 ⟨Q2, rfl, hQ2, hb4⟩
  have hB4 := hB3.trans (hb4.mono hB3.size)
  have z4 := hb4.size
  clear hB3
  have bd_x0 := blkS_bd hQ2
  go_wp2_with fail
  refine (implBestStone_any Q2 ts _ htn htx s hs _ (hG.below hB4) hQ2.at_).mono ?_
  rintro e w5 ⟨rfl, hb5⟩
  have hB5 := hB4.trans (hb5.mono hB4.size)
  have z5 := hb5.size
  have d_x0_5 := hQ2.go hb5
  clear hQ2 hB4
  go_wp2_with fail
  refine (toStringS_any T ts ct _ (hTW.go hB5) hnstrs).mono ?_
  rintro e w6 ⟨Q3, rfl, hQ3, hb6⟩
  have hB6 := hB5.trans (hb6.mono hB5.size)
  have z6 := hb6.size
  have d_x0_6 := d_x0_5.go hb6
  clear d_x0_5 hB5
  go_wp2_with fail
  refine (eqStringS_same Q2 Q3 ts _ _ _ htn d_x0_6.at_ hQ3.at_).mono ?_
  rintro e w7 ⟨rfl, hb7⟩
  have hB7 := hB6.trans (hb7.mono hB6.size)
  have z7 := hb7.size
  have d_x0_7 := d_x0_6.go hb7
  clear d_x0_6 hB6
  clear hQ3
  go_wp2
  go_ret
  exact ⟨rfl, hB7⟩
end Go.Proofs.YtnanminbnfgcfaaDoor
