/- ShortenAll: the model and the program give the same answer for every argument. -/
import Derived.Test.YtikmmeohmkjbeaaShAllS
import Derived.Test.YtikmmeohmkjbeaaG5
import Derived.Test.YtikmmeohmkjbeaaShorts
namespace Go.Proofs.Ytikmmeohmkjbeaa
open Go.RowKit

set_option maxRecDepth 100000 in
set_option maxHeartbeats 16000000 in
theorem lawShortenAll_any (s : ByteArray) (hs : s.size ≤ maxLen) (S : Option Addr) (ss : List Sh) (cs : Nat) (hsn : ss.length ≤ maxLen) (hsx : ∀ x ∈ ss, x.1.size ≤ maxLen ∧ x.2.size ≤ maxLen) (w : World) (hS : ShsAt w w.heap.size S ss) :
    Calls Try.prog 12 #[.string s, .slice S ss.length cs] w fun e w' => e = .returned (.bool true) ∧ Below w.heap.size w w' := by
  have hmstr := hs
  unfold maxLen at hmstr
  by_cases htstr : 1048576 < s.size
  · have hd : decide ((1048576 : Int) < s.size) = true := by simp; omega
    have hd' : decide (1048576 < s.size) = true := by simp; omega
    go_enter Try.func12, Try.ntmps12
    go_wp2
    go_ret
    exact ⟨rfl, Below.refl _ _⟩
  have hd0str : decide ((1048576 : Int) < s.size) = false := by simp; omega
  have hd1str : decide (1048576 < s.size) = false := by simp; omega
  have hnstr : s.size ≤ 1048576 := by omega
  clear htstr hmstr
  have hSW := hS
  go_enter Try.func12, Try.ntmps12
  go_wp2_with fail
  refine (szShortS_any S ss cs _ hsn hsx hSW).mono ?_
  rintro e w1 ⟨vl, rfl, hvl, hb1⟩
  have hB1 := hb1
  have z1 := hb1.size
  by_cases hneg : vl < 0
  · have hdl : decide (vl < 0) = true := by simpa using hneg
    go_wp2
    go_ret
    exact ⟨rfl, hB1⟩
  have hdl : decide (vl < 0) = false := by simpa using hneg
  obtain ⟨hnS, hxS⟩ := hvl hneg
  clear hneg hvl
  go_wp2_with fail
  refine (toShortS_any S ss cs _ (hSW.go hB1) hnS).mono ?_
  rintro e w2 ⟨Q1, rfl, hQ1, hb2⟩
  have hB2 := hB1.trans (hb2.mono hB1.size)
  have z2 := hb2.size
  clear hB1
  go_wp2_with fail
  refine (specShortenAll_any s hs Q1 ss _ hsn hsx _ hQ1.at_).mono ?_
  rintro e w3 ⟨rfl, hb3⟩
  have hB3 := hB2.trans (hb3.mono hB2.size)
  have z3 := hb3.size
  clear hB2
  clear hQ1
  go_wp2_with fail
  refine (toShortS_any S ss cs _ (hSW.go hB3) hnS).mono ?_
  rintro e w4 ⟨Q2, rfl, hQ2, hb4⟩
  have hB4 := hB3.trans (hb4.mono hB3.size)
  have z4 := hb4.size
  clear hB3
  go_wp2_with fail
  refine (implShortenAll_any s hs Q2 ss _ hsn hsx _ hQ2.at_).mono ?_
  rintro e w5 ⟨rfl, hb5⟩
  have hB5 := hB4.trans (hb5.mono hB4.size)
  have z5 := hb5.size
  have d_x1_5 := hQ2.go hb5
  clear hQ2 hB4
  go_wp2_with fail
  refine (toShortS_any S ss cs _ (hSW.go hB5) hnS).mono ?_
  rintro e w6 ⟨Q3, rfl, hQ3, hb6⟩
  have hB6 := hB5.trans (hb6.mono hB5.size)
  have z6 := hb6.size
  have d_x1_6 := d_x1_5.go hb6
  clear d_x1_5 hB5
  go_wp2_with fail
  refine (eqShortS_same Q2 Q3 ss _ _ _ hsn d_x1_6.at_ hQ3.at_).mono ?_
  rintro e w7 ⟨rfl, hb7⟩
  have hB7 := hB6.trans (hb7.mono hB6.size)
  have z7 := hb7.size
  have d_x1_7 := d_x1_6.go hb7
  clear d_x1_6 hB6
  clear hQ3
  go_wp2
  go_ret
  exact ⟨rfl, hB7⟩
end Go.Proofs.Ytikmmeohmkjbeaa
