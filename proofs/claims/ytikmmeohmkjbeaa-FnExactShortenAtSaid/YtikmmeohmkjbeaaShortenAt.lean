/- ShortenAt: the model and the program give the same answer for every argument. -/
import Derived.Test.YtikmmeohmkjbeaaStAtS
import Derived.Test.YtikmmeohmkjbeaaG5
import Derived.Test.YtikmmeohmkjbeaaG2
import Derived.Test.YtikmmeohmkjbeaaShorts
namespace Go.Proofs.Ytikmmeohmkjbeaa
open Go.RowKit

set_option maxRecDepth 100000 in
set_option maxHeartbeats 16000000 in
theorem lawShortenAt_any (s : ByteArray) (hs : s.size ≤ maxLen) (S : Option Addr) (ss : List Sh) (cs : Nat) (hsn : ss.length ≤ maxLen) (hsx : ∀ x ∈ ss, x.1.size ≤ maxLen ∧ x.2.size ≤ maxLen) (B : Option Addr) (bs : List Int) (cb : Nat) (hbn : bs.length ≤ maxLen) (w : World) (hS : ShsAt w w.heap.size S ss) (hB : IntsAt w w.heap.size B bs) :
    Calls Try.prog 11 #[.string s, .slice S ss.length cs, .slice B bs.length cb] w fun e w' => e = .returned (.bool true) ∧ Below w.heap.size w w' := by
  have hmstr := hs
  unfold maxLen at hmstr
  by_cases htstr : 1048576 < s.size
  · have hd : decide ((1048576 : Int) < s.size) = true := by simp; omega
    have hd' : decide (1048576 < s.size) = true := by simp; omega
    go_enter Try.func11, Try.ntmps11
    go_wp2
    go_ret
    exact ⟨rfl, Below.refl _ _⟩
  have hd0str : decide ((1048576 : Int) < s.size) = false := by simp; omega
  have hd1str : decide (1048576 < s.size) = false := by simp; omega
  have hnstr : s.size ≤ 1048576 := by omega
  clear htstr hmstr
  have hmints := hbn
  unfold maxLen at hmints
  by_cases htints : 1048576 < bs.length
  · have hd : decide ((1048576 : Int) < bs.length) = true := by simp; omega
    have hd' : decide (1048576 < bs.length) = true := by simp; omega
    go_enter Try.func11, Try.ntmps11
    go_wp2
    go_ret
    exact ⟨rfl, Below.refl _ _⟩
  have hd0ints : decide ((1048576 : Int) < bs.length) = false := by simp; omega
  have hd1ints : decide (1048576 < bs.length) = false := by simp; omega
  have hnints : bs.length ≤ 1048576 := by omega
  clear htints hmints
  have hSW := hS
  have hBW := hB
  go_enter Try.func11, Try.ntmps11
  go_wp2_with fail
  refine (szShortS_any S ss cs _ hsn hsx hSW).mono ?_
  rintro e w1 ⟨vl, rfl, hvl, hb1⟩
  have hB1 := hb1
  have z1 := hb1.size
  by_cases hneg : vl < 0
  · have hdl : decide (vl < 0) = true := by simpa using hneg
    go_wp2
    go_ret
    exact ⟨rfl, hB1⟩
  have hdl : decide (vl < 0) = false := by simpa using hneg
  obtain ⟨hnS, hxS⟩ := hvl hneg
  clear hneg hvl
  go_wp2_with fail
  refine (toShortS_any S ss cs _ (hSW.go hB1) hnS).mono ?_
  rintro e w2 ⟨Q1, rfl, hQ1, hb2⟩
  have hB2 := hB1.trans (hb2.mono hB1.size)
  have z2 := hb2.size
  clear hB1
  go_wp2_with fail
  refine (toInt64S_any B bs cb _ (hBW.go hB2) hnints).mono ?_
  rintro e w3 ⟨Q2, rfl, hQ2, hb3⟩
  have hB3 := hB2.trans (hb3.mono hB2.size)
  have z3 := hb3.size
  have c_aList_3 := hQ1.go hb3
  clear hQ1 hB2
  go_wp2_with fail
  refine (specShortenAt_any s hs Q1 ss _ hsn hsx Q2 bs _ hbn _ (Nat.le_refl _) c_aList_3.at_ hQ2.at_).mono ?_
  rintro e w4 ⟨rfl, hb4⟩
  have hB4 := hB3.trans (hb4.mono hB3.size)
  have z4 := hb4.size
  clear hB3
  clear c_aList_3 hQ2
  go_wp2_with fail
  refine (toShortS_any S ss cs _ (hSW.go hB4) hnS).mono ?_
  rintro e w5 ⟨Q3, rfl, hQ3, hb5⟩
  have hB5 := hB4.trans (hb5.mono hB4.size)
  have z5 := hb5.size
  clear hB4
  go_wp2_with fail
  refine (toInt64S_any B bs cb _ (hBW.go hB5) hnints).mono ?_
  rintro e w6 ⟨Q4, rfl, hQ4, hb6⟩
  have hB6 := hB5.trans (hb6.mono hB5.size)
  have z6 := hb6.size
  have d_x1_6 := hQ3.go hb6
  clear hQ3 hB5
  have bd_x2 := blkI_bd hQ4
  go_wp2_with fail
  refine (implShortenAt_any s hs Q3 ss _ hsn hsx Q4 bs _ hbn _ d_x1_6.at_ hQ4.at_).mono ?_
  rintro e w7 ⟨rfl, hb7⟩
  have hB7 := hB6.trans (hb7.mono hB6.size)
  have z7 := hb7.size
  have d_x1_7 := d_x1_6.go hb7
  have d_x2_7 := hQ4.go hb7
  clear d_x1_6 hQ4 hB6
  go_wp2_with fail
  refine (toShortS_any S ss cs _ (hSW.go hB7) hnS).mono ?_
  rintro e w8 ⟨Q5, rfl, hQ5, hb8⟩
  have hB8 := hB7.trans (hb8.mono hB7.size)
  have z8 := hb8.size
  have d_x1_8 := d_x1_7.go hb8
  have d_x2_8 := d_x2_7.go hb8
  clear d_x1_7 d_x2_7 hB7
  go_wp2_with fail
  refine (eqShortS_same Q3 Q5 ss _ _ _ hsn d_x1_8.at_ hQ5.at_).mono ?_
  rintro e w9 ⟨rfl, hb9⟩
  have hB9 := hB8.trans (hb9.mono hB8.size)
  have z9 := hb9.size
  have d_x1_9 := d_x1_8.go hb9
  have d_x2_9 := d_x2_8.go hb9
  clear d_x1_8 d_x2_8 hB8
  clear hQ5
  go_wp2_with fail
  refine (toInt64S_any B bs cb _ (hBW.go hB9) hnints).mono ?_
  rintro e w10 ⟨Q6, rfl, hQ6, hb10⟩
  have hB10 := hB9.trans (hb10.mono hB9.size)
  have z10 := hb10.size
  have d_x1_10 := d_x1_9.go hb10
  have d_x2_10 := d_x2_9.go hb10
  clear d_x1_9 d_x2_9 hB9
  go_wp2_with fail
  refine (eqInt64S_same Q4 Q6 bs _ _ _ hbn d_x2_10.at_ hQ6.at_).mono ?_
  rintro e w11 ⟨rfl, hb11⟩
  have hB11 := hB10.trans (hb11.mono hB10.size)
  have z11 := hb11.size
  have d_x1_11 := d_x1_10.go hb11
  have d_x2_11 := d_x2_10.go hb11
  clear d_x1_10 d_x2_10 hB10
  clear hQ6
  go_wp2
  go_ret
  exact ⟨rfl, hB11⟩
end Go.Proofs.Ytikmmeohmkjbeaa
