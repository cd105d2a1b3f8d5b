/- JoinWords: the model and the program give the same answer for every list of words. -/
import Derived.Test.YtkgoceiingddoaaJoinW
namespace Go.Proofs.Ytkgoceiingddoaa
open Go.RowKit

set_option maxRecDepth 100000 in
set_option maxHeartbeats 4000000 in
theorem lawJoinWords_any (A : Option Addr) (xs : List ByteArray) (c : Nat) (hn : xs.length ≤ maxLen) (hx : ∀ x ∈ xs, x.size ≤ maxLen) (w : World) (hA : StrsAt w w.heap.size A xs) :
    Calls Try.prog 8 #[.slice A xs.length c] w fun e w' => e = .returned (.bool true) ∧ Below w.heap.size w w' := by
  have HSZ := hide (szStringS_any A xs c 1048576 w (by omega) (by omega) hn hx hA)
  by_cases hbig : szS 1048576 xs < 0
  · have hd : decide (szS 1048576 xs < 0) = true := by simpa using hbig
    go_enter Try.func8, Try.ntmps8
    go_wp2_with (go_at_call 35; refine HSZ.out.mono ?_; rintro e w1 ⟨rfl, rfl⟩)
    go_ret
    exact ⟨rfl, Below.refl _ _⟩
  · have hd : decide (szS 1048576 xs < 0) = false := by simpa using hbig
    have hge := szS_ge (xs := xs) (l := 1048576) (by omega) (by omega)
    have hn1 : xs.length ≤ 1048576 := by omega
    have hx1 : sumL (xs.map byts) ≤ 1048576 := by omega
    clear hbig hge
    go_enter Try.func8, Try.ntmps8
    go_wp2_with (go_at_call 35; refine HSZ.out.mono ?_; rintro e w1 ⟨rfl, rfl⟩)
    refine (toStringS_any A xs c _ hA hn1).mono ?_
    rintro e w2 ⟨A1, rfl, hP1, hb2⟩
    go_wp2_with fail
    refine (specJoinWords_any A1 xs _ _ hn1 hx1 hP1.at_).mono ?_
    rintro e w3 ⟨rfl, rfl⟩
    go_wp2_with fail
    refine (toStringS_any A xs c _ (hA.go hb2) hn1).mono ?_
    rintro e w4 ⟨A2, rfl, hP2, hb4⟩
    have hB4 := hb2.trans (hb4.mono hb2.size)
    go_wp2_with fail
    refine (implJoinWords_any A2 xs _ _ hn1 (Nat.le_refl _) hx1 hP2.at_).mono ?_
    rintro e w5 ⟨rfl, hb5⟩
    have hB5 := hB4.trans (hb5.mono hB4.size)
    go_wp2_with fail
    refine (toStringS_any A xs c _ (hA.go hB5) hn1).mono ?_
    rintro e w6 ⟨A3, rfl, hP3, hb6⟩
    have hB6 := hB5.trans (hb6.mono hB5.size)
    go_wp2_with fail
    refine (eqStringS_same A2 A3 xs _ _ _ hn ((hP2.at_.go hb5).go hb6) hP3.at_).mono ?_
    rintro e w7 ⟨rfl, hb7⟩
    go_wp2
    go_ret
    exact ⟨rfl, hB6.trans (hb7.mono hB6.size)⟩
end Go.Proofs.Ytkgoceiingddoaa
