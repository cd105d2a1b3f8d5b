/- The text of a rubbing: the data; RubbingText of the model. -/
import Derived.Test.YtjmkbdghenjlaaaRbA
import Derived.Test.YtjmkbdghenjlaaaRbC
import Derived.Test.YtjmkbdghenjlaaaWr
namespace Go.Proofs.Ytjmkbdghenjlaaa
open Go Go.RowKit

/-- The sign of a dot. -/
def rtD (R : List Nat) (x y : Nat) : UInt8 := if (R.getD y 0).testBit x then 35 else 46
def rtW (R : List Nat) (y : Nat) : Nat → List UInt8
  | 0 => []
  | x + 1 => rtW R y x ++ [rtD R x y]
/-- The first y rows. -/
def rtT (R : List Nat) : Nat → List UInt8
  | 0 => []
  | y + 1 => rtT R y ++ rtW R y 16 ++ [10]
theorem rtW_len (R : List Nat) (y : Nat) : ∀ x, (rtW R y x).length = x
  | 0 => rfl
  | x + 1 => by rw [rtW, List.length_append, rtW_len R y x]; rfl
theorem rtT_len (R : List Nat) : ∀ y, (rtT R y).length = 17 * y
  | 0 => rfl
  | y + 1 => by rw [rtT, List.length_append, List.length_append, rtT_len R y, rtW_len]; simp; omega
/-- .. and x dots of the next one. -/
def rtX (R : List Nat) (y x : Nat) : List UInt8 := rtT R y ++ rtW R y x
theorem rtX_len (R : List Nat) (y x : Nat) : (rtX R y x).length = 17 * y + x := by rw [rtX, List.length_append, rtT_len, rtW_len]
theorem rtX_zero (R : List Nat) (y : Nat) : rtX R y 0 = rtT R y := by simp [rtX, rtW]
theorem rtX_dark {R : List Nat} {y x : Nat} (h : (R.getD y 0).testBit x = true) : rtX R y (x + 1) = rtX R y x ++ [35] := by
  rw [rtX, rtW, rtX, rtD, if_pos h, List.append_assoc]
theorem rtX_light {R : List Nat} {y x : Nat} (h : (R.getD y 0).testBit x = false) : rtX R y (x + 1) = rtX R y x ++ [46] := by
  rw [rtX, rtW, rtX, rtD, if_neg (by rw [h]; decide), List.append_assoc]
theorem rtX_end (R : List Nat) (y : Nat) : rtT R (y + 1) = rtX R y 16 ++ [10] := by rw [rtT, rtX]
/-- The text of a rubbing. -/
def rtB (R : List Nat) : ByteArray := ⟨(rtT R 8).toArray⟩
theorem ba_snoc (l : List UInt8) (c : UInt8) : (⟨l.toArray⟩ : ByteArray) ++ ⟨#[c]⟩ = ⟨(l ++ [c]).toArray⟩ := by
  apply ba_ext; rw [append_data]; first | done | simp
theorem rt_size (R : List Nat) (y x : Nat) : (⟨(rtX R y x).toArray⟩ : ByteArray).size = 17 * y + x := by
  rw [← rtX_len R y x]; simp [ByteArray.size]

set_option maxRecDepth 100000 in
set_option maxHeartbeats 8000000 in
theorem l07Text_any (R : List Nat) (hR : rok R) (b : Nat) (w : World) (hr : w.rangeAt b 0 (rwc R)) :
    Calls Try.prog 21 #[.pointer (some ⟨b, 0, none⟩)] w fun e w' => e = .returned (.string (rtB R)) ∧ w = w' := by
  have HC := hide (fun (x y : Nat) (hx : x < 16) (hy : y < 8) => show Calls Try.prog 37 #[.pointer (some ⟨b, 0, none⟩), .int .i64 x, .int .i64 y] w (fun e w' => e = .returned (.bool ((R.getD y 0).testBit x)) ∧ w = w') from by
    have := l07Dark_any R hR b x y w hr
    rw [dk_in hx hy] at this; exact this)
  have HD := hide (fun y x h => @rtX_dark R y x h)
  have HL := hide (fun y x h => @rtX_light R y x h)
  have HE := hide (rtX_end R)
  have HZ := hide (rtX_zero R)
  have HS := hide (rt_size R)
  have HB := hide (show rtB R = ⟨(rtX R 8 0).toArray⟩ by rw [rtX_zero]; rfl)
  have H0 : Hid ((⟨#[]⟩ : ByteArray) = ⟨(rtX R 0 0).toArray⟩) := hide rfl
  clear hr hR
  rw [HB.out]
  go_enter Try.func21, Try.ntmps21
  go_wp2
  go_loop [3, 4] (fun t i => ∃ y : Nat, y ≤ 8 ∧ i = .int .i64 y ∧ t = .string ⟨(rtX R y 0).toArray⟩) (fun _ i => 8 - (intOf i).toNat)
  case atStart => exact ⟨0, by omega, rfl, by rw [← H0.out]⟩
  case round =>
    obtain ⟨y, hy, rfl, rfl⟩ := hrel
    by_cases hlt : y < 8
    · have hiy : (y : Int) < 8 := by omega
      have h0y : (0 : Int) ≤ y := by omega
      go_wp2
      go_loop [3, 5] (fun t i => ∃ x : Nat, x ≤ 16 ∧ i = .int .i64 x ∧ t = .string ⟨(rtX R y x).toArray⟩) (fun _ i => 16 - (intOf i).toNat)
      case atStart => exact ⟨0, by omega, rfl, rfl⟩
      case round =>
        obtain ⟨x, hx, rfl, rfl⟩ := hrel
        have hsz : (⟨(rtX R y x).toArray⟩ : ByteArray).size ≤ 1000 := by rw [HS.out]; omega
        by_cases hlt2 : x < 16
        · have hix : (x : Int) < 16 := by omega
          have h0x : (0 : Int) ≤ x := by omega
          have HCC := hide (HC.out x y hlt2 hlt)
          cases hd : (R.getD y 0).testBit x
          · rw [hd] at HCC
            have HN := hide (HL.out y x hd)
            have HSN := hide (ba_snoc (rtX R y x) 46)
            rw [← HN.out] at HSN
            clear hd
            generalize (⟨(rtX R y x).toArray⟩ : ByteArray) = t at *
            go_wp2_with fail
            refine HCC.out.mono ?_
            rintro e w' ⟨rfl, rfl⟩
            go_wp2
            exact ⟨⟨x + 1, by omega, by go_num, by rw [HSN.out]⟩, by simp [intOf]; omega⟩
          · rw [hd] at HCC
            have HN := hide (HD.out y x hd)
            have HSN := hide (ba_snoc (rtX R y x) 35)
            rw [← HN.out] at HSN
            clear hd
            generalize (⟨(rtX R y x).toArray⟩ : ByteArray) = t at *
            go_wp2_with fail
            refine HCC.out.mono ?_
            rintro e w' ⟨rfl, rfl⟩
            go_wp2
            exact ⟨⟨x + 1, by omega, by go_num, by rw [HSN.out]⟩, by simp [intOf]; omega⟩
        · obtain rfl : x = 16 := by omega
          have HSN := hide (ba_snoc (rtX R y 16) 10)
          rw [← HE.out, ← HZ.out] at HSN
          generalize (⟨(rtX R y 16).toArray⟩ : ByteArray) = t at *
          go_wp2
          exact ⟨⟨y + 1, by omega, by go_num, by rw [HSN.out]⟩, by simp [intOf]; omega⟩
    · obtain rfl : y = 8 := by omega
      go_wp2
      go_ret
      exact ⟨rfl, rfl⟩

set_option maxRecDepth 100000 in
set_option maxHeartbeats 4000000 in
theorem specRubbingText_any (R : List Nat) (hR : rok R) (w : World) :
    Calls Try.prog 9 #[.agg (rwc R).toArray] w fun e w' => e = .returned (.string (rtB R)) ∧ Below w.heap.size w w' := by
  have b0 : Below w.heap.size w (w.alloc (.cells (rwc R).toArray 26)) := (Below.refl _ _).alloc (Nat.le_refl _) _
  have HC := hide (l07Text_any R hR _ _ (rangeAt_new w (rwc R) 26))
  clear hR
  go_enter Try.func9, Try.ntmps9
  go_wp2_with fail
  refine HC.out.mono ?_
  rintro e w' ⟨rfl, rfl⟩
  go_wp2
  go_ret
  exact ⟨rfl, b0⟩
end Go.Proofs.Ytjmkbdghenjlaaa
