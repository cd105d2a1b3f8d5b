/- WordWide of the model and of the program: the same two numbers. -/
import Derived.Test.YtikndeloeeppaaaWordP
import Derived.Test.YtikndeloeeppaaaImplWord
namespace Go.Proofs.Ytikndeloeeppaaa
open Go.RowKit

set_option maxRecDepth 100000 in
set_option maxHeartbeats 2000000 in
theorem l01Word_any (s : ByteArray) (w : World) (hs : s.size ≤ maxLen) :
    Calls Try.prog 188 #[.string s] w fun e w' => e = .returned (.bool (capsB s.data.toList)) ∧ w = w' := by
  unfold maxLen at hs
  have hL : s.data.toList.length = s.size := by simp
  have HL := hide hL
  generalize hS : capsB s.data.toList = S
  have HS := hide hS
  clear hS hL
  go_enter Try.func188, Try.ntmps188
  go_wp2
  go_loop [3] (fun i => ∃ k : Nat, k ≤ s.size ∧ i = .int .i64 k ∧ Hid (∀ j, j < k → cap (byteAt s.data.toList j) = true)) (fun i => s.size - (intOf i).toNat)
  case atStart => exact ⟨0, Nat.zero_le _, rfl, fun j hj => by omega⟩
  case round =>
    obtain ⟨k, hk, rfl, hg⟩ := hrel
    by_cases hlt : k < s.size
    · have hi : (k : Int) < s.size := by omega
      have h0 : (0 : Int) ≤ k := by omega
      have hb := byteAt_get s k hlt
      have HB := hide hb
      clear hb
      cases hc : cap (s[k].toNat : Int)
      · go_wp2_with (go_at_call 82; refine (l01Letter_any _ _).mono ?_; rintro e w' ⟨rfl, rfl⟩)
        go_ret
        exact ⟨ret_bool ((capsB_false.2 fun h => by have := h.2 k (by rw [HL.out]; exact hlt); rw [← HB.out, hc] at this; cases this).symm.trans HS.out), rfl⟩
      · go_wp2_with (go_at_call 82; refine (l01Letter_any _ _).mono ?_; rintro e w' ⟨rfl, rfl⟩)
        exact ⟨⟨k + 1, by omega, by go_num, fun j hj => by
          by_cases e : j = k
          · subst e; rw [← HB.out]; exact hc
          · exact hg.out j (by omega)⟩, by simp [intOf]; omega⟩
    · obtain rfl : k = s.size := by omega
      go_wp2
      go_ret
      refine ⟨ret_bool ?_, rfl⟩
      rw [← HS.out, Bool.eq_iff_iff, capsB_true, HL.out]
      simp only [decide_eq_true_eq]
      exact ⟨fun h => ⟨by omega, fun i hi => hg.out i (by rw [← HL.out]; exact hi)⟩, fun h => by omega⟩

set_option maxRecDepth 100000 in
set_option maxHeartbeats 2000000 in
theorem isWord_any (s : ByteArray) (w : World) (hs : s.size ≤ maxLen) :
    Calls Try.prog 189 #[.string s] w fun e w' => e = .returned (.bool (vword s.data.toList)) ∧ Below w.heap.size w w' := by
  have hL : s.data.toList.length = s.size := by simp
  have hv := vword_impl s.data.toList
  rw [hL] at hv
  have HV := hide hv
  have HT := hide (implValidText_any s w hs)
  have HC := hide (fun w => (Try.strings_Contains_one s 32 w).mono fun _ _ ⟨a, b⟩ => (⟨a, b.symm⟩ : _ ∧ _))
  clear hL hv hs
  by_cases h0 : s.size = 0
  · have he : s.toList = [] := toList_nil h0
    have H0 := hide h0
    clear h0
    go_enter Try.func189, Try.ntmps189
    go_wp2
    go_ret
    exact ⟨ret_bool (by rw [HV.out, H0.out]; rfl), Below.refl _ _⟩
  · have he : s.toList.isEmpty = false := toList_cons h0
    have H0 := hide (show decide (0 < s.size) = true by simp; omega)
    clear h0
    cases hb : decide (0 ≤ Lib.indexByte s.data.toList 32)
    · have HB := hide (show hasBlank s.data.toList = false from hb)
      go_enter Try.func189, Try.ntmps189
      go_wp2_with (first | (go_at_call 213; refine (HC.out _).mono ?_; rintro e w' ⟨rfl, rfl⟩; simp only [hb]) | (go_at_call 98; refine HT.out.mono ?_; rintro e w2 ⟨rfl, hb2⟩))
      go_ret
      exact ⟨ret_bool (by rw [HV.out, H0.out, HB.out]; rfl), hb2⟩
    · have HB := hide (show hasBlank s.data.toList = true from hb)
      go_enter Try.func189, Try.ntmps189
      go_wp2_with (go_at_call 213; refine (HC.out _).mono ?_; rintro e w' ⟨rfl, rfl⟩; simp only [hb])
      go_ret
      exact ⟨ret_bool (by rw [HV.out, H0.out, HB.out]; rfl), Below.refl _ _⟩

noncomputable def wwV (F : Fc) (L : List UInt8) : Int := if vface F = true ∧ vword L = true then wideL F L else 0
noncomputable def wwC (F : Fc) (L : List UInt8) : Int := if vface F = true ∧ vword L = true then 0 else 1
theorem ww_ok {F : Fc} {L : List UInt8} (h : vface F = true) (h' : vword L = true) : wwV F L = wideL F L ∧ wwC F L = 0 := by
  unfold wwV wwC; rw [if_pos ⟨h, h'⟩, if_pos ⟨h, h'⟩]; exact ⟨rfl, rfl⟩
theorem ww_no {F : Fc} {L : List UInt8} (h : ¬ (vface F = true ∧ vword L = true)) : wwV F L = 0 ∧ wwC F L = 1 := by
  unfold wwV wwC; rw [if_neg h, if_neg h]; exact ⟨rfl, rfl⟩

end Go.Proofs.Ytikndeloeeppaaa
