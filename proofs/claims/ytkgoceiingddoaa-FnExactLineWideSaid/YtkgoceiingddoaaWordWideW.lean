/- WordWide of the model and of the program: the same two numbers. -/
import Derived.Test.YtkgoceiingddoaaWordP
import Derived.Test.YtkgoceiingddoaaImplWord
namespace Go.Proofs.Ytkgoceiingddoaa
open Go.RowKit

set_option maxRecDepth 100000 in
set_option maxHeartbeats 2000000 in
theorem l01Word_any (s : ByteArray) (w : World) (hs : s.size ≤ maxLen) :
    Calls Try.prog 81 #[.string s] w fun e w' => e = .returned (.bool (capsB s.data.toList)) ∧ w = w' := by
  unfold maxLen at hs
  have hL : s.data.toList.length = s.size := by simp
  have HL := hide hL
  generalize hS : capsB s.data.toList = S
  have HS := hide hS
  clear hS hL
  go_enter Try.func81, Try.ntmps81
  go_wp2
  go_loop [3] (fun i => ∃ k : Nat, k ≤ s.size ∧ i = .int .i64 k ∧ Hid (∀ j, j < k → cap (byteAt s.data.toList j) = true)) (fun i => s.size - (intOf i).toNat)
  case atStart => exact ⟨0, Nat.zero_le _, rfl, fun j hj => by omega⟩
  case round =>
    obtain ⟨k, hk, rfl, hg⟩ := hrel
    by_cases hlt : k < s.size
    · have hi : (k : Int) < s.size := by omega
      have h0 : (0 : Int) ≤ k := by omega
      have hb := byteAt_get s k hlt
      have HB := hide hb
      clear hb
      cases hc : cap (s[k].toNat : Int)
      · go_wp2_with (go_at_call 85; refine (l01Letter_any _ _).mono ?_; rintro e w' ⟨rfl, rfl⟩)
        go_ret
        exact ⟨ret_bool ((capsB_false.2 fun h => by have := h.2 k (by rw [HL.out]; exact hlt); rw [← HB.out, hc] at this; cases this).symm.trans HS.out), rfl⟩
      · go_wp2_with (go_at_call 85; refine (l01Letter_any _ _).mono ?_; rintro e w' ⟨rfl, rfl⟩)
        exact ⟨⟨k + 1, by omega, by go_num, fun j hj => by
          by_cases e : j = k
          · subst e; rw [← HB.out]; exact hc
          · exact hg.out j (by omega)⟩, by simp [intOf]; omega⟩
    · obtain rfl : k = s.size := by omega
      go_wp2
      go_ret
      refine ⟨ret_bool ?_, rfl⟩
      rw [← HS.out, Bool.eq_iff_iff, capsB_true, HL.out]
      simp only [decide_eq_true_eq]
      exact ⟨fun h => ⟨by omega, fun i hi => hg.out i (by rw [← HL.out]; exact hi)⟩, fun h => by omega⟩

set_option maxRecDepth 100000 in
set_option maxHeartbeats 2000000 in
theorem isWord_any (s : ByteArray) (w : World) (hs : s.size ≤ maxLen) :
    Calls Try.prog 83 #[.string s] w fun e w' => e = .returned (.bool (vword s.data.toList)) ∧ Below w.heap.size w w' := by
  have hL : s.data.toList.length = s.size := by simp
  have hv := vword_impl s.data.toList
  rw [hL] at hv
  have HV := hide hv
  have HT := hide (implValidText_any s w hs)
  have HC := hide (fun w => (Try.strings_Contains_one s 32 w).mono fun _ _ ⟨a, b⟩ => (⟨a, b.symm⟩ : _ ∧ _))
  clear hL hv hs
  by_cases h0 : s.size = 0
  · have he : s.toList = [] := toList_nil h0
    have H0 := hide h0
    clear h0
    go_enter Try.func83, Try.ntmps83
    go_wp2
    go_ret
    exact ⟨ret_bool (by rw [HV.out, H0.out]; rfl), Below.refl _ _⟩
  · have he : s.toList.isEmpty = false := toList_cons h0
    have H0 := hide (show decide (0 < s.size) = true by simp; omega)
    clear h0
    cases hb : decide (0 ≤ Lib.indexByte s.data.toList 32)
    · have HB := hide (show hasBlank s.data.toList = false from hb)
      go_enter Try.func83, Try.ntmps83
      go_wp2_with (first | (go_at_call 115; refine (HC.out _).mono ?_; rintro e w' ⟨rfl, rfl⟩; simp only [hb]) | (go_at_call 29; refine HT.out.mono ?_; rintro e w2 ⟨rfl, hb2⟩))
      go_ret
      exact ⟨ret_bool (by rw [HV.out, H0.out, HB.out]; rfl), hb2⟩
    · have HB := hide (show hasBlank s.data.toList = true from hb)
      go_enter Try.func83, Try.ntmps83
      go_wp2_with (go_at_call 115; refine (HC.out _).mono ?_; rintro e w' ⟨rfl, rfl⟩; simp only [hb])
      go_ret
      exact ⟨ret_bool (by rw [HV.out, H0.out, HB.out]; rfl), Below.refl _ _⟩

noncomputable def wwV (F : Fc) (L : List UInt8) : Int := if vface F = true ∧ vword L = true then wideL F L else 0
noncomputable def wwC (F : Fc) (L : List UInt8) : Int := if vface F = true ∧ vword L = true then 0 else 1
theorem ww_ok {F : Fc} {L : List UInt8} (h : vface F = true) (h' : vword L = true) : wwV F L = wideL F L ∧ wwC F L = 0 := by
  unfold wwV wwC; rw [if_pos ⟨h, h'⟩, if_pos ⟨h, h'⟩]; exact ⟨rfl, rfl⟩
theorem ww_no {F : Fc} {L : List UInt8} (h : ¬ (vface F = true ∧ vword L = true)) : wwV F L = 0 ∧ wwC F L = 1 := by
  unfold wwV wwC; rw [if_neg h, if_neg h]; exact ⟨rfl, rfl⟩

set_option maxRecDepth 100000 in
set_option maxHeartbeats 4000000 in
theorem specWordWide_any (F : Fc) (hF : F.ok) (A : Option Addr) (c : Nat) (s : ByteArray) (hs : s.size ≤ maxLen) (w : World) (hA : PairsAt w w.heap.size A F.ps) :
    Calls Try.prog 46 #[.agg (fc F (.slice A F.ps.length c)).toArray, .string s] w fun e w' => e = .returned (.tuple #[.int .i64 (wwV F s.data.toList), .int .i64 (wwC F s.data.toList)]) ∧ Below w.heap.size w w' := by
  have hr := rangeAt_new w (fc F (.slice A F.ps.length c)) 33
  have hb : Below w.heap.size w (w.alloc (.cells (fc F (.slice A F.ps.length c)).toArray 33)) := (Below.refl _ _).alloc (Nat.le_refl _) _
  have hs0 : w.heap.size < (w.alloc (.cells (fc F (.slice A F.ps.length c)).toArray 33)).heap.size := by simp
  have BA := hA.below hb
  have HC := hide (l01Face_any F hF _ A c _ hr (BA.mono hb.size))
  have HT := hide (fun w => l01Text_any s w hs)
  have HWo := hide (fun w => l01Word_any s w hs)
  have hvw := vword_spec s.data.toList
  generalize hv1 : wwV F s.data.toList = V
  generalize hv2 : wwC F s.data.toList = C
  have H1 := hide hv1
  have H2 := hide hv2
  have HVW := hide hvw
  clear hA hv1 hv2 hvw
  cases hv : vface F
  · have HP := hide (ww_no (F := F) (L := s.data.toList) (fun e => by rw [hv] at e; cases e.1))
    go_enter Try.func46, Try.ntmps46
    go_wp2_with (go_at_call 68; refine HC.out.mono ?_; rintro e w1 ⟨rfl, hb1⟩; simp only [hv])
    go_ret2
    exact ⟨ret_ii (HP.out.1.symm.trans H1.out) (HP.out.2.symm.trans H2.out), hb.trans (hb1.mono hb.size)⟩
  · cases ht : vtext s.data.toList
    · have HP := hide (ww_no (F := F) (L := s.data.toList) (fun e => by have := e.2; rw [HVW.out, ht] at this; cases this))
      go_enter Try.func46, Try.ntmps46
      go_wp2_with (first | (go_at_call 68; refine HC.out.mono ?_; rintro e w1 ⟨rfl, hb1⟩; simp only [hv]) | (go_at_call 75; refine (HT.out _).mono ?_; rintro e w' ⟨rfl, rfl⟩; simp only [ht]))
      go_ret2
      exact ⟨ret_ii (HP.out.1.symm.trans H1.out) (HP.out.2.symm.trans H2.out), hb.trans (hb1.mono hb.size)⟩
    · cases hc : capsB s.data.toList
      · have HP := hide (ww_no (F := F) (L := s.data.toList) (fun e => by have := e.2; rw [HVW.out, ht, hc] at this; cases this))
        go_enter Try.func46, Try.ntmps46
        go_wp2_with (first | (go_at_call 68; refine HC.out.mono ?_; rintro e w1 ⟨rfl, hb1⟩; simp only [hv]) | (go_at_call 75; refine (HT.out _).mono ?_; rintro e w' ⟨rfl, rfl⟩; simp only [ht]) | (go_at_call 81; refine (HWo.out _).mono ?_; rintro e w' ⟨rfl, rfl⟩; simp only [hc]))
        go_ret2
        exact ⟨ret_ii (HP.out.1.symm.trans H1.out) (HP.out.2.symm.trans H2.out), hb.trans (hb1.mono hb.size)⟩
      · have hwd : vword s.data.toList = true := by rw [HVW.out, ht, hc]; rfl
        have HP := hide (ww_ok hv hwd)
        have hw3 := vword_true.1 hwd
        have hsz : s.size ≤ 60 := by have := hw3.2.1; simpa using this
        have hcc := hw3.2.2
        clear hwd hw3
        go_enter Try.func46, Try.ntmps46
        go_wp2_with fail
        generalize (w.alloc (.cells (fc F (.slice A F.ps.length c)).toArray 33)) = W0 at *
        refine HC.out.mono ?_
        rintro e w1 ⟨rfl, hb1⟩
        simp only [hv]
        have HB := hide (l01Wide_any F hF _ A c s w1 hv hcc hsz (rangeAt_below hr hb1 hs0) ((BA.below (hb1.mono hb.size)).mono (Nat.le_trans hb.size hb1.size)))
        clear hr hcc
        go_wp2_with (first | (go_at_call 75; refine (HT.out _).mono ?_; rintro e w' ⟨rfl, rfl⟩; simp only [ht]) | (go_at_call 81; refine (HWo.out _).mono ?_; rintro e w' ⟨rfl, rfl⟩; simp only [hc]) | (go_at_call 95; refine HB.out.mono ?_; rintro e w2 ⟨rfl, hb2⟩))
        go_ret2
        exact ⟨ret_ii (HP.out.1.symm.trans H1.out) (HP.out.2.symm.trans H2.out), hb.trans ((hb1.trans (hb2.mono hb1.size)).mono hb.size)⟩

set_option maxRecDepth 100000 in
set_option maxHeartbeats 4000000 in
theorem implWordWide_any (F : Fc) (hF : F.ok) (A : Option Addr) (c : Nat) (s : ByteArray) (hs : s.size ≤ maxLen) (w : World) (hA : PairsAt w w.heap.size A F.ps) :
    Calls Try.prog 47 #[.agg (fc F (.slice A F.ps.length c)).toArray, .string s] w fun e w' => e = .returned (.tuple #[.int .i64 (wwV F s.data.toList), .int .i64 (wwC F s.data.toList)]) ∧ Below w.heap.size w w' := by
  have hW := hide hF.len
  have hr := rangeAt_new w (fc F (.slice A F.ps.length c)) 33
  have hb : Below w.heap.size w (w.alloc (.cells (fc F (.slice A F.ps.length c)).toArray 33)) := (Below.refl _ _).alloc (Nat.le_refl _) _
  have hs0 : w.heap.size < (w.alloc (.cells (fc F (.slice A F.ps.length c)).toArray 33)).heap.size := by simp
  have BA := hA.below hb
  have HC := hide (implValidFace_any F hF A c _ (BA.mono hb.size))
  have HII := hide (show ∀ sl, (Try.prog.info? 33).map (·.size) = some (fc F sl).length from fun sl => by rw [fc_length hW.out]; kernel_rfl)
  have HWo := hide (fun w => isWord_any s w hs)
  generalize hv1 : wwV F s.data.toList = V
  generalize hv2 : wwC F s.data.toList = C
  have H1 := hide hv1
  have H2 := hide hv2
  clear hA hv1 hv2
  cases hv : vface F
  · have HP := hide (ww_no (F := F) (L := s.data.toList) (fun e => by rw [hv] at e; cases e.1))
    go_enter Try.func47, Try.ntmps47
    go_wp2_with (first | (refine wpList_load_mid rfl 33 (.tmp 2) rfl _ 0 rfl _ _ hr Try.underlying33 rfl (HII.out _) ?_) | (go_at_call 24; refine HC.out.mono ?_; rintro e w1 ⟨rfl, hb1⟩; simp only [hv]))
    go_ret2
    exact ⟨ret_ii (HP.out.1.symm.trans H1.out) (HP.out.2.symm.trans H2.out), hb.trans (hb1.mono hb.size)⟩
  · cases hwd : vword s.data.toList
    · have HP := hide (ww_no (F := F) (L := s.data.toList) (fun e => by have := e.2; rw [hwd] at this; cases this))
      go_enter Try.func47, Try.ntmps47
      go_wp2_with (first | (refine wpList_load_mid rfl 33 (.tmp 2) rfl _ 0 rfl _ _ hr Try.underlying33 rfl (HII.out _) ?_) | (go_at_call 24; refine HC.out.mono ?_; rintro e w1 ⟨rfl, hb1⟩; simp only [hv]) | (go_at_call 83; refine (HWo.out _).mono ?_; rintro e w2 ⟨rfl, hb2⟩; simp only [hwd]))
      go_ret2
      exact ⟨ret_ii (HP.out.1.symm.trans H1.out) (HP.out.2.symm.trans H2.out), hb.trans ((hb1.trans (hb2.mono hb1.size)).mono hb.size)⟩
    · have HP := hide (ww_ok hv hwd)
      have hw3 := vword_true.1 hwd
      have hsz : s.size ≤ 60 := by have := hw3.2.1; simpa using this
      have HCC := hide hw3.2.2
      clear hw3
      go_enter Try.func47, Try.ntmps47
      go_wp2_with (refine wpList_load_mid rfl 33 (.tmp 2) rfl _ 0 rfl _ _ hr Try.underlying33 rfl (HII.out _) ?_)
      generalize (w.alloc (.cells (fc F (.slice A F.ps.length c)).toArray 33)) = W0 at *
      refine HC.out.mono ?_
      rintro e w1 ⟨rfl, hb1⟩
      simp only [hv]
      go_wp2_with fail
      refine (HWo.out _).mono ?_
      rintro e w2 ⟨rfl, hb2⟩
      simp only [hwd]
      have hB := hb1.trans (hb2.mono hb1.size)
      have r2 := rangeAt_below hr hB hs0
      have HB := hide (wordWide_any F hF A c s w2 hv HCC.out hsz ((BA.below (hB.mono hb.size)).mono (Nat.le_trans hb.size hB.size)))
      clear hr
      go_wp2_with (first | (refine wpList_load_mid rfl 33 (.tmp 2) rfl _ 0 rfl _ _ r2 Try.underlying33 rfl (HII.out _) ?_) | (go_at_call 96; refine HB.out.mono ?_; rintro e w3 ⟨rfl, hb3⟩))
      go_ret2
      exact ⟨ret_ii (HP.out.1.symm.trans H1.out) (HP.out.2.symm.trans H2.out), hb.trans ((hB.trans (hb3.mono hB.size)).mono hb.size)⟩
end Go.Proofs.Ytkgoceiingddoaa
