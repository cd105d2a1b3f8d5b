/- The program's test of a word, its width, and WordWide of both. · WordWide of the model and of the program: the same two numbers. · JoinWords of the model and of the program: the same text and number. · The text that marks a place. · Lists of texts are marked, and the marks are held. · Pairs are copied: slices.Clone, and append behind an empty slice. · The model splits a text. -/
import Derived.Test.YtngondeaeipcfaaGreatDoorG5
import Derived.Test.YtngondeaeipcfaaGreatDoorG4
import Derived.Test.YtngondeaeipcfaaGreatDoorShelf
import Derived.Test.YtngondeaeipcfaaGreatDoorG3
import Derived.Laws.Concat
import Derived.Laws.BytesArg
import Derived.Test.YtngondeaeipcfaaGreatDoorG2
import Derived.Test.YtngondeaeipcfaaGreatDoorG1
import Derived.OwnWalk
import Derived.Lib.SliceRun
import Derived.Maps.AppendAt
import Derived.Sort.EncStr
import Derived.Lib.Strings

namespace Go.Proofs.YtngondeaeipcfaaGreatDoor
open Go.RowKit

set_option maxRecDepth 100000 in
set_option maxHeartbeats 4000000 in
theorem wordWide_any (F : Fc) (hF : F.ok) (A : Option Addr) (c : Nat) (s : ByteArray) (w : World) (hv : vface F = true) (hc : allCap s.data.toList) (hs : s.size ≤ 60) (hA : PairsAt w w.heap.size A F.ps) :
    Calls Tryz.prog 121 #[.agg (fc F (.slice A F.ps.length c)).toArray, .string s] w fun e w' => e = .returned (.int .i64 (wideL F s.data.toList)) ∧ Below w.heap.size w w' := by
  have hW := hide hF.len
  have hr := rangeAt_new w (fc F (.slice A F.ps.length c)) 28
  have hb0 : Below w.heap.size w (w.alloc (.cells (fc F (.slice A F.ps.length c)).toArray 28)) := (Below.refl _ _).alloc (Nat.le_refl _) _
  have hs0 : w.heap.size < (w.alloc (.cells (fc F (.slice A F.ps.length c)).toArray 28)).heap.size := by simp
  have HII := hide (show ∀ sl, (Tryz.prog.info? 28).map (·.size) = some (fc F sl).length from fun sl => by rw [fc_length hW.out]; kernel_rfl)
  have BA := hA.below hb0
  have hL : s.data.toList.length = s.size := by simp
  have HL := hide hL
  have HBD := hide (fun k hk => wideTo_bd hF hv hc k hk)
  have HLW := hide (fun i hi => letW_bd hF hv hc (i := i) hi)
  have HGB := hide (fun i => gapL_bd hv s.data.toList i)
  have HC := hide hc
  have HV := hide hv
  have hw : wideL F s.data.toList = wideTo F s.data.toList s.size := by unfold wideL; rw [hL]
  have HW := hide hw
  clear hL hc hw hA hv
  go_enter Tryz.func121, Tryz.ntmps121
  go_wp2
  generalize (w.alloc (.cells (fc F (.slice A F.ps.length c)).toArray 28)) = W0 at *
  have hBs := hb0.size
  go_loopw [5, 9] (fun t i wr => ∃ k : Nat, k ≤ s.size ∧ i = .int .i64 k ∧ t = .int .i64 (wideTo F s.data.toList k) ∧ Below W0.heap.size W0 wr)
    (fun _ i _ => s.size - (intOf i).toNat)
  case atStart => exact ⟨0, by omega, rfl, rfl, Below.refl _ _⟩
  case round =>
    obtain ⟨k, hk, rfl, rfl, hB⟩ := hrel
    by_cases hlt : k < s.size
    · have hi : (k : Int) < s.size := by omega
      have h0 : (0 : Int) ≤ k := by omega
      have hcap := HC.out k (by rw [HL.out]; exact hlt)
      have hb := byteAt_get s k hlt
      obtain ⟨l1, l2⟩ := HLW.out k (by rw [HL.out]; exact hlt)
      obtain ⟨t1, t2⟩ := HBD.out k (by rw [HL.out]; omega)
      obtain ⟨g1, g2⟩ := HGB.out k
      have hst : wideTo F s.data.toList (k + 1) = wideTo F s.data.toList k + letW F s.data.toList k + gapL F s.data.toList k := rfl
      have HST := hide hst
      have hlw := letterWide_any F hF (.slice A F.ps.length c) (s[k].toNat : Int)
      have hlet : F.W.getD ((s[k].toNat : Int) - 65).toNat 0 = letW F s.data.toList k := by rw [hb]; rfl
      rw [hlet] at hlw
      have HLT := hide (fun w => hlw w (by rw [hb]; exact hcap))
      have HBB := hide hb
      have hB1 := hB.size
      clear hst hb hcap hlw hlet
      by_cases hk0 : k = 0
      · have hd : decide ((0 : Int) < k) = false := by simp; omega
        have hd' : decide (0 < k) = false := by simp; omega
        have hg : gapL F s.data.toList k = 0 := by simp [gapL, hk0]
        have HG := hide hg
        have e2 := IntWalk.i64_in (wideTo F s.data.toList k + letW F s.data.toList k) ⟨by omega, by omega⟩
        clear hg hk0
        go_wp2
        have HROW := hide (over_row (rangeAt_below hr hB hs0) (Nat.lt_of_lt_of_le hs0 hB1))
        refine wp_region_over (by kernel_rfl) (by kernel_rfl) ?_
        repeat (first | (refine wpQuiet_load_row rfl 28 (.tmp 2) rfl _ 0 rfl _ _ HROW.out Tryz.underlying28 rfl (HII.out _) ?_; simp only [Act.put, List.setIfInBounds_toArray, List.set_cons_zero, List.set_cons_succ]) | go_big_quiet_step ((go_at_call 118; exact over_call (HLT.out _))))
        refine wpQuiet_nil ?_
        intro w1 hb1
        have hB2 := hB.trans (hb1.mono hB.size)
        clear hb1 e2 HROW
        go_wp2
        exact ⟨⟨k + 1, by omega, by go_num, by rw [HST.out, HG.out, Int.add_zero], hB2⟩, by simp [intOf]; omega⟩
      · have hd : decide ((0 : Int) < k) = true := by simp; omega
        have hd' : decide (0 < k) = true := by simp; omega
        have hg : gapL F s.data.toList k = F.gp + byL F.ps (byteAt s.data.toList (k - 1)) (byteAt s.data.toList k) := by simp [gapL, hk0]
        have hb1 := byteAt_get s (k - 1) (by omega)
        rw [← hb1, ← HBB.out] at hg
        have hlt1 : k - 1 < s.size := by omega
        have j0 : (0 : Int) ≤ (k : Int) - 1 := by omega
        have j00 : (1 : Int) ≤ (k : Int) := by omega
        have j1 : (k : Int) - 1 < s.size := by omega
        have j2 := IntWalk.i64_in ((k : Int) - 1) ⟨by omega, by omega⟩
        have j3 : ((k : Int) - 1).toNat = k - 1 := by omega
        have hgo := gapOf_any F hF A c (s[k - 1].toNat : Int) (s[k].toNat : Int)
        rw [← hg] at hgo
        have e5 := IntWalk.i64_in (wideTo F s.data.toList k + gapL F s.data.toList k) ⟨by omega, by omega⟩
        have hgo2 := fun (x : Over wr) => hgo x.w HV.out ((BA.below ((hB.trans (x.h.mono hB1)).mono hBs)).mono (Nat.le_trans hBs (Nat.le_trans hB1 x.size)))
        have HGO := hide hgo2
        clear hg hb1 hk0 hgo hgo2
        go_wp2
        have HROW := hide (over_row (rangeAt_below hr hB hs0) (Nat.lt_of_lt_of_le hs0 hB1))
        refine wp_region_over (by kernel_rfl) (by kernel_rfl) ?_
        repeat (first | (refine wpQuiet_load_row rfl 28 (.tmp 2) rfl _ 0 rfl _ _ HROW.out Tryz.underlying28 rfl (HII.out _) ?_; simp only [Act.put, List.setIfInBounds_toArray, List.set_cons_zero, List.set_cons_succ]) | go_big_quiet_step ((go_at_call 145; exact over_call (HGO.out _))))
        refine wpQuiet_nil ?_
        intro w1 hb1
        have hB2 := hB.trans (hb1.mono hB.size)
        have hB2s := hB2.size
        clear hb1 e5 HROW HGO j2
        have e2 := IntWalk.i64_in (wideTo F s.data.toList k + gapL F s.data.toList k + letW F s.data.toList k) ⟨by omega, by omega⟩
        go_wp2
        have HROW := hide (over_row (rangeAt_below hr hB2 hs0) (Nat.lt_of_lt_of_le hs0 hB2s))
        refine wp_region_over (by kernel_rfl) (by kernel_rfl) ?_
        repeat (first | (refine wpQuiet_load_row rfl 28 (.tmp 2) rfl _ 0 rfl _ _ HROW.out Tryz.underlying28 rfl (HII.out _) ?_; simp only [Act.put, List.setIfInBounds_toArray, List.set_cons_zero, List.set_cons_succ]) | go_big_quiet_step ((go_at_call 118; exact over_call (HLT.out _))))
        refine wpQuiet_nil ?_
        intro w2 hb2
        have hB3 := hB2.trans (hb2.mono hB2.size)
        clear hb2 e2 HROW
        go_wp2
        exact ⟨⟨k + 1, by omega, by go_num, by rw [HST.out]; congr 1; omega, hB3⟩, by simp [intOf]; omega⟩
    · obtain rfl : k = s.size := by omega
      go_wp2
      go_ret
      exact ⟨ret_int HW.out.symm, hb0.trans (hB.mono hBs)⟩
end Go.Proofs.YtngondeaeipcfaaGreatDoor

namespace Go.Proofs.YtngondeaeipcfaaGreatDoor
open Go.RowKit

set_option maxRecDepth 100000 in
set_option maxHeartbeats 2000000 in
theorem l01Word_any (s : ByteArray) (w : World) (hs : s.size ≤ maxLen) :
    Calls Tryz.prog 125 #[.string s] w fun e w' => e = .returned (.bool (capsB s.data.toList)) ∧ w = w' := by
  unfold maxLen at hs
  have hL : s.data.toList.length = s.size := by simp
  have HL := hide hL
  generalize hS : capsB s.data.toList = S
  have HS := hide hS
  clear hS hL
  go_enter Tryz.func125, Tryz.ntmps125
  go_wp2
  go_loop [3] (fun i => ∃ k : Nat, k ≤ s.size ∧ i = .int .i64 k ∧ Hid (∀ j, j < k → cap (byteAt s.data.toList j) = true)) (fun i => s.size - (intOf i).toNat)
  case atStart => exact ⟨0, Nat.zero_le _, rfl, fun j hj => by omega⟩
  case round =>
    obtain ⟨k, hk, rfl, hg⟩ := hrel
    by_cases hlt : k < s.size
    · have hi : (k : Int) < s.size := by omega
      have h0 : (0 : Int) ≤ k := by omega
      have hb := byteAt_get s k hlt
      have HB := hide hb
      clear hb
      cases hc : cap (s[k].toNat : Int)
      · go_wp2_with (go_at_call 209; refine (l01Letter_any _ _).mono ?_; rintro e w' ⟨rfl, rfl⟩)
        go_ret
        exact ⟨ret_bool ((capsB_false.2 fun h => by have := h.2 k (by rw [HL.out]; exact hlt); rw [← HB.out, hc] at this; cases this).symm.trans HS.out), rfl⟩
      · go_wp2_with (go_at_call 209; refine (l01Letter_any _ _).mono ?_; rintro e w' ⟨rfl, rfl⟩)
        exact ⟨⟨k + 1, by omega, by go_num, fun j hj => by
          by_cases e : j = k
          · subst e; rw [← HB.out]; exact hc
          · exact hg.out j (by omega)⟩, by simp [intOf]; omega⟩
    · obtain rfl : k = s.size := by omega
      go_wp2
      go_ret
      refine ⟨ret_bool ?_, rfl⟩
      rw [← HS.out, Bool.eq_iff_iff, capsB_true, HL.out]
      simp only [decide_eq_true_eq]
      exact ⟨fun h => ⟨by omega, fun i hi => hg.out i (by rw [← HL.out]; exact hi)⟩, fun h => by omega⟩

set_option maxRecDepth 100000 in
set_option maxHeartbeats 2000000 in
theorem isWord_any (s : ByteArray) (w : World) (hs : s.size ≤ maxLen) :
    Calls Tryz.prog 123 #[.string s] w fun e w' => e = .returned (.bool (vword s.data.toList)) ∧ Below w.heap.size w w' := by
  have hL : s.data.toList.length = s.size := by simp
  have hv := vword_impl s.data.toList
  rw [hL] at hv
  have HV := hide hv
  have HT := hide (implValidText_any s w hs)
  have HC := hide (fun w => (Tryz.strings_Contains_one s 32 w).mono fun _ _ ⟨a, b⟩ => (⟨a, b.symm⟩ : _ ∧ _))
  clear hL hv hs
  by_cases h0 : s.size = 0
  · have he : s.toList = [] := toList_nil h0
    have H0 := hide h0
    clear h0
    go_enter Tryz.func123, Tryz.ntmps123
    go_wp2
    go_ret
    exact ⟨ret_bool (by rw [HV.out, H0.out]; rfl), Below.refl _ _⟩
  · have he : s.toList.isEmpty = false := toList_cons h0
    have H0 := hide (show decide (0 < s.size) = true by simp; omega)
    clear h0
    cases hb : decide (0 ≤ Lib.indexByte s.data.toList 32)
    · have HB := hide (show hasBlank s.data.toList = false from hb)
      go_enter Tryz.func123, Tryz.ntmps123
      go_wp2_with (first | (go_at_call 216; refine (HC.out _).mono ?_; rintro e w' ⟨rfl, rfl⟩; simp only [hb]) | (go_at_call 105; refine HT.out.mono ?_; rintro e w2 ⟨rfl, hb2⟩))
      go_ret
      exact ⟨ret_bool (by rw [HV.out, H0.out, HB.out]; rfl), hb2⟩
    · have HB := hide (show hasBlank s.data.toList = true from hb)
      go_enter Tryz.func123, Tryz.ntmps123
      go_wp2_with (go_at_call 216; refine (HC.out _).mono ?_; rintro e w' ⟨rfl, rfl⟩; simp only [hb])
      go_ret
      exact ⟨ret_bool (by rw [HV.out, H0.out, HB.out]; rfl), Below.refl _ _⟩

noncomputable def wwV (F : Fc) (L : List UInt8) : Int := if vface F = true ∧ vword L = true then wideL F L else 0
noncomputable def wwC (F : Fc) (L : List UInt8) : Int := if vface F = true ∧ vword L = true then 0 else 1
theorem ww_ok {F : Fc} {L : List UInt8} (h : vface F = true) (h' : vword L = true) : wwV F L = wideL F L ∧ wwC F L = 0 := by
  unfold wwV wwC; rw [if_pos ⟨h, h'⟩, if_pos ⟨h, h'⟩]; exact ⟨rfl, rfl⟩
theorem ww_no {F : Fc} {L : List UInt8} (h : ¬ (vface F = true ∧ vword L = true)) : wwV F L = 0 ∧ wwC F L = 1 := by
  unfold wwV wwC; rw [if_neg h, if_neg h]; exact ⟨rfl, rfl⟩

set_option maxRecDepth 100000 in
set_option maxHeartbeats 4000000 in
theorem specWordWide_any (F : Fc) (hF : F.ok) (A : Option Addr) (c : Nat) (s : ByteArray) (hs : s.size ≤ maxLen) (w : World) (hA : PairsAt w w.heap.size A F.ps) :
    Calls Tryz.prog 24 #[.agg (fc F (.slice A F.ps.length c)).toArray, .string s] w fun e w' => e = .returned (.tuple #[.int .i64 (wwV F s.data.toList), .int .i64 (wwC F s.data.toList)]) ∧ Below w.heap.size w w' := by
  have hr := rangeAt_new w (fc F (.slice A F.ps.length c)) 28
  have hb : Below w.heap.size w (w.alloc (.cells (fc F (.slice A F.ps.length c)).toArray 28)) := (Below.refl _ _).alloc (Nat.le_refl _) _
  have hs0 : w.heap.size < (w.alloc (.cells (fc F (.slice A F.ps.length c)).toArray 28)).heap.size := by simp
  have BA := hA.below hb
  have HC := hide (l01Face_any F hF _ A c _ hr (BA.mono hb.size))
  have HT := hide (fun w => l01Text_any s w hs)
  have HWo := hide (fun w => l01Word_any s w hs)
  have hvw := vword_spec s.data.toList
  generalize hv1 : wwV F s.data.toList = V
  generalize hv2 : wwC F s.data.toList = C
  have H1 := hide hv1
  have H2 := hide hv2
  have HVW := hide hvw
  clear hA hv1 hv2 hvw
  cases hv : vface F
  · have HP := hide (ww_no (F := F) (L := s.data.toList) (fun e => by rw [hv] at e; cases e.1))
    go_enter Tryz.func24, Tryz.ntmps24
    go_wp2_with (go_at_call 124; refine HC.out.mono ?_; rintro e w1 ⟨rfl, hb1⟩; simp only [hv])
    go_ret2
    exact ⟨ret_ii (HP.out.1.symm.trans H1.out) (HP.out.2.symm.trans H2.out), hb.trans (hb1.mono hb.size)⟩
  · cases ht : vtext s.data.toList
    · have HP := hide (ww_no (F := F) (L := s.data.toList) (fun e => by have := e.2; rw [HVW.out, ht] at this; cases this))
      go_enter Tryz.func24, Tryz.ntmps24
      go_wp2_with (first | (go_at_call 124; refine HC.out.mono ?_; rintro e w1 ⟨rfl, hb1⟩; simp only [hv]) | (go_at_call 112; refine (HT.out _).mono ?_; rintro e w' ⟨rfl, rfl⟩; simp only [ht]))
      go_ret2
      exact ⟨ret_ii (HP.out.1.symm.trans H1.out) (HP.out.2.symm.trans H2.out), hb.trans (hb1.mono hb.size)⟩
    · cases hc : capsB s.data.toList
      · have HP := hide (ww_no (F := F) (L := s.data.toList) (fun e => by have := e.2; rw [HVW.out, ht, hc] at this; cases this))
        go_enter Tryz.func24, Tryz.ntmps24
        go_wp2_with (first | (go_at_call 124; refine HC.out.mono ?_; rintro e w1 ⟨rfl, hb1⟩; simp only [hv]) | (go_at_call 112; refine (HT.out _).mono ?_; rintro e w' ⟨rfl, rfl⟩; simp only [ht]) | (go_at_call 125; refine (HWo.out _).mono ?_; rintro e w' ⟨rfl, rfl⟩; simp only [hc]))
        go_ret2
        exact ⟨ret_ii (HP.out.1.symm.trans H1.out) (HP.out.2.symm.trans H2.out), hb.trans (hb1.mono hb.size)⟩
      · have hwd : vword s.data.toList = true := by rw [HVW.out, ht, hc]; rfl
        have HP := hide (ww_ok hv hwd)
        have hw3 := vword_true.1 hwd
        have hsz : s.size ≤ 60 := by have := hw3.2.1; simpa using this
        have hcc := hw3.2.2
        clear hwd hw3
        go_enter Tryz.func24, Tryz.ntmps24
        go_wp2_with fail
        generalize (w.alloc (.cells (fc F (.slice A F.ps.length c)).toArray 28)) = W0 at *
        refine HC.out.mono ?_
        rintro e w1 ⟨rfl, hb1⟩
        simp only [hv]
        have HB := hide (l01Wide_any F hF _ A c s w1 hv hcc hsz (rangeAt_below hr hb1 hs0) ((BA.below (hb1.mono hb.size)).mono (Nat.le_trans hb.size hb1.size)))
        clear hr hcc
        go_wp2_with (first | (go_at_call 112; refine (HT.out _).mono ?_; rintro e w' ⟨rfl, rfl⟩; simp only [ht]) | (go_at_call 125; refine (HWo.out _).mono ?_; rintro e w' ⟨rfl, rfl⟩; simp only [hc]) | (go_at_call 122; refine HB.out.mono ?_; rintro e w2 ⟨rfl, hb2⟩))
        go_ret2
        exact ⟨ret_ii (HP.out.1.symm.trans H1.out) (HP.out.2.symm.trans H2.out), hb.trans ((hb1.trans (hb2.mono hb1.size)).mono hb.size)⟩

set_option maxRecDepth 100000 in
set_option maxHeartbeats 4000000 in
theorem implWordWide_any (F : Fc) (hF : F.ok) (A : Option Addr) (c : Nat) (s : ByteArray) (hs : s.size ≤ maxLen) (w : World) (hA : PairsAt w w.heap.size A F.ps) :
    Calls Tryz.prog 23 #[.agg (fc F (.slice A F.ps.length c)).toArray, .string s] w fun e w' => e = .returned (.tuple #[.int .i64 (wwV F s.data.toList), .int .i64 (wwC F s.data.toList)]) ∧ Below w.heap.size w w' := by
  have hW := hide hF.len
  have hr := rangeAt_new w (fc F (.slice A F.ps.length c)) 28
  have hb : Below w.heap.size w (w.alloc (.cells (fc F (.slice A F.ps.length c)).toArray 28)) := (Below.refl _ _).alloc (Nat.le_refl _) _
  have hs0 : w.heap.size < (w.alloc (.cells (fc F (.slice A F.ps.length c)).toArray 28)).heap.size := by simp
  have BA := hA.below hb
  have HC := hide (implValidFace_any F hF A c _ (BA.mono hb.size))
  have HII := hide (show ∀ sl, (Tryz.prog.info? 28).map (·.size) = some (fc F sl).length from fun sl => by rw [fc_length hW.out]; kernel_rfl)
  have HWo := hide (fun w => isWord_any s w hs)
  generalize hv1 : wwV F s.data.toList = V
  generalize hv2 : wwC F s.data.toList = C
  have H1 := hide hv1
  have H2 := hide hv2
  clear hA hv1 hv2
  cases hv : vface F
  · have HP := hide (ww_no (F := F) (L := s.data.toList) (fun e => by rw [hv] at e; cases e.1))
    go_enter Tryz.func23, Tryz.ntmps23
    go_wp2_with (first | (refine wpList_load_mid rfl 28 (.tmp 2) rfl _ 0 rfl _ _ hr Tryz.underlying28 rfl (HII.out _) ?_) | (go_at_call 104; refine HC.out.mono ?_; rintro e w1 ⟨rfl, hb1⟩; simp only [hv]))
    go_ret2
    exact ⟨ret_ii (HP.out.1.symm.trans H1.out) (HP.out.2.symm.trans H2.out), hb.trans (hb1.mono hb.size)⟩
  · cases hwd : vword s.data.toList
    · have HP := hide (ww_no (F := F) (L := s.data.toList) (fun e => by have := e.2; rw [hwd] at this; cases this))
      go_enter Tryz.func23, Tryz.ntmps23
      go_wp2_with (first | (refine wpList_load_mid rfl 28 (.tmp 2) rfl _ 0 rfl _ _ hr Tryz.underlying28 rfl (HII.out _) ?_) | (go_at_call 104; refine HC.out.mono ?_; rintro e w1 ⟨rfl, hb1⟩; simp only [hv]) | (go_at_call 123; refine (HWo.out _).mono ?_; rintro e w2 ⟨rfl, hb2⟩; simp only [hwd]))
      go_ret2
      exact ⟨ret_ii (HP.out.1.symm.trans H1.out) (HP.out.2.symm.trans H2.out), hb.trans ((hb1.trans (hb2.mono hb1.size)).mono hb.size)⟩
    · have HP := hide (ww_ok hv hwd)
      have hw3 := vword_true.1 hwd
      have hsz : s.size ≤ 60 := by have := hw3.2.1; simpa using this
      have HCC := hide hw3.2.2
      clear hw3
      go_enter Tryz.func23, Tryz.ntmps23
      go_wp2_with (refine wpList_load_mid rfl 28 (.tmp 2) rfl _ 0 rfl _ _ hr Tryz.underlying28 rfl (HII.out _) ?_)
      generalize (w.alloc (.cells (fc F (.slice A F.ps.length c)).toArray 28)) = W0 at *
      refine HC.out.mono ?_
      rintro e w1 ⟨rfl, hb1⟩
      simp only [hv]
      go_wp2_with fail
      refine (HWo.out _).mono ?_
      rintro e w2 ⟨rfl, hb2⟩
      simp only [hwd]
      have hB := hb1.trans (hb2.mono hb1.size)
      have r2 := rangeAt_below hr hB hs0
      have HB := hide (wordWide_any F hF A c s w2 hv HCC.out hsz ((BA.below (hB.mono hb.size)).mono (Nat.le_trans hb.size hB.size)))
      clear hr
      go_wp2_with (first | (refine wpList_load_mid rfl 28 (.tmp 2) rfl _ 0 rfl _ _ r2 Tryz.underlying28 rfl (HII.out _) ?_) | (go_at_call 121; refine HB.out.mono ?_; rintro e w3 ⟨rfl, hb3⟩))
      go_ret2
      exact ⟨ret_ii (HP.out.1.symm.trans H1.out) (HP.out.2.symm.trans H2.out), hb.trans ((hB.trans (hb3.mono hB.size)).mono hb.size)⟩
end Go.Proofs.YtngondeaeipcfaaGreatDoor

namespace Go.Proofs.YtngondeaeipcfaaGreatDoor
open Go.RowKit

theorem jw_ok {xs : List (List UInt8)} (h : jwB xs = true) : jwV xs = ⟨(J xs).toArray⟩ ∧ jwC xs = 0 := by unfold jwV jwC; rw [if_pos h, if_pos h]; exact ⟨rfl, rfl⟩
theorem jw_no {xs : List (List UInt8)} (h : jwB xs = false) : jwV xs = ⟨#[]⟩ ∧ jwC xs = 1 := by unfold jwV jwC; rw [h]; exact ⟨rfl, rfl⟩
theorem ret_si {s t : ByteArray} {i j : Int} (h : s = t) (h' : i = j) : Ending.returned (.tuple #[.string s, .int .i64 i]) = .returned (.tuple #[.string t, .int .i64 j]) := by rw [h, h']
theorem ret_st {s t : ByteArray} (h : s = t) : Ending.returned (.string s) = .returned (.string t) := by rw [h]
theorem ba_ext {s : ByteArray} {l : List UInt8} (h : s.data.toList = l) : s = ⟨l.toArray⟩ := by
  obtain ⟨⟨d⟩⟩ := s; simp at h; rw [h]
theorem append_data (s t : ByteArray) : (s ++ t).data.toList = s.data.toList ++ t.data.toList := by simp
theorem append_size (s t : ByteArray) : (s ++ t).size = s.size + t.size := by simp

set_option maxRecDepth 100000 in
set_option maxHeartbeats 2000000 in
theorem l01Joined_any (A : Option Addr) (xs : List ByteArray) (c : Nat) (w : World) (hn : xs.length ≤ 1048576) (hx : sumL (xs.map byts) ≤ 1048576) (hA : StrsAt w w.heap.size A xs) :
    Calls Tryz.prog 130 #[.slice A xs.length c] w fun e w' => e = .returned (.string ⟨(J (xs.map byts)).toArray⟩) ∧ w = w' := by
  have HX := hide hx
  have hlen : ∀ k, (J ((xs.map byts).take k)).length ≤ 2097152 := by
    intro k
    rw [J_len]
    have h1 := sumL_le (xs.map byts) k
    have h2 : ((xs.map byts).take k).length ≤ xs.length := by simp; omega
    omega
  have HLEN := hide hlen
  have HM := hide (fun x (h : x ∈ xs) => Nat.le_trans (sum_mem h) hx)
  clear hx hlen
  go_enter Tryz.func130, Tryz.ntmps130
  go_wp2
  go_loop [3, 4] (fun t i => ∃ (k : Nat) (s : ByteArray), k ≤ xs.length ∧ i = .int .i64 k ∧ t = .string s ∧ s.size ≤ 2097152 ∧ Hid (s.data.toList = J ((xs.map byts).take k)))
    (fun _ i => xs.length - (intOf i).toNat)
  case atStart => exact ⟨0, ⟨#[]⟩, by omega, rfl, rfl, by decide, hide rfl⟩
  case round =>
    obtain ⟨k, s, hk, rfl, rfl, hs, hg⟩ := hrel
    by_cases hlt : k < xs.length
    · obtain ⟨b, o, rfl, hb, hxs⟩ := hA (by intro e; rw [e] at hlt; simp at hlt)
      obtain ⟨x, hx⟩ : ∃ x, xs[k]? = some x := ⟨xs[k]'hlt, List.getElem?_eq_getElem _⟩
      have c0 := hxs k x hx
      have hxm := HM.out x (List.mem_of_getElem? hx)
      have hi : (k : Int) < xs.length := by omega
      have h0 : (0 : Int) ≤ k := by omega
      have htk : (xs.map byts).take (k + 1) = (xs.map byts).take k ++ [byts x] := by rw [List.take_add_one]; simp [hx]
      have hnext := HLEN.out (k + 1)
      clear hxs
      by_cases hk0 : k = 0
      · have hd : decide ((0 : Int) < k) = false := by simp; omega
        have hd' : decide (0 < k) = false := by simp; omega
        have e1 : (s ++ x).data.toList = J ((xs.map byts).take (k + 1)) := by
          rw [append_data, hg.out, htk, hk0]; simp [J_nil, J_one]
        have e2 : (s ++ x).size ≤ 2097152 := by rw [← e1] at hnext; simpa using hnext
        have E1 := hide e1
        have E2 := hide e2
        clear e1 e2 hk0 htk hnext
        go_wp2
        exact ⟨⟨k + 1, _, by omega, by go_num, rfl, E2.out, E1⟩, by simp [intOf]; omega⟩
      · have hd : decide ((0 : Int) < k) = true := by simp; omega
        have hd' : decide (0 < k) = true := by simp; omega
        have hne : (xs.map byts).take k ≠ [] := by
          intro e
          have h := congrArg List.length e
          rw [List.length_take, List.length_map, List.length_nil] at h
          omega
        have e1 : ((s ++ (⟨#[32]⟩ : ByteArray)) ++ x).data.toList = J ((xs.map byts).take (k + 1)) := by
          rw [append_data, append_data, hg.out, htk, J_snoc _ _ hne]; simp
        have hone : (⟨#[32]⟩ : ByteArray).size = 1 := rfl
        have e2 : ((s ++ (⟨#[32]⟩ : ByteArray)) ++ x).size ≤ 2097152 := by rw [← e1] at hnext; rw [append_size, append_size, hone]; simp at hnext; omega
        have e3 : (s ++ (⟨#[32]⟩ : ByteArray)).size ≤ 2097153 := by rw [append_size]; show s.size + 1 ≤ _; omega
        have E1 := hide e1
        have E2 := hide e2
        clear e1 e2 hk0 htk hnext hne hone
        go_wp2
        exact ⟨⟨k + 1, _, by omega, by go_num, rfl, E2.out, E1⟩, by simp [intOf]; omega⟩
    · obtain rfl : k = xs.length := by omega
      have hfin : s = ⟨(J (xs.map byts)).toArray⟩ := by
        apply ba_ext
        have := hg.out
        rw [List.take_of_length_le (by simp)] at this
        exact this
      have HF := hide hfin
      clear hfin
      go_wp2
      go_ret
      exact ⟨ret_st HF.out, rfl⟩

set_option maxRecDepth 100000 in
set_option maxHeartbeats 4000000 in
theorem specJoinWords_any (A : Option Addr) (xs : List ByteArray) (c : Nat) (w : World) (hn : xs.length ≤ 1048576) (hx : sumL (xs.map byts) ≤ 1048576) (hA : StrsAt w w.heap.size A xs) :
    Calls Tryz.prog 31 #[.slice A xs.length c] w fun e w' => e = .returned (.tuple #[.string (jwV (xs.map byts)), .int .i64 (jwC (xs.map byts))]) ∧ w = w' := by
  have HM := hide (fun x (h : x ∈ xs) => Nat.le_trans (sum_mem h) hx)
  have HJ := hide (l01Joined_any A xs c w hn hx hA)
  have hJL : (J (xs.map byts)).length ≤ 2097152 := by rw [J_len]; simp; omega
  have HT := hide (l01Text_any ⟨(J (xs.map byts)).toArray⟩ w (by unfold maxLen; show (J (xs.map byts)).toArray.size ≤ _; rw [List.size_toArray]; omega))
  generalize hv1 : jwV (xs.map byts) = V
  generalize hv2 : jwC (xs.map byts) = C
  have H1 := hide hv1
  have H2 := hide hv2
  clear hv1 hv2 hx hJL
  go_enter Tryz.func31, Tryz.ntmps31
  go_wp2
  go_loop [4] (fun i => ∃ k : Nat, k ≤ xs.length ∧ k ≤ 61 ∧ i = .int .i64 k ∧ Hid (∀ j x, j < k → xs[j]? = some x → capsB (byts x) = true))
    (fun i => xs.length - (intOf i).toNat)
  case atStart => exact ⟨0, by omega, by omega, rfl, hide (fun j x hj => by omega)⟩
  case round =>
    obtain ⟨k, hk, hk61, rfl, hg⟩ := hrel
    by_cases hlt : k < xs.length
    · obtain ⟨b, o, rfl, hb, hxs⟩ := hA (by intro e; rw [e] at hlt; simp at hlt)
      obtain ⟨x, hx⟩ : ∃ x, xs[k]? = some x := ⟨xs[k]'hlt, List.getElem?_eq_getElem _⟩
      have c0 := hxs k x hx
      have hxm := HM.out x (List.mem_of_getElem? hx)
      have HW := hide (fun w => l01Word_any x w (by unfold maxLen; omega))
      have hi : (k : Int) < xs.length := by omega
      have h0 : (0 : Int) ≤ k := by omega
      clear hxs
      cases hc : capsB (byts x)
      · have hbad : jwB (xs.map byts) = false := jwB_false.2 fun h => by
          have := h.1 (byts x) (List.mem_map.2 ⟨x, List.mem_of_getElem? hx, rfl⟩)
          rw [capsB_true.2 ⟨this.1, this.2⟩] at hc; cases hc
        have HP := hide (jw_no hbad)
        change capsB x.data.toList = false at hc
        clear hbad
        go_wp2_with (go_at_call 125; refine (HW.out _).mono ?_; rintro e w' ⟨rfl, rfl⟩; simp only [hc])
        go_ret2
        exact ⟨ret_si (HP.out.1.symm.trans H1.out) (HP.out.2.symm.trans H2.out), rfl⟩
      · have HC := hide hc
        change capsB x.data.toList = true at hc
        by_cases h60 : 60 < k
        · have hd : decide ((60 : Int) < k) = true := by simp; omega
          have hd' : decide (60 < k) = true := by simp; omega
          have hbad : jwB (xs.map byts) = false := jwB_false.2 fun h => by
            have h1 := sum_ge h.1
            have h2 := h.2
            rw [J_len] at h2
            simp at h1 h2
            omega
          have HP := hide (jw_no hbad)
          clear hbad h60
          go_wp2_with (go_at_call 125; refine (HW.out _).mono ?_; rintro e w' ⟨rfl, rfl⟩; simp only [hc])
          go_ret2
          exact ⟨ret_si (HP.out.1.symm.trans H1.out) (HP.out.2.symm.trans H2.out), rfl⟩
        · have hd : decide ((60 : Int) < k) = false := by simp; omega
          have hd' : decide (60 < k) = false := by simp; omega
          go_wp2_with (go_at_call 125; refine (HW.out _).mono ?_; rintro e w' ⟨rfl, rfl⟩; simp only [hc])
          exact ⟨⟨k + 1, by omega, by omega, by go_num, hide (fun j y hj hy => by
            by_cases e : j = k
            · subst e; have hxy : x = y := Option.some.inj (hx.symm.trans hy); rw [← hxy]; exact HC.out
            · exact hg.out j y (by omega) hy)⟩, by simp [intOf]; omega⟩
    · obtain rfl : k = xs.length := by omega
      have hwo : wordsOk (xs.map byts) := by
        intro l hl
        obtain ⟨x, hx, rfl⟩ := List.mem_map.1 hl
        obtain ⟨j, hj⟩ := List.getElem?_of_mem hx
        exact capsB_true.1 (hg.out j x (List.getElem?_eq_some_iff.1 hj).1 hj)
      have HWO := hide hwo
      clear hwo
      cases ht : vtext (J (xs.map byts))
      · have hbad : jwB (xs.map byts) = false := jwB_false.2 fun h => by rw [(vtext_J HWO.out).2 h.2] at ht; cases ht
        have HP := hide (jw_no hbad)
        clear hbad
        go_wp2_with (first | (go_at_call 130; refine HJ.out.mono ?_; rintro e w' ⟨rfl, rfl⟩) | (go_at_call 112; refine HT.out.mono ?_; rintro e w' ⟨rfl, rfl⟩; simp only [ht]))
        go_ret2
        exact ⟨ret_si (HP.out.1.symm.trans H1.out) (HP.out.2.symm.trans H2.out), rfl⟩
      · have hok : jwB (xs.map byts) = true := jwB_true.2 ⟨HWO.out, (vtext_J HWO.out).1 ht⟩
        have HP := hide (jw_ok hok)
        clear hok
        go_wp2_with (first | (go_at_call 130; refine HJ.out.mono ?_; rintro e w' ⟨rfl, rfl⟩) | (go_at_call 112; refine HT.out.mono ?_; rintro e w' ⟨rfl, rfl⟩; simp only [ht]))
        go_ret2
        exact ⟨ret_si (HP.out.1.symm.trans H1.out) (HP.out.2.symm.trans H2.out), rfl⟩

end Go.Proofs.YtngondeaeipcfaaGreatDoor

namespace Go.Proofs.YtngondeaeipcfaaGreatDoor
open Go.RowKit

def dgN : Nat → Nat → ByteArray → ByteArray
  | 0, _, t => t
  | f + 1, j, t => if j = 0 then t else dgN f (j / 10) (strOfNums [48 + (j : Int) % 10] ++ t)
theorem dgN_zero (f : Nat) (t : ByteArray) : dgN f 0 t = t := by cases f <;> rfl
theorem dgN_step {f j : Nat} (t : ByteArray) (h0 : j ≠ 0) (hf : j ≤ f) : ∃ f', j / 10 ≤ f' ∧ dgN f j t = dgN f' (j / 10) (strOfNums [48 + (j : Int) % 10] ++ t) := by
  cases f with
  | zero => omega
  | succ f => exact ⟨f, by omega, by show (if j = 0 then _ else _) = _; rw [if_neg h0]⟩
/-- What markText says of k. -/
def mtext (k : Nat) : ByteArray := if k = 0 then ⟨#[109, 48]⟩ else ⟨#[109]⟩ ++ dgN k k ⟨#[]⟩

end Go.Proofs.YtngondeaeipcfaaGreatDoor

namespace Go.Proofs.YtngondeaeipcfaaGreatDoor
open Go.RowKit

def marksS (k n : Nat) : List ByteArray := (List.range n).map fun j => mtext (k + j)
theorem marksS_len (k n : Nat) : (marksS k n).length = n := by simp [marksS]
theorem marksS_get {k n j : Nat} (h : j < n) : (marksS k n)[j]? = some (mtext (k + j)) := by simp [marksS, List.getElem?_range h]
/-- The block that the texts lie in. -/
def blkS (A : Option Addr) (xs : List ByteArray) : Option Nat := match xs with
  | [] => none
  | _ :: _ => A.map (·.block)
theorem blkS_some {b o : Nat} {xs : List ByteArray} (h : xs ≠ []) : blkS (some ⟨b, o, none⟩) xs = some b := by
  cases xs with
  | nil => exact (h rfl).elim
  | cons a t => rfl
theorem blkS_bd {w : World} {L : Nat} {A : Option Addr} {xs : List ByteArray} (h : StrsIn w L A xs) : ∀ k, blkS A xs = some k → L ≤ k ∧ k < w.heap.size := by
  intro k hk
  cases xs with
  | nil => cases hk
  | cons a t =>
    obtain ⟨b, o, rfl, h1, h2, _⟩ := h (by simp)
    cases hk
    exact ⟨h1, h2⟩
theorem grown_strsAt {w w' : World} {r : Option Nat} {B : Nat} (h : w.grownBy w' r) {A : Option Addr} {xs : List ByteArray} (hP : StrsAt w B A xs) (hB : B ≤ w.heap.size) (hne : ∀ k, r = some k → B ≤ k) : StrsAt w' B A xs :=
  hP.below (grown_toBelow h hB hne)

end Go.Proofs.YtngondeaeipcfaaGreatDoor

namespace Go.Proofs.YtngondeaeipcfaaGreatDoor
open Go.RowKit

def flat (ps : List (Int × Int × Int)) : List Value := ps.flatMap pc
theorem flat_len (ps : List (Int × Int × Int)) : (flat ps).length = ps.length * 3 := by
  induction ps with
  | nil => rfl
  | cons p r ih => simp only [flat, List.flatMap_cons, List.length_append, List.length_cons] at *; rw [ih]; simp [pc]; omega
theorem flat_get {ps : List (Int × Int × Int)} {k j : Nat} {p : Int × Int × Int} {v : Value} (hp : ps[k]? = some p) (hv : (pc p)[j]? = some v) : (flat ps)[k * 3 + j]? = some v := by
  induction ps generalizing k with
  | nil => simp at hp
  | cons q r ih =>
    have hj : j < 3 := by have := (List.getElem?_eq_some_iff.1 hv).1; simpa [pc] using this
    have hq : (pc q).length = 3 := rfl
    simp only [flat, List.flatMap_cons]
    cases k with
    | zero =>
      simp at hp; subst hp
      rw [Nat.zero_mul, Nat.zero_add, List.getElem?_append_left (by rw [hq]; exact hj)]; exact hv
    | succ k =>
      have e : (k + 1) * 3 + j - (pc q).length = k * 3 + j := by rw [hq]; omega
      rw [List.getElem?_append_right (by rw [hq]; omega), e]
      exact ih (by simpa using hp)
theorem flat_inv {ps : List (Int × Int × Int)} {i : Nat} {v : Value} (h : (flat ps)[i]? = some v) : ∃ p, ps[i / 3]? = some p ∧ (pc p)[i % 3]? = some v := by
  have hi := (List.getElem?_eq_some_iff.1 h).1
  rw [flat_len] at hi
  have hk : i / 3 < ps.length := by omega
  have hp : ps[i / 3]? = some (ps[i / 3]'hk) := List.getElem?_eq_getElem _
  have hr : i % 3 < (pc (ps[i / 3]'hk)).length := by show i % 3 < 3; omega
  have hv : (pc (ps[i / 3]'hk))[i % 3]? = some ((pc (ps[i / 3]'hk))[i % 3]'hr) := List.getElem?_eq_getElem _
  have hf := flat_get hp hv
  have e : i / 3 * 3 + i % 3 = i := by omega
  rw [e, h] at hf
  exact ⟨_, hp, by rw [hv, ← Option.some.inj hf]⟩
theorem flat_one (ps : List (Int × Int × Int)) : ∀ u ∈ flat ps, u.oneCell' = true := by
  intro u hu
  obtain ⟨i, hi⟩ := List.getElem?_of_mem hu
  obtain ⟨p, _, hv⟩ := flat_inv hi
  have hm := List.mem_of_getElem? hv
  simp [pc] at hm
  rcases hm with rfl | rfl | rfl <;> rfl
theorem pairsIn_of_own {w : World} {base e n : Nat} {v : Value} {ps : List (Int × Int × Int)} (h : w.ownsRow base e 3 v n (flat ps)) (hn : n = ps.length) (hb : base ≤ w.heap.size) :
    ∃ A' c', v = .slice A' n c' ∧ n ≤ c' ∧ PairsIn w base A' ps := by
  rcases h.2 with ⟨rfl, h0⟩ | ⟨g, cap, cur, rfl, hbg, hg, hnc, _, hsz, htk⟩
  · exact ⟨none, 0, by rw [h0], by omega, fun hne => (hne (List.length_eq_zero_iff.1 (by omega))).elim⟩
  · refine ⟨_, cap, rfl, hnc, fun _ => ⟨g, 0, rfl, hbg, (Array.getElem?_eq_some_iff.1 hg).1, fun k p hp j u hu => ?_, fun j hj => ?_⟩⟩
    · have hk := (List.getElem?_eq_some_iff.1 hp).1
      have hj : j < 3 := by have := (List.getElem?_eq_some_iff.1 hu).1; simpa [pc] using this
      rw [cell_of_row _ _ _ _ _ _ hg]
      have := flat_get hp hu
      rw [← htk, List.getElem?_take] at this
      rw [Nat.zero_add]
      split at this
      · simpa using this
      · cases this
    · refine ⟨?_, frozen_of_row _ _ _ _ _ hg⟩
      rw [cell_of_row _ _ _ _ _ _ hg]
      have : 0 + j < cur.size := by rw [hsz]; have : ps.length * 3 ≤ cap * 3 := by omega
                                    omega
      simp [this]
      omega
theorem addr_add (b o i : Nat) : (⟨b, o, none⟩ : Addr).add i = ⟨b, o + i, none⟩ := by unfold Addr.add; split <;> simp_all
theorem news_of {w : World} {b o : Nat} {ps : List (Int × Int × Int)} (hP : ∀ k p, ps[k]? = some p → w.rangeAt b (o + k * 3) (pc p)) : ∀ j u, (flat ps)[j]? = some u → w.cell? ((⟨b, o, none⟩ : Addr).add j) = some u := by
  intro j u hu
  obtain ⟨p, hp, hv⟩ := flat_inv hu
  have := hP _ p hp _ u hv
  rw [addr_add]
  have e : o + j / 3 * 3 + j % 3 = o + j := by omega
  rw [e] at this; exact this

theorem Tryz.infoPair2 : (Tryz.prog.info? 119).map (fun i => (i.zero, i.size, i.bytes)) = some (some (.agg #[.int .u8 0, .int .u8 0, .int .i8 0]), 3, 3) := by kernel_rfl

end Go.Proofs.YtngondeaeipcfaaGreatDoor

namespace Go.Proofs.YtngondeaeipcfaaGreatDoor
open Go Go.RowKit Go.Sort

theorem enc_one (l : List (List UInt8)) : ∀ v ∈ l.map encStr, v.oneCell' = true := by
  intro v hv
  obtain ⟨x, _, rfl⟩ := List.mem_map.1 hv
  rfl
theorem strsIn_of_own {w : World} {base e n : Nat} {v : Value} {ss : List (List UInt8)} (h : w.ownsRow base e 1 v n (ss.map encStr)) (hn : n = ss.length) :
    ∃ A' c', v = .slice A' n c' ∧ n ≤ c' ∧ StrsIn w base A' (ss.map fun x => ⟨x.toArray⟩) := by
  rcases h.2 with ⟨rfl, h0⟩ | ⟨g, cap, cur, rfl, hbg, hg, hnc, _, hsz, htk⟩
  · exact ⟨none, 0, by rw [h0], by omega, fun hne => (hne (by have : ss = [] := List.length_eq_zero_iff.1 (by omega); rw [this]; rfl)).elim⟩
  · refine ⟨_, cap, rfl, hnc, fun _ => ⟨g, 0, rfl, hbg, (Array.getElem?_eq_some_iff.1 hg).1, fun k x hx => ?_, fun j hj => ?_⟩⟩
    · rw [List.getElem?_map] at hx
      obtain ⟨y, hy, rfl⟩ := Option.map_eq_some_iff.1 hx
      rw [cell_of_row _ _ _ _ _ _ hg]
      have h1 : (ss.map encStr)[k]? = some (encStr y) := by rw [List.getElem?_map, hy]; rfl
      rw [← htk, List.getElem?_take] at h1
      rw [Nat.zero_add]
      split at h1
      · simpa using h1
      · cases h1
    · refine ⟨?_, frozen_of_row _ _ _ _ _ hg⟩
      rw [cell_of_row _ _ _ _ _ _ hg]
      rw [List.length_map] at hj
      have : 0 + j < cur.size := by rw [hsz]; omega
      simp [this]
      omega

theorem splitL_len : ∀ L : List UInt8, (splitL L).length ≤ L.length + 1
  | [] => by simp [splitL]
  | c :: cs => by
    have ih := splitL_len cs
    by_cases hc : c = 32
    · subst hc; rw [splitL_32]; simp only [List.length_cons]; omega
    · rw [splitL_other _ hc]
      have hne := splitL_ne cs
      cases h : splitL cs with
      | nil => exact (hne h).elim
      | cons a t => rw [h] at ih; simp only [glue, List.length_cons] at *; omega
theorem own_below {w wr w1 : World} {e : TypeId} {v : Value} {n : Nat} {xs : List Value} {o : Obj} (hB : Below w.heap.size w wr) (h : wr.ownsRow w.heap.size e 1 v n xs) (hg : (wr.alloc o).grownBy w1 v.ownBlock) : Below w.heap.size w w1 :=
  (hB.alloc hB.size o).grown hg (by have := hB.size; simp; omega) (fun k hk => (h.lt k hk).1)
theorem take_snoc {L : List UInt8} {b k : Nat} (hk : k < L.length) (hb : b ≤ k) : (L.drop b).take (k + 1 - b) = (L.drop b).take (k - b) ++ [L[k]] := by
  have e : k + 1 - b = (k - b) + 1 := by omega
  have hlt : k - b < (L.drop b).length := by rw [List.length_drop]; omega
  rw [e, List.take_succ_eq_append_getElem hlt]
  congr 2
  rw [List.getElem_drop]
  congr 1
  omega

set_option maxRecDepth 100000 in
set_option maxHeartbeats 4000000 in
theorem l01Split_any (s : ByteArray) (w : World) (hs : s.size ≤ 1048576) :
    Calls Tryz.prog 208 #[.string s, .int .u8 32] w fun e w' => ∃ A' c', e = .returned (.slice A' (splitL s.data.toList).length c') ∧ (splitL s.data.toList).length ≤ c' ∧ StrsIn w' w.heap.size A' ((splitL s.data.toList).map fun x => ⟨x.toArray⟩) ∧ Below w.heap.size w w' := by
  obtain ⟨i0, hi0, hz0, hz1, hz2⟩ := info_parts Tryz.infoString
  have hL : s.data.toList.length = s.size := by simp
  obtain ⟨S, hS⟩ : ∃ S, splitL s.data.toList = S := ⟨_, rfl⟩
  have hSL : S.length ≤ s.size + 1 := by rw [← hS, ← hL]; exact splitL_len _
  rw [hS]
  have HS := hide hS
  have HL := hide hL
  have HII := hide (⟨hi0, hz0, hz1, hz2⟩ : _ ∧ _ ∧ _ ∧ _)
  have ho := World.ownsRow_made (base := w.heap.size) (e := 9) (size := 1) w #[] 0 (Nat.le_refl _) (by unfold maxLen; omega) rfl
  have HO := hide ho
  clear hS hL hi0 hz0 hz1 hz2 ho
  go_enter Tryz.func208, Tryz.ntmps208
  go_wp2
  go_loopw [5, 6, 7] (fun out bg i wr => ∃ (k b : Nat) (v : Value) (pre : List (List UInt8)), k ≤ s.size ∧ b ≤ k ∧ out = v ∧ bg = .int .i64 b ∧ i = .int .i64 k ∧ pre.length ≤ k ∧
      Hid (wr.ownsRow w.heap.size 9 1 v pre.length (pre.map encStr)) ∧ Below w.heap.size w wr ∧ Hid (S = pre ++ glue ((s.data.toList.drop b).take (k - b)) (splitL (s.data.toList.drop k))))
    (fun _ _ i _ => s.size - (intOf i).toNat)
  case atStart =>
    refine ⟨0, 0, _, [], by omega, by omega, rfl, rfl, rfl, by simp, ?_, ?_, hide ?_⟩
    · exact HO
    · exact (Below.refl _ _).alloc (Nat.le_refl _) _
    · rw [← HS.out]; simp [glue_nil (splitL_ne _)]
  case round =>
    obtain ⟨k, b, v, pre, hk, hbk, rfl, rfl, rfl, hpk, HOW, hB, HG⟩ := hrel
    by_cases hlt : k < s.size
    · have hi : (k : Int) < s.size := by omega
      have h0 : (0 : Int) ≤ k := by omega
      have hbk' : (b : Int) ≤ k := by omega
      have hb0 : (0 : Int) ≤ b := by omega
      have hks : (k : Int) ≤ s.size := by omega
      have hdk : s.data.toList.drop k = s[k] :: s.data.toList.drop (k + 1) := by
        rw [List.drop_eq_getElem_cons (by rw [HL.out]; exact hlt)]; rfl
      cases h32 : ((s[k].toNat : Int) == 32)
      · have hne : s[k] ≠ 32 := fun e => by rw [e] at h32; cases h32
        have hg2 : S = pre ++ glue ((s.data.toList.drop b).take (k + 1 - b)) (splitL (s.data.toList.drop (k + 1))) := by
          rw [HG.out, hdk, splitL_other _ hne, glue_glue, take_snoc (by rw [HL.out]; exact hlt) hbk]; rfl
        have HG2 := hide hg2
        clear hg2 hdk hne HG
        go_wp2
        exact ⟨⟨k + 1, b, _, pre, by omega, by omega, rfl, rfl, by go_num, by omega, HOW, hB, HG2⟩, by simp [intOf]; omega⟩
      · have he : s[k] = 32 := by
          have : s[k].toNat = 32 := by have : (s[k].toNat : Int) = 32 := by simpa using h32
                                       omega
          exact UInt8.toNat_inj.1 this
        have hg2 : S = (pre ++ [(s.data.toList.drop b).take (k - b)]) ++ glue ((s.data.toList.drop (k + 1)).take (k + 1 - (k + 1))) (splitL (s.data.toList.drop (k + 1))) := by
          rw [HG.out, hdk, he, splitL_32, Nat.sub_self, List.take_zero, glue_nil (splitL_ne _)]
          simp [glue]
        have HG2 := hide hg2
        have hex := Lib.extract_eq s b k
        have HX := hide hex
        clear hg2 hdk he HG hex
        go_wp2_with (at_builtin; rw [HX.out]; refine wpList_append_own _ rfl (.tmp 20) (.tmp 25) 36 rfl w.heap.size 9 i0 _ 1 16 Tryz.underlying36 HII.out.1 HII.out.2.1 HII.out.2.2.1 HII.out.2.2.2 rfl (by decide) _ _ _ rfl (HOW.out.alloc _) ⟨wr.heap.size, 0, none⟩ 1 1 [encStr ((s.data.toList.drop b).take (k - b))] rfl rfl (cell_one_new _ _ _) (by simp [Value.oneCell']) (by unfold maxLen; omega) (by omega) (by have := hB.size; simp; omega) ?_; intro v' w1 hown1 hgrow hx1)
        have hb1 := own_below hB HOW.out hgrow
        exact ⟨⟨k + 1, k + 1, v', pre ++ [(s.data.toList.drop b).take (k - b)], by omega, by omega, rfl, by go_num, by go_num, by simp; omega, hide (by simpa using hown1), hb1, HG2⟩, by simp [intOf]; omega⟩
    · obtain rfl : k = s.size := by omega
      have hg2 : S = pre ++ [(s.data.toList.drop b).take (s.size - b)] := by
        have hdn : s.data.toList.drop s.size = [] := List.drop_eq_nil_of_le (by rw [HL.out]; exact Nat.le_refl _)
        rw [HG.out, hdn]
        simp [splitL, glue]
      have HG2 := hide hg2
      have hex := Lib.extract_eq s b s.size
      have HX := hide hex
      have hbk' : (b : Int) ≤ s.size := by omega
      have hb0 : (0 : Int) ≤ b := by omega
      clear hg2 HG hex
      go_wp2_with (at_builtin; rw [HX.out]; refine wpList_append_own _ rfl (.tmp 29) (.tmp 33) 36 rfl w.heap.size 9 i0 _ 1 16 Tryz.underlying36 HII.out.1 HII.out.2.1 HII.out.2.2.1 HII.out.2.2.2 rfl (by decide) _ _ _ rfl (HOW.out.alloc _) ⟨wr.heap.size, 0, none⟩ 1 1 [encStr ((s.data.toList.drop b).take (s.size - b))] rfl rfl (cell_one_new _ _ _) (by simp [Value.oneCell']) (by unfold maxLen; omega) (by omega) (by have := hB.size; simp; omega) ?_; intro v' w1 hown1 hgrow hx1)
      have hb1 := own_below hB HOW.out hgrow
      have hn : S.length = pre.length + 1 := by rw [HG2.out]; simp
      have hown2 : w1.ownsRow w.heap.size 9 1 v' S.length (S.map encStr) := by rw [hn, HG2.out]; simpa using hown1
      obtain ⟨A', c', rfl, hc', hP⟩ := strsIn_of_own hown2 rfl
      go_ret
      exact ⟨A', c', rfl, hc', hP, hb1⟩
end Go.Proofs.YtngondeaeipcfaaGreatDoor
