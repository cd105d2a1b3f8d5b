/- The program's test of a word, its width, and WordWide of both. -/
import Derived.Test.YtikndeloeeppaaaImplWide
import Derived.Test.YtikndeloeeppaaaSpecWide
import Derived.Test.YtikndeloeeppaaaValidText
import Derived.Test.YtikndeloeeppaaaShelf
namespace Go.Proofs.Ytikndeloeeppaaa
open Go.RowKit

set_option maxRecDepth 100000 in
set_option maxHeartbeats 4000000 in
theorem wordWide_any (F : Fc) (hF : F.ok) (A : Option Addr) (c : Nat) (s : ByteArray) (w : World) (hv : vface F = true) (hc : allCap s.data.toList) (hs : s.size ≤ 60) (hA : PairsAt w w.heap.size A F.ps) :
    Calls Try.prog 102 #[.agg (fc F (.slice A F.ps.length c)).toArray, .string s] w fun e w' => e = .returned (.int .i64 (wideL F s.data.toList)) ∧ Below w.heap.size w w' := by
  have hW := hide hF.len
  have hr := rangeAt_new w (fc F (.slice A F.ps.length c)) 32
  have hb0 : Below w.heap.size w (w.alloc (.cells (fc F (.slice A F.ps.length c)).toArray 32)) := (Below.refl _ _).alloc (Nat.le_refl _) _
  have hs0 : w.heap.size < (w.alloc (.cells (fc F (.slice A F.ps.length c)).toArray 32)).heap.size := by simp
  have HII := hide (show ∀ sl, (Try.prog.info? 32).map (·.size) = some (fc F sl).length from fun sl => by rw [fc_length hW.out]; kernel_rfl)
  have BA := hA.below hb0
  have hL : s.data.toList.length = s.size := by simp
  have HL := hide hL
  have HBD := hide (fun k hk => wideTo_bd hF hv hc k hk)
  have HLW := hide (fun i hi => letW_bd hF hv hc (i := i) hi)
  have HGB := hide (fun i => gapL_bd hv s.data.toList i)
  have HC := hide hc
  have HV := hide hv
  have hw : wideL F s.data.toList = wideTo F s.data.toList s.size := by unfold wideL; rw [hL]
  have HW := hide hw
  clear hL hc hw hA hv
  go_enter Try.func102, Try.ntmps102
  go_wp2
  generalize (w.alloc (.cells (fc F (.slice A F.ps.length c)).toArray 32)) = W0 at *
  have hBs := hb0.size
  go_loopw [5, 9] (fun t i wr => ∃ k : Nat, k ≤ s.size ∧ i = .int .i64 k ∧ t = .int .i64 (wideTo F s.data.toList k) ∧ Below W0.heap.size W0 wr)
    (fun _ i _ => s.size - (intOf i).toNat)
  case atStart => exact ⟨0, by omega, rfl, rfl, Below.refl _ _⟩
  case round =>
    obtain ⟨k, hk, rfl, rfl, hB⟩ := hrel
    by_cases hlt : k < s.size
    · have hi : (k : Int) < s.size := by omega
      have h0 : (0 : Int) ≤ k := by omega
      have hcap := HC.out k (by rw [HL.out]; exact hlt)
      have hb := byteAt_get s k hlt
      obtain ⟨l1, l2⟩ := HLW.out k (by rw [HL.out]; exact hlt)
      obtain ⟨t1, t2⟩ := HBD.out k (by rw [HL.out]; omega)
      obtain ⟨g1, g2⟩ := HGB.out k
      have hst : wideTo F s.data.toList (k + 1) = wideTo F s.data.toList k + letW F s.data.toList k + gapL F s.data.toList k := rfl
      have HST := hide hst
      have hlw := letterWide_any F hF (.slice A F.ps.length c) (s[k].toNat : Int)
      have hlet : F.W.getD ((s[k].toNat : Int) - 65).toNat 0 = letW F s.data.toList k := by rw [hb]; rfl
      rw [hlet] at hlw
      have HLT := hide (fun w => hlw w (by rw [hb]; exact hcap))
      have HBB := hide hb
      have hB1 := hB.size
      clear hst hb hcap hlw hlet
      by_cases hk0 : k = 0
      · have hd : decide ((0 : Int) < k) = false := by simp; omega
        have hd' : decide (0 < k) = false := by simp; omega
        have hg : gapL F s.data.toList k = 0 := by simp [gapL, hk0]
        have HG := hide hg
        have e2 := IntWalk.i64_in (wideTo F s.data.toList k + letW F s.data.toList k) ⟨by omega, by omega⟩
        clear hg hk0
        go_wp2
        have HROW := hide (over_row (rangeAt_below hr hB hs0) (Nat.lt_of_lt_of_le hs0 hB1))
        refine wp_region_over (by kernel_rfl) (by kernel_rfl) ?_
        repeat (first | (refine wpQuiet_load_row rfl 32 (.tmp 2) rfl _ 0 rfl _ _ HROW.out Try.underlying32 rfl (HII.out _) ?_; simp only [Act.put, List.setIfInBounds_toArray, List.set_cons_zero, List.set_cons_succ]) | go_big_quiet_step ((go_at_call 170; exact over_call (HLT.out _))))
        refine wpQuiet_nil ?_
        intro w1 hb1
        have hB2 := hB.trans (hb1.mono hB.size)
        clear hb1 e2 HROW
        go_wp2
        exact ⟨⟨k + 1, by omega, by go_num, by rw [HST.out, HG.out, Int.add_zero], hB2⟩, by simp [intOf]; omega⟩
      · have hd : decide ((0 : Int) < k) = true := by simp; omega
        have hd' : decide (0 < k) = true := by simp; omega
        have hg : gapL F s.data.toList k = F.gp + byL F.ps (byteAt s.data.toList (k - 1)) (byteAt s.data.toList k) := by simp [gapL, hk0]
        have hb1 := byteAt_get s (k - 1) (by omega)
        rw [← hb1, ← HBB.out] at hg
        have hlt1 : k - 1 < s.size := by omega
        have j0 : (0 : Int) ≤ (k : Int) - 1 := by omega
        have j00 : (1 : Int) ≤ (k : Int) := by omega
        have j1 : (k : Int) - 1 < s.size := by omega
        have j2 := IntWalk.i64_in ((k : Int) - 1) ⟨by omega, by omega⟩
        have j3 : ((k : Int) - 1).toNat = k - 1 := by omega
        have hgo := gapOf_any F hF A c (s[k - 1].toNat : Int) (s[k].toNat : Int)
        rw [← hg] at hgo
        have e5 := IntWalk.i64_in (wideTo F s.data.toList k + gapL F s.data.toList k) ⟨by omega, by omega⟩
        have hgo2 := fun (x : Over wr) => hgo x.w HV.out ((BA.below ((hB.trans (x.h.mono hB1)).mono hBs)).mono (Nat.le_trans hBs (Nat.le_trans hB1 x.size)))
        have HGO := hide hgo2
        clear hg hb1 hk0 hgo hgo2
        go_wp2
        have HROW := hide (over_row (rangeAt_below hr hB hs0) (Nat.lt_of_lt_of_le hs0 hB1))
        refine wp_region_over (by kernel_rfl) (by kernel_rfl) ?_
        repeat (first | (refine wpQuiet_load_row rfl 32 (.tmp 2) rfl _ 0 rfl _ _ HROW.out Try.underlying32 rfl (HII.out _) ?_; simp only [Act.put, List.setIfInBounds_toArray, List.set_cons_zero, List.set_cons_succ]) | go_big_quiet_step ((go_at_call 169; exact over_call (HGO.out _))))
        refine wpQuiet_nil ?_
        intro w1 hb1
        have hB2 := hB.trans (hb1.mono hB.size)
        have hB2s := hB2.size
        clear hb1 e5 HROW HGO j2
        have e2 := IntWalk.i64_in (wideTo F s.data.toList k + gapL F s.data.toList k + letW F s.data.toList k) ⟨by omega, by omega⟩
        go_wp2
        have HROW := hide (over_row (rangeAt_below hr hB2 hs0) (Nat.lt_of_lt_of_le hs0 hB2s))
        refine wp_region_over (by kernel_rfl) (by kernel_rfl) ?_
        repeat (first | (refine wpQuiet_load_row rfl 32 (.tmp 2) rfl _ 0 rfl _ _ HROW.out Try.underlying32 rfl (HII.out _) ?_; simp only [Act.put, List.setIfInBounds_toArray, List.set_cons_zero, List.set_cons_succ]) | go_big_quiet_step ((go_at_call 170; exact over_call (HLT.out _))))
        refine wpQuiet_nil ?_
        intro w2 hb2
        have hB3 := hB2.trans (hb2.mono hB2.size)
        clear hb2 e2 HROW
        go_wp2
        exact ⟨⟨k + 1, by omega, by go_num, by rw [HST.out]; congr 1; omega, hB3⟩, by simp [intOf]; omega⟩
    · obtain rfl : k = s.size := by omega
      go_wp2
      go_ret
      exact ⟨ret_int HW.out.symm, hb0.trans (hB.mono hBs)⟩
end Go.Proofs.Ytikndeloeeppaaa
