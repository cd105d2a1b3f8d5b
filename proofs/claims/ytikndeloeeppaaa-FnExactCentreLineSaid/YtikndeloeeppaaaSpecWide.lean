/- The model's width of a word. -/
import Derived.Test.YtikndeloeeppaaaWideP
import Derived.Test.YtikndeloeeppaaaSpecBy
import Derived.Test.YtikndeloeeppaaaOver
namespace Go.Proofs.Ytikndeloeeppaaa
open Go.RowKit

set_option maxRecDepth 100000 in
set_option maxHeartbeats 4000000 in
theorem l01Wide_any (F : Fc) (hF : F.ok) (b : Nat) (A : Option Addr) (c : Nat) (s : ByteArray) (w : World) (hv : vface F = true) (hc : allCap s.data.toList) (hs : s.size ≤ 60) (hr : w.rangeAt b 0 (fc F (.slice A F.ps.length c))) (hA : PairsAt w w.heap.size A F.ps) :
    Calls Try.prog 100 #[.pointer (some ⟨b, 0, none⟩), .string s] w fun e w' => e = .returned (.int .i64 (wideL F s.data.toList)) ∧ Below w.heap.size w w' := by
  have hW := hide hF.len
  have x27 := rangeAt_cell hr (fc_gp hW.out _)
  have HB := hide (fun x y n => l01By_any F hF b A c x y (w.drewN n) hr hA)
  have hL : s.data.toList.length = s.size := by simp
  have HL := hide hL
  have HBD := hide (fun k hk => wideTo_bd hF hv hc k hk)
  have HLW := hide (fun i hi => letW_bd hF hv hc (i := i) hi)
  have HGB := hide (fun i => gapL_bd hv s.data.toList i)
  have HBY := hide (fun a b => byL_bd hv a b)
  have HC := hide hc
  have hw : wideL F s.data.toList = wideTo F s.data.toList s.size := by unfold wideL; rw [hL]
  have HW := hide hw
  obtain ⟨gp1, gp2⟩ := shape_gap (vface_true.1 hv).2.gp
  clear hL hc hw hA
  go_enter Try.func100, Try.ntmps100
  go_wp2
  go_loopw [5, 6] (fun t i wr => ∃ k m : Nat, k ≤ s.size ∧ i = .int .i64 k ∧ t = .int .i64 (wideTo F s.data.toList k) ∧ wr = w.drewN m)
    (fun _ i _ => s.size - (intOf i).toNat)
  case atStart => exact ⟨0, 0, by omega, rfl, rfl, rfl⟩
  case round =>
    obtain ⟨k, m, hk, rfl, rfl, rfl⟩ := hrel
    by_cases hlt : k < s.size
    · have hi : (k : Int) < s.size := by omega
      have h0 : (0 : Int) ≤ k := by omega
      have hcap := HC.out k (by rw [HL.out]; exact hlt)
      have hb := byteAt_get s k hlt
      obtain ⟨q1, q2⟩ := capIdx hcap
      have q3 := cap_true.1 hcap
      obtain ⟨l1, l2⟩ := HLW.out k (by rw [HL.out]; exact hlt)
      obtain ⟨t1, t2⟩ := HBD.out k (by rw [HL.out]; omega)
      have hcw := rangeAt_cell hr (fc_W hW.out _ q1)
      have hlet : letW F s.data.toList k = F.W.getD (byteAt s.data.toList k - 65).toNat 0 := rfl
      rw [← hb] at hcw q1 q2 q3 hlet
      have HLET := hide hlet
      have hx : F.W.getD ((s[k].toNat : Int) - 65).toNat 0 = letW F s.data.toList k := hlet.symm
      rw [hx] at hcw
      have HBB := hide hb
      clear hlet hb hcap hx
      obtain ⟨g1, g2⟩ := HGB.out k
      have e1 := IntWalk.u8_in ((s[k].toNat : Int) - 65) ⟨by omega, by omega⟩
      have e2 := IntWalk.i64_in (wideTo F s.data.toList k + letW F s.data.toList k) ⟨by omega, by omega⟩
      have e7 := IntWalk.i64_in (letW F s.data.toList k) ⟨by omega, by omega⟩
      have e3 : (0 : Int) ≤ (s[k].toNat : Int) - 65 := by omega
      have e4 : (s[k].toNat : Int) - 65 < 26 := by omega
      have hst : wideTo F s.data.toList (k + 1) = wideTo F s.data.toList k + letW F s.data.toList k + gapL F s.data.toList k := rfl
      have HST := hide hst
      clear hst
      go_wp2_with fail
      go_quiet (fail)
      clear e1 e2 e7
      by_cases hk0 : k = 0
      · have hd : decide ((0 : Int) < k) = false := by simp; omega
        have hd' : decide (0 < k) = false := by simp; omega
        have hg : gapL F s.data.toList k = 0 := by simp [gapL, hk0]
        have HG := hide hg
        clear hg hk0
        go_wp2
        exact ⟨⟨k + 1, _, by omega, by go_num, by rw [HST.out, HG.out, Int.add_zero], rfl⟩, by simp [intOf]; omega⟩
      · have hd : decide ((0 : Int) < k) = true := by simp; omega
        have hd' : decide (0 < k) = true := by simp; omega
        have hg : gapL F s.data.toList k = F.gp + byL F.ps (byteAt s.data.toList (k - 1)) (byteAt s.data.toList k) := by simp [gapL, hk0]
        have hb1 := byteAt_get s (k - 1) (by omega)
        rw [← hb1, ← HBB.out] at hg
        have HG := hide hg
        have hlt1 : k - 1 < s.size := by omega
        have j0 : (0 : Int) ≤ (k : Int) - 1 := by omega
        have j00 : (1 : Int) ≤ (k : Int) := by omega
        have j1 : (k : Int) - 1 < s.size := by omega
        have j2 := IntWalk.i64_in ((k : Int) - 1) ⟨by omega, by omega⟩
        have j3 : ((k : Int) - 1).toNat = k - 1 := by omega
        obtain ⟨y1, y2, y3, y4⟩ := HBY.out (s[k - 1].toNat : Int) (s[k].toNat : Int)
        have e5 := IntWalk.i64_in (F.gp + byL F.ps (s[k - 1].toNat : Int) (s[k].toNat : Int)) ⟨by omega, by omega⟩
        have e6 := IntWalk.i64_in (wideTo F s.data.toList k + letW F s.data.toList k + (F.gp + byL F.ps (s[k - 1].toNat : Int) (s[k].toNat : Int))) ⟨by omega, by omega⟩
        clear hg hb1 hk0
        go_wp2_with fail
        go_quiet ((go_at_call 166; exact quiet_add_left (HB.out _ _ _)))
        clear e5 e6 j2
        go_wp2
        exact ⟨⟨k + 1, _, by omega, by go_num, by rw [HST.out, HG.out], rfl⟩, by simp [intOf]; omega⟩
    · obtain rfl : k = s.size := by omega
      go_wp2
      go_ret
      exact ⟨ret_int HW.out.symm, below_drewN (Below.refl _ _) _⟩
end Go.Proofs.Ytikndeloeeppaaa
