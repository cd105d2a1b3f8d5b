/- CentreLine of the program. -/
import Derived.Test.YtikndeloeeppaaaCentreS
import Derived.Test.YtikndeloeeppaaaImplLine
import Derived.Test.YtikndeloeeppaaaG6
namespace Go.Proofs.Ytikndeloeeppaaa
open Go.RowKit

set_option maxHeartbeats 400000 in
theorem validWide_any (x : Int) (w : World) : Calls Try.prog 107 #[.int .i64 x] w fun e w' => e = .returned (.bool (inB x 0 4000)) ∧ w = w' := by
  go_enter Try.func107, Try.ntmps107
  go_wp2_with (go_at_call 132; refine (between_any _ _ _ _).mono ?_; rintro e w' ⟨rfl, rfl⟩)
  go_ret
  exact ⟨rfl, rfl⟩

set_option maxRecDepth 100000 in
set_option maxHeartbeats 4000000 in
theorem roomOf_any (F : Fc) (hF : F.ok) (A : Option Addr) (c : Nat) (s : ByteArray) (hs : s.size ≤ maxLen) (x : Int) (hx : (Lit.int .i64 x).wf = true) (w : World) (hA : PairsAt w w.heap.size A F.ps) :
    Calls Try.prog 105 #[.agg (fc F (.slice A F.ps.length c)).toArray, .string s, .int .i64 x] w fun e w' => e = .returned (.tuple #[.int .i64 (roomV F s.data.toList x), .int .i64 (roomC F s.data.toList x)]) ∧ Below w.heap.size w w' := by
  have hW := hide hF.len
  have hr := rangeAt_new w (fc F (.slice A F.ps.length c)) 32
  have hb : Below w.heap.size w (w.alloc (.cells (fc F (.slice A F.ps.length c)).toArray 32)) := (Below.refl _ _).alloc (Nat.le_refl _) _
  have hs0 : w.heap.size < (w.alloc (.cells (fc F (.slice A F.ps.length c)).toArray 32)).heap.size := by simp
  have BA := hA.below hb
  have HC := hide (implValidFace_any F hF A c _ (BA.mono hb.size))
  have HII := hide (show ∀ sl, (Try.prog.info? 32).map (·.size) = some (fc F sl).length from fun sl => by rw [fc_length hW.out]; kernel_rfl)
  have HWo := hide (fun w => implValidText_any s w hs)
  generalize hv1 : roomV F s.data.toList x = V
  generalize hv2 : roomC F s.data.toList x = C
  have H1 := hide hv1
  have H2 := hide hv2
  clear hA hv1 hv2
  cases hv : vface F
  · have hp := room_inv (F := F) (L := s.data.toList) x (fun e => by rw [hv] at e; cases e.1)
    have HP := hide (⟨hp.2.1.symm.trans H1.out, hp.1.symm.trans H2.out⟩ : _ ∧ _)
    clear hp
    go_enter Try.func105, Try.ntmps105
    go_wp2_with (first | (refine wpList_load_mid rfl 32 (.tmp 3) rfl _ 0 rfl _ _ hr Try.underlying32 rfl (HII.out _) ?_) | (go_at_call 87; refine HC.out.mono ?_; rintro e w1 ⟨rfl, hb1⟩; simp only [hv]))
    go_ret2
    exact ⟨ret_ii HP.out.1 HP.out.2, hb.trans (hb1.mono hb.size)⟩
  · cases hwd : vtext s.data.toList
    · have hp := room_inv (F := F) (L := s.data.toList) x (fun e => by have := e.2; rw [hwd] at this; cases this)
      have HP := hide (⟨hp.2.1.symm.trans H1.out, hp.1.symm.trans H2.out⟩ : _ ∧ _)
      clear hp
      go_enter Try.func105, Try.ntmps105
      go_wp2_with (first | (refine wpList_load_mid rfl 32 (.tmp 3) rfl _ 0 rfl _ _ hr Try.underlying32 rfl (HII.out _) ?_) | (go_at_call 87; refine HC.out.mono ?_; rintro e w1 ⟨rfl, hb1⟩; simp only [hv]) | (go_at_call 98; refine (HWo.out _).mono ?_; rintro e w2 ⟨rfl, hb2⟩; simp only [hwd]))
      go_ret2
      exact ⟨ret_ii HP.out.1 HP.out.2, hb.trans ((hb1.trans (hb2.mono hb1.size)).mono hb.size)⟩
    · cases hin : inB x 0 4000
      · have hp := room_range (x := x) hv hwd hin
        have HP := hide (⟨hp.2.1.symm.trans H1.out, hp.1.symm.trans H2.out⟩ : _ ∧ _)
        have HIN := hide hin
        clear hp hin
        go_enter Try.func105, Try.ntmps105
        go_wp2_with (first | (refine wpList_load_mid rfl 32 (.tmp 3) rfl _ 0 rfl _ _ hr Try.underlying32 rfl (HII.out _) ?_) | (go_at_call 87; refine HC.out.mono ?_; rintro e w1 ⟨rfl, hb1⟩; simp only [hv]) | (go_at_call 98; refine (HWo.out _).mono ?_; rintro e w2 ⟨rfl, hb2⟩; simp only [hwd]) | (go_at_call 107; refine (validWide_any _ _).mono ?_; rintro e w' ⟨rfl, rfl⟩; rw [HIN.out]))
        go_ret2
        exact ⟨ret_ii HP.out.1 HP.out.2, hb.trans ((hb1.trans (hb2.mono hb1.size)).mono hb.size)⟩
      · have hbd := lineTo_bd hF hv (fun y hy => words_mem hwd hy) _ (Nat.le_refl _)
        have hx0 := inB_true.1 hin
        have hwl := words_len hwd
        have HLW := hide (fun w hA => lineWide_any F hF A c s w hv hwd hA)
        have HST := hide (fun h => room_state (x := x) hv hwd hin h)
        have HOK := hide (fun h => room_ok (x := x) hv hwd hin h)
        have HIN := hide hin
        change 0 ≤ lineL F (wordsL s.data.toList) ∧ lineL F (wordsL s.data.toList) ≤ _ at hbd
        obtain ⟨q1, q2⟩ := hbd
        obtain ⟨x0, x1⟩ := hx0
        clear hin hx
        have q3 : lineL F (wordsL s.data.toList) ≤ 222040 := by omega
        generalize lineL F (wordsL s.data.toList) = T at HLW HST HOK q1 q3
        clear q2 hwl
        have e1 := IntWalk.i64_in (x - T) ⟨by omega, by omega⟩
        go_enter Try.func105, Try.ntmps105
        go_wp2_with (refine wpList_load_mid rfl 32 (.tmp 3) rfl _ 0 rfl _ _ hr Try.underlying32 rfl (HII.out _) ?_)
        generalize (w.alloc (.cells (fc F (.slice A F.ps.length c)).toArray 32)) = W0 at *
        refine HC.out.mono ?_
        rintro e w1 ⟨rfl, hb1⟩
        simp only [hv]
        go_wp2_with fail
        refine (HWo.out _).mono ?_
        rintro e w2 ⟨rfl, hb2⟩
        simp only [hwd]
        have hB := hb1.trans (hb2.mono hb1.size)
        have r2 := rangeAt_below hr hB hs0
        have HB := hide (HLW.out w2 ((BA.below (hB.mono hb.size)).mono (Nat.le_trans hb.size hB.size)))
        clear hr
        by_cases hle : T ≤ x
        · have hp := HOK.out hle
          have HP := hide (⟨hp.2.1.symm.trans H1.out, hp.1.symm.trans H2.out⟩ : _ ∧ _)
          have hlt : ¬ (x - T < 0) := by omega
          clear hp HST HOK
          go_wp2_with (first | (refine wpList_load_mid rfl 32 (.tmp 3) rfl _ 0 rfl _ _ r2 Try.underlying32 rfl (HII.out _) ?_) | (go_at_call 107; refine (validWide_any _ _).mono ?_; rintro e w' ⟨rfl, rfl⟩; rw [HIN.out]) | (go_at_call 173; refine HB.out.mono ?_; rintro e w3 ⟨rfl, hb3⟩))
          go_ret2
          exact ⟨ret_ii HP.out.1 HP.out.2, hb.trans ((hB.trans (hb3.mono hB.size)).mono hb.size)⟩
        · have hp := HST.out (by omega)
          have HP := hide (⟨hp.2.1.symm.trans H1.out, hp.1.symm.trans H2.out⟩ : _ ∧ _)
          have hlt : x - T < 0 := by omega
          clear hp HST HOK
          go_wp2_with (first | (refine wpList_load_mid rfl 32 (.tmp 3) rfl _ 0 rfl _ _ r2 Try.underlying32 rfl (HII.out _) ?_) | (go_at_call 107; refine (validWide_any _ _).mono ?_; rintro e w' ⟨rfl, rfl⟩; rw [HIN.out]) | (go_at_call 173; refine HB.out.mono ?_; rintro e w3 ⟨rfl, hb3⟩))
          go_ret2
          exact ⟨ret_ii HP.out.1 HP.out.2, hb.trans ((hB.trans (hb3.mono hB.size)).mono hb.size)⟩

set_option maxRecDepth 100000 in
set_option maxHeartbeats 4000000 in
theorem implCentreLine_any (F : Fc) (hF : F.ok) (A : Option Addr) (c : Nat) (s : ByteArray) (hs : s.size ≤ maxLen) (x : Int) (hx : (Lit.int .i64 x).wf = true) (w : World) (hA : PairsAt w w.heap.size A F.ps) :
    Calls Try.prog 39 #[.agg (fc F (.slice A F.ps.length c)).toArray, .string s, .int .i64 x] w fun e w' => e = .returned (.tuple #[.int .i64 (roomV F s.data.toList x / 2), .int .i64 (roomC F s.data.toList x)]) ∧ Below w.heap.size w w' := by
  have hW := hide hF.len
  have hr := rangeAt_new w (fc F (.slice A F.ps.length c)) 32
  have hb : Below w.heap.size w (w.alloc (.cells (fc F (.slice A F.ps.length c)).toArray 32)) := (Below.refl _ _).alloc (Nat.le_refl _) _
  have HII := hide (show ∀ sl, (Try.prog.info? 32).map (·.size) = some (fc F sl).length from fun sl => by rw [fc_length hW.out]; kernel_rfl)
  have HR := hide (roomOf_any F hF A c s hs x hx _ ((hA.below hb).mono hb.size))
  obtain ⟨v1, v2⟩ := room_bd hF s.data.toList x
  generalize roomV F s.data.toList x = V at *
  generalize roomC F s.data.toList x = C at *
  clear hA
  go_enter Try.func39, Try.ntmps39
  go_wp2_with (first | (refine wpList_load_mid rfl 32 (.tmp 3) rfl _ 0 rfl _ _ hr Try.underlying32 rfl (HII.out _) ?_) | (go_at_call 105; refine HR.out.mono ?_; rintro e w1 ⟨rfl, hb1⟩))
  go_ret2
  exact ⟨rfl, hb.trans (hb1.mono hb.size)⟩
end Go.Proofs.Ytikndeloeeppaaa
