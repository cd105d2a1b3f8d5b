/- CentreLine of the model; what is left of a width beside a line. · CentreLine of the program. -/
import Derived.Test.YtngondeaeipcfaaGreatDoorG7
import Derived.Test.YtngondeaeipcfaaGreatDoorImplLine
import Derived.Test.YtngondeaeipcfaaGreatDoorG6

namespace Go.Proofs.YtngondeaeipcfaaGreatDoor
open Go Go.RowKit

/-- The code of what is left of a width beside a line, and what is left. -/
noncomputable def roomC (F : Fc) (L : List UInt8) (x : Int) : Int := if vface F = true ∧ vtext L = true then (if inB x 0 4000 = true then (if lineL F (wordsL L) ≤ x then 0 else 4) else 2) else 1
noncomputable def roomV (F : Fc) (L : List UInt8) (x : Int) : Int := if roomC F L x = 0 then x - lineL F (wordsL L) else 0
theorem room_inv {F : Fc} {L : List UInt8} (x : Int) (h : ¬ (vface F = true ∧ vtext L = true)) : roomC F L x = 1 ∧ roomV F L x = 0 ∧ askC F L (inB x 0 4000) = 1 := by
  have e : roomC F L x = 1 := by unfold roomC; rw [if_neg h]
  exact ⟨e, by unfold roomV; rw [e, if_neg (by decide)], ask_no h⟩
theorem room_range {F : Fc} {L : List UInt8} {x : Int} (h1 : vface F = true) (h2 : vtext L = true) (h : inB x 0 4000 = false) : roomC F L x = 2 ∧ roomV F L x = 0 ∧ askC F L (inB x 0 4000) = 2 := by
  have e : roomC F L x = 2 := by unfold roomC; rw [if_pos ⟨h1, h2⟩, h]; rfl
  exact ⟨e, by unfold roomV; rw [e, if_neg (by decide)], by rw [ask_ok h1 h2, h]; rfl⟩
theorem room_state {F : Fc} {L : List UInt8} {x : Int} (h1 : vface F = true) (h2 : vtext L = true) (h : inB x 0 4000 = true) (h4 : x < lineL F (wordsL L)) : roomC F L x = 4 ∧ roomV F L x = 0 ∧ askC F L (inB x 0 4000) = 0 := by
  have e : roomC F L x = 4 := by unfold roomC; rw [if_pos ⟨h1, h2⟩, if_pos h, if_neg (by omega)]
  exact ⟨e, by unfold roomV; rw [e, if_neg (by decide)], by rw [ask_ok h1 h2, h]; rfl⟩
theorem room_ok {F : Fc} {L : List UInt8} {x : Int} (h1 : vface F = true) (h2 : vtext L = true) (h : inB x 0 4000 = true) (h4 : lineL F (wordsL L) ≤ x) : roomC F L x = 0 ∧ roomV F L x = x - lineL F (wordsL L) ∧ askC F L (inB x 0 4000) = 0 := by
  have e : roomC F L x = 0 := by unfold roomC; rw [if_pos ⟨h1, h2⟩, if_pos h, if_pos h4]
  exact ⟨e, by unfold roomV; rw [e, if_pos rfl], by rw [ask_ok h1 h2, h]; rfl⟩
theorem room_bd {F : Fc} (hF : F.ok) (L : List UInt8) (x : Int) : 0 ≤ roomV F L x ∧ roomV F L x ≤ 4000 := by
  unfold roomV
  split
  · rename_i h
    unfold roomC at h
    split at h
    · rename_i hv
      split at h
      · rename_i hx
        split at h
        · have h3 := inB_true.1 hx
          have := lineTo_bd hF hv.1 (fun y hy => words_mem hv.2 hy) _ (Nat.le_refl _)
          unfold lineL at *
          omega
        · cases h
      · cases h
    · cases h
  · omega

set_option maxHeartbeats 400000 in
theorem l01Room_any (x : Int) (w : World) : Calls Tryz.prog 127 #[.int .i64 x] w fun e w' => e = .returned (.bool (inB x 0 4000)) ∧ w = w' := by
  go_enter Tryz.func127, Tryz.ntmps127
  go_wp2_with (go_at_call 119; refine (l00In_any _ _ _ _).mono ?_; rintro e w' ⟨rfl, rfl⟩)
  go_ret
  exact ⟨rfl, rfl⟩

set_option maxRecDepth 100000 in
set_option maxHeartbeats 4000000 in
theorem specCentreLine_any (F : Fc) (hF : F.ok) (A : Option Addr) (c : Nat) (s : ByteArray) (hs : s.size ≤ maxLen) (x : Int) (hx : (Lit.int .i64 x).wf = true) (w : World) (hA : PairsAt w w.heap.size A F.ps) :
    Calls Tryz.prog 26 #[.agg (fc F (.slice A F.ps.length c)).toArray, .string s, .int .i64 x] w fun e w' => e = .returned (.tuple #[.int .i64 (roomV F s.data.toList x / 2), .int .i64 (roomC F s.data.toList x)]) ∧ Below w.heap.size w w' := by
  have hr := rangeAt_new w (fc F (.slice A F.ps.length c)) 28
  have hb : Below w.heap.size w (w.alloc (.cells (fc F (.slice A F.ps.length c)).toArray 28)) := (Below.refl _ _).alloc (Nat.le_refl _) _
  have hs0 : w.heap.size < (w.alloc (.cells (fc F (.slice A F.ps.length c)).toArray 28)).heap.size := by simp
  have BA := hA.below hb
  have HC := hide (l01Asked_any F hF _ A c s (inB x 0 4000) _ hs hr (BA.mono hb.size))
  generalize hv1 : roomV F s.data.toList x = V
  generalize hv2 : roomC F s.data.toList x = C
  have H1 := hide hv1
  have H2 := hide hv2
  clear hA hv1 hv2
  by_cases hok : vface F = true ∧ vtext s.data.toList = true
  · cases hin : inB x 0 4000
    · have hp := room_range (x := x) hok.1 hok.2 hin
      rw [hin] at hp HC
      rw [hp.2.2] at HC
      have HP := hide (⟨hp.1.symm.trans H2.out, hp.2.1.symm.trans H1.out⟩ : _ ∧ _)
      have HIN := hide hin
      clear hok hp hin
      go_enter Tryz.func26, Tryz.ntmps26
      go_wp2_with (go_at_call 127; refine (l01Room_any _ _).mono ?_; rintro e w' ⟨rfl, rfl⟩; rw [HIN.out])
      refine HC.out.mono ?_
      rintro e w1 ⟨rfl, hb1⟩
      go_wp2
      go_ret2
      exact ⟨ret_ii (by rw [← HP.out.2]; rfl) HP.out.1, hb.trans (hb1.mono hb.size)⟩
    · have hwl := words_len hok.2
      have hs60 : s.size ≤ 1048576 := by have := (vtext_true.1 hok.2).1; simp at this; omega
      have hbd := lineTo_bd hF hok.1 (fun y hy => words_mem hok.2 hy) _ (Nat.le_refl _)
      have hx0 := inB_true.1 hin
      have HW := hide (fun w => l01Words_any s w hs60)
      have HL := hide (fun b A2 c2 w => l01Line_any F hF b A c (wordsL s.data.toList) A2 c2 w hok.1 (fun x hx => words_mem hok.2 hx) hwl)
      have hp0 : askC F s.data.toList (inB x 0 4000) = 0 := by rw [ask_ok hok.1 hok.2, hin]; rfl
      rw [hp0, hin] at HC
      have HST := hide (fun h => room_state (x := x) hok.1 hok.2 hin h)
      have HOK := hide (fun h => room_ok (x := x) hok.1 hok.2 hin h)
      have HIN := hide hin
      change 0 ≤ lineL F (wordsL s.data.toList) ∧ lineL F (wordsL s.data.toList) ≤ _ at hbd
      clear hs60 hp0 hok hin hx
      obtain ⟨q1, q2⟩ := hbd
      obtain ⟨x0, x1⟩ := hx0
      have HBL := hide (show (bas (wordsL s.data.toList)).length = (wordsL s.data.toList).length from List.length_map _)
      generalize lineL F (wordsL s.data.toList) = T at HL HST HOK q1 q2
      by_cases hle : T ≤ x
      · have hp := HOK.out hle
        have HP := hide (⟨hp.1.symm.trans H2.out, hp.2.1.symm.trans H1.out⟩ : _ ∧ _)
        clear hp HST HOK
        go_enter Tryz.func26, Tryz.ntmps26
        go_wp2_with (go_at_call 127; refine (l01Room_any _ _).mono ?_; rintro e w' ⟨rfl, rfl⟩; rw [HIN.out])
        refine HC.out.mono ?_
        rintro e w1 ⟨rfl, hb1⟩
        have hB1 := hb.trans (hb1.mono hb.size)
        go_wp2_with fail
        refine (HW.out w1).mono ?_
        rintro e w2 ⟨A2, c2, rfl, hP2, hb2⟩
        have hB2 := hB1.trans (hb2.mono hB1.size)
        have hb12 := hb1.trans (hb2.mono hb1.size)
        rw [HBL.out]
        go_wp2_with fail
        refine (HL.out w.heap.size A2 _ w2 (rangeAt_below hr hb12 hs0) (Nat.lt_of_lt_of_le hs0 hb12.size) ((BA.below (hb12.mono hb.size)).mono hB2.size) hP2.at_).mono ?_
        rintro e w3 ⟨rfl, hb3⟩
        have hlt : ¬ (x < T) := by omega
        go_wp2
        go_ret2
        exact ⟨ret_ii (by rw [← HP.out.2]) HP.out.1, hB2.trans (hb3.mono hB2.size)⟩
      · have hp := HST.out (by omega)
        have HP := hide (⟨hp.1.symm.trans H2.out, hp.2.1.symm.trans H1.out⟩ : _ ∧ _)
        clear hp HST HOK
        go_enter Tryz.func26, Tryz.ntmps26
        go_wp2_with (go_at_call 127; refine (l01Room_any _ _).mono ?_; rintro e w' ⟨rfl, rfl⟩; rw [HIN.out])
        refine HC.out.mono ?_
        rintro e w1 ⟨rfl, hb1⟩
        have hB1 := hb.trans (hb1.mono hb.size)
        go_wp2_with fail
        refine (HW.out w1).mono ?_
        rintro e w2 ⟨A2, c2, rfl, hP2, hb2⟩
        have hB2 := hB1.trans (hb2.mono hB1.size)
        have hb12 := hb1.trans (hb2.mono hb1.size)
        rw [HBL.out]
        go_wp2_with fail
        refine (HL.out w.heap.size A2 _ w2 (rangeAt_below hr hb12 hs0) (Nat.lt_of_lt_of_le hs0 hb12.size) ((BA.below (hb12.mono hb.size)).mono hB2.size) hP2.at_).mono ?_
        rintro e w3 ⟨rfl, hb3⟩
        have hlt : x < T := by omega
        go_wp2
        go_ret2
        exact ⟨ret_ii (by rw [← HP.out.2]; rfl) HP.out.1, hB2.trans (hb3.mono hB2.size)⟩
  · have hp := room_inv x hok
    rw [hp.2.2] at HC
    have HP := hide (⟨hp.1.symm.trans H2.out, hp.2.1.symm.trans H1.out⟩ : _ ∧ _)
    clear hp hok
    generalize hI : inB x 0 4000 = I at HC
    have HIN := hide hI
    clear hI
    go_enter Tryz.func26, Tryz.ntmps26
    go_wp2_with (go_at_call 127; refine (l01Room_any _ _).mono ?_; rintro e w' ⟨rfl, rfl⟩; rw [HIN.out])
    refine HC.out.mono ?_
    rintro e w1 ⟨rfl, hb1⟩
    go_wp2
    go_ret2
    exact ⟨ret_ii (by rw [← HP.out.2]; rfl) HP.out.1, hb.trans (hb1.mono hb.size)⟩
end Go.Proofs.YtngondeaeipcfaaGreatDoor

namespace Go.Proofs.YtngondeaeipcfaaGreatDoor
open Go.RowKit

set_option maxHeartbeats 400000 in
theorem validWide_any (x : Int) (w : World) : Calls Tryz.prog 129 #[.int .i64 x] w fun e w' => e = .returned (.bool (inB x 0 4000)) ∧ w = w' := by
  go_enter Tryz.func129, Tryz.ntmps129
  go_wp2_with (go_at_call 116; refine (between_any _ _ _ _).mono ?_; rintro e w' ⟨rfl, rfl⟩)
  go_ret
  exact ⟨rfl, rfl⟩

set_option maxRecDepth 100000 in
set_option maxHeartbeats 4000000 in
theorem roomOf_any (F : Fc) (hF : F.ok) (A : Option Addr) (c : Nat) (s : ByteArray) (hs : s.size ≤ maxLen) (x : Int) (hx : (Lit.int .i64 x).wf = true) (w : World) (hA : PairsAt w w.heap.size A F.ps) :
    Calls Tryz.prog 126 #[.agg (fc F (.slice A F.ps.length c)).toArray, .string s, .int .i64 x] w fun e w' => e = .returned (.tuple #[.int .i64 (roomV F s.data.toList x), .int .i64 (roomC F s.data.toList x)]) ∧ Below w.heap.size w w' := by
  have hW := hide hF.len
  have hr := rangeAt_new w (fc F (.slice A F.ps.length c)) 28
  have hb : Below w.heap.size w (w.alloc (.cells (fc F (.slice A F.ps.length c)).toArray 28)) := (Below.refl _ _).alloc (Nat.le_refl _) _
  have hs0 : w.heap.size < (w.alloc (.cells (fc F (.slice A F.ps.length c)).toArray 28)).heap.size := by simp
  have BA := hA.below hb
  have HC := hide (implValidFace_any F hF A c _ (BA.mono hb.size))
  have HII := hide (show ∀ sl, (Tryz.prog.info? 28).map (·.size) = some (fc F sl).length from fun sl => by rw [fc_length hW.out]; kernel_rfl)
  have HWo := hide (fun w => implValidText_any s w hs)
  generalize hv1 : roomV F s.data.toList x = V
  generalize hv2 : roomC F s.data.toList x = C
  have H1 := hide hv1
  have H2 := hide hv2
  clear hA hv1 hv2
  cases hv : vface F
  · have hp := room_inv (F := F) (L := s.data.toList) x (fun e => by rw [hv] at e; cases e.1)
    have HP := hide (⟨hp.2.1.symm.trans H1.out, hp.1.symm.trans H2.out⟩ : _ ∧ _)
    clear hp
    go_enter Tryz.func126, Tryz.ntmps126
    go_wp2_with (first | (refine wpList_load_mid rfl 28 (.tmp 3) rfl _ 0 rfl _ _ hr Tryz.underlying28 rfl (HII.out _) ?_) | (go_at_call 104; refine HC.out.mono ?_; rintro e w1 ⟨rfl, hb1⟩; simp only [hv]))
    go_ret2
    exact ⟨ret_ii HP.out.1 HP.out.2, hb.trans (hb1.mono hb.size)⟩
  · cases hwd : vtext s.data.toList
    · have hp := room_inv (F := F) (L := s.data.toList) x (fun e => by have := e.2; rw [hwd] at this; cases this)
      have HP := hide (⟨hp.2.1.symm.trans H1.out, hp.1.symm.trans H2.out⟩ : _ ∧ _)
      clear hp
      go_enter Tryz.func126, Tryz.ntmps126
      go_wp2_with (first | (refine wpList_load_mid rfl 28 (.tmp 3) rfl _ 0 rfl _ _ hr Tryz.underlying28 rfl (HII.out _) ?_) | (go_at_call 104; refine HC.out.mono ?_; rintro e w1 ⟨rfl, hb1⟩; simp only [hv]) | (go_at_call 105; refine (HWo.out _).mono ?_; rintro e w2 ⟨rfl, hb2⟩; simp only [hwd]))
      go_ret2
      exact ⟨ret_ii HP.out.1 HP.out.2, hb.trans ((hb1.trans (hb2.mono hb1.size)).mono hb.size)⟩
    · cases hin : inB x 0 4000
      · have hp := room_range (x := x) hv hwd hin
        have HP := hide (⟨hp.2.1.symm.trans H1.out, hp.1.symm.trans H2.out⟩ : _ ∧ _)
        have HIN := hide hin
        clear hp hin
        go_enter Tryz.func126, Tryz.ntmps126
        go_wp2_with (first | (refine wpList_load_mid rfl 28 (.tmp 3) rfl _ 0 rfl _ _ hr Tryz.underlying28 rfl (HII.out _) ?_) | (go_at_call 104; refine HC.out.mono ?_; rintro e w1 ⟨rfl, hb1⟩; simp only [hv]) | (go_at_call 105; refine (HWo.out _).mono ?_; rintro e w2 ⟨rfl, hb2⟩; simp only [hwd]) | (go_at_call 129; refine (validWide_any _ _).mono ?_; rintro e w' ⟨rfl, rfl⟩; rw [HIN.out]))
        go_ret2
        exact ⟨ret_ii HP.out.1 HP.out.2, hb.trans ((hb1.trans (hb2.mono hb1.size)).mono hb.size)⟩
      · have hbd := lineTo_bd hF hv (fun y hy => words_mem hwd hy) _ (Nat.le_refl _)
        have hx0 := inB_true.1 hin
        have hwl := words_len hwd
        have HLW := hide (fun w hA => lineWide_any F hF A c s w hv hwd hA)
        have HST := hide (fun h => room_state (x := x) hv hwd hin h)
        have HOK := hide (fun h => room_ok (x := x) hv hwd hin h)
        have HIN := hide hin
        change 0 ≤ lineL F (wordsL s.data.toList) ∧ lineL F (wordsL s.data.toList) ≤ _ at hbd
        obtain ⟨q1, q2⟩ := hbd
        obtain ⟨x0, x1⟩ := hx0
        clear hin hx
        have q3 : lineL F (wordsL s.data.toList) ≤ 222040 := by omega
        generalize lineL F (wordsL s.data.toList) = T at HLW HST HOK q1 q3
        clear q2 hwl
        have e1 := IntWalk.i64_in (x - T) ⟨by omega, by omega⟩
        go_enter Tryz.func126, Tryz.ntmps126
        go_wp2_with (refine wpList_load_mid rfl 28 (.tmp 3) rfl _ 0 rfl _ _ hr Tryz.underlying28 rfl (HII.out _) ?_)
        generalize (w.alloc (.cells (fc F (.slice A F.ps.length c)).toArray 28)) = W0 at *
        refine HC.out.mono ?_
        rintro e w1 ⟨rfl, hb1⟩
        simp only [hv]
        go_wp2_with fail
        refine (HWo.out _).mono ?_
        rintro e w2 ⟨rfl, hb2⟩
        simp only [hwd]
        have hB := hb1.trans (hb2.mono hb1.size)
        have r2 := rangeAt_below hr hB hs0
        have HB := hide (HLW.out w2 ((BA.below (hB.mono hb.size)).mono (Nat.le_trans hb.size hB.size)))
        clear hr
        by_cases hle : T ≤ x
        · have hp := HOK.out hle
          have HP := hide (⟨hp.2.1.symm.trans H1.out, hp.1.symm.trans H2.out⟩ : _ ∧ _)
          have hlt : ¬ (x - T < 0) := by omega
          clear hp HST HOK
          go_wp2_with (first | (refine wpList_load_mid rfl 28 (.tmp 3) rfl _ 0 rfl _ _ r2 Tryz.underlying28 rfl (HII.out _) ?_) | (go_at_call 129; refine (validWide_any _ _).mono ?_; rintro e w' ⟨rfl, rfl⟩; rw [HIN.out]) | (go_at_call 106; refine HB.out.mono ?_; rintro e w3 ⟨rfl, hb3⟩))
          go_ret2
          exact ⟨ret_ii HP.out.1 HP.out.2, hb.trans ((hB.trans (hb3.mono hB.size)).mono hb.size)⟩
        · have hp := HST.out (by omega)
          have HP := hide (⟨hp.2.1.symm.trans H1.out, hp.1.symm.trans H2.out⟩ : _ ∧ _)
          have hlt : x - T < 0 := by omega
          clear hp HST HOK
          go_wp2_with (first | (refine wpList_load_mid rfl 28 (.tmp 3) rfl _ 0 rfl _ _ r2 Tryz.underlying28 rfl (HII.out _) ?_) | (go_at_call 129; refine (validWide_any _ _).mono ?_; rintro e w' ⟨rfl, rfl⟩; rw [HIN.out]) | (go_at_call 106; refine HB.out.mono ?_; rintro e w3 ⟨rfl, hb3⟩))
          go_ret2
          exact ⟨ret_ii HP.out.1 HP.out.2, hb.trans ((hB.trans (hb3.mono hB.size)).mono hb.size)⟩

set_option maxRecDepth 100000 in
set_option maxHeartbeats 4000000 in
theorem implCentreLine_any (F : Fc) (hF : F.ok) (A : Option Addr) (c : Nat) (s : ByteArray) (hs : s.size ≤ maxLen) (x : Int) (hx : (Lit.int .i64 x).wf = true) (w : World) (hA : PairsAt w w.heap.size A F.ps) :
    Calls Tryz.prog 25 #[.agg (fc F (.slice A F.ps.length c)).toArray, .string s, .int .i64 x] w fun e w' => e = .returned (.tuple #[.int .i64 (roomV F s.data.toList x / 2), .int .i64 (roomC F s.data.toList x)]) ∧ Below w.heap.size w w' := by
  have hW := hide hF.len
  have hr := rangeAt_new w (fc F (.slice A F.ps.length c)) 28
  have hb : Below w.heap.size w (w.alloc (.cells (fc F (.slice A F.ps.length c)).toArray 28)) := (Below.refl _ _).alloc (Nat.le_refl _) _
  have HII := hide (show ∀ sl, (Tryz.prog.info? 28).map (·.size) = some (fc F sl).length from fun sl => by rw [fc_length hW.out]; kernel_rfl)
  have HR := hide (roomOf_any F hF A c s hs x hx _ ((hA.below hb).mono hb.size))
  obtain ⟨v1, v2⟩ := room_bd hF s.data.toList x
  generalize roomV F s.data.toList x = V at *
  generalize roomC F s.data.toList x = C at *
  clear hA
  go_enter Tryz.func25, Tryz.ntmps25
  go_wp2_with (first | (refine wpList_load_mid rfl 28 (.tmp 3) rfl _ 0 rfl _ _ hr Tryz.underlying28 rfl (HII.out _) ?_) | (go_at_call 126; refine HR.out.mono ?_; rintro e w1 ⟨rfl, hb1⟩))
  go_ret2
  exact ⟨rfl, hb.trans (hb1.mono hb.size)⟩
end Go.Proofs.YtngondeaeipcfaaGreatDoor
