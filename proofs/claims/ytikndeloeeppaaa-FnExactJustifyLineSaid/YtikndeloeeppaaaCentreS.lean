/- CentreLine of the model; what is left of a width beside a line. -/
import Derived.Test.YtikndeloeeppaaaG7
namespace Go.Proofs.Ytikndeloeeppaaa
open Go Go.RowKit

/-- The code of what is left of a width beside a line, and what is left. -/
noncomputable def roomC (F : Fc) (L : List UInt8) (x : Int) : Int := if vface F = true ∧ vtext L = true then (if inB x 0 4000 = true then (if lineL F (wordsL L) ≤ x then 0 else 4) else 2) else 1
noncomputable def roomV (F : Fc) (L : List UInt8) (x : Int) : Int := if roomC F L x = 0 then x - lineL F (wordsL L) else 0
theorem room_inv {F : Fc} {L : List UInt8} (x : Int) (h : ¬ (vface F = true ∧ vtext L = true)) : roomC F L x = 1 ∧ roomV F L x = 0 ∧ askC F L (inB x 0 4000) = 1 := by
  have e : roomC F L x = 1 := by unfold roomC; rw [if_neg h]
  exact ⟨e, by unfold roomV; rw [e, if_neg (by decide)], ask_no h⟩
theorem room_range {F : Fc} {L : List UInt8} {x : Int} (h1 : vface F = true) (h2 : vtext L = true) (h : inB x 0 4000 = false) : roomC F L x = 2 ∧ roomV F L x = 0 ∧ askC F L (inB x 0 4000) = 2 := by
  have e : roomC F L x = 2 := by unfold roomC; rw [if_pos ⟨h1, h2⟩, h]; rfl
  exact ⟨e, by unfold roomV; rw [e, if_neg (by decide)], by rw [ask_ok h1 h2, h]; rfl⟩
theorem room_state {F : Fc} {L : List UInt8} {x : Int} (h1 : vface F = true) (h2 : vtext L = true) (h : inB x 0 4000 = true) (h4 : x < lineL F (wordsL L)) : roomC F L x = 4 ∧ roomV F L x = 0 ∧ askC F L (inB x 0 4000) = 0 := by
  have e : roomC F L x = 4 := by unfold roomC; rw [if_pos ⟨h1, h2⟩, if_pos h, if_neg (by omega)]
  exact ⟨e, by unfold roomV; rw [e, if_neg (by decide)], by rw [ask_ok h1 h2, h]; rfl⟩
theorem room_ok {F : Fc} {L : List UInt8} {x : Int} (h1 : vface F = true) (h2 : vtext L = true) (h : inB x 0 4000 = true) (h4 : lineL F (wordsL L) ≤ x) : roomC F L x = 0 ∧ roomV F L x = x - lineL F (wordsL L) ∧ askC F L (inB x 0 4000) = 0 := by
  have e : roomC F L x = 0 := by unfold roomC; rw [if_pos ⟨h1, h2⟩, if_pos h, if_pos h4]
  exact ⟨e, by unfold roomV; rw [e, if_pos rfl], by rw [ask_ok h1 h2, h]; rfl⟩
theorem room_bd {F : Fc} (hF : F.ok) (L : List UInt8) (x : Int) : 0 ≤ roomV F L x ∧ roomV F L x ≤ 4000 := by
  unfold roomV
  split
  · rename_i h
    unfold roomC at h
    split at h
    · rename_i hv
      split at h
      · rename_i hx
        split at h
        · have h3 := inB_true.1 hx
          have := lineTo_bd hF hv.1 (fun y hy => words_mem hv.2 hy) _ (Nat.le_refl _)
          unfold lineL at *
          omega
        · cases h
      · cases h
    · cases h
  · omega

set_option maxHeartbeats 400000 in
theorem l01Room_any (x : Int) (w : World) : Calls Try.prog 103 #[.int .i64 x] w fun e w' => e = .returned (.bool (inB x 0 4000)) ∧ w = w' := by
  go_enter Try.func103, Try.ntmps103
  go_wp2_with (go_at_call 130; refine (l00In_any _ _ _ _).mono ?_; rintro e w' ⟨rfl, rfl⟩)
  go_ret
  exact ⟨rfl, rfl⟩

set_option maxRecDepth 100000 in
set_option maxHeartbeats 4000000 in
theorem specCentreLine_any (F : Fc) (hF : F.ok) (A : Option Addr) (c : Nat) (s : ByteArray) (hs : s.size ≤ maxLen) (x : Int) (hx : (Lit.int .i64 x).wf = true) (w : World) (hA : PairsAt w w.heap.size A F.ps) :
    Calls Try.prog 38 #[.agg (fc F (.slice A F.ps.length c)).toArray, .string s, .int .i64 x] w fun e w' => e = .returned (.tuple #[.int .i64 (roomV F s.data.toList x / 2), .int .i64 (roomC F s.data.toList x)]) ∧ Below w.heap.size w w' := by
  have hr := rangeAt_new w (fc F (.slice A F.ps.length c)) 32
  have hb : Below w.heap.size w (w.alloc (.cells (fc F (.slice A F.ps.length c)).toArray 32)) := (Below.refl _ _).alloc (Nat.le_refl _) _
  have hs0 : w.heap.size < (w.alloc (.cells (fc F (.slice A F.ps.length c)).toArray 32)).heap.size := by simp
  have BA := hA.below hb
  have HC := hide (l01Asked_any F hF _ A c s (inB x 0 4000) _ hs hr (BA.mono hb.size))
  generalize hv1 : roomV F s.data.toList x = V
  generalize hv2 : roomC F s.data.toList x = C
  have H1 := hide hv1
  have H2 := hide hv2
  clear hA hv1 hv2
  by_cases hok : vface F = true ∧ vtext s.data.toList = true
  · cases hin : inB x 0 4000
    · have hp := room_range (x := x) hok.1 hok.2 hin
      rw [hin] at hp HC
      rw [hp.2.2] at HC
      have HP := hide (⟨hp.1.symm.trans H2.out, hp.2.1.symm.trans H1.out⟩ : _ ∧ _)
      have HIN := hide hin
      clear hok hp hin
      go_enter Try.func38, Try.ntmps38
      go_wp2_with (go_at_call 103; refine (l01Room_any _ _).mono ?_; rintro e w' ⟨rfl, rfl⟩; rw [HIN.out])
      refine HC.out.mono ?_
      rintro e w1 ⟨rfl, hb1⟩
      go_wp2
      go_ret2
      exact ⟨ret_ii (by rw [← HP.out.2]; rfl) HP.out.1, hb.trans (hb1.mono hb.size)⟩
    · have hwl := words_len hok.2
      have hs60 : s.size ≤ 1048576 := by have := (vtext_true.1 hok.2).1; simp at this; omega
      have hbd := lineTo_bd hF hok.1 (fun y hy => words_mem hok.2 hy) _ (Nat.le_refl _)
      have hx0 := inB_true.1 hin
      have HW := hide (fun w => l01Words_any s w hs60)
      have HL := hide (fun b A2 c2 w => l01Line_any F hF b A c (wordsL s.data.toList) A2 c2 w hok.1 (fun x hx => words_mem hok.2 hx) hwl)
      have hp0 : askC F s.data.toList (inB x 0 4000) = 0 := by rw [ask_ok hok.1 hok.2, hin]; rfl
      rw [hp0, hin] at HC
      have HST := hide (fun h => room_state (x := x) hok.1 hok.2 hin h)
      have HOK := hide (fun h => room_ok (x := x) hok.1 hok.2 hin h)
      have HIN := hide hin
      change 0 ≤ lineL F (wordsL s.data.toList) ∧ lineL F (wordsL s.data.toList) ≤ _ at hbd
      clear hs60 hp0 hok hin hx
      obtain ⟨q1, q2⟩ := hbd
      obtain ⟨x0, x1⟩ := hx0
      have HBL := hide (show (bas (wordsL s.data.toList)).length = (wordsL s.data.toList).length from List.length_map _)
      generalize lineL F (wordsL s.data.toList) = T at HL HST HOK q1 q2
      by_cases hle : T ≤ x
      · have hp := HOK.out hle
        have HP := hide (⟨hp.1.symm.trans H2.out, hp.2.1.symm.trans H1.out⟩ : _ ∧ _)
        clear hp HST HOK
        go_enter Try.func38, Try.ntmps38
        go_wp2_with (go_at_call 103; refine (l01Room_any _ _).mono ?_; rintro e w' ⟨rfl, rfl⟩; rw [HIN.out])
        refine HC.out.mono ?_
        rintro e w1 ⟨rfl, hb1⟩
        have hB1 := hb.trans (hb1.mono hb.size)
        go_wp2_with fail
        refine (HW.out w1).mono ?_
        rintro e w2 ⟨A2, c2, rfl, hP2, hb2⟩
        have hB2 := hB1.trans (hb2.mono hB1.size)
        have hb12 := hb1.trans (hb2.mono hb1.size)
        rw [HBL.out]
        go_wp2_with fail
        refine (HL.out w.heap.size A2 _ w2 (rangeAt_below hr hb12 hs0) (Nat.lt_of_lt_of_le hs0 hb12.size) ((BA.below (hb12.mono hb.size)).mono hB2.size) hP2.at_).mono ?_
        rintro e w3 ⟨rfl, hb3⟩
        have hlt : ¬ (x < T) := by omega
        go_wp2
        go_ret2
        exact ⟨ret_ii (by rw [← HP.out.2]) HP.out.1, hB2.trans (hb3.mono hB2.size)⟩
      · have hp := HST.out (by omega)
        have HP := hide (⟨hp.1.symm.trans H2.out, hp.2.1.symm.trans H1.out⟩ : _ ∧ _)
        clear hp HST HOK
        go_enter Try.func38, Try.ntmps38
        go_wp2_with (go_at_call 103; refine (l01Room_any _ _).mono ?_; rintro e w' ⟨rfl, rfl⟩; rw [HIN.out])
        refine HC.out.mono ?_
        rintro e w1 ⟨rfl, hb1⟩
        have hB1 := hb.trans (hb1.mono hb.size)
        go_wp2_with fail
        refine (HW.out w1).mono ?_
        rintro e w2 ⟨A2, c2, rfl, hP2, hb2⟩
        have hB2 := hB1.trans (hb2.mono hB1.size)
        have hb12 := hb1.trans (hb2.mono hb1.size)
        rw [HBL.out]
        go_wp2_with fail
        refine (HL.out w.heap.size A2 _ w2 (rangeAt_below hr hb12 hs0) (Nat.lt_of_lt_of_le hs0 hb12.size) ((BA.below (hb12.mono hb.size)).mono hB2.size) hP2.at_).mono ?_
        rintro e w3 ⟨rfl, hb3⟩
        have hlt : x < T := by omega
        go_wp2
        go_ret2
        exact ⟨ret_ii (by rw [← HP.out.2]; rfl) HP.out.1, hB2.trans (hb3.mono hB2.size)⟩
  · have hp := room_inv x hok
    rw [hp.2.2] at HC
    have HP := hide (⟨hp.1.symm.trans H2.out, hp.2.1.symm.trans H1.out⟩ : _ ∧ _)
    clear hp hok
    generalize hI : inB x 0 4000 = I at HC
    have HIN := hide hI
    clear hI
    go_enter Try.func38, Try.ntmps38
    go_wp2_with (go_at_call 103; refine (l01Room_any _ _).mono ?_; rintro e w' ⟨rfl, rfl⟩; rw [HIN.out])
    refine HC.out.mono ?_
    rintro e w1 ⟨rfl, hb1⟩
    go_wp2
    go_ret2
    exact ⟨ret_ii (by rw [← HP.out.2]; rfl) HP.out.1, hb.trans (hb1.mono hb.size)⟩
end Go.Proofs.Ytikndeloeeppaaa
