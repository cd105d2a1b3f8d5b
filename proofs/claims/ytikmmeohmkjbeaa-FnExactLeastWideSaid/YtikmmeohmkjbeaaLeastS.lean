/- LeastWide: the model's. -/
import Derived.Test.YtikmmeohmkjbeaaLeastM
namespace Go.Proofs.Ytikmmeohmkjbeaa
open Go Go.RowKit

theorem lwV_ok {F : Fc} {L : List UInt8} {m : Int} (h : askC F L (inB m 1 60) = 0) : lwV F L m = lwN F (wordsL L) m := by unfold lwV; rw [if_pos h]
theorem lwV_no {F : Fc} {L : List UInt8} {m : Int} (h : askC F L (inB m 1 60) ≠ 0) : lwV F L m = 0 := by unfold lwV; rw [if_neg h]
theorem ask_yes {F : Fc} {L : List UInt8} {b : Bool} (h : askC F L b = 0) : vface F = true ∧ vtext L = true ∧ b = true := by
  unfold askC at h
  split at h
  · rename_i hh
    refine ⟨hh.1, hh.2, ?_⟩
    cases b
    · cases h
    · rfl
  · cases h

set_option maxRecDepth 100000 in
set_option maxHeartbeats 4000000 in
theorem specLeastWide_any (F : Fc) (hF : F.ok) (A : Option Addr) (c : Nat) (s : ByteArray) (hs : s.size ≤ maxLen) (x : Int) (hx : (Lit.int .i64 x).wf = true) (w : World) (hA : PairsAt w w.heap.size A F.ps) :
    Calls Try.prog 40 #[.agg (fc F (.slice A F.ps.length c)).toArray, .string s, .int .i64 x] w fun e w' => e = .returned (.tuple #[.int .i64 (lwV F s.data.toList x), .int .i64 (askC F s.data.toList (inB x 1 60))]) ∧ Below w.heap.size w w' := by
  have hr := rangeAt_new w (fc F (.slice A F.ps.length c)) 33
  have hb : Below w.heap.size w (w.alloc (.cells (fc F (.slice A F.ps.length c)).toArray 33)) := (Below.refl _ _).alloc (Nat.le_refl _) _
  have hs0 : w.heap.size < (w.alloc (.cells (fc F (.slice A F.ps.length c)).toArray 33)).heap.size := by simp
  have BA := (hA.below hb).mono hb.size
  have HC := hide (l01Asked_any F hF _ A c s (inB x 1 60) _ hs hr BA)
  by_cases h0 : askC F s.data.toList (inB x 1 60) = 0
  · obtain ⟨hv, ht, hi⟩ := ask_yes h0
    obtain ⟨x0, x1⟩ := inB_true.1 hi
    have hR := lwV_ok h0
    have hwl := words_len ht
    have hs60 : s.size ≤ 1048576 := by have := (vtext_true.1 ht).1; simp at this; omega
    have HW := hide (fun w => l01WordsC_any s w hs60)
    have HBL := hide (show (bas (wordsL s.data.toList)).length = (wordsL s.data.toList).length from List.length_map _)
    have HLF := hide (fun A2 c2 (k : Int) W (hB : Below (w.alloc (.cells (fc F (.slice A F.ps.length c)).toArray 33)).heap.size (w.alloc (.cells (fc F (.slice A F.ps.length c)).toArray 33)) W) hS => l02Fits_any F hF w.heap.size A c (wordsL s.data.toList) A2 c2 k W hv (fun x hx => words_mem ht hx) hwl (rangeAt_below hr hB hs0) (Nat.lt_of_lt_of_le hs0 hB.size) ((BA.below hB).mono hB.size) hS)
    have HLG := hide (fun A2 c2 (k : Int) W hc2 (hB : Below (w.alloc (.cells (fc F (.slice A F.ps.length c)).toArray 33)).heap.size (w.alloc (.cells (fc F (.slice A F.ps.length c)).toArray 33)) W) hS => l02Greedy_any F hF w.heap.size A c (wordsL s.data.toList) A2 c2 k W hv (fun x hx => words_mem ht hx) hwl hc2 (rangeAt_below hr hB hs0) (Nat.lt_of_lt_of_le hs0 hB.size) ((BA.below hB).mono hB.size) hS)
    have HTOP := hide (fun k hk => good_top hF hv ht x0 (x := k) hk)
    have HEQ := hide (fun k h1 h2 => (lwN_eq (F := F) (ws := wordsL s.data.toList) (m := x) (r := k) h1 h2))
    have HGL := hide (fun k => greedyL_len F (wordsL s.data.toList) k)
    have HGD := hide (fun (k : Nat) => Iff.refl (goodW F (wordsL s.data.toList) x k))
    rw [h0] at HC ⊢
    rw [hR]
    unfold IntsRet at HLG
    generalize lwN F (wordsL s.data.toList) x = R at *
    generalize wordsL s.data.toList = ws at *
    clear hA BA hv ht h0 hR hs60 hr hx hi x0 x1
    go_enter Try.func40, Try.ntmps40
    go_wp2_with fail
    refine (l00In_any _ _ _ _).mono ?_
    rintro e w' ⟨rfl, rfl⟩
    go_wp2_with fail
    refine HC.out.mono ?_
    rintro e w1 ⟨rfl, hb1⟩
    go_wp2_with fail
    refine (HW.out w1).mono ?_
    rintro e w2 ⟨A2, c2, rfl, hc2, hP2, hb2⟩
    rw [HBL.out]
    have hB2 := hb1.trans (hb2.mono hb1.size)
    have hbs2 := hB2.size
    have HP2 := hide hP2.at_
    clear hP2 hb1 hb2 HC
    go_wp2
    go_loopw [10] (fun v wr => ∃ k : Nat, k ≤ 3600 ∧ v = .int .i64 k ∧ Hid (∀ j, j < k → ¬ goodW F ws x j) ∧ Below w2.heap.size w2 wr)
      (fun v _ => 3600 - (intOf v).toNat)
    case atStart => exact ⟨0, by omega, rfl, hide (fun j hj => absurd hj (by omega)), Below.refl _ _⟩
    case round =>
      obtain ⟨k, hk, rfl, hno, hBl⟩ := hrel
      have hBw := hB2.trans (hBl.mono hbs2)
      have hbs3 := hBw.size
      have hLF := HLF.out A2 c2 k wr hBw (HP2.out.go hBl)
      have HL1 := hide hLF
      have HL2 := hide (fun W (hW : Below wr.heap.size wr W) => HLG.out A2 c2 k W hc2 (hBw.trans (hW.mono hbs3)) ((HP2.out.go hBl).go hW))
      clear hLF
      have hgl := HGL.out k
      by_cases hg : goodW F ws x k
      · have HF := hide (HEQ.out k hg hno.out)
        have hf := fitB_true.2 hg.1
        have hd : decide (x ≤ ((greedyL F ws k).length : Int)) = false := by have := hg.2; simp; omega
        rw [hf] at HL1
        clear hg hf
        generalize (greedyL F ws k).length = G at *
        go_wp2_with fail
        refine HL1.out.mono ?_
        rintro e w3 ⟨rfl, hb3⟩
        go_wp2_with fail
        refine (HL2.out _ hb3).mono ?_
        rintro e w4 ⟨Ag, cg, rfl, hI, hb4⟩
        go_wp2
        go_ret2
        exact ⟨ret_ii (congrArg Int.ofNat HF.out.symm) rfl, hb.trans ((hBw.trans ((hb3.trans (hb4.mono hb3.size)).mono hbs3)).mono hb.size)⟩
      · have hk2 : k < 3600 := by
          rcases Nat.lt_or_ge k 3600 with h | h
          · exact h
          · exact (hg (HTOP.out k h)).elim
        have hgo : Hid (∀ j, j < k + 1 → ¬ goodW F ws x j) := hide (fun j hj hh => by
          by_cases e : j = k
          · subst e; exact hg hh
          · exact hno.out j (by omega) hh)
        cases hf : fitB F ws k
        · rw [hf] at HL1
          clear hg hf
          go_wp2_with fail
          refine HL1.out.mono ?_
          rintro e w3 ⟨rfl, hb3⟩
          go_wp2
          exact ⟨⟨k + 1, by omega, by go_num, hgo, hBl.trans (hb3.mono hBl.size)⟩, by simp [intOf]; omega⟩
        · have hd : decide (x ≤ ((greedyL F ws k).length : Int)) = true := by
            simp only [decide_eq_true_eq]
            rcases Int.lt_or_le ((greedyL F ws k).length : Int) x with h | h
            · exact (hg ⟨fitB_true.1 hf, by omega⟩).elim
            · exact h
          rw [hf] at HL1
          clear hg hf
          generalize (greedyL F ws k).length = G at *
          go_wp2_with fail
          refine HL1.out.mono ?_
          rintro e w3 ⟨rfl, hb3⟩
          go_wp2_with fail
          refine (HL2.out _ hb3).mono ?_
          rintro e w4 ⟨Ag, cg, rfl, hI, hb4⟩
          go_wp2
          exact ⟨⟨k + 1, by omega, by go_num, hgo, hBl.trans ((hb3.trans (hb4.mono hb3.size)).mono hBl.size)⟩, by simp [intOf]; omega⟩
  · have hR := lwV_no h0
    rw [hR]
    generalize askC F s.data.toList (inB x 1 60) = C at *
    have hd : ((C : Int) != 0) = true := by simpa using h0
    clear hA BA hR hr hx
    go_enter Try.func40, Try.ntmps40
    go_wp2_with fail
    refine (l00In_any _ _ _ _).mono ?_
    rintro e w' ⟨rfl, rfl⟩
    go_wp2_with fail
    refine HC.out.mono ?_
    rintro e w1 ⟨rfl, hb1⟩
    go_wp2
    go_ret2
    exact ⟨rfl, hb.trans (hb1.mono hb.size)⟩
end Go.Proofs.Ytikmmeohmkjbeaa
