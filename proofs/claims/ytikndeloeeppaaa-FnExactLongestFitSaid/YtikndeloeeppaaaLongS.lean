/- LongestFit of the model. -/
import Derived.Test.YtikndeloeeppaaaWordNe
import Derived.Test.YtikndeloeeppaaaGreedyS
namespace Go.Proofs.Ytikndeloeeppaaa
open Go Go.RowKit

theorem lf_line (F : Fc) (ws : List (List UInt8)) {k : Nat} (hk : k < ws.length) : lineL F (seg ws 0 (k + 1)) = preL F ws k + wideL F (ws.getD k []) := by
  rw [lineL_seg F ws (by omega) hk]; simp only [preL]; omega

set_option maxRecDepth 100000 in
set_option maxHeartbeats 4000000 in
theorem specLongestFit_any (F : Fc) (hF : F.ok) (A : Option Addr) (c : Nat) (s : ByteArray) (hs : s.size ≤ maxLen) (x : Int) (hx : (Lit.int .i64 x).wf = true) (w : World) (hA : PairsAt w w.heap.size A F.ps) :
    Calls Try.prog 42 #[.agg (fc F (.slice A F.ps.length c)).toArray, .string s, .int .i64 x] w fun e w' => e = .returned (.tuple #[.int .i64 (lfV F s.data.toList x), .int .i64 (askC F s.data.toList (inB x 0 4000))]) ∧ Below w.heap.size w w' := by
  have hr := rangeAt_new w (fc F (.slice A F.ps.length c)) 32
  have hb : Below w.heap.size w (w.alloc (.cells (fc F (.slice A F.ps.length c)).toArray 32)) := (Below.refl _ _).alloc (Nat.le_refl _) _
  have hs0 : w.heap.size < (w.alloc (.cells (fc F (.slice A F.ps.length c)).toArray 32)).heap.size := by simp
  have BA := (hA.below hb).mono hb.size
  have HC := hide (l01Asked_any F hF _ A c s (inB x 0 4000) _ hs hr BA)
  rcases ask_cases F s.data.toList x with ⟨hv, ht, hi, h4⟩ | h
  · have hwl := words_len ht
    have hs60 : s.size ≤ 1048576 := by have := (vtext_true.1 ht).1; simp at this; omega
    have HW := hide (fun w => l01WordsC_any s w hs60)
    have HBL := hide (show (bas (wordsL s.data.toList)).length = (wordsL s.data.toList).length from List.length_map _)
    have HLN := hide (fun (k : Nat) (hk : k ≤ (wordsL s.data.toList).length) A2 c2 (W : World) (hB : Below (w.alloc (.cells (fc F (.slice A F.ps.length c)).toArray 32)).heap.size (w.alloc (.cells (fc F (.slice A F.ps.length c)).toArray 32)) W) (hS : StrsAt W W.heap.size A2 (bas (seg (wordsL s.data.toList) 0 k))) => by
      have h1 := seg_len (wordsL s.data.toList) (a := 0) hk
      have := l01Line_any F hF w.heap.size A c (seg (wordsL s.data.toList) 0 k) A2 c2 W hv (fun y hy => words_mem ht (seg_mem hy)) (by rw [h1]; omega) (rangeAt_below hr hB hs0) (Nat.lt_of_lt_of_le hs0 hB.size) ((BA.below hB).mono hB.size) hS
      rwa [h1, Nat.sub_zero] at this)
    have HLL := hide (fun k hk => lf_line F (wordsL s.data.toList) (k := k) hk)
    rw [h4] at HC ⊢
    have HR := hide (show lfV F s.data.toList x = (lfL F (wordsL s.data.toList) x : Int) by unfold lfV; rw [if_pos h4])
    rw [HR.out]
    generalize hI : inB x 0 4000 = I at HC
    have HIN := hide hI
    clear HR hA BA hv ht hi h4 hs60 hr hI
    generalize wordsL s.data.toList = ws at *
    have HLF := hide (show lfL F ws x = lfTo F ws x ws.length from rfl)
    generalize lfL F ws x = R at *
    obtain ⟨n, hL⟩ : ∃ n, ws.length = n := ⟨_, rfl⟩
    rw [hL] at hwl HBL HLN HLL HLF HW
    have HLW := hide hL
    clear hL
    go_enter Try.func42, Try.ntmps42
    go_wp2_with (go_at_call 103; refine (l01Room_any _ _).mono ?_; rintro e w' ⟨rfl, rfl⟩; rw [HIN.out])
    refine HC.out.mono ?_
    rintro e w1 ⟨rfl, hb1⟩
    go_wp2_with fail
    refine (HW.out w1).mono ?_
    rintro e w2 ⟨A2, c2, rfl, hc2, hP2, hb2⟩
    rw [HBL.out]
    have hB2 := hb1.trans (hb2.mono hb1.size)
    have HS := hide hP2.at_
    have HBG := hide (fun (k : Nat) (hk : k < n) => bas_get (ws := ws) (k := k) (by rw [HLW.out]; exact hk))
    clear hP2
    go_wp2
    go_loopw [10] (fun i wr => ∃ k : Nat, k ≤ n ∧ i = .int .i64 k ∧ lfTo F ws x k = k ∧ Below (w.alloc (.cells (fc F (.slice A F.ps.length c)).toArray 32)).heap.size (w.alloc (.cells (fc F (.slice A F.ps.length c)).toArray 32)) wr ∧ Below w2.heap.size w2 wr)
      (fun i _ => n - (intOf i).toNat)
    case atStart => exact ⟨0, by omega, rfl, rfl, hB2, Below.refl _ _⟩
    case round =>
      obtain ⟨k, hk, rfl, hfit, hB, hB'⟩ := hrel
      by_cases hlt : k < n
      · have hi : (k : Int) < n := by omega
        have h0 : (0 : Int) ≤ k := by omega
        have hkc : (k : Int) + 1 ≤ c2 := by omega
        have j1 := IntWalk.i64_in ((k : Int) + 1) ⟨by omega, by omega⟩
        have hne : bas ws ≠ [] := by intro e; have := HBG.out k hlt; rw [e] at this; cases this
        obtain ⟨b2, o2, rfl, hb2', hps⟩ := HS.out hne
        have HLI := hide (HLN.out (k + 1) (by omega) (some ⟨b2, o2, none⟩) c2 wr hB ((strsAt_seg (fun j y hy => (hB'.cell (p := ⟨b2, o2 + j, none⟩) hb2').trans (hps j y hy)) hb2' 0 (k + 1)).mono hB'.size))
        rw [HLL.out k hlt] at HLI
        have HST := hide (fun h => lfTo_step (x := x) hfit h)
        have HSP := hide (fun h => lfTo_stop (x := x) hfit h n hk)
        clear hps hne hfit
        generalize preL F ws k + wideL F (ws.getD k []) = T at *
        by_cases hw : T ≤ x
        · have HSTEP := hide (HST.out hw)
          clear HST HSP
          go_wp2_with (go_at_call 104; refine HLI.out.mono ?_; rintro e w3 ⟨rfl, hb3⟩)
          exact ⟨⟨k + 1, by omega, by go_num, HSTEP.out, hB.trans (hb3.mono hB.size), hB'.trans (hb3.mono hB'.size)⟩, by simp [intOf]; omega⟩
        · have HSTOP := hide (HSP.out (by omega))
          clear HST HSP
          go_wp2_with (go_at_call 104; refine HLI.out.mono ?_; rintro e w3 ⟨rfl, hb3⟩)
          go_ret2
          exact ⟨ret_ii (by rw [HLF.out, HSTOP.out]) rfl, hb.trans ((hB.trans (hb3.mono hB.size)).mono hb.size)⟩
      · obtain rfl : k = n := by omega
        have hfit' := hide hfit
        have hnlt : ¬ (k : Int) < k := by omega
        clear hfit
        go_wp2
        go_ret2
        exact ⟨ret_ii (by rw [HLF.out, hfit'.out]) rfl, hb.trans (hB.mono hb.size)⟩
  · have hno : askC F s.data.toList (inB x 0 4000) ≠ 0 := by rcases h with ⟨h, _⟩ | ⟨h, _⟩ <;> rw [h] <;> decide
    have p1 : lfV F s.data.toList x = 0 := by unfold lfV; rw [if_neg hno]
    rw [p1]
    generalize askC F s.data.toList (inB x 0 4000) = C at *
    have hd : ((C : Int) != 0) = true := by simpa using hno
    generalize hI : inB x 0 4000 = I at HC
    have HIN := hide hI
    clear h hA BA hr p1 hI
    go_enter Try.func42, Try.ntmps42
    go_wp2_with (go_at_call 103; refine (l01Room_any _ _).mono ?_; rintro e w' ⟨rfl, rfl⟩; rw [HIN.out])
    refine HC.out.mono ?_
    rintro e w1 ⟨rfl, hb1⟩
    go_wp2
    go_ret2
    exact ⟨rfl, hb.trans (hb1.mono hb.size)⟩
end Go.Proofs.Ytikndeloeeppaaa
