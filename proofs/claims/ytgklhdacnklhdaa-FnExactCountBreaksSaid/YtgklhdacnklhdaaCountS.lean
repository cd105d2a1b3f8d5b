/- CountBreaks of the program and of the model. -/
import Derived.Test.YtgklhdacnklhdaaCountI
import Derived.Test.YtgklhdacnklhdaaTailsS
import Derived.Test.YtgklhdacnklhdaaG5
namespace Go.Proofs.Ytgklhdacnklhdaa
open Go Go.RowKit

noncomputable def cbV (F : Fc) (L : List UInt8) (x : Int) : Int := if askC F L (inB x 0 4000) = 0 then cnt (wordsL L).length (tabT x (lwL F (wordsL L)) (wordsL L).length (wordsL L).length) 0 else 0

set_option maxRecDepth 100000 in
set_option maxHeartbeats 8000000 in
theorem implCountBreaks_any (F : Fc) (hF : F.ok) (A : Option Addr) (c : Nat) (s : ByteArray) (hs : s.size ≤ maxLen) (x : Int) (hx : (Lit.int .i64 x).wf = true) (w : World) (hA : PairsAt w w.heap.size A F.ps) :
    Calls Try.prog 28 #[.agg (fc F (.slice A F.ps.length c)).toArray, .string s, .int .i64 x] w fun e w' => e = .returned (.tuple #[.int .i64 (cbV F s.data.toList x), .int .i64 (askC F s.data.toList (inB x 0 4000))]) ∧ Below w.heap.size w w' := by
  have hW := hide hF.len
  have hr := rangeAt_new w (fc F (.slice A F.ps.length c)) 32
  have hb : Below w.heap.size w (w.alloc (.cells (fc F (.slice A F.ps.length c)).toArray 32)) := (Below.refl _ _).alloc (Nat.le_refl _) _
  have HII := hide (show ∀ sl, (Try.prog.info? 32).map (·.size) = some (fc F sl).length from fun sl => by rw [fc_length hW.out]; kernel_rfl)
  have BA := (hA.below hb).mono hb.size
  by_cases h0 : askC F s.data.toList (inB x 0 4000) = 0
  · rcases ask_cases F s.data.toList x with ⟨hv, ht, hi, h4⟩ | ⟨h1, _⟩ | ⟨h1, _⟩
    · have HM := hide (measure_ok F hF A c s hs x _ BA hv ht hi)
      have hn := words_len ht
      obtain ⟨x0, x1⟩ := inB_true.1 hi
      have hR : cbV F s.data.toList x = cnt (wordsL s.data.toList).length (tabT x (lwL F (wordsL s.data.toList)) (wordsL s.data.toList).length (wordsL s.data.toList).length) 0 := by unfold cbV; rw [if_pos h0]
      have HCT := hide (fun A' c' W0 w HS => countTails_any F hF hv (wordsL s.data.toList) (fun y hy => words_mem ht hy) hn x ⟨x0, x1⟩ A' c' W0 w HS)
      have HR := hide (show cnt (wordsL s.data.toList).length (tabT x (fun f t => lineL F (seg (wordsL s.data.toList) f t)) (wordsL s.data.toList).length (wordsL s.data.toList).length) 0 = cbV F s.data.toList x from hR.symm)
      rw [h0]
      generalize cbV F s.data.toList x = R at *
      generalize wordsL s.data.toList = ws at *
      generalize cnt ws.length (tabT x (fun f t => lineL F (seg ws f t)) ws.length ws.length) 0 = V at *
      clear hA BA hv ht hi h4 hx hR h0
      go_enter Try.func28, Try.ntmps28
      go_wp2_with (refine wpList_load_mid rfl 32 (.tmp 3) rfl _ 0 rfl _ _ hr Try.underlying32 rfl (HII.out _) ?_)
      refine HM.out.mono ?_
      rintro e w1 ⟨A', c', rfl, HS, hb1⟩
      have hB1 := hb.trans (hb1.mono hb.size)
      have HC := hide (HCT.out A' c' _ w1 HS)
      clear HS hr
      go_wp2_with (go_at_call 79; refine HC.out.mono ?_; rintro e w2 ⟨rfl, hb2⟩)
      go_ret2
      exact ⟨ret_ii HR.out rfl, hB1.trans (hb2.mono hB1.size)⟩
    · rw [h1] at h0; cases h0
    · rw [h1] at h0; cases h0
  · have hR : cbV F s.data.toList x = 0 := by unfold cbV; rw [if_neg h0]
    have HM := hide (measure_no F hF A c s hs x _ BA h0)
    rw [hR]
    generalize askC F s.data.toList (inB x 0 4000) = C at *
    have hd : ((C : Int) != 0) = true := by simpa using h0
    clear hA BA hR hx
    go_enter Try.func28, Try.ntmps28
    go_wp2_with (first | (refine wpList_load_mid rfl 32 (.tmp 3) rfl _ 0 rfl _ _ hr Try.underlying32 rfl (HII.out _) ?_) | (go_at_call 78; refine HM.out.mono ?_; rintro e w1 ⟨rfl, hb1⟩))
    go_ret2
    exact ⟨rfl, hb.trans (hb1.mono hb.size)⟩

set_option maxRecDepth 100000 in
set_option maxHeartbeats 8000000 in
theorem specCountBreaks_any (F : Fc) (hF : F.ok) (A : Option Addr) (c : Nat) (s : ByteArray) (hs : s.size ≤ maxLen) (x : Int) (hx : (Lit.int .i64 x).wf = true) (w : World) (hA : PairsAt w w.heap.size A F.ps) :
    Calls Try.prog 27 #[.agg (fc F (.slice A F.ps.length c)).toArray, .string s, .int .i64 x] w fun e w' => e = .returned (.tuple #[.int .i64 (cbV F s.data.toList x), .int .i64 (askC F s.data.toList (inB x 0 4000))]) ∧ Below w.heap.size w w' := by
  have hr := rangeAt_new w (fc F (.slice A F.ps.length c)) 32
  have hb : Below w.heap.size w (w.alloc (.cells (fc F (.slice A F.ps.length c)).toArray 32)) := (Below.refl _ _).alloc (Nat.le_refl _) _
  have hs0 : w.heap.size < (w.alloc (.cells (fc F (.slice A F.ps.length c)).toArray 32)).heap.size := by simp
  have BA := (hA.below hb).mono hb.size
  have HC := hide (l02Wide_any F hF _ A c s x _ hs hr BA)
  by_cases h0 : askC F s.data.toList (inB x 0 4000) = 0
  · rcases ask_cases F s.data.toList x with ⟨hv, ht, hi, _⟩ | ⟨h1, _⟩ | ⟨h1, _⟩
    · have hwl := words_len ht
      have hs60 : s.size ≤ 1048576 := by have := (vtext_true.1 ht).1; simp at this; omega
      have HW := hide (fun w => l01WordsC_any s w hs60)
      have HBL := hide (show (bas (wordsL s.data.toList)).length = (wordsL s.data.toList).length from List.length_map _)
      have hR : cbV F s.data.toList x = cnt (wordsL s.data.toList).length (tabT x (lwL F (wordsL s.data.toList)) (wordsL s.data.toList).length (wordsL s.data.toList).length) 0 := by unfold cbV; rw [if_pos h0]
      have HR := hide hR
      obtain ⟨x0, x1⟩ := inB_true.1 hi
      have HL := hide (fun A2 c2 W hc2 (hB : Below (w.alloc (.cells (fc F (.slice A F.ps.length c)).toArray 32)).heap.size (w.alloc (.cells (fc F (.slice A F.ps.length c)).toArray 32)) W) hS => l02Tails_any F hF w.heap.size A c (wordsL s.data.toList) A2 c2 x W hv (fun x hx => words_mem ht hx) hwl hc2 ⟨x0, x1⟩ (rangeAt_below hr hB hs0) (Nat.lt_of_lt_of_le hs0 hB.size) ((BA.below hB).mono hB.size) hS)
      rw [h0] at HC ⊢
      generalize cbV F s.data.toList x = R at *
      generalize wordsL s.data.toList = ws at *
      obtain ⟨n, hlen⟩ : ∃ n, n = ws.length := ⟨_, rfl⟩
      rw [← hlen] at hwl HBL HR HL
      clear hA BA hv ht hi h0 hR hs60 hr hx
      by_cases hn0 : n = 0
      · have HRR := hide (show R = 1 by rw [HR.out]; unfold cnt; rw [if_pos hn0.symm])
        have hd : (((0 : Nat) : Int) == 0) = true := rfl
        subst hn0
        clear hlen
        go_enter Try.func27, Try.ntmps27
        go_wp2_with (go_at_call 77; refine HC.out.mono ?_; rintro e w1 ⟨rfl, hb1⟩)
        refine (HW.out w1).mono ?_
        rintro e w2 ⟨A2, c2, rfl, hc2, hP2, hb2⟩
        rw [HBL.out]
        have hB2 := hb1.trans (hb2.mono hb1.size)
        have hB3 := hb.trans (hB2.mono hb.size)
        go_wp2
        go_ret2
        exact ⟨ret_ii HRR.out.symm rfl, hB3⟩
      · have HRR := hide (show R = (tabT x (lwL F ws) n n 0).wy by rw [HR.out]; unfold cnt; rw [if_neg (fun h => hn0 h.symm)])
        have hd : ((n : Int) == 0) = false := by simpa using hn0
        have hd2 : decide ((n : Int) = 0) = false := by simpa using hn0
        have hj : (0 : Int) < (n : Int) + 1 := by omega
        have HLEN := hide hlen
        clear hlen hn0
        go_enter Try.func27, Try.ntmps27
        go_wp2_with (go_at_call 77; refine HC.out.mono ?_; rintro e w1 ⟨rfl, hb1⟩)
        refine (HW.out w1).mono ?_
        rintro e w2 ⟨A2, c2, rfl, hc2, hP2, hb2⟩
        rw [HBL.out]
        rw [← HLEN.out] at hc2
        have hB2 := hb1.trans (hb2.mono hb1.size)
        have hB3 := hb.trans (hB2.mono hb.size)
        go_wp2_with fail
        refine (HL.out A2 c2 _ hc2 hB2 hP2.at_).mono ?_
        rintro e w3 ⟨O, rfl, hO1, hO2, hrow, hb3⟩
        obtain ⟨At, ct, _, h1, _, _⟩ := hrow 0 (Nat.zero_le _)
        have y2 : w3.cell? ⟨O, 2, none⟩ = some (.int .i64 (tabT x (lwL F ws) n n 0).wy) := by simpa using h1 2 _ rfl
        clear h1 hrow
        go_wp2
        go_ret2
        exact ⟨ret_ii HRR.out.symm rfl, hB3.trans (hb3.mono hB3.size)⟩
    · rw [h1] at h0; cases h0
    · rw [h1] at h0; cases h0
  · have hR : cbV F s.data.toList x = 0 := by unfold cbV; rw [if_neg h0]
    rw [hR]
    generalize askC F s.data.toList (inB x 0 4000) = C at *
    have hd : ((C : Int) != 0) = true := by simpa using h0
    clear hA BA hR hr hx
    go_enter Try.func27, Try.ntmps27
    go_wp2_with (go_at_call 77; refine HC.out.mono ?_; rintro e w1 ⟨rfl, hb1⟩)
    go_ret2
    exact ⟨rfl, hb.trans (hb1.mono hb.size)⟩
end Go.Proofs.Ytgklhdacnklhdaa
