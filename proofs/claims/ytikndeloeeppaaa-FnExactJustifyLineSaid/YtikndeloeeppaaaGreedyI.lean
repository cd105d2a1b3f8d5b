/- GreedyBreaks and FewestLines of the program. -/
import Derived.Test.YtikndeloeeppaaaGreedyW
namespace Go.Proofs.Ytikndeloeeppaaa
open Go Go.RowKit

noncomputable def gbX (F : Fc) (L : List UInt8) (x : Int) : List Int := if fdC F L x = 0 then greedyL F (wordsL L) x else []
noncomputable def flV (F : Fc) (L : List UInt8) (x : Int) : Int := if fdC F L x = 0 then ((greedyL F (wordsL L) x).length : Int) + 1 else 0
theorem fd_no {F : Fc} {L : List UInt8} {x : Int} (h : askC F L (inB x 0 4000) ≠ 0) : fdC F L x = askC F L (inB x 0 4000) ∧ gbX F L x = [] ∧ flV F L x = 0 := by
  have e : fdC F L x = askC F L (inB x 0 4000) := by unfold fdC; rw [if_neg h]
  exact ⟨e, by unfold gbX; rw [e, if_neg h], by unfold flV; rw [e, if_neg h]⟩
theorem fd_wide {F : Fc} {L : List UInt8} {x : Int} (h : askC F L (inB x 0 4000) = 0) (h2 : fitB F (wordsL L) x = false) : fdC F L x = 6 ∧ gbX F L x = [] ∧ flV F L x = 0 := by
  have e : fdC F L x = 6 := by unfold fdC; rw [if_pos h, h2]; rfl
  exact ⟨e, by unfold gbX; rw [e, if_neg (by decide)], by unfold flV; rw [e, if_neg (by decide)]⟩
theorem fd_ok {F : Fc} {L : List UInt8} {x : Int} (h : askC F L (inB x 0 4000) = 0) (h2 : fitB F (wordsL L) x = true) : fdC F L x = 0 ∧ gbX F L x = greedyL F (wordsL L) x ∧ flV F L x = ((greedyL F (wordsL L) x).length : Int) + 1 := by
  have e : fdC F L x = 0 := by unfold fdC; rw [if_pos h, if_pos h2]
  exact ⟨e, by unfold gbX; rw [e, if_pos rfl], by unfold flV; rw [e, if_pos rfl]⟩
theorem greedyL_len (F : Fc) (ws : List (List UInt8)) (x : Int) : (greedyL F ws x).length ≤ ws.length := (gTo_bd F ws x ws.length).2
theorem gbX_len (F : Fc) (L : List UInt8) (x : Int) : (gbX F L x).length ≤ 1048577 := by
  unfold gbX
  split
  · rename_i h
    have hk : askC F L (inB x 0 4000) = 0 := by
      by_cases h0 : askC F L (inB x 0 4000) = 0
      · exact h0
      · unfold fdC at h; rw [if_neg h0] at h; exact h
    rcases ask_cases F L x with ⟨_, ht, _, _⟩ | ⟨h1, _⟩ | ⟨h1, _⟩
    · have := greedyL_len F (wordsL L) x; have := words_len ht; omega
    · rw [h1] at hk; cases hk
    · rw [h1] at hk; cases hk
  · simp

set_option maxRecDepth 100000 in
set_option maxHeartbeats 4000000 in
theorem implGreedyBreaks_any (F : Fc) (hF : F.ok) (A : Option Addr) (c : Nat) (s : ByteArray) (hs : s.size ≤ maxLen) (x : Int) (hx : (Lit.int .i64 x).wf = true) (w : World) (hA : PairsAt w w.heap.size A F.ps) :
    Calls Try.prog 45 #[.agg (fc F (.slice A F.ps.length c)).toArray, .string s, .int .i64 x] w (IntsBack (gbX F s.data.toList x) (fdC F s.data.toList x) w) := by
  have hW := hide hF.len
  have hr := rangeAt_new w (fc F (.slice A F.ps.length c)) 32
  have hb : Below w.heap.size w (w.alloc (.cells (fc F (.slice A F.ps.length c)).toArray 32)) := (Below.refl _ _).alloc (Nat.le_refl _) _
  have HII := hide (show ∀ sl, (Try.prog.info? 32).map (·.size) = some (fc F sl).length from fun sl => by rw [fc_length hW.out]; kernel_rfl)
  have BA := (hA.below hb).mono hb.size
  rcases ask_cases F s.data.toList x with ⟨hv, ht, hi, h4⟩ | h
  · have HM := hide (measureB_ok F hF A c s hs x _ BA hv ht hi)
    have hn := words_len ht
    have HMEM := hide (fun k hk => wideL_bd hF hv (words_mem ht (getD_mem (ws := wordsL s.data.toList) (k := k) hk)).2 (words_mem ht (getD_mem hk)).1)
    have HPB := hide (preL_bd hF hv (fun y hy => words_mem ht hy))
    obtain ⟨x0, x1⟩ := inB_true.1 hi
    have HOK := hide (fun h => fd_ok (F := F) h4 h)
    have HNO := hide (fun h => fd_wide (F := F) h4 h)
    generalize gbX F s.data.toList x = R at *
    generalize fdC F s.data.toList x = C at *
    generalize wordsL s.data.toList = ws at *
    clear hA BA hv ht hi h4 hx
    go_enter Try.func45, Try.ntmps45
    go_wp2_with (refine wpList_load_mid rfl 32 (.tmp 3) rfl _ 0 rfl _ _ hr Try.underlying32 rfl (HII.out _) ?_)
    refine HM.out.mono ?_
    rintro e w1 ⟨A', c', h, hb1⟩
    have hB1 := hb.trans (hb1.mono hb.size)
    rcases h with ⟨hfit, rfl, hS⟩ | ⟨hfit, rfl⟩
    · obtain ⟨p1, p2, _⟩ := HOK.out hfit
      have HG := hide (greedyBreaks_any F ws A' c' x w1 x0 x1 hn hS.1 HPB.out HMEM.out hS.2.at_)
      have HP := hide (⟨p1, p2⟩ : _ ∧ _)
      clear hS hfit p1 p2 hr HOK HNO
      go_wp2_with (go_at_call 111; refine HG.out.mono ?_; rintro e w2 ⟨Ag, cg, rfl, hI, hb2⟩)
      go_ret2
      rw [HP.out.1, HP.out.2]
      exact ⟨Ag, cg, rfl, hI.wider hB1.size, hB1.trans (hb2.mono hB1.size)⟩
    · obtain ⟨p1, p2, _⟩ := HNO.out hfit
      have HP := hide (⟨p1, p2⟩ : _ ∧ _)
      clear hfit p1 p2 hr HOK HNO
      go_wp2
      go_ret2
      rw [HP.out.1, HP.out.2]
      exact ⟨none, 0, rfl, IntsIn.empty _ _ _, hB1⟩
  · have hno : askC F s.data.toList (inB x 0 4000) ≠ 0 := by rcases h with ⟨h, _⟩ | ⟨h, _⟩ <;> rw [h] <;> decide
    have HM := hide (measureB_no F hF A c s hs x _ BA hno)
    obtain ⟨p1, p2, _⟩ := fd_no (F := F) hno
    rw [p1, p2]
    clear h hA BA hx p1 p2
    generalize askC F s.data.toList (inB x 0 4000) = C at *
    go_enter Try.func45, Try.ntmps45
    go_wp2_with (first | (refine wpList_load_mid rfl 32 (.tmp 3) rfl _ 0 rfl _ _ hr Try.underlying32 rfl (HII.out _) ?_) | (go_at_call 110; refine HM.out.mono ?_; rintro e w1 ⟨rfl, hb1⟩))
    go_ret2
    exact ⟨none, 0, rfl, IntsIn.empty _ _ _, hb.trans (hb1.mono hb.size)⟩

set_option maxRecDepth 100000 in
set_option maxHeartbeats 4000000 in
theorem implFewestLines_any (F : Fc) (hF : F.ok) (A : Option Addr) (c : Nat) (s : ByteArray) (hs : s.size ≤ maxLen) (x : Int) (hx : (Lit.int .i64 x).wf = true) (w : World) (hA : PairsAt w w.heap.size A F.ps) :
    Calls Try.prog 61 #[.agg (fc F (.slice A F.ps.length c)).toArray, .string s, .int .i64 x] w fun e w' => e = .returned (.tuple #[.int .i64 (flV F s.data.toList x), .int .i64 (fdC F s.data.toList x)]) ∧ Below w.heap.size w w' := by
  have hW := hide hF.len
  have hr := rangeAt_new w (fc F (.slice A F.ps.length c)) 32
  have hb : Below w.heap.size w (w.alloc (.cells (fc F (.slice A F.ps.length c)).toArray 32)) := (Below.refl _ _).alloc (Nat.le_refl _) _
  have HII := hide (show ∀ sl, (Try.prog.info? 32).map (·.size) = some (fc F sl).length from fun sl => by rw [fc_length hW.out]; kernel_rfl)
  have BA := (hA.below hb).mono hb.size
  rcases ask_cases F s.data.toList x with ⟨hv, ht, hi, h4⟩ | h
  · have HM := hide (measureB_ok F hF A c s hs x _ BA hv ht hi)
    have hn := words_len ht
    have HMEM := hide (fun k hk => wideL_bd hF hv (words_mem ht (getD_mem (ws := wordsL s.data.toList) (k := k) hk)).2 (words_mem ht (getD_mem hk)).1)
    have HPB := hide (preL_bd hF hv (fun y hy => words_mem ht hy))
    obtain ⟨x0, x1⟩ := inB_true.1 hi
    have HOK := hide (fun h => fd_ok (F := F) h4 h)
    have HNO := hide (fun h => fd_wide (F := F) h4 h)
    generalize flV F s.data.toList x = R at *
    generalize fdC F s.data.toList x = C at *
    generalize wordsL s.data.toList = ws at *
    have hgl := greedyL_len F ws x
    clear hA BA hv ht hi h4 hx
    go_enter Try.func61, Try.ntmps61
    go_wp2_with (refine wpList_load_mid rfl 32 (.tmp 3) rfl _ 0 rfl _ _ hr Try.underlying32 rfl (HII.out _) ?_)
    refine HM.out.mono ?_
    rintro e w1 ⟨A', c', h, hb1⟩
    have hB1 := hb.trans (hb1.mono hb.size)
    rcases h with ⟨hfit, rfl, hS⟩ | ⟨hfit, rfl⟩
    · obtain ⟨p1, _, p2⟩ := HOK.out hfit
      have HG := hide (greedyBreaks_any F ws A' c' x w1 x0 x1 hn hS.1 HPB.out HMEM.out hS.2.at_)
      have HP := hide (⟨p2, p1⟩ : _ ∧ _)
      clear hS hfit p1 p2 hr HOK HNO
      go_wp2_with (go_at_call 111; refine HG.out.mono ?_; rintro e w2 ⟨Ag, cg, rfl, hI, hb2⟩)
      go_ret2
      exact ⟨ret_ii HP.out.1.symm HP.out.2.symm, hB1.trans (hb2.mono hB1.size)⟩
    · obtain ⟨p1, _, p2⟩ := HNO.out hfit
      have HP := hide (⟨p2, p1⟩ : _ ∧ _)
      clear hfit p1 p2 hr HOK HNO
      go_wp2
      go_ret2
      exact ⟨ret_ii HP.out.1.symm HP.out.2.symm, hB1⟩
  · have hno : askC F s.data.toList (inB x 0 4000) ≠ 0 := by rcases h with ⟨h, _⟩ | ⟨h, _⟩ <;> rw [h] <;> decide
    have HM := hide (measureB_no F hF A c s hs x _ BA hno)
    obtain ⟨p1, _, p2⟩ := fd_no (F := F) hno
    rw [p1, p2]
    clear h hA BA hx p1 p2
    generalize askC F s.data.toList (inB x 0 4000) = C at *
    go_enter Try.func61, Try.ntmps61
    go_wp2_with (first | (refine wpList_load_mid rfl 32 (.tmp 3) rfl _ 0 rfl _ _ hr Try.underlying32 rfl (HII.out _) ?_) | (go_at_call 110; refine HM.out.mono ?_; rintro e w1 ⟨rfl, hb1⟩))
    go_ret2
    exact ⟨rfl, hb.trans (hb1.mono hb.size)⟩
end Go.Proofs.Ytikndeloeeppaaa
