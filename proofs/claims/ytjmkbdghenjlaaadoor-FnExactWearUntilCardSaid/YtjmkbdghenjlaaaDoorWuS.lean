/- WearUntil of the model. -/
import Derived.Test.YtjmkbdghenjlaaaDoorWuP
namespace Go.Proofs.YtjmkbdghenjlaaaDoor
open Go Go.RowKit


set_option maxRecDepth 100000 in
set_option maxHeartbeats 8000000 in
theorem specWearUntil_all (R : List Nat) (hR : rok R) (need bound : Int) (w : World) :
    Calls Tryd.prog 15 #[.agg (rwc R).toArray, .int .i64 need, .int .i64 bound] w fun e w' => e = .returned (.tuple #[.int .i64 (wuT R need bound), .int .i64 (wuC R need bound)]) ∧ Below w.heap.size w w' := by
  have r0 : (w.alloc (.cells (rwc R).toArray 26)).rangeAt w.heap.size 0 (rwc R) := rangeAt_new _ _ _
  have t0 : (w.alloc (.cells (rwc R).toArray 26)).there w.heap.size 0 8 := there_newg rfl (by simp [rwc_length, hR.1])
  have hb0 : Below w.heap.size w (w.alloc (.cells (rwc R).toArray 26)) := (Below.refl _ _).alloc (Nat.le_refl _) _
  have s0 : w.heap.size < (w.alloc (.cells (rwc R).toArray 26)).heap.size := by simp
  cases h : (inB need 0 8 && !decide (bound < 0))
  · rw [(wu_no h R).1, (wu_no h R).2]
    cases hn : inB need 0 8
    · clear r0 t0 s0 hR h
      go_enter Tryd.func15, Tryd.ntmps15
      go_wp2_with (go_at_call 44; refine (l07Need_any _ _).mono ?_; rintro e w1 ⟨rfl, rfl⟩; simp only [hn])
      go_ret2
      exact ⟨rfl, hb0⟩
    · have hbd : bound < 0 := by rw [hn] at h; simpa using h
      clear r0 t0 s0 hR h
      go_enter Tryd.func15, Tryd.ntmps15
      go_wp2_with (go_at_call 44; refine (l07Need_any _ _).mono ?_; rintro e w1 ⟨rfl, rfl⟩; simp only [hn])
      go_ret2
      exact ⟨rfl, hb0⟩
  · rw [(wu_yes h R).1, (wu_yes h R).2]
    simp only [Bool.and_eq_true, Bool.not_eq_true', decide_eq_false_iff_not] at h
    obtain ⟨hn, hbd⟩ := h
    have hbd' : 0 ≤ bound := by omega
    go_enter Tryd.func15, Tryd.ntmps15
    go_wp2_with fail
    generalize (w.alloc (.cells (rwc R).toArray 26)) = W0 at *
    refine (l07Need_any _ _).mono ?_
    rintro e w1 ⟨rfl, rfl⟩
    simp only [hn]
    go_wp2
    go_loopw [8] (fun i wr => ∃ (k : Nat) (T : List Nat), i = .int .i64 k ∧ k + cntN T 8 ≤ 128 ∧ rok T ∧ Hid (wuG need bound T k = wuG need bound R 0) ∧ Below w.heap.size w wr ∧ w.heap.size < wr.heap.size ∧ wr.there w.heap.size 0 8 ∧ wr.rangeAt w.heap.size 0 (rwc T))
      (fun i _ => 128 - (intOf i).toNat)
    case atStart => exact ⟨0, R, rfl, by have := cntN_le R 8; omega, hR, hide rfl, hb0, s0, t0, r0⟩
    case round =>
      obtain ⟨k, T, rfl, hk, hT, HG, hB, hsz, ht, hr⟩ := hrel
      have HCN := hide (l07Count_any T hT _ _ hr)
      have HWE := hide (fun W h => l07Wear_any T hT w.heap.size need W h)
      have HLT := hide hT.1
      clear t0 r0 s0 hb0 hR
      by_cases hc : ((cntN T 8 : Nat) : Int) ≤ bound
      · have e1 := wuG_few (need := need) (k : Int) hc
        rw [HG.out] at e1
        replace e1 := hide e1
        clear HG HWE hr ht
        go_wp2_with (go_at_call 45; refine HCN.out.mono ?_; rintro e w1 ⟨rfl, rfl⟩)
        go_ret2
        exact ⟨by rw [e1.out]; rfl, hB⟩
      · have hST := rangeAt_block hr (by rw [rwc_length, HLT.out]; decide)
        have HLS := hide (wsR_ok T need)
        have HLE := hide (fun (h : wsR T need ≠ T) => ws_less hT need h)
        have HGF := hide (fun (h : wsR T need = T) => wuG_stays (k : Int) hc h)
        have HGO := hide (fun (h : wsR T need ≠ T) => wuG_on hT (k : Int) hc h)
        have hq := run_eql_rub (wsR T need) T HLS.out.1 HLT.out
        generalize wsR T need = S at *
        go_wp2_with fail
        refine HCN.out.mono ?_
        rintro e w1 ⟨rfl, rfl⟩
        go_wp2_with fail
        refine (HWE.out _ hr).mono ?_
        rintro e w2 ⟨rfl, hb2⟩
        have hB2 := hB.trans (hb2.mono hB.size)
        have hs2 := hb2.size
        have ht2 := there_below ht hb2 hsz
        have hr2 := rangeAt_below hr hb2 hsz
        have th : (w2.alloc (.cells #[.int .u16 0, .int .u16 0, .int .u16 0, .int .u16 0, .int .u16 0, .int .u16 0, .int .u16 0, .int .u16 0] 26)).there w2.heap.size 0 (rwc S).toArray.size := there_newg rfl (by simp [rwc_length, HLS.out.1])
        have hb3 : Below w.heap.size w (w2.alloc (.cells #[.int .u16 0, .int .u16 0, .int .u16 0, .int .u16 0, .int .u16 0, .int .u16 0, .int .u16 0, .int .u16 0] 26)) := hB2.alloc (by omega) _
        have ht3 := World.there_alloc ht2 (.cells #[.int .u16 0, .int .u16 0, .int .u16 0, .int .u16 0, .int .u16 0, .int .u16 0, .int .u16 0, .int .u16 0] 26)
        have hr3 := World.rangeAt_alloc hr2 (.cells #[.int .u16 0, .int .u16 0, .int .u16 0, .int .u16 0, .int .u16 0, .int .u16 0, .int .u16 0, .int .u16 0] 26)
        have hs3 : w.heap.size < (w2.alloc (.cells #[.int .u16 0, .int .u16 0, .int .u16 0, .int .u16 0, .int .u16 0, .int .u16 0, .int .u16 0, .int .u16 0] 26)).heap.size := by simp; omega
        have hne : w.heap.size ≠ w2.heap.size := by omega
        have r9 : ((w2.alloc (.cells #[.int .u16 0, .int .u16 0, .int .u16 0, .int .u16 0, .int .u16 0, .int .u16 0, .int .u16 0, .int .u16 0] 26)).setCells w2.heap.size 0 (rwc S)).rangeAt w2.heap.size 0 (rwc S) := World.rangeAt_setCells_same _ _ _ _ (by simpa using th)
        have r3 : ((w2.alloc (.cells #[.int .u16 0, .int .u16 0, .int .u16 0, .int .u16 0, .int .u16 0, .int .u16 0, .int .u16 0, .int .u16 0] 26)).setCells w2.heap.size 0 (rwc S)).rangeAt w.heap.size 0 (rwc T) := World.rangeAt_setCells_apart hr3 _ _ _ (.inl hne)
        have t3 : ((w2.alloc (.cells #[.int .u16 0, .int .u16 0, .int .u16 0, .int .u16 0, .int .u16 0, .int .u16 0, .int .u16 0, .int .u16 0] 26)).setCells w2.heap.size 0 (rwc S)).there w.heap.size 0 8 := World.there_setCells ht3 _ _ _
        have b3 : Below w.heap.size w ((w2.alloc (.cells #[.int .u16 0, .int .u16 0, .int .u16 0, .int .u16 0, .int .u16 0, .int .u16 0, .int .u16 0, .int .u16 0] 26)).setCells w2.heap.size 0 (rwc S)) := below_setCells _ _ _ _ hb3 (by omega)
        have s3 : w.heap.size < ((w2.alloc (.cells #[.int .u16 0, .int .u16 0, .int .u16 0, .int .u16 0, .int .u16 0, .int .u16 0, .int .u16 0, .int .u16 0] 26)).setCells w2.heap.size 0 (rwc S)).heap.size := by rw [size_setCells]; exact hs3
        have t4 : World.there ((w2.alloc (.cells #[.int .u16 0, .int .u16 0, .int .u16 0, .int .u16 0, .int .u16 0, .int .u16 0, .int .u16 0, .int .u16 0] 26)).setCells w2.heap.size 0 (rwc S)) w.heap.size 0 (rwc S).toArray.size := by simp only [List.size_toArray]; rw [rwc_length, HLS.out.1]; exact t3
        clear hb2 ht hr hr2 ht2 HWE HCN hB hB2 hr3 ht3 hb3 hs3
        go_wp2_with (first | (refine wpList_store_mid rfl 26 (.tmp 9) (.tmp 24) rfl w2.heap.size 0 (rwc S).toArray rfl rfl th (rub_info HLS.out.1) (rwc_one _) ?_; simp only [List.toList_toArray]) | (refine wpList_load_mid rfl 26 (.tmp 9) rfl w2.heap.size 0 rfl (rwc S) _ r9 Tryd.underlying26 rfl (rub_info' HLS.out.1) ?_) | (refine wpList_load_mid rfl 26 (.tmp 3) rfl w.heap.size 0 rfl (rwc T) _ r3 Tryd.underlying26 rfl (rub_info' HLT.out) ?_) | (refine wpList_store_mid rfl 26 (.tmp 3) (.tmp 28) rfl w.heap.size 0 (rwc S).toArray rfl rfl t4 (rub_info HLS.out.1) (rwc_one _) ?_; simp only [List.toList_toArray]))
        · have he : S = T := by assumption
          have e1 := HGF.out he
          rw [HG.out] at e1
          go_ret2
          exact ⟨by rw [e1]; rfl, b3⟩
        · have he : ¬ S = T := by assumption
          have hlt := HLE.out he
          have hg := HGO.out he
          rw [HG.out] at hg
          refine ⟨⟨k + 1, S, by go_num, by omega, HLS.out, hide hg.symm, below_setCells _ _ _ _ b3 (Nat.le_refl _), by rw [size_setCells]; exact s3, World.there_setCells t3 _ _ _, World.rangeAt_setCells_same _ _ _ _ (by simpa using t4)⟩, by simp [intOf]; omega⟩
end Go.Proofs.YtjmkbdghenjlaaaDoor
