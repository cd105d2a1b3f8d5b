/- The gaps of a word, of the model. -/
import Derived.Test.YtcbijfbeapeliaaGps
namespace Go.Proofs.Ytcbijfbeapeliaa
open Go Go.RowKit

set_option maxRecDepth 100000 in
set_option maxHeartbeats 8000000 in
theorem specGapsOf_any (F : Fc) (hF : F.ok) (A : Option Addr) (c : Nat) (s : ByteArray) (hs : s.size ≤ maxLen) (w : World) (hA : PairsAt w w.heap.size A F.ps) :
    Calls Try.prog 30 #[.agg (fc F (.slice A F.ps.length c)).toArray, .string s] w (IntsBack (gpR F s.data.toList) (gpC F s.data.toList) w) := by
  obtain ⟨i0, hi0, hz0, hz1, hz2⟩ := info_parts Try.infoI64
  have hr := rangeAt_new w (fc F (.slice A F.ps.length c)) 48
  have hb : Below w.heap.size w (w.alloc (.cells (fc F (.slice A F.ps.length c)).toArray 48)) := (Below.refl _ _).alloc (Nat.le_refl _) _
  have hs0 : w.heap.size < (w.alloc (.cells (fc F (.slice A F.ps.length c)).toArray 48)).heap.size := by simp
  have BA := hA.below hb
  have HC := hide (l01Face_any F hF _ A c _ hr (BA.mono hb.size))
  have HT := hide (fun w => l01Text_any s w hs)
  have HWo := hide (fun w => l01Word_any s w hs)
  have HVW := hide (vword_spec s.data.toList)
  cases hv : vface F
  · have HP := gp_no (F := F) (L := s.data.toList) (fun e => by rw [hv] at e; cases e.1)
    rw [HP.1, HP.2]
    clear HP
    go_enter Try.func30, Try.ntmps30
    go_wp2_with (go_at_call 54; refine HC.out.mono ?_; rintro e w1 ⟨rfl, hb1⟩; simp only [hv])
    go_ret2
    exact ⟨_, _, rfl, IntsIn.empty _ _ _, hb.trans ((hb1.alloc hb1.size _).mono hb.size)⟩
  · cases ht : vtext s.data.toList
    · have HP := gp_no (F := F) (L := s.data.toList) (fun e => by have := e.2; rw [HVW.out, ht] at this; cases this)
      rw [HP.1, HP.2]
      clear HP
      go_enter Try.func30, Try.ntmps30
      go_wp2_with (first | (go_at_call 54; refine HC.out.mono ?_; rintro e w1 ⟨rfl, hb1⟩; simp only [hv]) | (go_at_call 55; refine (HT.out _).mono ?_; rintro e w' ⟨rfl, rfl⟩; simp only [ht]))
      go_ret2
      exact ⟨_, _, rfl, IntsIn.empty _ _ _, hb.trans ((hb1.alloc hb1.size _).mono hb.size)⟩
    · cases hc : capsB s.data.toList
      · have HP := gp_no (F := F) (L := s.data.toList) (fun e => by have := e.2; rw [HVW.out, ht, hc] at this; cases this)
        rw [HP.1, HP.2]
        clear HP
        go_enter Try.func30, Try.ntmps30
        go_wp2_with (first | (go_at_call 54; refine HC.out.mono ?_; rintro e w1 ⟨rfl, hb1⟩; simp only [hv]) | (go_at_call 55; refine (HT.out _).mono ?_; rintro e w' ⟨rfl, rfl⟩; simp only [ht]) | (go_at_call 56; refine (HWo.out _).mono ?_; rintro e w' ⟨rfl, rfl⟩; simp only [hc]))
        go_ret2
        exact ⟨_, _, rfl, IntsIn.empty _ _ _, hb.trans ((hb1.alloc hb1.size _).mono hb.size)⟩
      · have hwd : vword s.data.toList = true := by rw [HVW.out, ht, hc]; rfl
        have HP := gp_ok hv hwd
        rw [HP.1, HP.2]
        have hw3 := vword_true.1 hwd
        have hsz : s.size ≤ 60 := by have := hw3.2.1; simpa using this
        have hpos : 0 < s.size := by have := hw3.1; simpa using this
        have hln : s.data.toList.length - 1 = s.size - 1 := by simp
        rw [hln]
        have HTS := hide (fun k => gpT_succ F s.data.toList k)
        have HBY := hide (fun k (h : k < s.size) => byteAt_get s k h)
        have HTL := hide (gpT_len F s.data.toList (s.size - 1))
        have HBD := hide (fun a b => byL_bd hv a b)
        have h27 := rangeAt_cell hr (fc_gp hF.len _)
        clear hw3 HP hln hwd
        obtain ⟨n, hn⟩ : ∃ n, s.size = n + 1 := ⟨s.size - 1, by omega⟩
        have hn1 : s.size - 1 = n := by omega
        rw [hn1] at HTL ⊢
        go_enter Try.func30, Try.ntmps30
        go_wp2_with fail
        have hW0s : (w.alloc (.cells (fc F (.slice A F.ps.length c)).toArray 48)).heap.size = w.heap.size + 1 := by simp
        generalize (w.alloc (.cells (fc F (.slice A F.ps.length c)).toArray 48)) = W0 at *
        refine HC.out.mono ?_
        rintro e w1 ⟨rfl, hb1⟩
        simp only [hv]
        have hr2 := rangeAt_below hr hb1 hs0
        have HA2 := hide (show PairsAt w1 w.heap.size A F.ps from BA.below (hb1.mono hb.size))
        have hs2 : w.heap.size < w1.heap.size := Nat.lt_of_lt_of_le hs0 hb1.size
        have hBw := hb.trans (hb1.mono hb.size)
        have hown2 : (w1.alloc (.cells #[] 2)).ownsRow (w.heap.size + 1) 2 1 (.slice (some ⟨w1.heap.size, 0, none⟩) 0 0) 0 [] := World.ownsRow_made w1 #[] 0 (by omega) (by unfold maxLen; omega) rfl
        have hr3 : (w1.alloc (.cells #[] 2)).rangeAt w.heap.size 0 (fc F (.slice A F.ps.length c)) := World.rangeAt_alloc hr2 _
        have hB3 : Below (w.heap.size + 1) w1 (w1.alloc (.cells #[] 2)) := (Below.refl _ _).alloc (by omega) _
        clear hr BA hA hb1 hb HC h27
        go_wp2_with (first | (go_at_call 55; refine (HT.out _).mono ?_; rintro e w' ⟨rfl, rfl⟩; simp only [ht]) | (go_at_call 56; refine (HWo.out _).mono ?_; rintro e w' ⟨rfl, rfl⟩; simp only [hc]))
        go_loopw [6, 7] (fun br i wr => ∃ k : Nat, k ≤ n ∧ i = .int .i64 ((k + 1 : Nat) : Int) ∧ wr.ownsRow (w.heap.size + 1) 2 1 br k ((gpT F s.data.toList k).map (.int .i64)) ∧ w.heap.size < wr.heap.size ∧ Below (w.heap.size + 1) w1 wr)
          (fun _ i _ => n + 1 - (intOf i).toNat)
        case atStart => exact ⟨0, by omega, rfl, hown2, by simp; omega, hB3⟩
        case round =>
          clear hr3 hB3 hown2
          obtain ⟨k, hk, rfl, hown, hsz2, hBB⟩ := hrel
          obtain ⟨Ab, cbb, rfl, hcap, _⟩ := cellsIn_of_own hown (by omega)
          have hbs := hBB.size
          have HOWN := hide hown
          clear hown
          by_cases hlt : k < n
          · have hi : (k : Int) + 1 < (n : Int) + 1 := by omega
            have h0 : (0 : Int) ≤ k := by omega
            have hrr := rangeAt_below hr2 hBB (by omega)
            have hAA : PairsAt wr (w.heap.size + 1) A F.ps := (HA2.out.mono (show w.heap.size ≤ w.heap.size + 1 by omega)).below hBB
            have HC27 := hide (fun w' (h : Below (w.heap.size + 1) wr w') => rangeAt_cell (rangeAt_below hrr h (by omega)) (fc_gp hF.len _))
            have HGG := hide (fun W (h : Below (w.heap.size + 1) wr W) => l01By_any F hF w.heap.size A c (byteAt s.data.toList k) (byteAt s.data.toList (k + 1)) W (rangeAt_below hrr h (by omega)) ((hAA.below h).mono (Nat.le_trans hsz2 h.size)))
            have hx1 := HBY.out k (by omega)
            have hx2 := HBY.out (k + 1) (by omega)
            have HTU := hide (HTS.out k)
            obtain ⟨q1, q2, q3, q4⟩ := HBD.out (byteAt s.data.toList k) (byteAt s.data.toList (k + 1))
            have hk1 : k < s.size := by omega
            have hk2 : k + 1 < s.size := by omega
            have hki : ¬ ((n : Int) + 1 ≤ (k : Int)) := by omega
            have hki2 : ¬ ((k : Int) + 1 < 0) := by omega
            have hki4 : (k : Int) < (n : Int) + 1 := by omega
            have hki5 : (0 : Int) ≤ (k : Int) + 1 := by omega
            have hw1 := IntWalk.i64_in ((k : Int) + 1) ⟨by omega, by omega⟩
            have hw2 := IntWalk.i64_in (k : Int) ⟨by omega, by omega⟩
            clear hrr hAA
            generalize byL F.ps (byteAt s.data.toList k) (byteAt s.data.toList (k + 1)) = q at *
            have HWG := hide (IntWalk.i64_in F.gp ⟨by omega, by omega⟩)
            have hw4 := IntWalk.i64_in (F.gp + q) ⟨by omega, by omega⟩
            go_wp2
            refine wp_region_script [(0, true), (1, true), (2, true), (3, true), (4, true), (5, true), (6, true), (7, true), (8, true), (9, true), (10, true), (11, false), (12, false), (13, false), (14, false), (15, false)]
              (fun w' => Below (w.heap.size + 1) wr w') (by kernel_rfl) (by kernel_rfl) (of_decide_eq_true (by kernel_rfl)) (by kernel_rfl) (fun _ _ d _ _ h => by cases d <;> exact h) ((Below.refl _ _).drew) ?_
            refine sc_take (.slice Ab k cbb) rfl (.inl ⟨rfl, fun w' h => rfl⟩) ?_
            simp only [List.getElem_toArray, List.getElem_cons_succ, List.getElem_cons_zero, Act.put, List.setIfInBounds_toArray, List.set_cons_zero, List.set_cons_succ]
            refine sc_take (.pointer (some ⟨w.heap.size, 27, none⟩)) rfl (.inl ⟨rfl, fun w _ => by kernel_rfl⟩) ?_
            simp only [List.getElem_toArray, List.getElem_cons_succ, List.getElem_cons_zero, Act.put, List.setIfInBounds_toArray, List.set_cons_zero, List.set_cons_succ]
            refine sc_take (.int .i8 F.gp) rfl (yi_cell rfl rfl rfl (fun _ => by kernel_rfl) (fun w h => HC27.out w h)) ?_
            simp only [List.getElem_toArray, List.getElem_cons_succ, List.getElem_cons_zero, Act.put, List.setIfInBounds_toArray, List.set_cons_zero, List.set_cons_succ]
            refine sc_take (.int .i64 F.gp) rfl (yi_conv rfl rfl rfl Try.underlying38 Try.underlying2 HWG.out) ?_
            simp only [List.getElem_toArray, List.getElem_cons_succ, List.getElem_cons_zero, Act.put, List.setIfInBounds_toArray, List.set_cons_zero, List.set_cons_succ]
            refine sc_take (.string s) rfl (.inl ⟨rfl, fun w' h => rfl⟩) ?_
            simp only [List.getElem_toArray, List.getElem_cons_succ, List.getElem_cons_zero, Act.put, List.setIfInBounds_toArray, List.set_cons_zero, List.set_cons_succ]
            refine sc_take (.int .i64 ((k + 1 : Nat) : Int)) rfl (.inl ⟨rfl, fun w' h => rfl⟩) ?_
            simp only [List.getElem_toArray, List.getElem_cons_succ, List.getElem_cons_zero, Act.put, List.setIfInBounds_toArray, List.set_cons_zero, List.set_cons_succ]
            refine sc_take (.int .i64 (k : Int)) rfl (yi_sub64 rfl rfl rfl rfl (by omega) (by omega)) ?_
            simp only [List.getElem_toArray, List.getElem_cons_succ, List.getElem_cons_zero, Act.put, List.setIfInBounds_toArray, List.set_cons_zero, List.set_cons_succ]
            refine sc_take (.int .u8 (byteAt s.data.toList k)) rfl (yi_index rfl rfl Try.underlying9 rfl rfl (by omega)) ?_
            simp only [List.getElem_toArray, List.getElem_cons_succ, List.getElem_cons_zero, Act.put, List.setIfInBounds_toArray, List.set_cons_zero, List.set_cons_succ]
            refine sc_take (.string s) rfl (.inl ⟨rfl, fun w' h => rfl⟩) ?_
            simp only [List.getElem_toArray, List.getElem_cons_succ, List.getElem_cons_zero, Act.put, List.setIfInBounds_toArray, List.set_cons_zero, List.set_cons_succ]
            refine sc_take (.int .i64 ((k + 1 : Nat) : Int)) rfl (.inl ⟨rfl, fun w' h => rfl⟩) ?_
            simp only [List.getElem_toArray, List.getElem_cons_succ, List.getElem_cons_zero, Act.put, List.setIfInBounds_toArray, List.set_cons_zero, List.set_cons_succ]
            refine sc_take (.int .u8 (byteAt s.data.toList (k + 1))) rfl (yi_index rfl rfl Try.underlying9 rfl rfl (by omega)) ?_
            simp only [List.getElem_toArray, List.getElem_cons_succ, List.getElem_cons_zero, Act.put, List.setIfInBounds_toArray, List.set_cons_zero, List.set_cons_succ]
            refine sc_step rfl ?_
            go_wp2_with fail
            refine (HGG.out _ ((Below.refl _ _).drew)).mono ?_
            rintro e w3 ⟨rfl, rfl⟩
            have hb30 : Below (w.heap.size + 1) wr wr.drew := (Below.refl _ _).drew
            have hb31 : Below wr.heap.size wr wr.drew := (Below.refl _ _).drew
            go_wp2_with fail
            refine ⟨hb30, sc_step rfl ?_⟩
            go_wp2_with fail
            refine ⟨hb30, sc_step rfl ?_⟩
            go_wp2_with fail
            have hs3 := hb31.size
            have hBd : Below (w.heap.size + 1) wr (wr.alloc (.cells #[.int .i64 (F.gp + q)] 2)).drew := ((Below.refl _ _).alloc (by omega) _).drew
            have hBe : Below wr.heap.size wr (wr.alloc (.cells #[.int .i64 (F.gp + q)] 2)).drew := ((Below.refl _ _).alloc (by omega) _).drew
            refine ⟨hBd, sc_step rfl ?_⟩
            have hownd : (wr.alloc (.cells #[.int .i64 (F.gp + q)] 2)).drew.ownsRow (w.heap.size + 1) 2 1 (.slice Ab k cbb) k ((gpT F s.data.toList k).map (.int .i64)) := own_go HOWN.out hBe
            refine wpList_append_own _ rfl (.tmp 28) (.tmp 41) 34 rfl (w.heap.size + 1) 2 i0 (.int .i64 0) 1 8 Try.underlying34 hi0 hz0 hz1 hz2 rfl (by decide) _ k _ rfl hownd ⟨wr.heap.size, 0, none⟩ 1 1 [.int .i64 (F.gp + q)] rfl rfl (one_cell _) (one_one rfl) ?h1 ?h2 ?h3 ?_
            case h1 => unfold maxLen; omega
            case h2 => omega
            case h3 => exact Nat.le_trans hsz2 hBd.size
            intro v' w4 hown4 hg4 _
            obtain ⟨A4, c4, rfl, _, _⟩ := cellsIn_of_own hown4 (by omega)
            have H4 := hide hown4
            have hbk : Below (w.heap.size + 1) wr w4 := hBd.trans (grown_toBelow hg4 (Nat.le_trans hsz2 hBd.size) (fun k hk => (hownd.lt k hk).1))
            have hs4 := hbk.size
            clear hown4 hg4
            go_wp2_with fail
            refine ⟨hbk, sc_step rfl ?_⟩
            go_wp2_with fail
            refine ⟨hbk, sc_nil ?_⟩
            go_wp2
            refine ⟨⟨k + 1, by omega, by go_num, ?_, by omega, hBB.trans hbk⟩, by simp [intOf]; omega⟩
            rw [HTU.out, List.map_append]
            exact H4.out
          · obtain rfl : k = n := by omega
            obtain ⟨Ag, cg, e, _, hI⟩ := intsIn_of_own HOWN.out
            injection e with e1 e2 e3
            subst e1 e3
            have HI := hide hI
            clear hI
            go_wp2
            go_ret2
            exact ⟨Ab, cbb, by rw [HTL.out]; rfl, HI.out.wider (by omega), hBw.trans (hBB.mono (show w.heap.size ≤ w.heap.size + 1 by omega))⟩
end Go.Proofs.Ytcbijfbeapeliaa
