/- The gaps of a word, of both. -/
import Derived.Test.YtcbijfbeapeliaaG6
import Derived.Test.YtcbijfbeapeliaaTk
import Derived.Test.YtcbijfbeapeliaaIvTh
namespace Go.Proofs.Ytcbijfbeapeliaa
open Go Go.RowKit

def gpT (F : Fc) (L : List UInt8) (k : Nat) : List Int := (List.range k).map (fun j => F.gp + byL F.ps (byteAt L j) (byteAt L (j + 1)))
theorem gpT_len (F : Fc) (L : List UInt8) (k : Nat) : (gpT F L k).length = k := by simp [gpT]
theorem gpT_succ (F : Fc) (L : List UInt8) (k : Nat) : gpT F L (k + 1) = gpT F L k ++ [F.gp + byL F.ps (byteAt L k) (byteAt L (k + 1))] := by simp [gpT, List.range_succ]
noncomputable def gpR (F : Fc) (L : List UInt8) : List Int := if vface F = true ∧ vword L = true then gpT F L (L.length - 1) else []
noncomputable def gpC (F : Fc) (L : List UInt8) : Int := if vface F = true ∧ vword L = true then 0 else 1
theorem gp_ok {F : Fc} {L : List UInt8} (h : vface F = true) (h' : vword L = true) : gpR F L = gpT F L (L.length - 1) ∧ gpC F L = 0 := by
  unfold gpR gpC; rw [if_pos ⟨h, h'⟩, if_pos ⟨h, h'⟩]; exact ⟨rfl, rfl⟩
theorem gp_no {F : Fc} {L : List UInt8} (h : ¬ (vface F = true ∧ vword L = true)) : gpR F L = [] ∧ gpC F L = 1 := by
  unfold gpR gpC; rw [if_neg h, if_neg h]; exact ⟨rfl, rfl⟩
theorem gpR_len (F : Fc) (L : List UInt8) : (gpR F L).length ≤ 1048577 := by
  unfold gpR; split
  · rename_i h; rw [gpT_len]; have := (vword_true.1 h.2).2.1; omega
  · simp

set_option maxRecDepth 100000 in
set_option maxHeartbeats 8000000 in
theorem implGapsOf_any (F : Fc) (hF : F.ok) (A : Option Addr) (c : Nat) (s : ByteArray) (hs : s.size ≤ maxLen) (w : World) (hA : PairsAt w w.heap.size A F.ps) :
    Calls Try.prog 32 #[.agg (fc F (.slice A F.ps.length c)).toArray, .string s] w (IntsBack (gpR F s.data.toList) (gpC F s.data.toList) w) := by
  obtain ⟨i0, hi0, hz0, hz1, hz2⟩ := info_parts Try.infoI64
  have hW := hide hF.len
  have hr := rangeAt_new w (fc F (.slice A F.ps.length c)) 48
  have hb : Below w.heap.size w (w.alloc (.cells (fc F (.slice A F.ps.length c)).toArray 48)) := (Below.refl _ _).alloc (Nat.le_refl _) _
  have hs0 : w.heap.size < (w.alloc (.cells (fc F (.slice A F.ps.length c)).toArray 48)).heap.size := by simp
  have BA := hA.below hb
  have HC := hide (implValidFace_any F hF A c _ (BA.mono hb.size))
  have HII := hide (show ∀ sl, (Try.prog.info? 48).map (·.size) = some (fc F sl).length from fun sl => by rw [fc_length hW.out]; kernel_rfl)
  have HWo := hide (fun w => isWord_any s w hs)
  cases hv : vface F
  · have HP := gp_no (F := F) (L := s.data.toList) (fun e => by rw [hv] at e; cases e.1)
    rw [HP.1, HP.2]
    clear HP
    go_enter Try.func32, Try.ntmps32
    go_wp2_with (first | (refine wpList_load_mid rfl 48 (.tmp 2) rfl _ 0 rfl _ _ hr Try.underlying48 rfl (HII.out _) ?_) | (go_at_call 60; refine HC.out.mono ?_; rintro e w1 ⟨rfl, hb1⟩; simp only [hv]))
    go_ret2
    exact ⟨_, _, rfl, IntsIn.empty _ _ _, hb.trans (hb1.mono hb.size)⟩
  · cases hwd : vword s.data.toList
    · have HP := gp_no (F := F) (L := s.data.toList) (fun e => by have := e.2; rw [hwd] at this; cases this)
      rw [HP.1, HP.2]
      clear HP
      go_enter Try.func32, Try.ntmps32
      go_wp2_with (first | (refine wpList_load_mid rfl 48 (.tmp 2) rfl _ 0 rfl _ _ hr Try.underlying48 rfl (HII.out _) ?_) | (go_at_call 60; refine HC.out.mono ?_; rintro e w1 ⟨rfl, hb1⟩; simp only [hv]) | (go_at_call 61; refine (HWo.out _).mono ?_; rintro e w2 ⟨rfl, hb2⟩; simp only [hwd]))
      go_ret2
      exact ⟨_, _, rfl, IntsIn.empty _ _ _, hb.trans ((hb1.trans (hb2.mono hb1.size)).mono hb.size)⟩
    · have HP := gp_ok hv hwd
      rw [HP.1, HP.2]
      have hw3 := vword_true.1 hwd
      have hsz : s.size ≤ 60 := by have := hw3.2.1; simpa using this
      have hpos : 0 < s.size := by have := hw3.1; simpa using this
      have hln : s.data.toList.length - 1 = s.size - 1 := by simp
      rw [hln]
      have HTS := hide (fun k => gpT_succ F s.data.toList k)
      have HBY := hide (fun k (h : k < s.size) => byteAt_get s k h)
      have HTL := hide (gpT_len F s.data.toList (s.size - 1))
      have hown0 := World.ownsRow_nil w (w.heap.size + 1) 2 1
      clear hw3 HP hln
      obtain ⟨n, hn⟩ : ∃ n, s.size = n + 1 := ⟨s.size - 1, by omega⟩
      have hn1 : s.size - 1 = n := by omega
      rw [hn1] at HTL ⊢
      have hnn : ((s.size : Int) - 1) = (n : Int) := by omega
      go_enter Try.func32, Try.ntmps32
      go_wp2_with (refine wpList_load_mid rfl 48 (.tmp 2) rfl _ 0 rfl _ _ hr Try.underlying48 rfl (HII.out _) ?_)
      have hW0s : (w.alloc (.cells (fc F (.slice A F.ps.length c)).toArray 48)).heap.size = w.heap.size + 1 := by simp
      generalize (w.alloc (.cells (fc F (.slice A F.ps.length c)).toArray 48)) = W0 at *
      refine HC.out.mono ?_
      rintro e w1 ⟨rfl, hb1⟩
      simp only [hv]
      go_wp2_with fail
      refine (HWo.out _).mono ?_
      rintro e w2 ⟨rfl, hb2⟩
      simp only [hwd]
      have hB := hb1.trans (hb2.mono hb1.size)
      have hr2 := rangeAt_below hr hB hs0
      have hA2 : PairsAt w2 w.heap.size A F.ps := BA.below (hB.mono hb.size)
      have hs2 : w.heap.size < w2.heap.size := Nat.lt_of_lt_of_le hs0 hB.size
      have hBw := hb.trans (hB.mono hb.size)
      have hown2 := World.ownsRow_nil w2 (w.heap.size + 1) 2 1
      clear hr BA hA hb1 hb2 hb hown0 HC HWo
      have HA2 := hide hA2
      clear hA2
      go_wp2
      go_loopw [6, 19] (fun br i wr => ∃ k : Nat, k ≤ n ∧ i = .int .i64 k ∧ wr.ownsRow (w.heap.size + 1) 2 1 br k ((gpT F s.data.toList k).map (.int .i64)) ∧ w.heap.size < wr.heap.size ∧ Below (w.heap.size + 1) w2 wr)
        (fun _ i _ => n - (intOf i).toNat)
      case atStart => exact ⟨0, by omega, rfl, hown2, hs2, Below.refl _ _⟩
      case round =>
        obtain ⟨k, hk, rfl, hown, hsz2, hBB⟩ := hrel
        obtain ⟨Ab, cbb, rfl, hcap, _⟩ := cellsIn_of_own hown (by omega)
        have hbs := hBB.size
        have HOWN := hide hown
        clear hown
        by_cases hlt : k < n
        · have hi : (k : Int) < n := by omega
          have h0 : (0 : Int) ≤ k := by omega
          have hrr := rangeAt_below hr2 hBB (by omega)
          have hAA : PairsAt wr (w.heap.size + 1) A F.ps := (HA2.out.mono (show w.heap.size ≤ w.heap.size + 1 by omega)).below hBB
          have HRR := hide (fun w' (h : Below (w.heap.size + 1) wr w') => rangeAt_below hrr h (by omega))
          have HGG := hide (fun W (h : Below (w.heap.size + 1) wr W) => gapOf_any F hF A c (byteAt s.data.toList k) (byteAt s.data.toList (k + 1)) W hv ((hAA.below h).mono (Nat.le_trans hsz2 h.size)))
          have hx1 := HBY.out k (by omega)
          have hx2 := HBY.out (k + 1) (by omega)
          have HTU := hide (HTS.out k)
          have hk1 : k < s.size := by omega
          have hk2 : k + 1 < s.size := by omega
          have hki : ¬ ((n : Int) + 1 ≤ (k : Int)) := by omega
          have hki2 : ¬ ((k : Int) + 1 < 0) := by omega
          have hki3 : (k : Int) + 1 < (n : Int) + 1 := by omega
          have hki4 : (k : Int) < (n : Int) + 1 := by omega
          have hki5 : (0 : Int) ≤ (k : Int) + 1 := by omega
          have hw1 := IntWalk.i64_in ((k : Int) + 1) ⟨by omega, by omega⟩
          clear hrr hAA
          generalize F.gp + byL F.ps (byteAt s.data.toList k) (byteAt s.data.toList (k + 1)) = q at *
          go_wp2
          refine wp_region_script [(0, true), (1, true), (2, true), (3, true), (4, true), (5, true), (6, true), (7, true), (8, true), (9, false), (10, false), (11, false), (12, false)]
            (fun w' => Below (w.heap.size + 1) wr w') (by kernel_rfl) (by kernel_rfl) (of_decide_eq_true (by kernel_rfl)) (by kernel_rfl) (fun _ _ d _ _ h => by cases d <;> exact h) ((Below.refl _ _).drew) ?_
          refine sc_take (.slice Ab k cbb) rfl (.inl ⟨rfl, fun w' h => rfl⟩) ?_
          simp only [List.getElem_toArray, List.getElem_cons_succ, List.getElem_cons_zero, Act.put, List.setIfInBounds_toArray, List.set_cons_zero, List.set_cons_succ]
          refine sc_take (.agg (fc F (.slice A F.ps.length c)).toArray) rfl (yieldsIf_load_mid (by rfl) _ (.tmp 2) rfl _ 0 rfl _ _ (fun w h => HRR.out w h) Try.underlying48 rfl (HII.out _)) ?_
          simp only [List.getElem_toArray, List.getElem_cons_succ, List.getElem_cons_zero, Act.put, List.setIfInBounds_toArray, List.set_cons_zero, List.set_cons_succ]
          refine sc_take (.string s) rfl (.inl ⟨rfl, fun w' h => rfl⟩) ?_
          simp only [List.getElem_toArray, List.getElem_cons_succ, List.getElem_cons_zero, Act.put, List.setIfInBounds_toArray, List.set_cons_zero, List.set_cons_succ]
          refine sc_take (.int .i64 k) rfl (.inl ⟨rfl, fun w' h => rfl⟩) ?_
          simp only [List.getElem_toArray, List.getElem_cons_succ, List.getElem_cons_zero, Act.put, List.setIfInBounds_toArray, List.set_cons_zero, List.set_cons_succ]
          refine sc_take (.int .u8 (byteAt s.data.toList k)) rfl (yi_index rfl rfl Try.underlying9 rfl rfl (by omega)) ?_
          simp only [List.getElem_toArray, List.getElem_cons_succ, List.getElem_cons_zero, Act.put, List.setIfInBounds_toArray, List.set_cons_zero, List.set_cons_succ]
          refine sc_take (.string s) rfl (.inl ⟨rfl, fun w' h => rfl⟩) ?_
          simp only [List.getElem_toArray, List.getElem_cons_succ, List.getElem_cons_zero, Act.put, List.setIfInBounds_toArray, List.set_cons_zero, List.set_cons_succ]
          refine sc_take (.int .i64 k) rfl (.inl ⟨rfl, fun w' h => rfl⟩) ?_
          simp only [List.getElem_toArray, List.getElem_cons_succ, List.getElem_cons_zero, Act.put, List.setIfInBounds_toArray, List.set_cons_zero, List.set_cons_succ]
          refine sc_take (.int .i64 ((k + 1 : Nat) : Int)) rfl (yi_add64 rfl rfl rfl rfl (by omega) (by omega)) ?_
          simp only [List.getElem_toArray, List.getElem_cons_succ, List.getElem_cons_zero, Act.put, List.setIfInBounds_toArray, List.set_cons_zero, List.set_cons_succ]
          refine sc_take (.int .u8 (byteAt s.data.toList (k + 1))) rfl (yi_index rfl rfl Try.underlying9 rfl rfl (by omega)) ?_
          simp only [List.getElem_toArray, List.getElem_cons_succ, List.getElem_cons_zero, Act.put, List.setIfInBounds_toArray, List.set_cons_zero, List.set_cons_succ]
          refine sc_step rfl ?_
          go_wp2_with fail
          refine (HGG.out _ ((Below.refl _ _).drew)).mono ?_
          rintro e w3 ⟨rfl, hb3⟩
          have hb30 : Below (w.heap.size + 1) wr w3 := (Below.refl _ _).drew.trans (hb3.mono (show w.heap.size + 1 ≤ wr.heap.size from hsz2))
          have hb31 : Below wr.heap.size wr w3 := (Below.refl _ _).drew.trans hb3
          go_wp2_with fail
          refine ⟨hb30, sc_step rfl ?_⟩
          go_wp2_with fail
          have hs3 := hb31.size
          have hBd : Below (w.heap.size + 1) wr (w3.alloc (.cells #[.int .i64 q] 2)) := hb30.alloc (by omega) _
          have hBe : Below wr.heap.size wr (w3.alloc (.cells #[.int .i64 q] 2)) := hb31.alloc (by omega) _
          refine ⟨hBd, sc_step rfl ?_⟩
          have hownd : (w3.alloc (.cells #[.int .i64 q] 2)).ownsRow (w.heap.size + 1) 2 1 (.slice Ab k cbb) k ((gpT F s.data.toList k).map (.int .i64)) := own_go HOWN.out hBe
          refine wpList_append_own _ rfl (.tmp 22) (.tmp 32) 34 rfl (w.heap.size + 1) 2 i0 (.int .i64 0) 1 8 Try.underlying34 hi0 hz0 hz1 hz2 rfl (by decide) _ k _ rfl hownd ⟨w3.heap.size, 0, none⟩ 1 1 [.int .i64 q] rfl rfl (one_cell _) (one_one rfl) ?h1 ?h2 ?h3 ?_
          case h1 => unfold maxLen; omega
          case h2 => omega
          case h3 => first | omega | (simp; omega) | simp
          intro v' w4 hown4 hg4 _
          obtain ⟨A4, c4, rfl, _, _⟩ := cellsIn_of_own hown4 (by omega)
          have H4 := hide hown4
          have hbk : Below (w.heap.size + 1) wr w4 := hBd.trans (grown_toBelow hg4 (by simp; omega) (fun k hk => (hownd.lt k hk).1))
          have hs4 := hbk.size
          clear hown4 hg4
          go_wp2_with fail
          refine ⟨hbk, sc_step rfl ?_⟩
          go_wp2_with fail
          refine ⟨hbk, sc_nil ?_⟩
          go_wp2
          refine ⟨⟨k + 1, by omega, by go_num, ?_, by omega, hBB.trans hbk⟩, by simp [intOf]; omega⟩
          rw [HTU.out, List.map_append]
          exact H4.out
        · obtain rfl : k = n := by omega
          obtain ⟨Ag, cg, e, _, hI⟩ := intsIn_of_own HOWN.out
          injection e with e1 e2 e3
          subst e1 e3
          have HI := hide hI
          clear hI
          go_wp2
          go_ret2
          exact ⟨Ab, cbb, by rw [HTL.out]; rfl, HI.out.wider (by omega), hBw.trans (hBB.mono (show w.heap.size ≤ w.heap.size + 1 by omega))⟩

end Go.Proofs.Ytcbijfbeapeliaa
