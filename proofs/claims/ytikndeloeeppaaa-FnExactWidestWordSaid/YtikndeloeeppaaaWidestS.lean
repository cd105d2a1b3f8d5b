/- WidestWord of the model. -/
import Derived.Test.YtikndeloeeppaaaWordNe
import Derived.Test.YtikndeloeeppaaaGreedyS
namespace Go.Proofs.Ytikndeloeeppaaa
open Go Go.RowKit

theorem ret_iii {i j a b c d : Int} {k k' k'' : IntKind} (h : i = j) (h' : a = b) (h'' : c = d) : Ending.returned (.tuple #[.int k i, .int k' a, .int k'' c]) = .returned (.tuple #[.int k j, .int k' b, .int k'' d]) := by rw [h, h', h'']

set_option maxRecDepth 100000 in
set_option maxHeartbeats 4000000 in
theorem specWidestWord_any (F : Fc) (hF : F.ok) (A : Option Addr) (c : Nat) (s : ByteArray) (hs : s.size ≤ maxLen) (w : World) (hA : PairsAt w w.heap.size A F.ps) :
    Calls Try.prog 36 #[.agg (fc F (.slice A F.ps.length c)).toArray, .string s] w fun e w' => e = .returned (.tuple #[.int .i64 (wiI F s.data.toList), .int .i64 (wiV F s.data.toList), .int .i64 (wiC F s.data.toList)]) ∧ Below w.heap.size w w' := by
  have hr := rangeAt_new w (fc F (.slice A F.ps.length c)) 32
  have hb : Below w.heap.size w (w.alloc (.cells (fc F (.slice A F.ps.length c)).toArray 32)) := (Below.refl _ _).alloc (Nat.le_refl _) _
  have hs0 : w.heap.size < (w.alloc (.cells (fc F (.slice A F.ps.length c)).toArray 32)).heap.size := by simp
  have BA := (hA.below hb).mono hb.size
  have HC := hide (l01Asked_any F hF _ A c s true _ hs hr BA)
  by_cases hok : vface F = true ∧ vtext s.data.toList = true
  · obtain ⟨hv, ht⟩ := hok
    have hwl := words_len ht
    have hs60 : s.size ≤ 1048576 := by have := (vtext_true.1 ht).1; simp at this; omega
    have HW := hide (fun w => l01WordsC_any s w hs60)
    have HBL := hide (show (bas (wordsL s.data.toList)).length = (wordsL s.data.toList).length from List.length_map _)
    have HMEM := hide (fun k hk => wideL_bd hF hv (words_mem ht (getD_mem (ws := wordsL s.data.toList) (k := k) hk)).2 (words_mem ht (getD_mem hk)).1)
    have HPOS := hide (fun k hk => wideL_pos hF hv (words_mem ht (getD_mem (ws := wordsL s.data.toList) (k := k) hk)).2 (words_ne ht (getD_mem hk)))
    have HL1 := hide (fun (k : Nat) (hk : k < (wordsL s.data.toList).length) (W : World) (hB : Below (w.alloc (.cells (fc F (.slice A F.ps.length c)).toArray 32)).heap.size (w.alloc (.cells (fc F (.slice A F.ps.length c)).toArray 32)) W) => l01Wide_any F hF w.heap.size A c ⟨((wordsL s.data.toList).getD k []).toArray⟩ W hv (words_mem ht (getD_mem hk)).2 (by simpa [ByteArray.size] using (words_mem ht (getD_mem hk)).1) (rangeAt_below hr hB hs0) ((BA.below hB).mono hB.size))
    have hap : askC F s.data.toList true = 0 := by rw [ask_ok hv ht]; rfl
    rw [hap] at HC
    have hn0 : s.data.toList = [] → (wordsL s.data.toList).length = 0 := fun e => by rw [e]; rfl
    have hn1 : s.data.toList ≠ [] → 0 < (wordsL s.data.toList).length := fun e => by
      unfold wordsL; rw [if_neg e]; exact List.length_pos_iff.2 (splitL_ne _)
    have HE := hide (fun e => wi_empty (F := F) hv ht e)
    have HO := hide (fun e => wi_ok (F := F) hv ht e)
    have HBD := hide (wiTo_bd (F := F) (ws := wordsL s.data.toList) HMEM.out)
    have HN := hide (show s.data.toList = [] ∧ (wordsL s.data.toList).length = 0 ∨ s.data.toList ≠ [] ∧ 0 < (wordsL s.data.toList).length from by
      by_cases e : s.data.toList = []
      · exact .inl ⟨e, hn0 e⟩
      · exact .inr ⟨e, hn1 e⟩)
    generalize wiC F s.data.toList = C at *
    generalize wiI F s.data.toList = I at *
    generalize wiV F s.data.toList = V at *
    generalize wordsL s.data.toList = ws at *
    generalize hL : ws.length = n at *
    have HLW := hide hL
    clear hA BA hv ht hap hn0 hn1 hs60 hr hL
    go_enter Try.func36, Try.ntmps36
    go_wp2_with (go_at_call 95; refine HC.out.mono ?_; rintro e w1 ⟨rfl, hb1⟩)
    refine (HW.out w1).mono ?_
    rintro e w2 ⟨A2, c2, rfl, hc2, hP2, hb2⟩
    rw [HBL.out]
    have hB2 := hb1.trans (hb2.mono hb1.size)
    have HS := hide hP2.at_
    have HBG := hide (fun (k : Nat) (hk : k < n) => bas_get (ws := ws) (k := k) (by rw [HLW.out]; exact hk))
    clear hP2
    go_wp2
    go_loopw [8, 9, 11, 12] (fun b m i _ wr => ∃ k : Nat, k ≤ n ∧ i = .int .i64 k ∧ m = .int .i64 (wiTo F ws k).2 ∧ b = .int .i64 (if k = 0 then -1 else ((wiTo F ws k).1 : Int)) ∧ Below (w.alloc (.cells (fc F (.slice A F.ps.length c)).toArray 32)).heap.size (w.alloc (.cells (fc F (.slice A F.ps.length c)).toArray 32)) wr ∧ Below w2.heap.size w2 wr)
      (fun _ _ i _ _ => n - (intOf i).toNat)
    case atStart => exact ⟨0, by omega, rfl, rfl, rfl, hB2, Below.refl _ _⟩
    case round =>
      obtain ⟨k, hk, rfl, rfl, rfl, hB, hB'⟩ := hrel
      by_cases hlt : k < n
      · have hi : (k : Int) < n := by omega
        have h0 : (0 : Int) ≤ k := by omega
        have hne : bas ws ≠ [] := by intro e; have := HBG.out k hlt; rw [e] at this; cases this
        obtain ⟨b2, o2, rfl, hb2', hps⟩ := HS.out hne
        have cw : wr.cell? ⟨b2, o2 + k, none⟩ = some (.string ⟨(ws.getD k []).toArray⟩) := (hB'.cell (p := ⟨b2, o2 + k, none⟩) hb2').trans (hps k _ (HBG.out k hlt))
        have HW1 := hide (HL1.out k hlt wr hB)
        have hpos := HPOS.out k hlt
        have hbd := HBD.out k hk
        have HNX := hide (fun h => wiTo_next (F := F) (ws := ws) (k := k) h)
        have HSM := hide (fun h => wiTo_same (F := F) (ws := ws) (k := k) h)
        have hz : k = 0 → wiTo F ws k = (0, 0) := fun e => by subst e; rfl
        clear hps hne
        generalize wideL F (ws.getD k []) = T at *
        generalize ws.getD k [] = y at cw HW1
        generalize hwk : wiTo F ws k = R at *
        obtain ⟨bi, bm⟩ := R
        dsimp only at hbd HNX HSM ⊢
        by_cases hw : bm < T
        · have HSTEP := hide (HNX.out hw)
          clear HNX HSM
          have hc2k : (k : Int) < c2 := by omega
          by_cases hk0 : k = 0
          · rw [if_pos hk0]
            clear hk0 hz
            go_wp2_with (go_at_call 100; refine HW1.out.mono ?_; rintro e w3 ⟨rfl, hb3⟩)
            exact ⟨⟨k + 1, by omega, by go_num, by rw [HSTEP.out], by rw [HSTEP.out]; rfl, hB.trans (hb3.mono hB.size), hB'.trans (hb3.mono hB'.size)⟩, by simp [intOf]; omega⟩
          · have hbi : ¬ (bi : Int) < 0 := by omega
            rw [if_neg hk0]
            go_wp2_with (go_at_call 100; refine HW1.out.mono ?_; rintro e w3 ⟨rfl, hb3⟩)
            exact ⟨⟨k + 1, by omega, by go_num, by rw [HSTEP.out], by rw [HSTEP.out]; rfl, hB.trans (hb3.mono hB.size), hB'.trans (hb3.mono hB'.size)⟩, by simp [intOf]; omega⟩
        · have HSTEP := hide (HSM.out hw)
          have hk0 : k ≠ 0 := fun e => by have := hz e; injection this with _ h2; omega
          have hbi : ¬ (bi : Int) < 0 := by omega
          rw [if_neg hk0]
          clear HNX HSM hz
          go_wp2_with (go_at_call 100; refine HW1.out.mono ?_; rintro e w3 ⟨rfl, hb3⟩)
          exact ⟨⟨k + 1, by omega, by go_num, by rw [HSTEP.out], by rw [HSTEP.out, if_neg (by omega)], hB.trans (hb3.mono hB.size), hB'.trans (hb3.mono hB'.size)⟩, by simp [intOf]; omega⟩
      · obtain rfl : k = n := by omega
        rcases HN.out with ⟨e, e0⟩ | ⟨e, e0⟩
        · obtain ⟨p1, p2, p3, _⟩ := HE.out e
          have HP := hide (⟨p2, p3, p1⟩ : _ ∧ _ ∧ _)
          rw [if_pos e0]
          clear p1 p2 p3 HO HE e
          go_wp2
          go_ret3
          exact ⟨ret_iii HP.out.1.symm HP.out.2.1.symm HP.out.2.2.symm, hb.trans (hB.mono hb.size)⟩
        · obtain ⟨p1, p2, p3, _⟩ := HO.out e
          have HP := hide (⟨p2, p3, p1⟩ : _ ∧ _ ∧ _)
          have hq : ¬ ((wiTo F ws k).1 : Int) < 0 := by omega
          rw [if_neg (by omega)]
          clear p1 p2 p3 HO HE e
          generalize wiTo F ws k = R at *
          go_wp2
          go_ret3
          exact ⟨ret_iii HP.out.1.symm HP.out.2.1.symm HP.out.2.2.symm, hb.trans (hB.mono hb.size)⟩
  · obtain ⟨p1, p2, p3, p4⟩ := wi_no (F := F) hok
    rw [p4] at HC
    rw [p1, p2, p3]
    clear hA BA hok p1 p2 p3 p4 hr
    go_enter Try.func36, Try.ntmps36
    go_wp2_with (go_at_call 95; refine HC.out.mono ?_; rintro e w1 ⟨rfl, hb1⟩)
    go_ret3
    exact ⟨rfl, hb.trans (hb1.mono hb.size)⟩
end Go.Proofs.Ytikndeloeeppaaa
