/- FillWord of the model. -/
import Derived.Test.YtajlbfbpkafjfaaFlW
namespace Go.Proofs.Ytajlbfbpkafjfaa
open Go.RowKit

set_option maxRecDepth 100000 in
set_option maxHeartbeats 8000000 in
theorem specFillWord_any (F : Fc) (hF : F.ok) (A : Option Addr) (c : Nat) (l : ByteArray) (hl : l.size ≤ 1048576) (r : ByteArray) (hr : r.size ≤ 1048576) (T : Option Addr) (ts : List ByteArray) (ct : Nat) (htn : ts.length ≤ maxLen) (htx : ∀ x ∈ ts, x.size ≤ maxLen) (x y : Int) (w : World) (hA : PairsAt w w.heap.size A F.ps) (hT : StrsAt w w.heap.size T ts) :
    Calls Try.prog 24 #[.agg (fc F (.slice A F.ps.length c)).toArray, .string l, .string r, .slice T ts.length ct, .int .i64 x, .int .i64 y] w (IntsBack (fwR F l r ts x y) (flC F l.data.toList r.data.toList ts x y) w) := by
  obtain ⟨i0, hi0, hz0, hz1, hz2⟩ := info_parts Try.infoI64
  have r0 := rangeAt_new w (fc F (.slice A F.ps.length c)) 38
  have hb0 : Below w.heap.size w (w.alloc (.cells (fc F (.slice A F.ps.length c)).toArray 38)) := (Below.refl _ _).alloc (Nat.le_refl _) _
  have hs0 : (w.alloc (.cells (fc F (.slice A F.ps.length c)).toArray 38)).heap.size = w.heap.size + 1 := by simp
  have hA0 := hA.below hb0
  have hT0 := hT.below hb0
  clear hA hT
  generalize hWW : (w.alloc (.cells (fc F (.slice A F.ps.length c)).toArray 38)) = W0 at *
  have hB1 : Below w.heap.size w (W0.alloc (.cells #[] 2)) := hb0.alloc (by omega) _
  have HO1 : Hid ((W0.alloc (.cells #[] 2)).ownsRow W0.heap.size 2 1 (.slice (some ⟨W0.heap.size, 0, none⟩) 0 0) 0 []) := hide (World.ownsRow_lit W0 #[] 0 (Nat.le_refl _) (by unfold maxLen; omega) rfl)
  rw [hs0] at HO1
  have hs1 : (W0.alloc (.cells #[] 2)).heap.size = w.heap.size + 1 + 1 := by simp [hs0]
  have r1 := World.rangeAt_alloc r0 (.cells #[] 2)
  have hbA : Below W0.heap.size W0 (W0.alloc (.cells #[] 2)) := (Below.refl _ _).alloc (Nat.le_refl _) _
  have hA1 := (hA0.below (hbA.mono (by omega))).mono (show w.heap.size ≤ (W0.alloc (.cells #[] 2)).heap.size by omega)
  have hT1 := (hT0.below (hbA.mono (by omega))).mono (show w.heap.size ≤ (W0.alloc (.cells #[] 2)).heap.size by omega)
  have HAS := hide (l04Asked_any F hF w.heap.size A c l r T ts ct x y (W0.alloc (.cells #[] 2)) (by unfold maxLen; omega) (by unfold maxLen; omega) htn htx r1 hA1 hT1)
  by_cases hcode : flC F l.data.toList r.data.toList ts x y = 0
  · rw [fw_ok hcode]
    obtain ⟨z1, z2, z3, _, _, _⟩ := fl_zero hcode
    obtain ⟨hl12, hall⟩ := vlist_true.1 z2
    rw [hcode] at HAS ⊢
    have HLN : Hid (∀ k, ((idxL k).filter (fwP F l r ts x y)).length ≤ k) := hide (fun k => Nat.le_trans (List.length_filter_le _ _) (by rw [idxL_len]; omega))
    have HSU : Hid (∀ k, idxL (k + 1) = idxL k ++ [(k : Int)]) := hide (fun k => by simp [idxL, List.range_succ])
    have HALL := hide hall
    have HFT := hide (fun L => @fit_spec F hF z1 L x z3 y)
    have HOFF := hide (fun m (hm : m.size ≤ 20) W (hW : Below (w.heap.size + 1) (W0.alloc (.cells #[] 2)) W) =>
      l04Off_any F hF w.heap.size A c (l ++ m ++ r) x W (by rw [append_size, append_size]; omega) z1 z3 (rangeAt_below r1 hW (Nat.lt_succ_self _)) (Nat.lt_of_lt_of_le (show w.heap.size < (W0.alloc (.cells #[] 2)).heap.size by omega) hW.size)
        (((hA0.below (hbA.mono (by omega))).below (hW.mono (by omega))).mono (Nat.le_trans (show w.heap.size ≤ (W0.alloc (.cells #[] 2)).heap.size by omega) hW.size)))
    have HTT := hide (hT0.below (hbA.mono (by omega)))
    obtain ⟨n, hL⟩ : ∃ n, ts.length = n := ⟨_, rfl⟩
    have HL := hide hL
    rw [hL] at hl12 HAS ⊢
    clear hL hall hA1 hT1 hA0 hT0 htn htx r0 r1
    go_enter Try.func24, Try.ntmps24
    go_wp2_with fail
    generalize hW1 : (W0.alloc (.cells #[] 2)) = W1 at *
    refine HAS.out.mono ?_
    rintro e w2 ⟨rfl, hb2⟩
    have hB2 : Below (w.heap.size + 1) W1 w2 := hb2.mono (by omega)
    have HO2 := hide (own_go HO1.out hb2)
    clear hb2
    go_wp2
    go_loopw [14, 16] (fun br i wr => ∃ k : Nat, k ≤ n ∧ i = .int .i64 k ∧ wr.ownsRow (w.heap.size + 1) 2 1 br ((idxL k).filter (fwP F l r ts x y)).length (((idxL k).filter (fwP F l r ts x y)).map (.int .i64)) ∧ Below (w.heap.size + 1) W1 wr)
      (fun _ i _ => n - (intOf i).toNat)
    case atStart => exact ⟨0, by omega, rfl, by have : idxL 0 = [] := rfl; rw [this]; exact HO2.out, hB2⟩
    case round =>
      obtain ⟨k, hk, rfl, hown, hB⟩ := hrel
      obtain ⟨Ab, cbb, rfl, hcap, _⟩ := cellsIn_of_own hown (by omega)
      have hbs := hB.size
      have HOWN := hide hown
      clear hown
      by_cases hlt : k < n
      · obtain ⟨b, o, rfl, hb, hxs⟩ := HTT.out (by intro e; rw [e] at HL; have := HL.out; simp at this; omega)
        obtain ⟨m, hmk⟩ : ∃ m, ts[k]? = some m := ⟨ts[k]'(by rw [HL.out]; exact hlt), List.getElem?_eq_getElem _⟩
        have c0 : wr.cell? ⟨b, o + k, none⟩ = some (.string m) := (hB.cell (p := ⟨b, o + k, none⟩) (show b < w.heap.size + 1 by omega)).trans (hxs k m hmk)
        have hi : (k : Int) < n := by omega
        have h0 : (0 : Int) ≤ k := by omega
        have hln := HLN.out k
        have hms := (lw_true (lw_mem HALL.out (List.mem_of_getElem? hmk))).2.1
        have HPK : Hid (fwP F l r ts x y (k : Int) = filB F (l ++ m ++ r).data.toList x y) := hide (by unfold fwP; rw [show ts.getD ((k : Nat) : Int).toNat ⟨#[]⟩ = m from by simp [List.getD, hmk]])
        have HE := hide (show (idxL (k + 1)).filter (fwP F l r ts x y) = (idxL k).filter (fwP F l r ts x y) ++ (if filB F (l ++ m ++ r).data.toList x y = true then [(k : Int)] else []) by
          rw [HSU.out, List.filter_append]
          congr 1
          rw [← HPK.out]
          simp only [List.filter_cons, List.filter_nil])
        have HOF := hide (HOFF.out m hms wr hB)
        have HFS := hide (HFT.out (l ++ m ++ r).data.toList)
        have hlm : (l ++ m).size ≤ maxLen := by rw [append_size]; unfold maxLen; omega
        have hlmr : (l ++ m ++ r).size ≤ maxLen := by rw [append_size, append_size]; unfold maxLen; omega
        unfold maxLen at hlm hlmr
        clear hxs hmk
        generalize offS F (l ++ m ++ r).data.toList x = V at *
        cases hf : filB F (l ++ m ++ r).data.toList x y
        · have HE2 : Hid ((idxL (k + 1)).filter (fwP F l r ts x y) = (idxL k).filter (fwP F l r ts x y)) := hide (by rw [HE.out, hf]; simp)
          have hin : inB V 0 y = false := by rw [HFS.out, hf]
          go_wp2_with fail
          refine HOF.out.mono ?_
          rintro e w3 ⟨rfl, hb3⟩
          clear c0
          go_wp2_with (go_at_call 74; refine (l00In_any _ _ _ _).mono ?_; rintro e w' ⟨rfl, rfl⟩; simp only [hin])
          refine ⟨⟨k + 1, by omega, by go_num, ?_, hB.trans (hb3.mono (by omega))⟩, by simp [intOf]; omega⟩
          rw [HE2.out]
          exact own_go HOWN.out hb3
        · have HE2 : Hid ((idxL (k + 1)).filter (fwP F l r ts x y) = (idxL k).filter (fwP F l r ts x y) ++ [(k : Int)]) := hide (by rw [HE.out, hf]; rfl)
          have hin : inB V 0 y = true := by rw [HFS.out, hf]
          go_wp2_with fail
          refine HOF.out.mono ?_
          rintro e w3 ⟨rfl, hb3⟩
          have HO3 := hide (own_go HOWN.out hb3)
          have hB3 := hB.trans (hb3.mono (by omega))
          have hs3 := hB3.size
          clear c0
          go_wp2_with fail
          refine (l00In_any _ _ _ _).mono ?_
          rintro e w' ⟨rfl, rfl⟩
          simp only [hin]
          go_wp2_with (at_builtin; refine wpList_append_own _ rfl (.tmp 46) (.tmp 48) 33 rfl (w.heap.size + 1) 2 i0 (.int .i64 0) 1 8 Try.underlying33 hi0 hz0 hz1 hz2 rfl (by decide) _ ((idxL k).filter (fwP F l r ts x y)).length _ rfl (HO3.out.alloc _) ⟨w3.heap.size, 0, none⟩ 1 1 [.int .i64 (k : Int)] rfl rfl (one_cell _) (one_one rfl) ?h1 ?h2 ?h3 ?_)
          case h1 => unfold maxLen; omega
          case h2 => omega
          case h3 => simp; omega
          intro v' w4 hown4 hg4 _
          obtain ⟨A4, c4, rfl, _, _⟩ := cellsIn_of_own hown4 (by omega)
          have H4 := hide hown4
          have hg34 : w3.grownBy w4 _ := grown_trans (World.grownBy_alloc w3 _ _) hg4
          have hB4 := hB3.trans (grown_toBelow hg34 (by omega) (fun k hk => (HO3.out.lt k hk).1))
          clear hown4 hg4 hg34
          go_wp2
          refine ⟨⟨k + 1, by omega, by go_num, ?_, hB4⟩, by simp [intOf]; omega⟩
          rw [HE2.out, List.map_append, List.length_append]
          exact H4.out
      · obtain rfl : k = n := by omega
        obtain ⟨Ag, cg, e, _, hI⟩ := intsIn_of_own HOWN.out
        injection e with e1' e2' e3'
        subst e1' e3'
        have HI := hide hI
        clear hI
        go_wp2
        go_ret2
        exact ⟨Ab, cbb, rfl, HI.out.wider (by omega), hB1.trans (hB.mono (by omega))⟩
  · rw [fw_no hcode]
    have hd : (flC F l.data.toList r.data.toList ts x y != 0) = true := by simpa using hcode
    have HNE := hide hcode
    clear hA1 hT1 hA0 hT0 htn htx hcode r0 r1
    generalize flC F l.data.toList r.data.toList ts x y = C at *
    generalize ts.length = n at *
    go_enter Try.func24, Try.ntmps24
    go_wp2_with fail
    refine HAS.out.mono ?_
    rintro e w2 ⟨rfl, hb2⟩
    go_wp2
    go_ret2
    exact ⟨_, 0, rfl, IntsIn.empty _ _ _, hB1.trans (hb2.mono (by omega))⟩
end Go.Proofs.Ytajlbfbpkafjfaa
