/- FillTwo of the model. -/
import Derived.Test.YtajlbfbpkafjfaaF2W
namespace Go.Proofs.Ytajlbfbpkafjfaa
open Go.RowKit

set_option maxRecDepth 100000 in
set_option maxHeartbeats 8000000 in
theorem specFillTwo_any (F : Fc) (hF : F.ok) (A : Option Addr) (c : Nat) (l : ByteArray) (hl : l.size ≤ 1048576) (r : ByteArray) (hr : r.size ≤ 1048576) (T : Option Addr) (ts : List ByteArray) (ct : Nat) (htn : ts.length ≤ maxLen) (htx : ∀ x ∈ ts, x.size ≤ maxLen) (x y : Int) (w : World) (hA : PairsAt w w.heap.size A F.ps) (hT : StrsAt w w.heap.size T ts) :
    Calls Try.prog 35 #[.agg (fc F (.slice A F.ps.length c)).toArray, .string l, .string r, .slice T ts.length ct, .int .i64 x, .int .i64 y] w (P2Back (f2R F l r ts x y) (flC F l.data.toList r.data.toList ts x y) w) := by
  obtain ⟨i0, hi0, hz0, hz1, hz2⟩ := info_parts Try.infoA2
  have r0 := rangeAt_new w (fc F (.slice A F.ps.length c)) 38
  have hb0 : Below w.heap.size w (w.alloc (.cells (fc F (.slice A F.ps.length c)).toArray 38)) := (Below.refl _ _).alloc (Nat.le_refl _) _
  have hs0 : (w.alloc (.cells (fc F (.slice A F.ps.length c)).toArray 38)).heap.size = w.heap.size + 1 := by simp
  have hA0 := hA.below hb0
  have hT0 := hT.below hb0
  clear hA hT
  generalize hWW : (w.alloc (.cells (fc F (.slice A F.ps.length c)).toArray 38)) = W0 at *
  have hB1 : Below w.heap.size w (W0.alloc (.cells #[] 108)) := hb0.alloc (by omega) _
  have HO1 : Hid ((W0.alloc (.cells #[] 108)).ownsRow W0.heap.size 108 2 (.slice (some ⟨W0.heap.size, 0, none⟩) 0 0) 0 []) := hide (World.ownsRow_lit W0 #[] 0 (Nat.le_refl _) (by unfold maxLen; omega) rfl)
  rw [hs0] at HO1
  have hs1 : (W0.alloc (.cells #[] 108)).heap.size = w.heap.size + 1 + 1 := by simp [hs0]
  have r1 := World.rangeAt_alloc r0 (.cells #[] 108)
  have hbA : Below W0.heap.size W0 (W0.alloc (.cells #[] 108)) := (Below.refl _ _).alloc (Nat.le_refl _) _
  have hA1 := (hA0.below (hbA.mono (by omega))).mono (show w.heap.size ≤ (W0.alloc (.cells #[] 108)).heap.size by omega)
  have hT1 := (hT0.below (hbA.mono (by omega))).mono (show w.heap.size ≤ (W0.alloc (.cells #[] 108)).heap.size by omega)
  have HAS := hide (l04Asked_any F hF w.heap.size A c l r T ts ct x y (W0.alloc (.cells #[] 108)) (by unfold maxLen; omega) (by unfold maxLen; omega) htn htx r1 hA1 hT1)
  by_cases hcode : flC F l.data.toList r.data.toList ts x y = 0
  · rw [f2_ok hcode]
    obtain ⟨z1, z2, z3, _, _, _⟩ := fl_zero hcode
    obtain ⟨hl12, hall⟩ := vlist_true.1 z2
    rw [hcode] at HAS ⊢
    have HLN : Hid (∀ i j, i ≤ ts.length → j ≤ ts.length → ((ptTo ts.length i j).filter (f2P F l r ts x y)).length ≤ 200) := hide (fun i j hi hj => by
      refine Nat.le_trans (List.length_filter_le _ _) ?_
      rw [ptTo_len]
      have := Nat.mul_le_mul (Nat.le_trans hi hl12) hl12
      omega)
    have HF1 := hide (fun i j => @filter_app ts.length i j (f2P F l r ts x y))
    have HF2 := hide (fun i j => @filter_skip ts.length i j (f2P F l r ts x y))
    have HRW := hide (fun i => ptTo_row ts.length i)
    have hzz : ptTo ts.length 0 0 = [] := ptTo_zero _
    have HZZ := hide hzz
    unfold prsL
    have HALL := hide hall
    have HFT := hide (fun L => @fit_spec F hF z1 L x z3 y)
    have HOFF := hide (fun m1 m2 (hm1 : m1.size ≤ 20) (hm2 : m2.size ≤ 20) W (hW : Below (w.heap.size + 1) (W0.alloc (.cells #[] 108)) W) =>
      l04Off_any F hF w.heap.size A c (l ++ m1 ++ ⟨#[32]⟩ ++ m2 ++ r) x W (by rw [append_size, append_size, append_size, append_size]; show l.size + m1.size + 1 + m2.size + r.size ≤ 1048576 * 4; omega) z1 z3 (rangeAt_below r1 hW (Nat.lt_succ_self _)) (Nat.lt_of_lt_of_le (show w.heap.size < (W0.alloc (.cells #[] 108)).heap.size by omega) hW.size)
        (((hA0.below (hbA.mono (by omega))).below (hW.mono (by omega))).mono (Nat.le_trans (show w.heap.size ≤ (W0.alloc (.cells #[] 108)).heap.size by omega) hW.size)))
    have HTT := hide (hT0.below (hbA.mono (by omega)))
    obtain ⟨n, hL⟩ : ∃ n, ts.length = n := ⟨_, rfl⟩
    have HL := hide hL
    rw [hL] at hl12 HAS HLN HF1 HF2 HRW HZZ ⊢
    clear hL hzz hall hA1 hT1 hA0 hT0 htn htx r0 r1
    go_enter Try.func35, Try.ntmps35
    go_wp2_with fail
    generalize hW1 : (W0.alloc (.cells #[] 108)) = W1 at *
    refine HAS.out.mono ?_
    rintro e w2 ⟨rfl, hb2⟩
    have hB2 : Below (w.heap.size + 1) W1 w2 := hb2.mono (by omega)
    have HO2 := hide (own_go HO1.out hb2)
    clear hb2
    go_wp2
    go_loopw [14, 16] (fun br i wr => ∃ k : Nat, k ≤ n ∧ i = .int .i64 k ∧ wr.ownsRow (w.heap.size + 1) 108 2 br ((ptTo n k 0).filter (f2P F l r ts x y)).length ((fl ((ptTo n k 0).filter (f2P F l r ts x y))).map (.int .i64)) ∧ Below (w.heap.size + 1) W1 wr)
      (fun _ i _ => n - (intOf i).toNat)
    case atStart => exact ⟨0, by omega, rfl, by rw [HZZ.out]; exact HO2.out, hB2⟩
    case round =>
      obtain ⟨k, hk, rfl, hown, hB⟩ := hrel
      obtain ⟨Ab, cbb, rfl, hcap, _⟩ := cellsIn_of_own hown (by omega)
      have hbs := hB.size
      have HOWN := hide hown
      clear hown
      by_cases hlt : k < n
      · obtain ⟨b, o, rfl, hb, hxs⟩ := HTT.out (by intro e; rw [e] at HL; have := HL.out; simp at this; omega)
        obtain ⟨m1, hm1⟩ : ∃ m, ts[k]? = some m := ⟨ts[k]'(by rw [HL.out]; exact hlt), List.getElem?_eq_getElem _⟩
        have hi : (k : Int) < n := by omega
        have h0 : (0 : Int) ≤ k := by omega
        have hms1 := (lw_true (lw_mem HALL.out (List.mem_of_getElem? hm1))).2.1
        have HXK := hide hm1
        have HXS := hide hxs
        clear hxs hm1
        obtain ⟨V1, hV1⟩ : ∃ V1, V1 = wr := ⟨_, rfl⟩
        subst hV1
        go_wp2
        go_loopw [14, 17] (fun br i wr => ∃ j : Nat, j ≤ n ∧ i = .int .i64 j ∧ wr.ownsRow (w.heap.size + 1) 108 2 br ((ptTo n k j).filter (f2P F l r ts x y)).length ((fl ((ptTo n k j).filter (f2P F l r ts x y))).map (.int .i64)) ∧ Below (w.heap.size + 1) W1 wr)
          (fun _ i _ => n - (intOf i).toNat)
        case atStart => exact ⟨0, by omega, rfl, HOWN.out, hB⟩
        case round =>
          obtain ⟨j, hj, rfl, hown, hB'⟩ := hrel
          obtain ⟨Ab', cbb', rfl, hcap', _⟩ := cellsIn_of_own hown (by omega)
          have HOWN2 := hide hown
          have hbs' := hB'.size
          clear hown
          by_cases hlt2 : j < n
          · obtain ⟨m2, hm2⟩ : ∃ m, ts[j]? = some m := ⟨ts[j]'(by rw [HL.out]; exact hlt2), List.getElem?_eq_getElem _⟩
            have hms2 := (lw_true (lw_mem HALL.out (List.mem_of_getElem? hm2))).2.1
            have c0 := Over.get ((hB'.cell (p := ⟨b, o + k, none⟩) (show b < w.heap.size + 1 by omega)).trans (HXS.out k m1 HXK.out))
            have c1 := Over.get ((hB'.cell (p := ⟨b, o + j, none⟩) (show b < w.heap.size + 1 by omega)).trans (HXS.out j m2 hm2))
            have hji : (j : Int) < n := by omega
            have hj0 : (0 : Int) ≤ j := by omega
            have hln := HLN.out k j hk hj
            have HPK : Hid (f2P F l r ts x y ((k : Int), (j : Int)) = filB F (l ++ m1 ++ ⟨#[32]⟩ ++ m2 ++ r).data.toList x y) := hide (by
              rw [f2P_at HXK.out hm2]
              congr 1
              simp only [append_data, List.append_assoc])
            have HOF := hide (fun W (hW : Below wr.heap.size wr W) => HOFF.out m1 m2 hms1 hms2 W (hB'.trans (hW.mono (by omega))))
            have HFS := hide (HFT.out (l ++ m1 ++ ⟨#[32]⟩ ++ m2 ++ r).data.toList)
            have s1 : (l ++ m1).size ≤ maxLen := by rw [append_size]; unfold maxLen; omega
            have s2 : (l ++ m1 ++ (⟨#[32]⟩ : ByteArray)).size ≤ maxLen := by rw [append_size, append_size]; show l.size + m1.size + 1 ≤ maxLen; unfold maxLen; omega
            have s3 : (l ++ m1 ++ (⟨#[32]⟩ : ByteArray) ++ m2).size ≤ maxLen := by rw [append_size, append_size, append_size]; show l.size + m1.size + 1 + m2.size ≤ maxLen; unfold maxLen; omega
            have s4 : (l ++ m1 ++ (⟨#[32]⟩ : ByteArray) ++ m2 ++ r).size ≤ maxLen := by rw [append_size, append_size, append_size, append_size]; show l.size + m1.size + 1 + m2.size + r.size ≤ maxLen; unfold maxLen; omega
            unfold maxLen at s1 s2 s3 s4
            clear hm2
            generalize offS F (l ++ m1 ++ ⟨#[32]⟩ ++ m2 ++ r).data.toList x = V at *
            cases hf : filB F (l ++ m1 ++ ⟨#[32]⟩ ++ m2 ++ r).data.toList x y
            · have HS := hide (HF2.out k j (by rw [HPK.out, hf]))
              have hin : inB V 0 y = false := by rw [HFS.out, hf]
              have HIN := hide (fun w => by have := l00In_any V 0 y w; rwa [hin] at this)
              go_wp2
              refine wp_region_over (by kernel_rfl) (by kernel_rfl) ?_
              repeat (go_big_quiet_step (first | (go_at_call 75; exact over_call (HOF.out _ (Over.h _))) | (go_at_call 74; exact over_same (HIN.out _))))
              refine wpQuiet_nil ?_
              intro w3 hb3
              clear c0 c1
              go_wp2
              refine ⟨⟨j + 1, by omega, by go_num, ?_, hB'.trans (hb3.mono (by omega))⟩, by simp [intOf]; omega⟩
              rw [HS.out]
              exact own_go HOWN2.out hb3
            · have HS := hide (HF1.out k j (by rw [HPK.out, hf]))
              have hin : inB V 0 y = true := by rw [HFS.out, hf]
              have HIN := hide (fun w => by have := l00In_any V 0 y w; rwa [hin] at this)
              go_wp2
              refine wp_region_over (by kernel_rfl) (by kernel_rfl) ?_
              repeat (go_big_quiet_step (first | (go_at_call 75; exact over_call (HOF.out _ (Over.h _))) | (go_at_call 74; exact over_same (HIN.out _))))
              refine wpQuiet_nil ?_
              intro w3 hb3
              clear c0 c1
              have HO3 := hide (own_go HOWN2.out hb3)
              have hB3 := hB'.trans (hb3.mono (by omega))
              have hs3 := hB3.size
              go_wp2_with (at_builtin; refine wpList_append_own _ rfl (.tmp 59) (.tmp 63) 48 rfl (w.heap.size + 1) 108 i0 (.agg #[.int .i64 0, .int .i64 0]) 2 16 Try.underlying48 hi0 hz0 hz1 hz2 rfl (by decide) _ ((ptTo n k j).filter (f2P F l r ts x y)).length _ rfl (HO3.out.alloc _) ⟨w3.heap.size, 0, none⟩ 1 1 [.int .i64 (k : Int), .int .i64 (j : Int)] rfl rfl (two_cell _ _) (two_one rfl rfl) ?h1 ?h2 ?h3 ?_)
              case h1 => unfold maxLen; omega
              case h2 => omega
              case h3 => simp; omega
              intro v' w4 hown4 hg4 _
              obtain ⟨A4, c4, rfl, _, _⟩ := cellsIn_of_own hown4 (by omega)
              have H4 := hide hown4
              have hg34 : w3.grownBy w4 _ := grown_trans (World.grownBy_alloc w3 _ _) hg4
              have hB4 := hB3.trans (grown_toBelow hg34 (by omega) (fun k hk => (HO3.out.lt k hk).1))
              clear hown4 hg4 hg34
              go_wp2
              refine ⟨⟨j + 1, by omega, by go_num, ?_, hB4⟩, by simp [intOf]; omega⟩
              rw [HS.out, fl_app, List.map_append, List.length_append]
              exact H4.out
          · obtain rfl : j = n := by omega
            go_wp2
            refine ⟨⟨k + 1, by omega, by go_num, ?_, hB'⟩, by simp [intOf]; omega⟩
            rw [← HRW.out]
            exact HOWN2.out
      · obtain rfl : k = n := by omega
        obtain ⟨Ag, cg, e, _, hI⟩ := p2In_of_own HOWN.out
        injection e with e1' e2' e3'
        subst e1' e3'
        have HI := hide hI
        clear hI
        go_wp2
        go_ret2
        exact ⟨Ab, cbb, rfl, HI.out.wider (by omega), hB1.trans (hB.mono (by omega))⟩
  · rw [f2_no hcode]
    have hd : (flC F l.data.toList r.data.toList ts x y != 0) = true := by simpa using hcode
    have HNE := hide hcode
    clear hA1 hT1 hA0 hT0 htn htx hcode r0 r1
    generalize flC F l.data.toList r.data.toList ts x y = C at *
    generalize ts.length = n at *
    go_enter Try.func35, Try.ntmps35
    go_wp2_with fail
    refine HAS.out.mono ?_
    rintro e w2 ⟨rfl, hb2⟩
    go_wp2
    go_ret2
    exact ⟨_, 0, rfl, P2In.empty _ _ _, hB1.trans (hb2.mono (by omega))⟩
end Go.Proofs.Ytajlbfbpkafjfaa
