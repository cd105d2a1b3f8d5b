/- LinesOf of the model. -/
import Derived.Test.YtikmmeohmkjbeaaLinesOfW
namespace Go.Proofs.Ytikmmeohmkjbeaa
open Go Go.RowKit Go.Maps

set_option maxRecDepth 100000 in
set_option maxHeartbeats 4000000 in
theorem specLinesOf_any (s : ByteArray) (hs : s.size ≤ maxLen) (B : Option Addr) (bs : List Int) (cb : Nat) (hbn : bs.length ≤ maxLen) (w : World) (hB : IntsAt w w.heap.size B bs) :
    Calls Try.prog 31 #[.string s, .slice B bs.length cb] w (StrsBack (loX s.data.toList bs) (loC s.data.toList bs) w) := by
  have HT := hide (fun w => l01Text_any s w hs)
  cases ht : vtext s.data.toList
  · obtain ⟨e1, e2⟩ := lo_text (bs := bs) ht
    rw [e1, e2]
    rw [ht] at HT
    clear e1 e2 ht hB
    go_enter Try.func31, Try.ntmps31
    go_wp2_with (go_at_call 76; refine (HT.out _).mono ?_; rintro e w' ⟨rfl, rfl⟩)
    go_ret2
    exact ⟨_, 0, rfl, StrsIn.empty _ _ _, (Below.refl _ _).alloc (Nat.le_refl _) _⟩
  · have hs60 : s.size ≤ 1048576 := by have := (vtext_true.1 ht).1; simp at this; omega
    have hwn := words_len ht
    have HW := hide (fun w => l01WordsC_any s w hs60)
    have HBL := hide (show (bas (wordsL s.data.toList)).length = (wordsL s.data.toList).length from List.length_map _)
    have HTD := hide (fun W (hW : Below w.heap.size w W) => l02Told_any B bs cb (wordsL s.data.toList).length W hwn hbn ((hB.below hW).mono hW.size))
    cases htd : told (wordsL s.data.toList).length bs
    · obtain ⟨e1, e2⟩ := lo_bad ht htd
      rw [e1, e2]
      rw [htd] at HTD
      rw [ht] at HT
      clear e1 e2 ht htd hB
      go_enter Try.func31, Try.ntmps31
      go_wp2_with (go_at_call 76; refine (HT.out _).mono ?_; rintro e w' ⟨rfl, rfl⟩)
      refine (HW.out w).mono ?_
      rintro e w1 ⟨A1, c1, rfl, hc1, hP1, hb1⟩
      rw [HBL.out]
      go_wp2_with (go_at_call 77; refine (HTD.out _ hb1).mono ?_; rintro e w2 ⟨rfl, hb2⟩)
      go_ret2
      have hBf := hb1.trans (hb2.mono hb1.size)
      exact ⟨_, 0, rfl, StrsIn.empty _ _ _, by first | exact hBf | exact hBf.alloc hBf.size _⟩
    · obtain ⟨e1, e2⟩ := lo_ok ht htd
      rw [e1, e2]
      rw [htd] at HTD
      rw [ht] at HT
      obtain ⟨i0, hi0, hz0, hz1, hz2⟩ := info_parts Try.infoString
      have hp := told_true.1 htd
      have hl := told_len hp
      have hmem : ∀ y ∈ wordsL s.data.toList, y.length ≤ 60 := fun y hy => (words_mem ht hy).1
      have HCU := hide (fun A1 c1 W hc1 (hW : Below w.heap.size w W) hS => l02Lines_both (wordsL s.data.toList) A1 c1 B bs cb W hwn hc1 hp hS ((hB.below hW).mono hW.size))
      have HEN := hide (told_ends hp)
      generalize wordsL s.data.toList = ws at *
      have HJN := hide (fun (k : Nat) (hk : k ≤ bs.length) Ak ck (W : World) (hS : StrsAt W W.heap.size Ak (bas (seg ws (stL bs k) (enL ws.length bs k)))) => by
        have h1 := seg_len ws (a := stL bs k) (HEN.out k hk).2.1
        have h2 := bas_byts (seg ws (stL bs k) (enL ws.length bs k))
        have h3 : (bas (seg ws (stL bs k) (enL ws.length bs k))).length = enL ws.length bs k - stL bs k := by rw [List.length_map, h1]
        have h4 := (HEN.out k hk).2.1
        have := l01Joined_any Ak (bas (seg ws (stL bs k) (enL ws.length bs k))) ck W (by omega) (by rw [h2]; have := sumL_bd (seg ws (stL bs k) (enL ws.length bs k)) (fun y hy => hmem y (seg_mem hy)); omega) hS
        rwa [h2, h3] at this)
      obtain ⟨m, hm⟩ : ∃ m, bs.length = m := ⟨_, rfl⟩
      have HM := hide hm
      rw [hm] at hl HTD HCU HJN ⊢
      clear hm e1 e2 ht htd hB hp hmem HEN
      go_enter Try.func31, Try.ntmps31
      go_wp2_with (go_at_call 76; refine (HT.out _).mono ?_; rintro e w' ⟨rfl, rfl⟩)
      refine (HW.out w).mono ?_
      rintro e w1 ⟨A1, c1, rfl, hc1, hP1, hb1⟩
      rw [HBL.out]
      go_wp2_with (go_at_call 77; refine (HTD.out _ hb1).mono ?_; rintro e w2 ⟨rfl, hb2⟩)
      have hbs1 := hb1.size
      have hbs2 := hb2.size
      have hB2 := hb1.trans (hb2.mono hbs1)
      have hB3 : Below w.heap.size w (w2.alloc (.cells #[] 9)) := hB2.alloc hB2.size _
      have hs3 : w2.heap.size < (w2.alloc (.cells #[] 9)).heap.size := by simp
      have HO1 : Hid ((w2.alloc (.cells #[] 9)).ownsRow w2.heap.size 9 1 (.slice (some ⟨w2.heap.size, 0, none⟩) 0 0) 0 []) := World.ownsRow_lit w2 #[] 0 (Nat.le_refl _) (by unfold maxLen; omega) rfl
      have hB4' : Below w2.heap.size w2 (w2.alloc (.cells #[] 9)) := (Below.refl _ _).alloc (Nat.le_refl _) _
      have HS2 := hide (hP1.at_.go hb2)
      have hS1 := hide (HS2.out.go hB4')
      clear hP1
      generalize w2.alloc (.cells #[] 9) = w3 at *
      refine (HCU.out A1 c1 w3 hc1 hB3 hS1.out).mono ?_
      rintro e w4 ⟨A3, c3, vs, rfl, hI, hpc, hb4⟩
      rw [HM.out] at hpc ⊢
      have HPC := hide hpc
      have HO3 := hide (own_go HO1.out hb4)
      have HB4 := hide (hB4'.trans (hb4.mono hB4'.size))
      have hs3' := hB4'.size
      have hs4 := hb4.size
      have HSA := hide (fun W (hW : Below w2.heap.size w2 W) => HS2.out.go hW)
      have hvne : vs ≠ [] := by intro e; obtain ⟨_, _, h, _⟩ := hpc 0 (by omega); rw [e] at h; cases h
      obtain ⟨bv, ov, rfl, hv1, hv2, hvs, _⟩ := hI hvne
      have HVS := hide hvs
      clear hI hpc HCU hb4 HO1 hvs hvne hS1
      go_wp2
      go_loopw [7, 9] (fun br i wr => ∃ k : Nat, k ≤ m + 1 ∧ i = .int .i64 k ∧ wr.ownsRow w2.heap.size 9 1 br k ((linesTo ws bs k).map encStr) ∧ Below w2.heap.size w2 wr ∧ (∀ g, br.ownBlock = some g → g < w3.heap.size ∨ w4.heap.size ≤ g) ∧ (∀ (j : Nat) u, vs[j]? = some u → wr.cell? ⟨bv, ov + j, none⟩ = some u) ∧ w4.heap.size ≤ wr.heap.size)
        (fun _ i _ => (m + 1) - (intOf i).toNat)
      case atStart => exact ⟨0, by omega, rfl, HO3.out, HB4.out, fun g hg => .inl (by cases hg; exact hs3), HVS.out, Nat.le_refl _⟩
      case round =>
        obtain ⟨k, hk, rfl, hown, hB', hgb, hvv, hsr⟩ := hrel
        obtain ⟨Ab, cbb, rfl, hcap, _⟩ := cellsIn_of_own hown (by omega)
        have HOWN := hide hown
        have HGB := hide hgb
        have HVV := hide hvv
        clear hown hgb hvv
        have hbs' := hB'.size
        by_cases hlt : k < m + 1
        · have hi : (k : Int) < ((m + 1 : Nat) : Int) := by omega
          have h00 : (0 : Int) ≤ k := by omega
          obtain ⟨Ak, ck, hvk, hck, hst⟩ := HPC.out k (by omega)
          have cck := HVV.out k _ hvk
          have HJ := hide (HJN.out k (by omega) Ak ck wr (hst wr (HSA.out wr hB')))
          have HPS := hide (linesTo_succ ws bs k)
          clear hvk hst hck
          generalize J (seg ws (stL bs k) (enL ws.length bs k)) = R at *
          generalize enL ws.length bs k - stL bs k = g at *
          go_wp2_with fail
          refine HJ.out.mono ?_
          rintro e w5 ⟨rfl, rfl⟩
          go_wp2_with (at_builtin; refine wpList_append_own_at _ rfl (.tmp 32) (.tmp 38) 45 rfl w2.heap.size 9 i0 (.string ⟨#[]⟩) 1 16 Try.underlying45 hi0 hz0 hz1 hz2 rfl (by decide) _ k _ rfl (HOWN.out.alloc _) ⟨wr.heap.size, 0, none⟩ 1 1 [encStr R] rfl rfl (one_cell _) (one_one rfl) (by unfold maxLen; omega) (by omega) (by simp; omega) ?_)
          intro v' w4' hown4 hg4 _ hblk
          obtain ⟨A4, c4, rfl, _, _⟩ := cellsIn_of_own hown4 (by omega)
          have H4 := hide hown4
          have hg34 : wr.grownBy w4' _ := grown_trans (World.grownBy_alloc wr _ _) hg4
          have hB4 := hB'.trans (grown_toBelow hg34 (by omega) (fun k hk => (HOWN.out.lt k hk).1))
          have HV4 := hide (fun (j : Nat) u (h : vs[j]? = some u) => hg34.cell (HVV.out j u h) (fun e => by have := HGB.out bv e.symm; omega))
          have HG4 := hide (fun (g : Nat) (h : (Value.slice A4 (k + 1) c4).ownBlock = some g) => show g < w3.heap.size ∨ w4.heap.size ≤ g from by
            rcases hblk with e | e
            · exact HGB.out g (by rw [← e]; exact h)
            · rw [e] at h; injection h with h; subst h; omega)
          have hs4' := hg34.size
          clear hown4 hg4 hg34 hblk
          go_wp2
          refine ⟨⟨k + 1, by omega, by go_num, ?_, hB4, HG4.out, HV4.out, by omega⟩, by simp [intOf]; omega⟩
          rw [HPS.out, List.map_append]
          exact H4.out
        · obtain rfl : k = m + 1 := by omega
          obtain ⟨Ag, cg, e, _, hI⟩ := strsIn_of_own HOWN.out (linesTo_len ws bs (m + 1)).symm
          injection e with e1 e2 e3
          subst e1 e3
          have HI := hide hI
          clear hI
          go_wp2
          go_ret2
          exact ⟨Ab, cbb, ret_sl2 (by rw [List.length_map, linesTo_len]), StrsIn.wider HI.out hB2.size, hB2.trans (hB'.mono hB2.size)⟩
end Go.Proofs.Ytikmmeohmkjbeaa
