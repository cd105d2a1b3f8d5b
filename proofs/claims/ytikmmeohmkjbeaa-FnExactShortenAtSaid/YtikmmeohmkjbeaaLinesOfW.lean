/- LinesOf: the program's and the model's. -/
import Derived.Test.YtikmmeohmkjbeaaCutStr
namespace Go.Proofs.Ytikmmeohmkjbeaa
open Go Go.RowKit Go.Shelf Go.Sort Go.Maps

noncomputable def loC (L : List UInt8) (bs : List Int) : Int := if vtext L = true then (if told (wordsL L).length bs = true then 0 else 4) else 1
def linesTo (ws : List (List UInt8)) (bs : List Int) (k : Nat) : List (List UInt8) := (List.range k).map (fun i => J (seg ws (stL bs i) (enL ws.length bs i)))
theorem linesTo_succ (ws : List (List UInt8)) (bs : List Int) (k : Nat) : linesTo ws bs (k + 1) = linesTo ws bs k ++ [J (seg ws (stL bs k) (enL ws.length bs k))] := by simp [linesTo, List.range_succ]
theorem linesTo_len (ws : List (List UInt8)) (bs : List Int) (k : Nat) : (linesTo ws bs k).length = k := by simp [linesTo]
noncomputable def loX (L : List UInt8) (bs : List Int) : List ByteArray := if loC L bs = 0 then bas (linesTo (wordsL L) bs (bs.length + 1)) else []
theorem lo_text {L : List UInt8} {bs : List Int} (h : vtext L = false) : loC L bs = 1 ∧ loX L bs = [] := by
  have e : loC L bs = 1 := by unfold loC; rw [h]; rfl
  exact ⟨e, by unfold loX; rw [e]; rfl⟩
theorem lo_bad {L : List UInt8} {bs : List Int} (h : vtext L = true) (h2 : told (wordsL L).length bs = false) : loC L bs = 4 ∧ loX L bs = [] := by
  have e : loC L bs = 4 := by unfold loC; rw [if_pos h, h2]; rfl
  exact ⟨e, by unfold loX; rw [e]; rfl⟩
theorem lo_ok {L : List UInt8} {bs : List Int} (h : vtext L = true) (h2 : told (wordsL L).length bs = true) : loC L bs = 0 ∧ loX L bs = bas (linesTo (wordsL L) bs (bs.length + 1)) := by
  have e : loC L bs = 0 := by unfold loC; rw [if_pos h, if_pos h2]
  exact ⟨e, by unfold loX; rw [if_pos e]⟩
theorem loX_len (L : List UInt8) (bs : List Int) : (loX L bs).length ≤ 1048577 := by
  cases h : vtext L
  · rw [(lo_text h).2]; simp
  · cases h2 : told (wordsL L).length bs
    · rw [(lo_bad h h2).2]; simp
    · rw [(lo_ok h h2).2, List.length_map, linesTo_len]
      have := told_len (told_true.1 h2); have := words_len h; omega

theorem bas_byts (ws : List (List UInt8)) : (bas ws).map byts = ws := by
  rw [List.map_map]
  exact (List.map_congr_left (fun x _ => by simp)).trans (List.map_id ws)
theorem sumL_bd : ∀ (ws : List (List UInt8)), (∀ y ∈ ws, y.length ≤ 60) → sumL ws ≤ 60 * ws.length
  | [], _ => by simp [sumL]
  | x :: r, h => by
    have h1 := sumL_bd r (fun y hy => h y (by simp [hy]))
    have h2 := h x (by simp)
    have e : sumL (x :: r) = x.length + sumL r := by simp [sumL]
    rw [e, List.length_cons]; omega
theorem J_bd {ws : List (List UInt8)} (h : ∀ y ∈ ws, y.length ≤ 60) (hn : ws.length ≤ 61) : (J ws).length ≤ 4000 := by
  rw [J_len]; have := sumL_bd ws h; omega

set_option maxRecDepth 100000 in
set_option maxHeartbeats 2000000 in
/-- strings.Join of words with a blank between them. -/
theorem joinW_any (A : Option Addr) (ws : List (List UInt8)) (c : Nat) (w : World) (hw : ∀ y ∈ ws, y.length ≤ 60) (hn : ws.length ≤ 61) (hc : ws.length ≤ c) (hA : StrsAt w w.heap.size A (bas ws)) :
    Calls Try.prog 83 #[.slice A ws.length c, .string ⟨#[32]⟩] w fun e w' => e = .returned (.string ⟨(J ws).toArray⟩) ∧ Below w.heap.size w w' := by
  have hl : (bas ws).length = ws.length := List.length_map _
  by_cases hne : bas ws = []
  · have h0 : ws.length = 0 := by rw [← hl, hne]; rfl
    have h1 : ws = [] := List.length_eq_zero_iff.1 h0
    subst h1
    refine (Try.strings_Join_none A c ⟨#[32]⟩ w).mono ?_
    rintro e w1 ⟨rfl, rfl⟩
    exact ⟨rfl, Below.refl _ _⟩
  · obtain ⟨b, o, rfl, hb, hxs⟩ := hA hne
    have := Try.strings_Join b o c (bas ws) ⟨#[32]⟩ w hxs hb (by omega) (by omega) (by
      have h4 := J_bd hw hn
      have h5 := bas_byts ws
      show (J ((bas ws).map byts)).length ≤ _
      rw [h5]; omega)
    rw [hl] at this
    refine this.mono ?_
    rintro e w1 ⟨rfl, hb1⟩
    refine ⟨?_, hb1⟩
    show Ending.returned (.string ⟨(J ((bas ws).map byts)).toArray⟩) = _
    rw [bas_byts]

set_option maxRecDepth 100000 in
set_option maxHeartbeats 2000000 in
theorem collect_wordsC (s : ByteArray) (hs : s.size ≤ 1048576) (Bm : Nat) (w : World) (hB : Bm < w.heap.size) (hm : w.cell? ⟨Bm, 0, none⟩ = some (.string s)) :
    Calls Try.prog 113 #[.func (.func 159) #[] #[.pointer (some ⟨Bm, 0, none⟩)]] w fun e w' => ∃ A c, e = .returned (.slice A (itW s.data.toList).length c) ∧ (itW s.data.toList).length ≤ c ∧ StrsIn w' w.heap.size A (bas (itW s.data.toList)) ∧ Below w.heap.size w w' := by
  have hlen := itW_len s.data.toList.length s.data.toList (Nat.le_refl _)
  have hL : s.data.toList.length = s.size := by simp
  refine (callsIn_wide (n := 4)).1 ?_
  refine (AnyZ.collect_in Ytikmmeohmkjbeaa.zlays Fence.wide 4 trivial trivial rfl (by omega) 159 _ trivial (enters_of Try.func159 (by kernel_rfl) rfl) _ (itW s.data.toList).length (by unfold maxLen; omega) (by omega) w
    (wordsIter_gives s hs (4 - 1 - 1) (by omega) Bm w hB hm)).mono ?_
  rintro e w' ⟨v, ss, rfl, rfl, hrow, _, hb⟩
  obtain ⟨A, c, rfl, hc, hP⟩ := strsIn_of_own hrow rfl
  exact ⟨A, c, rfl, hc, hP, hb⟩

set_option maxRecDepth 100000 in
set_option maxHeartbeats 2000000 in
/-- The words of a valid text, and that there is room for them. -/
theorem implWordsOf_ok (s : ByteArray) (w : World) (hs : s.size ≤ 1048576) (hv : vtext s.data.toList = true) :
    Calls Try.prog 80 #[.string s] w fun e w' => ∃ A c, e = .returned (.tuple #[.slice A (wordsL s.data.toList).length c, .int .i64 0]) ∧ (wordsL s.data.toList).length ≤ c ∧ StrsIn w' w.heap.size A (bas (wordsL s.data.toList)) ∧ Below w.heap.size w w' := by
  have HT := hide (implValidText_any s w (by unfold maxLen; omega))
  have HC := hide (collect_wordsC s hs)
  rw [itW_words hv] at HC
  rw [hv] at HT
  clear hv
  go_enter Try.func80, Try.ntmps80
  go_wp2_with (first | (go_at_call 96; refine HT.out.mono ?_; rintro e w' ⟨rfl, hb⟩) | (go_at_call 114; refine (wordsIn_any s _).mono ?_; rintro e w1 ⟨rfl, HB1, hb1⟩) | (go_at_call 113; refine (HC.out _ _ HB1.out.1 HB1.out.2).mono ?_; rintro e w2 ⟨A, c, rfl, hc, hP, hb2⟩))
  go_ret2
  have hB1 := hb.trans (hb1.mono hb.size)
  exact ⟨A, c, rfl, hc, hP.wider hB1.size, hB1.trans (hb2.mono hB1.size)⟩

set_option maxRecDepth 100000 in
set_option maxHeartbeats 2000000 in
theorem implWordsOf_no (s : ByteArray) (w : World) (hs : s.size ≤ maxLen) (hv : vtext s.data.toList = false) :
    Calls Try.prog 80 #[.string s] w fun e w' => e = .returned (.tuple #[.slice none 0 0, .int .i64 1]) ∧ Below w.heap.size w w' := by
  have HT := hide (implValidText_any s w hs)
  rw [hv] at HT
  clear hv
  go_enter Try.func80, Try.ntmps80
  go_wp2_with (go_at_call 96; refine HT.out.mono ?_; rintro e w' ⟨rfl, hb⟩)
  go_ret2
  exact ⟨rfl, hb⟩

theorem ret_sl2 {A : Option Addr} {n m c : Nat} {i : Int} (h : n = m) : Ending.returned (.tuple #[.slice A n c, .int .i64 i]) = .returned (.tuple #[.slice A m c, .int .i64 i]) := by rw [h]

set_option maxRecDepth 100000 in
set_option maxHeartbeats 4000000 in
theorem implLinesOf_any (s : ByteArray) (hs : s.size ≤ maxLen) (B : Option Addr) (bs : List Int) (cb : Nat) (hbn : bs.length ≤ maxLen) (w : World) (hB : IntsAt w w.heap.size B bs) :
    Calls Try.prog 32 #[.string s, .slice B bs.length cb] w (StrsBack (loX s.data.toList bs) (loC s.data.toList bs) w) := by
  cases ht : vtext s.data.toList
  · obtain ⟨e1, e2⟩ := lo_text (bs := bs) ht
    rw [e1, e2]
    have HT := hide (implWordsOf_no s w hs ht)
    clear e1 e2 ht hB
    go_enter Try.func32, Try.ntmps32
    go_wp2_with (go_at_call 80; refine HT.out.mono ?_; rintro e w1 ⟨rfl, hb1⟩)
    go_ret2
    exact ⟨none, 0, rfl, StrsIn.empty _ _ _, hb1⟩
  · have hs60 : s.size ≤ 1048576 := by have := (vtext_true.1 ht).1; simp at this; omega
    have HT := hide (implWordsOf_ok s w hs60 ht)
    have HAR := hide (fun W (hW : Below w.heap.size w W) => areBreaks_any B bs cb (wordsL s.data.toList).length W hbn ((hB.below hW).mono hW.size))
    have hwn := words_len ht
    cases htd : told (wordsL s.data.toList).length bs
    · obtain ⟨e1, e2⟩ := lo_bad ht htd
      rw [e1, e2]
      rw [htd] at HAR
      clear e1 e2 ht htd hB
      go_enter Try.func32, Try.ntmps32
      go_wp2_with fail
      refine HT.out.mono ?_
      rintro e w1 ⟨A1, c1, rfl, hc1, hP1, hb1⟩
      go_wp2_with (go_at_call 81; refine (HAR.out _ hb1).mono ?_; rintro e w' ⟨rfl, rfl⟩)
      go_ret2
      exact ⟨none, 0, rfl, StrsIn.empty _ _ _, hb1⟩
    · obtain ⟨e1, e2⟩ := lo_ok ht htd
      rw [e1, e2]
      rw [htd] at HAR
      obtain ⟨i0, hi0, hz0, hz1, hz2⟩ := info_parts Try.infoString
      have hp := told_true.1 htd
      have hl := told_len hp
      have hmem : ∀ y ∈ wordsL s.data.toList, y.length ≤ 60 := fun y hy => (words_mem ht hy).1
      have HCU := hide (fun A1 c1 W hc1 (hW : Below w.heap.size w W) hS => cutAtS_both (wordsL s.data.toList) A1 c1 B bs cb W hwn hc1 hp hS ((hB.below hW).mono hW.size))
      have HEN := hide (told_ends hp)
      generalize wordsL s.data.toList = ws at *
      have HJN := hide (fun (k : Nat) (hk : k ≤ bs.length) Ak ck (W : World) (hc : enL ws.length bs k - stL bs k ≤ ck) (hS : StrsAt W W.heap.size Ak (bas (seg ws (stL bs k) (enL ws.length bs k)))) => by
        have h1 := seg_len ws (a := stL bs k) (HEN.out k hk).2.1
        have := joinW_any Ak (seg ws (stL bs k) (enL ws.length bs k)) ck W (fun y hy => hmem y (seg_mem hy)) (by rw [h1]; have := (HEN.out k hk).2.1; omega) (by omega) hS
        rwa [h1] at this)
      obtain ⟨m, hm⟩ : ∃ m, bs.length = m := ⟨_, rfl⟩
      have HM := hide hm
      rw [hm] at hl HAR HCU HJN ⊢
      clear hm e1 e2 ht htd hB hp hmem HEN
      go_enter Try.func32, Try.ntmps32
      go_wp2_with fail
      refine HT.out.mono ?_
      rintro e w1 ⟨A1, c1, rfl, hc1, hP1, hb1⟩
      go_wp2_with (go_at_call 81; refine (HAR.out _ hb1).mono ?_; rintro e w' ⟨rfl, rfl⟩)
      have hS1 := hide hP1.at_
      refine (HCU.out A1 c1 w1 hc1 hb1 hS1.out).mono ?_
      rintro e w2 ⟨A3, c3, vs, rfl, hI, hpc, hb2⟩
      rw [HM.out] at hpc ⊢
      have HIA := hide hI.at_
      have HPC := hide hpc
      have hbs1 := hb1.size
      have hbs2 := hb2.size
      have HB2 := hide (hb1.trans (hb2.mono hbs1))
      have HSA := hide (fun W (hW : Below w2.heap.size w2 W) => ((hS1.out.below (hb2.trans (hW.mono hbs2))).mono (Nat.le_trans hbs2 hW.size)))
      clear hI hpc HCU hP1
      go_wp2
      go_loopw [8, 28] (fun br i wr => ∃ k : Nat, k ≤ m + 1 ∧ i = .int .i64 k ∧ wr.ownsRow w2.heap.size 9 1 br k ((linesTo ws bs k).map encStr) ∧ Below w2.heap.size w2 wr)
        (fun _ i _ => (m + 1) - (intOf i).toNat)
      case atStart => exact ⟨0, by omega, rfl, World.ownsRow_nil _ _ _ _, Below.refl _ _⟩
      case round =>
        obtain ⟨k, hk, rfl, hown, hB'⟩ := hrel
        obtain ⟨Ab, cbb, rfl, hcap, _⟩ := cellsIn_of_own hown (by omega)
        have hbs3 := hB'.size
        have HOWN := hide hown
        clear hown
        by_cases hlt : k < m + 1
        · have hi : (k : Int) < ((m + 1 : Nat) : Int) := by omega
          have h00 : (0 : Int) ≤ k := by omega
          obtain ⟨Ak, ck, hvk, hck, hst⟩ := HPC.out k (by omega)
          obtain ⟨b2, o2, rfl, hb2', hcs⟩ := HIA.out (by intro e; rw [e] at hvk; simp at hvk)
          have cck := (hB'.cell (p := ⟨b2, o2 + k, none⟩) hb2').trans (hcs k _ hvk)
          have HJ := hide (HJN.out k (by omega) Ak ck wr hck (hst wr (HSA.out wr hB')))
          have HPS := hide (linesTo_succ ws bs k)
          clear hcs hvk hst hck
          generalize J (seg ws (stL bs k) (enL ws.length bs k)) = R at *
          generalize enL ws.length bs k - stL bs k = g at *
          go_wp2_with fail
          refine HJ.out.mono ?_
          rintro e w3 ⟨rfl, hb3⟩
          have hs3 := hb3.size
          have hown3 := own_go HOWN.out hb3
          have hB3 := hB'.trans (hb3.mono hB'.size)
          go_wp2_with (at_builtin; refine wpList_append_own _ rfl (.tmp 32) (.tmp 35) 45 rfl w2.heap.size 9 i0 (.string ⟨#[]⟩) 1 16 Try.underlying45 hi0 hz0 hz1 hz2 rfl (by decide) _ k _ rfl (hown3.alloc _) ⟨w3.heap.size, 0, none⟩ 1 1 [encStr R] rfl rfl (one_cell _) (one_one rfl) (by unfold maxLen; omega) (by omega) (by simp; omega) ?_)
          intro v' w4 hown4 hg4 _
          obtain ⟨A4, c4, rfl, _, _⟩ := cellsIn_of_own hown4 (by omega)
          have H4 := hide hown4
          have hg34 : w3.grownBy w4 _ := grown_trans (World.grownBy_alloc w3 _ _) hg4
          have hB4 := hB3.trans (grown_toBelow hg34 (by omega) (fun k hk => (hown3.lt k hk).1))
          clear hown4 hg4 hg34 hown3 hb3
          go_wp2
          refine ⟨⟨k + 1, by omega, by go_num, ?_, hB4⟩, by simp [intOf]; omega⟩
          rw [HPS.out, List.map_append]
          exact H4.out
        · obtain rfl : k = m + 1 := by omega
          obtain ⟨Ag, cg, e, _, hI⟩ := strsIn_of_own HOWN.out (linesTo_len ws bs (m + 1)).symm
          injection e with e1 e2 e3
          subst e1 e3
          have HI := hide hI
          clear hI
          go_wp2
          go_ret2
          exact ⟨Ab, cbb, ret_sl2 (by rw [List.length_map, linesTo_len]), StrsIn.wider HI.out (Nat.le_trans hbs1 hbs2), HB2.out.trans (hB'.mono (Nat.le_trans hbs1 hbs2))⟩
end Go.Proofs.Ytikmmeohmkjbeaa
