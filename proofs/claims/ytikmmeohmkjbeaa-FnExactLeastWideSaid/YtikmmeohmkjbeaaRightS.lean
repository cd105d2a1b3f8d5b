/- UnevenOf, CheckBreaks and RightRoom of the model. -/
import Derived.Test.YtikmmeohmkjbeaaRightI
import Derived.Test.YtikmmeohmkjbeaaGreedyS
import Derived.Test.YtikmmeohmkjbeaaG4
namespace Go.Proofs.Ytikmmeohmkjbeaa
open Go Go.RowKit

theorem told_out {n : Nat} {bs : List Int} {k : Nat} (hk : k < bs.length) (h : inB (bs.getD k 0) 1 ((n : Int) - 1) = false) : told n bs = false := told_false.2 (fun hp => by
  have h1 := hp k hk
  rcases inB_false.1 h with h | h <;> omega)
theorem told_down {n : Nat} {bs : List Int} {k : Nat} (hk : k < bs.length) (h0 : k ≠ 0) (h : bs.getD k 0 ≤ bs.getD (k - 1) 0) : told n bs = false := told_false.2 (fun hp => by
  have := (hp k hk).2.2 (by omega)
  omega)

set_option maxRecDepth 100000 in
set_option maxHeartbeats 8000000 in
theorem l02Told_any (B : Option Addr) (bs : List Int) (cb : Nat) (n : Nat) (w : World) (hn : n ≤ 61) (hbn : bs.length ≤ maxLen) (hB : IntsAt w w.heap.size B bs) :
    Calls Try.prog 77 #[.int .i64 n, .slice B bs.length cb] w fun e w' => e = .returned (.bool (told n bs)) ∧ Below w.heap.size w w' := by
  unfold maxLen at hbn
  have HGET := hide (fun k hk => ints_get (bs := bs) (k := k) hk)
  have HOUT := hide (fun k (hk : k < bs.length) h => told_out (n := n) hk h)
  have HDOWN := hide (fun k (hk : k < bs.length) h0 h => told_down (n := n) hk h0 h)
  have HALL := hide (fun (h : toldTo n bs bs.length) => told_true.2 (toldTo_all.1 h))
  generalize told n bs = T at *
  obtain ⟨m, hm⟩ : ∃ m, bs.length = m := ⟨_, rfl⟩
  have HNE := hide (show 0 < m → bs ≠ [] from fun h e => by rw [e] at hm; simp at hm; omega)
  rw [hm] at hbn HGET HOUT HDOWN HALL ⊢
  clear hm
  have e1 := IntWalk.i64_in ((n : Int) - 1) ⟨by omega, by omega⟩
  go_enter Try.func77, Try.ntmps77
  go_wp2
  go_loopw [5] (fun i wr => ∃ k : Nat, k ≤ m ∧ i = .int .i64 k ∧ toldTo n bs k ∧ Below w.heap.size w wr)
    (fun i _ => m - (intOf i).toNat)
  case atStart => exact ⟨0, by omega, rfl, fun i h => absurd h (by omega), Below.refl _ _⟩
  case round =>
    obtain ⟨k, hk, rfl, ht, hW⟩ := hrel
    have HT := hide ht
    clear ht
    by_cases hlt : k < m
    · have hi : (k : Int) < m := by omega
      have h0 : (0 : Int) ≤ k := by omega
      obtain ⟨b, o, rfl, hb, hc⟩ := hB (HNE.out (by omega))
      have ck := (hW.cell (p := ⟨b, o + k, none⟩) hb).trans (hc k _ (HGET.out k hlt))
      have HO := hide (HOUT.out k hlt)
      have HD := hide (HDOWN.out k hlt)
      have HSTEP := hide (fun h1 h2 h3 => toldTo_succ (n := n) (bs := bs) (k := k) HT.out h1 h2 h3)
      by_cases hin : inB (bs.getD k 0) 1 ((n : Int) - 1) = true
      · obtain ⟨q1, q2⟩ := inB_true.1 hin
        by_cases hk0 : k = 0
        · have HS := hide (HSTEP.out q1 q2 (fun h => absurd h (by omega)))
          have hd0 : decide (0 < k) = false := by simp; omega
          have HK := hide hk0
          clear hk0 HO HD HSTEP q1 q2 hc
          generalize bs.getD k 0 = x at ck hin
          go_wp2
          go_quiet ((go_at_call 92; exact quiet_left (l00In_any _ _ _ _)))
          go_wp2
          exact ⟨⟨k + 1, by omega, by go_num, HS.out, below_drewN hW _⟩, by simp [intOf]; omega⟩
        · have hc1 := (hW.cell (p := ⟨b, o + (k - 1), none⟩) hb).trans (hc (k - 1) _ (HGET.out (k - 1) (by omega)))
          have hd0 : decide (0 < k) = true := by simp; omega
          have j1 : (1 : Int) ≤ k := by omega
          have j2 : (k : Int) - 1 < m := by omega
          have j3 : ((k : Int) - 1).toNat = k - 1 := by omega
          have j4 : (0 : Int) ≤ (k : Int) - 1 := by omega
          have e2 := IntWalk.i64_in ((k : Int) - 1) ⟨by omega, by omega⟩
          have HD' := hide (HD.out hk0)
          clear hc HO HD hk0
          generalize bs.getD k 0 = x at *
          generalize bs.getD (k - 1) 0 = y at *
          by_cases hle : x ≤ y
          · have HF := hide (HD'.out hle)
            have hdl : decide (x ≤ y) = true := by simpa using hle
            clear HD' HSTEP
            go_wp2
            go_quiet ((go_at_call 92; exact quiet_left (l00In_any _ _ _ _)))
            go_wp2
            go_ret
            exact ⟨ret_bool HF.out.symm, below_drewN hW _⟩
          · have HS := hide (HSTEP.out q1 q2 (fun _ => by omega))
            have hdl : decide (x ≤ y) = false := by simpa using hle
            clear HD' HSTEP q1 q2
            go_wp2
            go_quiet ((go_at_call 92; exact quiet_left (l00In_any _ _ _ _)))
            go_wp2
            exact ⟨⟨k + 1, by omega, by go_num, HS.out, below_drewN hW _⟩, by simp [intOf]; omega⟩
      · have hin' : inB (bs.getD k 0) 1 ((n : Int) - 1) = false := by simpa using hin
        have HF := hide (HO.out hin')
        clear HO HD HSTEP hc hin
        generalize bs.getD k 0 = x at ck hin'
        go_wp2
        go_quiet ((go_at_call 92; exact quiet_left (l00In_any _ _ _ _)))
        go_wp2
        go_ret
        exact ⟨ret_bool HF.out.symm, below_drewN hW _⟩
    · obtain rfl : k = m := by omega
      have HF := hide (HALL.out HT.out)
      go_wp2
      go_ret
      exact ⟨ret_bool HF.out.symm, hW⟩

theorem Try.infoStrs : (Try.prog.info? 45).map (fun i => (i.zero, i.size, i.bytes)) = some (some (.slice none 0 0), 1, 24) := by kernel_rfl
/-- Line i, as the model cuts it. -/
def pieceT (b o c n : Nat) (bs : List Int) (i : Nat) : Value := .slice (some ⟨b, o + stL bs i, none⟩) (enL n bs i - stL bs i) (c - stL bs i)
def piecesT (b o c n : Nat) (bs : List Int) (k : Nat) : List Value := (List.range k).map (pieceT b o c n bs)
theorem piecesT_succ (b o c n : Nat) (bs : List Int) (k : Nat) : piecesT b o c n bs (k + 1) = piecesT b o c n bs k ++ [pieceT b o c n bs k] := by simp [piecesT, List.range_succ]
theorem piecesT_get (b o c n : Nat) (bs : List Int) {k i : Nat} (h : i < k) : (piecesT b o c n bs k)[i]? = some (pieceT b o c n bs i) := by simp [piecesT, List.getElem?_range h]

set_option maxRecDepth 100000 in
set_option maxHeartbeats 4000000 in
theorem l02Lines_zero (A : Option Addr) (c : Nat) (B : Option Addr) (cb : Nat) (w : World) :
    Calls Try.prog 78 #[.slice A 0 c, .slice B 0 cb] w fun e w' => ∃ A' c' Ap cp, e = .returned (.slice A' 1 c') ∧ CellsIn w' w.heap.size A' [.slice Ap 0 cp] ∧ Below w.heap.size w w' := by
  obtain ⟨i0, hi0, hz0, hz1, hz2⟩ := info_parts Try.infoStrs
  have HO1 : Hid ((w.alloc (.cells #[] 45)).ownsRow w.heap.size 45 1 (.slice (some ⟨w.heap.size, 0, none⟩) 0 0) 0 []) := World.ownsRow_lit w #[] 0 (Nat.le_refl _) (by unfold maxLen; omega) rfl
  have hB1 : Below w.heap.size w (w.alloc (.cells #[] 45)) := (Below.refl _ _).alloc (Nat.le_refl _) _
  cases A with
  | none =>
    go_enter Try.func78, Try.ntmps78
    go_wp2
    go_loopw [5, 6, 7] (fun o f i wr => wr.ownsRow w.heap.size 45 1 o 0 [] ∧ i = .int .i64 0 ∧ f = .int .i64 0 ∧ Below w.heap.size w wr) (fun _ _ _ _ => 0)
    case atStart => exact ⟨HO1.out, rfl, rfl, hB1⟩
    case round =>
      obtain ⟨hown, rfl, rfl, hB⟩ := hrel
      obtain ⟨Ab, cbb, rfl, _, _⟩ := cellsIn_of_own hown (by omega)
      have HO := hide hown
      have hbs := hB.size
      clear hown
      go_wp2_with (at_builtin; refine wpList_append_own _ rfl (.tmp 29) (.tmp 33) 100 rfl w.heap.size 45 i0 (.slice none 0 0) 1 24 Try.underlying100 hi0 hz0 hz1 hz2 rfl (by decide) _ 0 _ rfl (HO.out.alloc _) ⟨wr.heap.size, 0, none⟩ 1 1 [.slice none 0 c] rfl rfl (one_cell _) (one_one rfl) (by unfold maxLen; omega) (by omega) (by simp; omega) ?_)
      intro v' w4 hown4 hg4 _
      obtain ⟨A4, c4, rfl, _, hI⟩ := cellsIn_of_own hown4 (by omega)
      have HI := hide hI
      have hg34 : wr.grownBy w4 _ := grown_trans (World.grownBy_alloc _ _ _) hg4
      have hB4 := hB.trans (grown_toBelow hg34 (by omega) (fun k hk => (HO.out.lt k hk).1))
      clear hown4 hg4 hg34 hI
      go_wp2
      go_ret
      exact ⟨A4, c4, _, c, rfl, HI.out, hB4⟩
  | some p =>
    go_enter Try.func78, Try.ntmps78
    go_wp2
    go_loopw [5, 6, 7] (fun o f i wr => wr.ownsRow w.heap.size 45 1 o 0 [] ∧ i = .int .i64 0 ∧ f = .int .i64 0 ∧ Below w.heap.size w wr) (fun _ _ _ _ => 0)
    case atStart => exact ⟨HO1.out, rfl, rfl, hB1⟩
    case round =>
      obtain ⟨hown, rfl, rfl, hB⟩ := hrel
      obtain ⟨Ab, cbb, rfl, _, _⟩ := cellsIn_of_own hown (by omega)
      have HO := hide hown
      have hbs := hB.size
      clear hown
      go_wp2_with (at_builtin; refine wpList_append_own _ rfl (.tmp 29) (.tmp 33) 100 rfl w.heap.size 45 i0 (.slice none 0 0) 1 24 Try.underlying100 hi0 hz0 hz1 hz2 rfl (by decide) _ 0 _ rfl (HO.out.alloc _) ⟨wr.heap.size, 0, none⟩ 1 1 [.slice (some p) 0 c] rfl rfl (one_cell _) (one_one rfl) (by unfold maxLen; omega) (by omega) (by simp; omega) ?_)
      intro v' w4 hown4 hg4 _
      obtain ⟨A4, c4, rfl, _, hI⟩ := cellsIn_of_own hown4 (by omega)
      have HI := hide hI
      have hg34 : wr.grownBy w4 _ := grown_trans (World.grownBy_alloc _ _ _) hg4
      have hB4 := hB.trans (grown_toBelow hg34 (by omega) (fun k hk => (HO.out.lt k hk).1))
      clear hown4 hg4 hg34 hI
      go_wp2
      go_ret
      exact ⟨A4, c4, _, c, rfl, HI.out, hB4⟩

set_option maxRecDepth 100000 in
set_option maxHeartbeats 4000000 in
theorem l02Lines_any (b o c : Nat) (n : Nat) (B : Option Addr) (bs : List Int) (cb : Nat) (w : World) (hn : n ≤ 61) (h0 : 0 < n) (hc : n ≤ c) (ht : toldP n bs) (hB : IntsAt w w.heap.size B bs) :
    Calls Try.prog 78 #[.slice (some ⟨b, o, none⟩) n c, .slice B bs.length cb] w fun e w' => ∃ A' c', e = .returned (.slice A' (bs.length + 1) c') ∧ CellsIn w' w.heap.size A' (piecesT b o c n bs (bs.length + 1)) ∧ Below w.heap.size w w' := by
  obtain ⟨i0, hi0, hz0, hz1, hz2⟩ := info_parts Try.infoStrs
  have hl := told_len ht
  have HGET := hide (fun k hk => ints_get (bs := bs) (k := k) hk)
  have HEN := hide (told_ends ht)
  have HT := hide ht
  obtain ⟨m, hm⟩ : ∃ m, bs.length = m := ⟨_, rfl⟩
  have HNE := hide (show 0 < m → bs ≠ [] from fun h e => by rw [e] at hm; simp at hm; omega)
  have HM := hide hm
  rw [hm] at hl HGET HEN ⊢
  clear hm ht
  have HO1 : Hid ((w.alloc (.cells #[] 45)).ownsRow w.heap.size 45 1 (.slice (some ⟨w.heap.size, 0, none⟩) 0 0) 0 (piecesT b o c n bs 0)) := World.ownsRow_lit w #[] 0 (Nat.le_refl _) (by unfold maxLen; omega) rfl
  have hB1 : Below w.heap.size w (w.alloc (.cells #[] 45)) := (Below.refl _ _).alloc (Nat.le_refl _) _
  go_enter Try.func78, Try.ntmps78
  go_wp2
  go_loopw [5, 6, 7] (fun cut f i wr => ∃ k : Nat, k ≤ m ∧ i = .int .i64 k ∧ f = .int .i64 (stL bs k : Nat) ∧ wr.ownsRow w.heap.size 45 1 cut k (piecesT b o c n bs k) ∧ Below w.heap.size w wr)
    (fun _ _ i _ => m - (intOf i).toNat)
  case atStart => exact ⟨0, by omega, rfl, rfl, HO1.out, hB1⟩
  case round =>
    obtain ⟨k, hk, rfl, rfl, hown, hB'⟩ := hrel
    obtain ⟨Ab, cbb, rfl, _, _⟩ := cellsIn_of_own hown (by omega)
    obtain ⟨q1, q2, q3⟩ := HEN.out k hk
    have q3 := q3 h0
    have hown' := hide hown
    have hbs := hB'.size
    clear hown
    have hst : (stL bs k : Int) < c := by omega
    have hst0 : (0 : Int) ≤ stL bs k := by omega
    have HPS := hide (piecesT_succ b o c n bs k)
    by_cases hlt : k < m
    · have hi : (k : Int) < m := by omega
      have h00 : (0 : Int) ≤ k := by omega
      obtain ⟨b2, o2, rfl, hb2, hcs⟩ := hB (HNE.out (by omega))
      have ck := (hB'.cell (p := ⟨b2, o2 + k, none⟩) hb2).trans (hcs k _ (HGET.out k hlt))
      have hen : bs.getD k 0 = (enL n bs k : Int) := by
        have h1 := HT.out k (by rw [HM.out]; exact hlt)
        unfold enL; rw [if_pos (by rw [HM.out]; exact hlt)]; omega
      have HST := hide (st_succ n bs (i := k) (by rw [HM.out]; exact hlt))
      rw [hen] at ck
      have HPV := hide (show pieceT b o c n bs k = .slice (some ⟨b, o + stL bs k, none⟩) (enL n bs k - stL bs k) (c - stL bs k) from rfl)
      clear hcs hen
      generalize stL bs k = f at *
      generalize enL n bs k = g at *
      have hg1 : (f : Int) ≤ g := by omega
      have hg2 : (g : Int) ≤ c := by omega
      have hg0 : (0 : Int) ≤ g := by omega
      go_wp2_with (at_builtin; refine wpList_append_own _ rfl (.tmp 15) (.tmp 23) 100 rfl w.heap.size 45 i0 (.slice none 0 0) 1 24 Try.underlying100 hi0 hz0 hz1 hz2 rfl (by decide) _ k _ rfl (hown'.out.alloc _) ⟨wr.heap.size, 0, none⟩ 1 1 [.slice (some ⟨b, o + f, none⟩) (g - f) (c - f)] rfl rfl (one_cell _) (one_one rfl) (by unfold maxLen; omega) (by omega) (by simp; omega) ?_)
      intro v' w4 hown4 hg4 _
      obtain ⟨A4, c4, rfl, _, _⟩ := cellsIn_of_own hown4 (by omega)
      have H4 := hide hown4
      have hg34 : wr.grownBy w4 _ := grown_trans (World.grownBy_alloc wr _ _) hg4
      have hB4 := hB'.trans (grown_toBelow hg34 (by omega) (fun k hk => (hown'.out.lt k hk).1))
      have ck4 := (hB4.cell (p := ⟨b2, o2 + k, none⟩) hb2).trans ((hB'.cell (p := ⟨b2, o2 + k, none⟩) hb2).symm.trans ck)
      clear hown4 hg4 hg34 ck
      go_wp2
      exact ⟨⟨k + 1, by omega, by go_num, by rw [HST.out], by rw [HPS.out, HPV.out]; exact H4.out, hB4⟩, by simp [intOf]; omega⟩
    · obtain rfl : k = m := by omega
      have hen : enL n bs k = n := by unfold enL; rw [if_neg (by rw [HM.out]; omega)]
      have HPV := hide (show pieceT b o c n bs k = .slice (some ⟨b, o + stL bs k, none⟩) (n - stL bs k) (c - stL bs k) by unfold pieceT; rw [hen])
      rw [hen] at q1 q2 q3
      clear hen
      generalize stL bs k = f at *
      have hg1 : (f : Int) ≤ n := by omega
      go_wp2_with (at_builtin; refine wpList_append_own _ rfl (.tmp 29) (.tmp 33) 100 rfl w.heap.size 45 i0 (.slice none 0 0) 1 24 Try.underlying100 hi0 hz0 hz1 hz2 rfl (by decide) _ k _ rfl (hown'.out.alloc _) ⟨wr.heap.size, 0, none⟩ 1 1 [.slice (some ⟨b, o + f, none⟩) (n - f) (c - f)] rfl rfl (one_cell _) (one_one rfl) (by unfold maxLen; omega) (by omega) (by simp; omega) ?_)
      intro v' w4 hown4 hg4 _
      obtain ⟨A4, c4, rfl, _, hI⟩ := cellsIn_of_own hown4 (by omega)
      have HI := hide hI
      have hg34 : wr.grownBy w4 _ := grown_trans (World.grownBy_alloc wr _ _) hg4
      have hB4 := hB'.trans (grown_toBelow hg34 (by omega) (fun k hk => (hown'.out.lt k hk).1))
      clear hown4 hg4 hg34 hI
      go_wp2
      go_ret
      exact ⟨A4, c4, rfl, by rw [HPS.out, HPV.out]; exact HI.out, hB4⟩
end Go.Proofs.Ytikmmeohmkjbeaa
