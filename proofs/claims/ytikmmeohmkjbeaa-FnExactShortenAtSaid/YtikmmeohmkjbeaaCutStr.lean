/- Lines of a text, as the program cuts them. -/
import Derived.Test.YtikmmeohmkjbeaaLeftS
namespace Go.Proofs.Ytikmmeohmkjbeaa
open Go Go.RowKit

set_option maxRecDepth 100000 in
set_option maxHeartbeats 4000000 in
theorem cutAtS_any (b o c : Nat) (n : Nat) (B : Option Addr) (bs : List Int) (cb : Nat) (w : World) (hn : n ≤ 61) (h0 : 0 < n) (hc : n ≤ c) (ht : toldP n bs) (hl : bs.length ≤ n) (hB : IntsAt w w.heap.size B bs) :
    Calls Try.prog 82 #[.slice (some ⟨b, o, none⟩) n c, .slice B bs.length cb] w fun e w' => ∃ A' c', e = .returned (.slice A' (bs.length + 1) c') ∧ CellsIn w' w.heap.size A' (piecesT b o c n bs (bs.length + 1)) ∧ Below w.heap.size w w' := by
  obtain ⟨i0, hi0, hz0, hz1, hz2⟩ := info_parts Try.infoStrs
  have HGET := hide (fun k hk => ints_get (bs := bs) (k := k) hk)
  have HEN := hide (told_ends ht)
  have HT := hide ht
  obtain ⟨m, hm⟩ : ∃ m, bs.length = m := ⟨_, rfl⟩
  have HNE := hide (show 0 < m → bs ≠ [] from fun h e => by rw [e] at hm; simp at hm; omega)
  have HM := hide hm
  rw [hm] at hl HGET HEN ⊢
  clear hm ht
  have e1 := IntWalk.i64_in ((m : Int) + 1) ⟨by omega, by omega⟩
  go_enter Try.func82, Try.ntmps82
  go_wp2_with (refine wpList_make_own _ rfl _ _ 100 rfl w.heap.size 45 i0 (.slice none 0 0) 1 Try.underlying100 hi0 hz0 hz1 .i64 .i64 _ (m + 1) rfl rfl (by omega) (by rw [hz2]; omega) (by unfold maxLen; omega) (Nat.le_refl _) ?_; intro w1 hown1 hg1)
  have hB1 : Below w.heap.size w w1 := grown_toBelow hg1 (Nat.le_refl _) (fun k hk => by cases hk)
  have HO1 := hide hown1
  clear hown1 hg1 e1
  go_loopw [5, 6, 15] (fun cut f i wr => ∃ k : Nat, k ≤ m ∧ i = .int .i64 k ∧ f = .int .i64 (stL bs k : Nat) ∧ wr.ownsRow w.heap.size 45 1 cut k (piecesT b o c n bs k) ∧ Below w.heap.size w wr)
    (fun _ _ i _ => m - (intOf i).toNat)
  case atStart => exact ⟨0, by omega, rfl, rfl, HO1.out, hB1⟩
  case round =>
    obtain ⟨k, hk, rfl, rfl, hown, hB'⟩ := hrel
    obtain ⟨Ab, cbb, rfl, _, _⟩ := cellsIn_of_own hown (by omega)
    obtain ⟨q1, q2, q3⟩ := HEN.out k hk
    have q3 := q3 h0
    have hown' := hide hown
    have hbs := hB'.size
    clear hown
    have hst : (stL bs k : Int) < c := by omega
    have hst0 : (0 : Int) ≤ stL bs k := by omega
    have HPS := hide (piecesT_succ b o c n bs k)
    by_cases hlt : k < m
    · have hi : (k : Int) < m := by omega
      have h00 : (0 : Int) ≤ k := by omega
      obtain ⟨b2, o2, rfl, hb2, hcs⟩ := hB (HNE.out (by omega))
      have ck := (hB'.cell (p := ⟨b2, o2 + k, none⟩) hb2).trans (hcs k _ (HGET.out k hlt))
      have hen : bs.getD k 0 = (enL n bs k : Int) := by
        have h1 := HT.out k (by rw [HM.out]; exact hlt)
        unfold enL; rw [if_pos (by rw [HM.out]; exact hlt)]; omega
      have HST := hide (st_succ n bs (i := k) (by rw [HM.out]; exact hlt))
      rw [hen] at ck
      have HPV := hide (show pieceT b o c n bs k = .slice (some ⟨b, o + stL bs k, none⟩) (enL n bs k - stL bs k) (c - stL bs k) from rfl)
      clear hcs hen
      generalize stL bs k = f at *
      generalize enL n bs k = g at *
      have hg1 : (f : Int) ≤ g := by omega
      have hg2 : (g : Int) ≤ c := by omega
      have hg0 : (0 : Int) ≤ g := by omega
      go_wp2_with (at_builtin; refine wpList_append_own _ rfl (.tmp 19) (.tmp 24) 100 rfl w.heap.size 45 i0 (.slice none 0 0) 1 24 Try.underlying100 hi0 hz0 hz1 hz2 rfl (by decide) _ k _ rfl (hown'.out.alloc _) ⟨wr.heap.size, 0, none⟩ 1 1 [.slice (some ⟨b, o + f, none⟩) (g - f) (c - f)] rfl rfl ?c1 ?c2 ?c3 ?c4 ?c5 ?_)
      case c1 =>
        intro j u hj
        match j, hj with
        | 0, hj => simp at hj; subst hj; simp [Addr.add]
      case c2 => intro u hu; simp at hu; subst hu; rfl
      case c3 => unfold maxLen; omega
      case c4 => omega
      case c5 => simp; omega
      intro v' w4 hown4 hg4 _
      obtain ⟨A4, c4, rfl, _, _⟩ := cellsIn_of_own hown4 (by omega)
      have H4 := hide hown4
      have hg34 : wr.grownBy w4 _ := grown_trans (World.grownBy_alloc wr _ _) hg4
      have hB4 := hB'.trans (grown_toBelow hg34 (by omega) (fun k hk => (hown'.out.lt k hk).1))
      clear hown4 hg4 hg34
      go_wp2
      exact ⟨⟨k + 1, by omega, by go_num, by rw [HST.out], by rw [HPS.out, HPV.out]; exact H4.out, hB4⟩, by simp [intOf]; omega⟩
    · obtain rfl : k = m := by omega
      have hen : enL n bs k = n := by unfold enL; rw [if_neg (by rw [HM.out]; omega)]
      have HPV := hide (show pieceT b o c n bs k = .slice (some ⟨b, o + stL bs k, none⟩) (n - stL bs k) (c - stL bs k) by unfold pieceT; rw [hen])
      rw [hen] at q1 q2 q3
      clear hen
      generalize stL bs k = f at *
      have hg1 : (f : Int) ≤ n := by omega
      go_wp2_with (at_builtin; refine wpList_append_own _ rfl (.tmp 28) (.tmp 32) 100 rfl w.heap.size 45 i0 (.slice none 0 0) 1 24 Try.underlying100 hi0 hz0 hz1 hz2 rfl (by decide) _ k _ rfl (hown'.out.alloc _) ⟨wr.heap.size, 0, none⟩ 1 1 [.slice (some ⟨b, o + f, none⟩) (n - f) (c - f)] rfl rfl ?d1 ?d2 ?d3 ?d4 ?d5 ?_)
      case d1 =>
        intro j u hj
        match j, hj with
        | 0, hj => simp at hj; subst hj; simp [Addr.add]
      case d2 => intro u hu; simp at hu; subst hu; rfl
      case d3 => unfold maxLen; omega
      case d4 => omega
      case d5 => simp; omega
      intro v' w4 hown4 hg4 _
      obtain ⟨A4, c4, rfl, _, hI⟩ := cellsIn_of_own hown4 (by omega)
      have HI := hide hI
      have hg34 : wr.grownBy w4 _ := grown_trans (World.grownBy_alloc wr _ _) hg4
      have hB4 := hB'.trans (grown_toBelow hg34 (by omega) (fun k hk => (hown'.out.lt k hk).1))
      clear hown4 hg4 hg34 hI
      go_wp2
      go_ret
      exact ⟨A4, c4, rfl, by rw [HPS.out, HPV.out]; exact HI.out, hB4⟩
set_option maxRecDepth 100000 in
set_option maxHeartbeats 4000000 in
theorem cutAtS_zero (A : Option Addr) (c : Nat) (B : Option Addr) (cb : Nat) (w : World) :
    Calls Try.prog 82 #[.slice A 0 c, .slice B 0 cb] w fun e w' => ∃ A' c' Ap cp, e = .returned (.slice A' 1 c') ∧ CellsIn w' w.heap.size A' [.slice Ap 0 cp] ∧ Below w.heap.size w w' := by
  obtain ⟨i0, hi0, hz0, hz1, hz2⟩ := info_parts Try.infoStrs
  go_enter Try.func82, Try.ntmps82
  go_wp2_with (refine wpList_make_own _ rfl _ _ 100 rfl w.heap.size 45 i0 (.slice none 0 0) 1 Try.underlying100 hi0 hz0 hz1 .i64 .i64 _ 1 rfl rfl (by omega) (by rw [hz2]; omega) (by unfold maxLen; omega) (Nat.le_refl _) ?_; intro w1 hown1 hg1)
  have hB1 : Below w.heap.size w w1 := grown_toBelow hg1 (Nat.le_refl _) (fun k hk => by cases hk)
  have HO1 := hide hown1
  have hbs := hB1.size
  clear hown1 hg1
  go_loop [5, 6, 15] (fun cut f i => cut = .slice (some ⟨w.heap.size, 0, none⟩) 0 1 ∧ i = .int .i64 0 ∧ f = .int .i64 0) (fun _ _ _ => 0)
  case atStart => exact ⟨rfl, rfl, rfl⟩
  case round =>
    obtain ⟨rfl, rfl, rfl⟩ := hrel
    cases A with
    | none =>
      go_wp2_with (at_builtin; refine wpList_append_own _ rfl (.tmp 28) (.tmp 32) 100 rfl w.heap.size 45 i0 (.slice none 0 0) 1 24 Try.underlying100 hi0 hz0 hz1 hz2 rfl (by decide) _ 0 _ rfl (HO1.out.alloc _) ⟨w1.heap.size, 0, none⟩ 1 1 [.slice none 0 c] rfl rfl (one_cell _) (one_one rfl) (by unfold maxLen; omega) (by omega) (by simp; omega) ?_)
      intro v' w4 hown4 hg4 _
      obtain ⟨A4, c4, rfl, _, hI⟩ := cellsIn_of_own hown4 (by omega)
      have HI := hide hI
      have hg34 : w1.grownBy w4 _ := grown_trans (World.grownBy_alloc w1 _ _) hg4
      have hB4 := hB1.trans (grown_toBelow hg34 (by omega) (fun k hk => (HO1.out.lt k hk).1))
      clear hown4 hg4 hg34 hI
      go_wp2
      go_ret
      exact ⟨A4, c4, _, c, rfl, HI.out, hB4⟩
    | some p =>
      go_wp2_with (at_builtin; refine wpList_append_own _ rfl (.tmp 28) (.tmp 32) 100 rfl w.heap.size 45 i0 (.slice none 0 0) 1 24 Try.underlying100 hi0 hz0 hz1 hz2 rfl (by decide) _ 0 _ rfl (HO1.out.alloc _) ⟨w1.heap.size, 0, none⟩ 1 1 [.slice (some p) 0 c] rfl rfl (one_cell _) (one_one rfl) (by unfold maxLen; omega) (by omega) (by simp; omega) ?_)
      intro v' w4 hown4 hg4 _
      obtain ⟨A4, c4, rfl, _, hI⟩ := cellsIn_of_own hown4 (by omega)
      have HI := hide hI
      have hg34 : w1.grownBy w4 _ := grown_trans (World.grownBy_alloc w1 _ _) hg4
      have hB4 := hB1.trans (grown_toBelow hg34 (by omega) (fun k hk => (HO1.out.lt k hk).1))
      clear hown4 hg4 hg34 hI
      go_wp2
      go_ret
      exact ⟨A4, c4, _, c, rfl, HI.out, hB4⟩

theorem cutAtS_both (ws : List (List UInt8)) (A' : Option Addr) (c' : Nat) (B : Option Addr) (bs : List Int) (cb : Nat) (w : World) (hn : ws.length ≤ 61) (hc' : ws.length ≤ c') (ht : toldP ws.length bs) (hS : StrsAt w w.heap.size A' (bas ws)) (hB : IntsAt w w.heap.size B bs) :
    Calls Try.prog 82 #[.slice A' ws.length c', .slice B bs.length cb] w (LinesCutS ws A' bs w) := by
  have hl := told_len ht
  rcases Nat.eq_zero_or_pos ws.length with h0 | h0
  · have hb0 : bs.length = 0 := by omega
    rw [h0, hb0]
    refine (cutAtS_zero A' c' B cb w).mono fun e w' ⟨A2, c2, Ap, cp, he, hI, hb⟩ => ⟨A2, c2, _, by rw [hb0]; exact he, hI, fun k hk => ?_, hb⟩
    have hk0 : k = 0 := by omega
    subst hk0
    have e1 : enL ws.length bs 0 - stL bs 0 = 0 := by unfold enL stL; rw [if_neg (by omega), if_pos rfl, h0]
    have e2 : seg ws (stL bs 0) (enL ws.length bs 0) = [] := seg_nil ws (by omega)
    rw [e1, e2]
    exact ⟨Ap, cp, rfl, by omega, fun wr _ => StrsAt.nil _ _ _⟩
  · have hne : bas ws ≠ [] := by intro e; have := congrArg List.length e; simp at this; subst this; simp at h0
    obtain ⟨b, o, rfl, hb2, hps⟩ := hS hne
    refine (cutAtS_any b o c' ws.length B bs cb w hn h0 hc' ht hl hB).mono fun e w' ⟨A2, c2, he, hI, hb⟩ => ⟨A2, c2, _, he, hI, fun k hk => ?_, hb⟩
    refine ⟨_, _, piecesT_get _ _ _ _ _ (by omega), by have := (told_ends ht k hk).2.1; omega, fun wr hwr => ?_⟩
    obtain ⟨b', o', e, h1, h2⟩ := hwr hne
    injection e with e; injection e with e1 e2; subst e1 e2
    exact strsAt_seg h2 h1 _ _
end Go.Proofs.Ytikmmeohmkjbeaa
