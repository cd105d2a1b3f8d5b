/- Breaks as told, and the lines that they make: the program's. -/
import Derived.Test.YtikmmeohmkjbeaaGreedyW
import Derived.Test.YtikmmeohmkjbeaaWordNe
namespace Go.Proofs.Ytikmmeohmkjbeaa
open Go Go.RowKit

/-- The first k breaks are as told. -/
def toldTo (n : Nat) (bs : List Int) (k : Nat) : Prop := ∀ i, i < k → 1 ≤ bs.getD i 0 ∧ bs.getD i 0 ≤ (n : Int) - 1 ∧ (0 < i → bs.getD (i - 1) 0 < bs.getD i 0)
theorem toldTo_all {n : Nat} {bs : List Int} : toldTo n bs bs.length ↔ toldP n bs := Iff.rfl
theorem toldTo_succ {n : Nat} {bs : List Int} {k : Nat} (h : toldTo n bs k) (h1 : 1 ≤ bs.getD k 0) (h2 : bs.getD k 0 ≤ (n : Int) - 1) (h3 : 0 < k → bs.getD (k - 1) 0 < bs.getD k 0) : toldTo n bs (k + 1) := fun i hi => by
  rcases Nat.lt_or_ge i k with h' | h'
  · exact h i h'
  · obtain rfl : i = k := by omega
    exact ⟨h1, h2, h3⟩
/-- The break ahead of break k. -/
def prevB (bs : List Int) (k : Nat) : Int := if k = 0 then 0 else bs.getD (k - 1) 0
theorem told_step {n : Nat} {bs : List Int} {k : Nat} (h : toldTo n bs k) (h1 : prevB bs k < bs.getD k 0) (h2 : bs.getD k 0 < n) : toldTo n bs (k + 1) := by
  unfold prevB at h1
  by_cases h0 : k = 0
  · subst h0; rw [if_pos rfl] at h1; exact toldTo_succ h (by omega) (by omega) (fun h => absurd h (by omega))
  · rw [if_neg h0] at h1
    have := h (k - 1) (by omega)
    exact toldTo_succ h (by omega) (by omega) (fun _ => h1)
theorem told_stop {n : Nat} {bs : List Int} {k : Nat} (hk : k < bs.length) (h : bs.getD k 0 ≤ prevB bs k ∨ (n : Int) ≤ bs.getD k 0) : told n bs = false := told_false.2 (fun hp => by
  have h1 := hp k hk
  unfold prevB at h
  by_cases h0 : k = 0
  · subst h0; rw [if_pos rfl] at h; omega
  · rw [if_neg h0] at h
    have := h1.2.2 (by omega)
    omega)
theorem ints_get {bs : List Int} {k : Nat} (h : k < bs.length) : bs[k]? = some (bs.getD k 0) := by
  rw [List.getD_eq_getElem?_getD, List.getElem?_eq_getElem h]; rfl

set_option maxRecDepth 100000 in
set_option maxHeartbeats 2000000 in
theorem areBreaks_any (B : Option Addr) (bs : List Int) (cb : Nat) (n : Nat) (w : World) (hbn : bs.length ≤ maxLen) (hB : IntsAt w w.heap.size B bs) :
    Calls Try.prog 81 #[.slice B bs.length cb, .int .i64 n] w fun e w' => e = .returned (.bool (told n bs)) ∧ w = w' := by
  unfold maxLen at hbn
  have HGET := hide (fun k hk => ints_get (bs := bs) (k := k) hk)
  have HSTOP := hide (fun k (hk : k < bs.length) h => told_stop (n := n) hk h)
  have HALL := hide (fun (h : toldTo n bs bs.length) => told_true.2 (toldTo_all.1 h))
  generalize told n bs = T at *
  obtain ⟨m, hm⟩ : ∃ m, bs.length = m := ⟨_, rfl⟩
  have HNE := hide (show 0 < m → bs ≠ [] from fun h e => by rw [e] at hm; simp at hm; omega)
  rw [hm] at hbn HGET HSTOP HALL ⊢
  clear hm
  go_enter Try.func81, Try.ntmps81
  go_wp2
  go_loop [5, 10] (fun p i => ∃ k : Nat, k ≤ m ∧ i = .int .i64 k ∧ p = .int .i64 (prevB bs k) ∧ toldTo n bs k)
    (fun _ i => m - (intOf i).toNat)
  case atStart => exact ⟨0, by omega, rfl, rfl, fun i h => absurd h (by omega)⟩
  case round =>
    obtain ⟨k, hk, rfl, rfl, ht⟩ := hrel
    have HT := hide ht
    clear ht
    by_cases hlt : k < m
    · have hi : (k : Int) < m := by omega
      have h0 : (0 : Int) ≤ k := by omega
      obtain ⟨b, o, rfl, hb, hc⟩ := hB (HNE.out (by omega))
      have ck := hc k _ (HGET.out k hlt)
      have HS := hide (HSTOP.out k hlt)
      have HP := hide (show prevB bs (k + 1) = bs.getD k 0 by unfold prevB; rw [if_neg (by omega)]; rfl)
      have HSTEP := hide (fun h1 h2 => told_step (n := n) (bs := bs) (k := k) HT.out h1 h2)
      clear hc
      generalize bs.getD k 0 = x at ck HS HP HSTEP
      generalize prevB bs k = p at HS HSTEP
      by_cases h1 : x ≤ p
      · have HF := hide (HS.out (.inl h1))
        go_wp2
        go_ret
        exact ⟨ret_bool HF.out.symm, rfl⟩
      · by_cases h2 : (n : Int) ≤ x
        · have HF := hide (HS.out (.inr h2))
          have h1' : ¬ x ≤ p := h1
          go_wp2
          go_ret
          exact ⟨ret_bool HF.out.symm, rfl⟩
        · have HF := hide (HSTEP.out (by omega) (by omega))
          go_wp2
          exact ⟨⟨k + 1, by omega, by go_num, by rw [HP.out], HF.out⟩, by simp [intOf]; omega⟩
    · obtain rfl : k = m := by omega
      have HF := hide (HALL.out HT.out)
      go_wp2
      go_ret
      exact ⟨ret_bool HF.out.symm, rfl⟩

theorem Try.infoSpans : (Try.prog.info? 111).map (fun i => (i.zero, i.size, i.bytes)) = some (some (.slice none 0 0), 1, 24) := by kernel_rfl

/-- Line i, as the program cuts it. -/
def pieceV (b o c n : Nat) (bs : List Int) (i : Nat) : Value := .slice (some ⟨b, o + stL bs i * 2, none⟩) (enL n bs i - stL bs i) (c - stL bs i)
def pieces (b o c n : Nat) (bs : List Int) (k : Nat) : List Value := (List.range k).map (pieceV b o c n bs)
theorem pieces_succ (b o c n : Nat) (bs : List Int) (k : Nat) : pieces b o c n bs (k + 1) = pieces b o c n bs k ++ [pieceV b o c n bs k] := by simp [pieces, List.range_succ]
theorem pieces_len (b o c n : Nat) (bs : List Int) (k : Nat) : (pieces b o c n bs k).length = k := by simp [pieces]
theorem pieces_get (b o c n : Nat) (bs : List Int) {k i : Nat} (h : i < k) : (pieces b o c n bs k)[i]? = some (pieceV b o c n bs i) := by simp [pieces, List.getElem?_range h]

set_option maxRecDepth 100000 in
set_option maxHeartbeats 4000000 in
theorem cutAt_any (b o c : Nat) (n : Nat) (B : Option Addr) (bs : List Int) (cb : Nat) (w : World) (hn : n ≤ 61) (h0 : 0 < n) (hc : n ≤ c) (ht : toldP n bs) (hl : bs.length ≤ n) (hB : IntsAt w w.heap.size B bs) :
    Calls Try.prog 153 #[.slice (some ⟨b, o, none⟩) n c, .slice B bs.length cb] w fun e w' => ∃ A' c', e = .returned (.slice A' (bs.length + 1) c') ∧ CellsIn w' w.heap.size A' (pieces b o c n bs (bs.length + 1)) ∧ Below w.heap.size w w' := by
  obtain ⟨i0, hi0, hz0, hz1, hz2⟩ := info_parts Try.infoSpans
  have HGET := hide (fun k hk => ints_get (bs := bs) (k := k) hk)
  have HEN := hide (told_ends ht)
  have HT := hide ht
  obtain ⟨m, hm⟩ : ∃ m, bs.length = m := ⟨_, rfl⟩
  have HNE := hide (show 0 < m → bs ≠ [] from fun h e => by rw [e] at hm; simp at hm; omega)
  have HM := hide hm
  rw [hm] at hl HGET HEN ⊢
  clear hm ht
  have e1 := IntWalk.i64_in ((m : Int) + 1) ⟨by omega, by omega⟩
  go_enter Try.func153, Try.ntmps153
  go_wp2_with (refine wpList_make_own _ rfl _ _ 188 rfl w.heap.size 111 i0 (.slice none 0 0) 1 Try.underlying188 hi0 hz0 hz1 .i64 .i64 _ (m + 1) rfl rfl (by omega) (by rw [hz2]; omega) (by unfold maxLen; omega) (Nat.le_refl _) ?_; intro w1 hown1 hg1)
  have hB1 : Below w.heap.size w w1 := grown_toBelow hg1 (Nat.le_refl _) (fun k hk => by cases hk)
  have HO1 := hide hown1
  clear hown1 hg1 e1
  go_loopw [5, 6, 15] (fun cut f i wr => ∃ k : Nat, k ≤ m ∧ i = .int .i64 k ∧ f = .int .i64 (stL bs k : Nat) ∧ wr.ownsRow w.heap.size 111 1 cut k (pieces b o c n bs k) ∧ Below w.heap.size w wr)
    (fun _ _ i _ => m - (intOf i).toNat)
  case atStart => exact ⟨0, by omega, rfl, rfl, HO1.out, hB1⟩
  case round =>
    obtain ⟨k, hk, rfl, rfl, hown, hB'⟩ := hrel
    obtain ⟨Ab, cbb, rfl, _, _⟩ := cellsIn_of_own hown (by omega)
    obtain ⟨q1, q2, q3⟩ := HEN.out k hk
    have q3 := q3 h0
    have hown' := hide hown
    have hbs := hB'.size
    clear hown
    have hst : (stL bs k : Int) < c := by omega
    have hst0 : (0 : Int) ≤ stL bs k := by omega
    have HPS := hide (pieces_succ b o c n bs k)
    by_cases hlt : k < m
    · have hi : (k : Int) < m := by omega
      have h00 : (0 : Int) ≤ k := by omega
      obtain ⟨b2, o2, rfl, hb2, hcs⟩ := hB (HNE.out (by omega))
      have ck := (hB'.cell (p := ⟨b2, o2 + k, none⟩) hb2).trans (hcs k _ (HGET.out k hlt))
      have hen : bs.getD k 0 = (enL n bs k : Int) := by
        have h1 := HT.out k (by rw [HM.out]; exact hlt)
        unfold enL; rw [if_pos (by rw [HM.out]; exact hlt)]; omega
      have HST := hide (st_succ n bs (i := k) (by rw [HM.out]; exact hlt))
      rw [hen] at ck
      have HPV := hide (show pieceV b o c n bs k = .slice (some ⟨b, o + stL bs k * 2, none⟩) (enL n bs k - stL bs k) (c - stL bs k) from rfl)
      clear hcs hen
      generalize stL bs k = f at *
      generalize enL n bs k = g at *
      have hg1 : (f : Int) ≤ g := by omega
      have hg2 : (g : Int) ≤ c := by omega
      have hg0 : (0 : Int) ≤ g := by omega
      go_wp2_with (at_builtin; refine wpList_append_own _ rfl (.tmp 19) (.tmp 24) 188 rfl w.heap.size 111 i0 (.slice none 0 0) 1 24 Try.underlying188 hi0 hz0 hz1 hz2 rfl (by decide) _ k _ rfl (hown'.out.alloc _) ⟨wr.heap.size, 0, none⟩ 1 1 [.slice (some ⟨b, o + f * 2, none⟩) (g - f) (c - f)] rfl rfl ?c1 ?c2 ?c3 ?c4 ?c5 ?_)
      case c1 =>
        intro j u hj
        match j, hj with
        | 0, hj => simp at hj; subst hj; simp [Addr.add]
      case c2 => intro u hu; simp at hu; subst hu; rfl
      case c3 => unfold maxLen; omega
      case c4 => omega
      case c5 => simp; omega
      intro v' w4 hown4 hg4 _
      obtain ⟨A4, c4, rfl, _, _⟩ := cellsIn_of_own hown4 (by omega)
      have H4 := hide hown4
      have hg34 : wr.grownBy w4 _ := grown_trans (World.grownBy_alloc wr _ _) hg4
      have hB4 := hB'.trans (grown_toBelow hg34 (by omega) (fun k hk => (hown'.out.lt k hk).1))
      clear hown4 hg4 hg34
      go_wp2
      exact ⟨⟨k + 1, by omega, by go_num, by rw [HST.out], by rw [HPS.out, HPV.out]; exact H4.out, hB4⟩, by simp [intOf]; omega⟩
    · obtain rfl : k = m := by omega
      have hen : enL n bs k = n := by unfold enL; rw [if_neg (by rw [HM.out]; omega)]
      have HPV := hide (show pieceV b o c n bs k = .slice (some ⟨b, o + stL bs k * 2, none⟩) (n - stL bs k) (c - stL bs k) by unfold pieceV; rw [hen])
      rw [hen] at q1 q2 q3
      clear hen
      generalize stL bs k = f at *
      have hg1 : (f : Int) ≤ n := by omega
      go_wp2_with (at_builtin; refine wpList_append_own _ rfl (.tmp 28) (.tmp 32) 188 rfl w.heap.size 111 i0 (.slice none 0 0) 1 24 Try.underlying188 hi0 hz0 hz1 hz2 rfl (by decide) _ k _ rfl (hown'.out.alloc _) ⟨wr.heap.size, 0, none⟩ 1 1 [.slice (some ⟨b, o + f * 2, none⟩) (n - f) (c - f)] rfl rfl ?d1 ?d2 ?d3 ?d4 ?d5 ?_)
      case d1 =>
        intro j u hj
        match j, hj with
        | 0, hj => simp at hj; subst hj; simp [Addr.add]
      case d2 => intro u hu; simp at hu; subst hu; rfl
      case d3 => unfold maxLen; omega
      case d4 => omega
      case d5 => simp; omega
      intro v' w4 hown4 hg4 _
      obtain ⟨A4, c4, rfl, _, hI⟩ := cellsIn_of_own hown4 (by omega)
      have HI := hide hI
      have hg34 : wr.grownBy w4 _ := grown_trans (World.grownBy_alloc wr _ _) hg4
      have hB4 := hB'.trans (grown_toBelow hg34 (by omega) (fun k hk => (hown'.out.lt k hk).1))
      clear hown4 hg4 hg34 hI
      go_wp2
      go_ret
      exact ⟨A4, c4, rfl, by rw [HPS.out, HPV.out]; exact HI.out, hB4⟩
end Go.Proofs.Ytikmmeohmkjbeaa
