/- The least width: greedy breaks are right if no word is wider than the width, wider lines need no more of them, and some width is enough. -/
import Derived.Test.YtikmmeohmkjbeaaLeftS
import Derived.Test.YtikmmeohmkjbeaaImplLine
namespace Go.Proofs.Ytikmmeohmkjbeaa
open Go Go.RowKit

structure WsOk (F : Fc) (ws : List (List UInt8)) : Prop where
  w : ∀ k, k < ws.length → 0 ≤ wideL F (ws.getD k [])
  sp : 0 ≤ F.sp
theorem wsOk_of {F : Fc} (hF : F.ok) (h : vface F = true) {ws : List (List UInt8)} (hw : ∀ x ∈ ws, x.length ≤ 60 ∧ allCap x) : WsOk F ws where
  w := fun k hk => by
    obtain ⟨h1, h2⟩ := hw _ (getD_mem (ws := ws) hk)
    exact (wideL_bd hF h h2 h1).1
  sp := by have := sp_bd h; omega
theorem preL_mono {F : Fc} {ws : List (List UInt8)} (h : WsOk F ws) {a : Nat} : ∀ d, a + d ≤ ws.length → preL F ws a ≤ preL F ws (a + d)
  | 0, _ => Int.le_refl _
  | d + 1, hd => by
    have ih := preL_mono h d (show a + d ≤ ws.length by omega)
    have h1 := h.w (a + d) (by omega)
    have h2 := h.sp
    have e : a + (d + 1) = (a + d) + 1 := by omega
    rw [e]; simp only [preL]; omega
theorem preL_le {F : Fc} {ws : List (List UInt8)} (h : WsOk F ws) {a b : Nat} (hab : a ≤ b) (hb : b ≤ ws.length) : preL F ws a ≤ preL F ws b := by
  have := preL_mono h (a := a) (b - a) (by omega)
  rwa [show a + (b - a) = b by omega] at this
theorem line_has {F : Fc} {ws : List (List UInt8)} (h : WsOk F ws) {a b k : Nat} (hak : a ≤ k) (hkb : k < b) (hb : b ≤ ws.length) : wideL F (ws.getD k []) ≤ lineL F (seg ws a b) := by
  rw [lineL_seg F ws (by omega) hb]
  have h1 := preL_le h hak (by omega)
  have h2 := preL_le h (show k + 1 ≤ b by omega) hb
  have e : preL F ws (k + 1) = preL F ws k + wideL F (ws.getD k []) + F.sp := rfl
  omega
theorem line_anti {F : Fc} {ws : List (List UInt8)} (h : WsOk F ws) {a a' b : Nat} (haa : a ≤ a') (hab : a' < b) (hb : b ≤ ws.length) : lineL F (seg ws a' b) ≤ lineL F (seg ws a b) := by
  rw [lineL_seg F ws (a := a) (by omega) hb, lineL_seg F ws hab hb]
  have := preL_le h haa (by omega)
  omega
theorem line_mono {F : Fc} {ws : List (List UInt8)} (h : WsOk F ws) {a b b' : Nat} (hab : a < b) (hbb : b ≤ b') (hb : b' ≤ ws.length) : lineL F (seg ws a b) ≤ lineL F (seg ws a b') := by
  rw [lineL_seg F ws (b := b') (by omega) hb, lineL_seg F ws hab (by omega)]
  have := preL_le h hbb hb
  omega

theorem stL_snoc (bs : List Int) (v : Int) {i : Nat} (hi : i ≤ bs.length) : stL (bs ++ [v]) i = stL bs i := by
  unfold stL
  split
  · rfl
  · rw [List.getD_eq_getElem?_getD, List.getD_eq_getElem?_getD, List.getElem?_append_left (by omega)]
theorem getD_snoc_old (bs : List Int) (v : Int) {i : Nat} (hi : i < bs.length) : (bs ++ [v]).getD i 0 = bs.getD i 0 := by
  rw [List.getD_eq_getElem?_getD, List.getD_eq_getElem?_getD, List.getElem?_append_left hi]
theorem getD_snoc_new (bs : List Int) (v : Int) : (bs ++ [v]).getD bs.length 0 = v := by simp
theorem stL_last (bs : List Int) (k : Nat) : stL (bs ++ [(k : Int)]) (bs.length + 1) = k := by
  unfold stL; rw [if_neg (by omega), Nat.add_sub_cancel, getD_snoc_new]; rfl

/-- What greedy breaks keep, word by word. -/
structure GInv (F : Fc) (ws : List (List UInt8)) (x : Int) (k : Nat) : Prop where
  told : toldP k (gTo F ws x k).2
  st : (gTo F ws x k).1 = stL (gTo F ws x k).2 (gTo F ws x k).2.length
theorem gInv {F : Fc} {ws : List (List UInt8)} {x : Int} : ∀ k, GInv F ws x k
  | 0 => ⟨fun i hi => by simp [gTo] at hi, by simp [gTo, stL]⟩
  | k + 1 => by
    have ih := gInv (F := F) (ws := ws) (x := x) k
    have hb := gTo_bd F ws x k
    by_cases h : (gTo F ws x k).1 < k ∧ x < lineL F (seg ws (gTo F ws x k).1 (k + 1))
    · have e := gTo_next h.1 h.2
      obtain ⟨h1, h2⟩ := ih
      constructor
      · rw [e]
        intro i hi
        simp only [List.length_append, List.length_singleton] at hi
        by_cases hib : i < (gTo F ws x k).2.length
        · have h3 := h1 i hib
          rw [getD_snoc_old _ _ hib]
          refine ⟨h3.1, by omega, fun h0 => ?_⟩
          rw [getD_snoc_old _ _ (by omega)]; exact h3.2.2 h0
        · have hi2 : i = (gTo F ws x k).2.length := by omega
          subst hi2
          rw [getD_snoc_new]
          refine ⟨by omega, by omega, fun h0 => ?_⟩
          rw [getD_snoc_old _ _ (by omega)]
          have h4 := h.1
          rw [h2] at h4
          unfold stL at h4
          rw [if_neg (by omega)] at h4
          have h5 := h1 ((gTo F ws x k).2.length - 1) (by omega)
          omega
      · rw [e]
        simp only [List.length_append, List.length_singleton]
        exact (stL_last _ _).symm
    · have e := gTo_same h
      constructor
      · rw [e]
        intro i hi
        have h3 := ih.told i hi
        exact ⟨h3.1, by omega, h3.2.2⟩
      · rw [e]; exact ih.st
theorem greedy_told (F : Fc) (ws : List (List UInt8)) (x : Int) : toldP ws.length (greedyL F ws x) := (gInv ws.length).told

/-- If each word fits, each line does. -/
theorem gLines {F : Fc} {ws : List (List UInt8)} {x : Int} (hx : 0 ≤ x) (hf : fitP F ws x) : ∀ k, k ≤ ws.length → (∀ i, i < (gTo F ws x k).2.length → lineL F (seg ws (stL (gTo F ws x k).2 i) ((gTo F ws x k).2.getD i 0).toNat) ≤ x) ∧ lineL F (seg ws (gTo F ws x k).1 k) ≤ x
  | 0, _ => ⟨fun i hi => by simp [gTo] at hi, by rw [lineL_seg_le F ws (by omega)]; exact hx⟩
  | k + 1, hk => by
    obtain ⟨h1, h2⟩ := gLines hx hf k (by omega)
    have ih := gInv (F := F) (ws := ws) (x := x) k
    have hb := gTo_bd F ws x k
    have hw : lineL F (seg ws k (k + 1)) ≤ x := by
      rw [seg_snoc ws (Nat.le_refl _) (by omega), seg_nil ws (Nat.le_refl _), List.nil_append, lineL_one]
      exact hf k (by omega)
    by_cases h : (gTo F ws x k).1 < k ∧ x < lineL F (seg ws (gTo F ws x k).1 (k + 1))
    · have e := gTo_next h.1 h.2
      rw [e]
      refine ⟨fun i hi => ?_, hw⟩
      simp only [List.length_append, List.length_singleton] at hi
      by_cases hib : i < (gTo F ws x k).2.length
      · simp only [getD_snoc_old _ _ hib, stL_snoc _ _ (Nat.le_of_lt hib)]; exact h1 i hib
      · have hi2 : i = (gTo F ws x k).2.length := by omega
        subst hi2
        simp only [getD_snoc_new, stL_snoc _ _ (Nat.le_refl _), ← ih.st, Int.toNat_natCast]; exact h2
    · have e := gTo_same h
      rw [e]
      refine ⟨h1, ?_⟩
      by_cases hst : (gTo F ws x k).1 < k
      · have := fun hh => h ⟨hst, hh⟩
        omega
      · have e2 : (gTo F ws x k).1 = k := by omega
        rw [e2]; exact hw
/-- Each word is in a line. -/
theorem in_line {n : Nat} {bs : List Int} {k : Nat} (hk : k < n) : ∀ d i, i + d = bs.length → stL bs i ≤ k → ∃ j, j ≤ bs.length ∧ stL bs j ≤ k ∧ k < enL n bs j
  | 0, i, hi, hs => ⟨i, by omega, hs, by unfold enL; rw [if_neg (by omega)]; exact hk⟩
  | d + 1, i, hi, hs => by
    by_cases h : k < enL n bs i
    · exact ⟨i, by omega, hs, h⟩
    · exact in_line hk d (i + 1) (by omega) (by rw [st_succ n bs (by omega)]; omega)
theorem greedy_right {F : Fc} {ws : List (List UInt8)} (h : WsOk F ws) {x : Int} (hx : 0 ≤ x) : rightP F ws x (greedyL F ws x) ↔ fitP F ws x := by
  constructor
  · intro hr k hk
    obtain ⟨j, hj, h1, h2⟩ := in_line (bs := greedyL F ws x) hk (greedyL F ws x).length 0 (by omega) (by simp [stL])
    have h3 := hr j hj
    unfold roomAt roomL at h3
    have h4 := line_has h h1 h2 (told_ends (greedy_told F ws x) j hj).2.1
    omega
  · intro hf i hi
    obtain ⟨h1, h2⟩ := gLines hx hf ws.length (Nat.le_refl _)
    unfold roomAt roomL
    by_cases hib : i < (greedyL F ws x).length
    · have := h1 i hib
      unfold enL; rw [if_pos hib]
      change lineL F (seg ws (stL (greedyL F ws x) i) ((greedyL F ws x).getD i 0).toNat) ≤ x at this
      omega
    · have hi2 : i = (greedyL F ws x).length := by omega
      subst hi2
      unfold enL; rw [if_neg (by omega)]
      have h3 := (gInv (F := F) (ws := ws) (x := x) ws.length).st
      change (gTo F ws x ws.length).1 = stL (greedyL F ws x) (greedyL F ws x).length at h3
      rw [h3] at h2
      omega
/-- Wider lines need no more breaks. -/
theorem gTo_wider {F : Fc} {ws : List (List UInt8)} (h : WsOk F ws) {x y : Int} (hxy : x ≤ y) : ∀ k, k ≤ ws.length → (gTo F ws y k).2.length < (gTo F ws x k).2.length ∨ (gTo F ws y k).2.length = (gTo F ws x k).2.length ∧ (gTo F ws x k).1 ≤ (gTo F ws y k).1
  | 0, _ => .inr ⟨rfl, Nat.le_refl _⟩
  | k + 1, hk => by
    have ih := gTo_wider h hxy k (by omega)
    have b1 := gTo_bd F ws x k
    have b2 := gTo_bd F ws y k
    by_cases hx : (gTo F ws x k).1 < k ∧ x < lineL F (seg ws (gTo F ws x k).1 (k + 1))
    · rw [gTo_next hx.1 hx.2]
      by_cases hy : (gTo F ws y k).1 < k ∧ y < lineL F (seg ws (gTo F ws y k).1 (k + 1))
      · rw [gTo_next hy.1 hy.2]
        simp only [List.length_append, List.length_singleton]
        rcases ih with ih | ih
        · exact .inl (by omega)
        · exact .inr ⟨by omega, Nat.le_refl _⟩
      · rw [gTo_same hy]
        simp only [List.length_append, List.length_singleton]
        exact .inl (by omega)
    · rw [gTo_same hx]
      by_cases hy : (gTo F ws y k).1 < k ∧ y < lineL F (seg ws (gTo F ws y k).1 (k + 1))
      · rw [gTo_next hy.1 hy.2]
        simp only [List.length_append, List.length_singleton]
        rcases ih with ih | ih
        · rcases Nat.lt_or_ge ((gTo F ws y k).2.length + 1) (gTo F ws x k).2.length with h3 | h3
          · exact .inl h3
          · exact .inr ⟨by omega, by omega⟩
        · exfalso
          apply hx
          have h4 := line_anti h ih.2 (show (gTo F ws y k).1 < k + 1 by omega) (by omega)
          exact ⟨by omega, by omega⟩
      · rw [gTo_same hy]; exact ih
theorem greedy_wider {F : Fc} {ws : List (List UInt8)} (h : WsOk F ws) {x y : Int} (hxy : x ≤ y) : (greedyL F ws y).length ≤ (greedyL F ws x).length := by
  rcases gTo_wider h hxy ws.length (Nat.le_refl _) with h1 | h1
  · exact Nat.le_of_lt h1
  · exact Nat.le_of_eq h1.1
theorem greedy_one {F : Fc} {ws : List (List UInt8)} (h : WsOk F ws) {x : Int} (hx : lineL F ws ≤ x) : fitP F ws x ∧ greedyL F ws x = [] := by
  have e := seg_all ws
  constructor
  · intro k hk
    have := line_has h (Nat.zero_le k) hk (Nat.le_refl _)
    rw [e] at this
    omega
  · have : ∀ k, k ≤ ws.length → gTo F ws x k = (0, []) := by
      intro k
      induction k with
      | zero => intro _; rfl
      | succ k ih =>
        intro hk
        have ih := ih (by omega)
        rw [gTo_same (by
          rw [ih]
          rintro ⟨_, h2⟩
          have h3 := line_mono h (show 0 < k + 1 by omega) hk (Nat.le_refl _)
          rw [e] at h3
          simp only at h2
          omega), ih]
    unfold greedyL; rw [this ws.length (Nat.le_refl _)]
def goodW (F : Fc) (ws : List (List UInt8)) (m : Int) (x : Nat) : Prop := fitP F ws x ∧ ((greedyL F ws x).length : Int) + 1 ≤ m
theorem good_mono {F : Fc} {ws : List (List UInt8)} (h : WsOk F ws) {m : Int} {x y : Nat} (hxy : x ≤ y) (hg : goodW F ws m x) : goodW F ws m y := by
  refine ⟨fun k hk => ?_, ?_⟩
  · have := hg.1 k hk; omega
  · have := greedy_wider h (x := x) (y := y) (by omega)
    have := hg.2
    omega
theorem least_of {P : Nat → Prop} : ∀ n, P n → ∃ r, r ≤ n ∧ P r ∧ ∀ j, j < r → ¬ P j
  | 0, h => ⟨0, Nat.le_refl _, h, fun j hj => absurd hj (by omega)⟩
  | n + 1, h => by
    by_cases hh : ∃ j, j < n + 1 ∧ P j
    · obtain ⟨j, hj, hp⟩ := hh
      obtain ⟨r, h1, h2⟩ := least_of j hp
      exact ⟨r, by omega, h2⟩
    · exact ⟨n + 1, Nat.le_refl _, h, fun j hj hp => hh ⟨j, hj, hp⟩⟩
termination_by n => n

theorem glue_sum (c : UInt8) : ∀ xs : List (List UInt8), xs ≠ [] → sumL (glue [c] xs) = sumL xs + 1 ∧ (glue [c] xs).length = xs.length
  | [], h => (h rfl).elim
  | x :: r, _ => by simp [glue, sumL]; omega
theorem split_sum : ∀ L : List UInt8, sumL (splitL L) + (splitL L).length = L.length + 1
  | [] => by simp [splitL, sumL]
  | c :: cs => by
    have ih := split_sum cs
    unfold splitL
    split
    · simp [sumL] at ih ⊢; omega
    · obtain ⟨h1, h2⟩ := glue_sum c (splitL cs) (splitL_ne cs)
      rw [h1, h2]; simp; omega
theorem wide_sum {F : Fc} (hF : F.ok) (h : vface F = true) : ∀ ws : List (List UInt8), (∀ x ∈ ws, x.length ≤ 60 ∧ allCap x) → (ws.map (wideL F)).sum ≤ 60 * (sumL ws : Int)
  | [], _ => by simp [sumL]
  | x :: r, hw => by
    have ih := wide_sum hF h r (fun y hy => hw y (by simp [hy]))
    have h1 := (wideTo_bd hF h (hw x (by simp)).2 x.length (Nat.le_refl _)).2
    have e : sumL (x :: r) = x.length + sumL r := by simp [sumL]
    rw [e, List.map_cons, List.sum_cons]
    change wideL F x ≤ _ at h1
    push_cast
    omega
theorem line_top {F : Fc} (hF : F.ok) (h : vface F = true) {L : List UInt8} (ht : vtext L = true) : lineL F (wordsL L) ≤ 3600 := by
  by_cases h0 : L = []
  · subst h0; simp [wordsL, lineL_nil]
  · have hw : ∀ x ∈ wordsL L, x.length ≤ 60 ∧ allCap x := fun x hx => words_mem ht hx
    have e : wordsL L = splitL L := by unfold wordsL; rw [if_neg h0]
    have h1 := split_sum L
    rw [← e] at h1
    have h2 := wide_sum hF h (wordsL L) hw
    have h3 := lineTo_sum F (wordsL L) (wordsL L).length (Nat.le_refl _)
    rw [List.take_length] at h3
    have h4 := (vtext_true.1 ht).1
    have h5 := sp_bd h
    have h6 : 0 < (wordsL L).length := by rw [e]; exact List.length_pos_iff.2 (splitL_ne L)
    unfold lineL
    rw [h3]
    have h7 : (((wordsL L).length - 1 : Nat) : Int) * F.sp ≤ (((wordsL L).length - 1 : Nat) : Int) * 40 := Int.mul_le_mul_of_nonneg_left h5.2 (by omega)
    omega

/-- The least width. -/
noncomputable def lwN (F : Fc) (ws : List (List UInt8)) (m : Int) : Nat := @dite _ (∃ r, goodW F ws m r ∧ ∀ j, j < r → ¬ goodW F ws m j) (Classical.propDecidable _) (fun h => Classical.choose h) (fun _ => 0)
theorem lwN_eq {F : Fc} {ws : List (List UInt8)} {m : Int} {r : Nat} (h : goodW F ws m r) (h2 : ∀ j, j < r → ¬ goodW F ws m j) : lwN F ws m = r := by
  have hex : ∃ r, goodW F ws m r ∧ ∀ j, j < r → ¬ goodW F ws m j := ⟨r, h, h2⟩
  unfold lwN
  rw [dif_pos hex]
  obtain ⟨h3, h4⟩ := Classical.choose_spec hex
  generalize Classical.choose hex = q at *
  rcases Nat.lt_trichotomy q r with h5 | h5 | h5
  · exact (h2 q h5 h3).elim
  · exact h5
  · exact (h4 r h5 h).elim
theorem good_top {F : Fc} (hF : F.ok) (h : vface F = true) {L : List UInt8} (ht : vtext L = true) {m : Int} (hm : 1 ≤ m) {x : Nat} (hx : 3600 ≤ x) : goodW F (wordsL L) m x := by
  have hw := wsOk_of hF h (ws := wordsL L) (fun x hx => words_mem ht hx)
  have := line_top hF h ht
  obtain ⟨h1, h2⟩ := greedy_one hw (x := (x : Int)) (by omega)
  exact ⟨h1, by rw [h2]; simpa using hm⟩
noncomputable def lwV (F : Fc) (L : List UInt8) (m : Int) : Int := if askC F L (inB m 1 60) = 0 then lwN F (wordsL L) m else 0
end Go.Proofs.Ytikmmeohmkjbeaa
