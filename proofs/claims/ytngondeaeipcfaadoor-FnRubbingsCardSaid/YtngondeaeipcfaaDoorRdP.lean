/- The text of a rubbing: the data; RubbingText of the model. · A rubbing that is read from its text: the data. -/
import Derived.Test.YtngondeaeipcfaaDoorRbC
import Derived.Test.YtngondeaeipcfaaDoorWr
import Derived.Test.YtngondeaeipcfaaDoorG3

namespace Go.Proofs.YtngondeaeipcfaaDoor
open Go Go.RowKit

/-- The sign of a dot. -/
def rtD (R : List Nat) (x y : Nat) : UInt8 := if (R.getD y 0).testBit x then 35 else 46
def rtW (R : List Nat) (y : Nat) : Nat → List UInt8
  | 0 => []
  | x + 1 => rtW R y x ++ [rtD R x y]
/-- The first y rows. -/
def rtT (R : List Nat) : Nat → List UInt8
  | 0 => []
  | y + 1 => rtT R y ++ rtW R y 16 ++ [10]
theorem rtW_len (R : List Nat) (y : Nat) : ∀ x, (rtW R y x).length = x
  | 0 => rfl
  | x + 1 => by rw [rtW, List.length_append, rtW_len R y x]; rfl
theorem rtT_len (R : List Nat) : ∀ y, (rtT R y).length = 17 * y
  | 0 => rfl
  | y + 1 => by rw [rtT, List.length_append, List.length_append, rtT_len R y, rtW_len]; simp; omega
/-- .. and x dots of the next one. -/
def rtX (R : List Nat) (y x : Nat) : List UInt8 := rtT R y ++ rtW R y x
theorem rtX_len (R : List Nat) (y x : Nat) : (rtX R y x).length = 17 * y + x := by rw [rtX, List.length_append, rtT_len, rtW_len]
theorem rtX_zero (R : List Nat) (y : Nat) : rtX R y 0 = rtT R y := by simp [rtX, rtW]
theorem rtX_dark {R : List Nat} {y x : Nat} (h : (R.getD y 0).testBit x = true) : rtX R y (x + 1) = rtX R y x ++ [35] := by
  rw [rtX, rtW, rtX, rtD, if_pos h, List.append_assoc]
theorem rtX_light {R : List Nat} {y x : Nat} (h : (R.getD y 0).testBit x = false) : rtX R y (x + 1) = rtX R y x ++ [46] := by
  rw [rtX, rtW, rtX, rtD, if_neg (by rw [h]; decide), List.append_assoc]
theorem rtX_end (R : List Nat) (y : Nat) : rtT R (y + 1) = rtX R y 16 ++ [10] := by rw [rtT, rtX]
/-- The text of a rubbing. -/
def rtB (R : List Nat) : ByteArray := ⟨(rtT R 8).toArray⟩
theorem ba_snoc (l : List UInt8) (c : UInt8) : (⟨l.toArray⟩ : ByteArray) ++ ⟨#[c]⟩ = ⟨(l ++ [c]).toArray⟩ := by
  apply ba_ext; rw [append_data]; first | done | simp
theorem rt_size (R : List Nat) (y x : Nat) : (⟨(rtX R y x).toArray⟩ : ByteArray).size = 17 * y + x := by
  rw [← rtX_len R y x]; simp [ByteArray.size]

end Go.Proofs.YtngondeaeipcfaaDoor

namespace Go.Proofs.YtngondeaeipcfaaDoor
open Go Go.RowKit

/-- The pieces between ends of rows. -/
def splitT : List UInt8 → List (List UInt8)
  | [] => [[]]
  | c :: cs => if c = 10 then [] :: splitT cs else glue [c] (splitT cs)
theorem splitT_ne : ∀ L, splitT L ≠ []
  | [] => by simp [splitT]
  | c :: cs => by unfold splitT; split <;> simp [glue_ne]
theorem splitT_10 (cs : List UInt8) : splitT (10 :: cs) = [] :: splitT cs := by simp [splitT]
theorem splitT_other {c : UInt8} (cs : List UInt8) (hc : c ≠ 10) : splitT (c :: cs) = glue [c] (splitT cs) := by
  show (if c = 10 then _ else _) = _
  rw [if_neg hc]
theorem splitT_len : ∀ L : List UInt8, (splitT L).length ≤ L.length + 1
  | [] => by simp [splitT]
  | c :: cs => by
    have ih := splitT_len cs
    by_cases hc : c = 10
    · subst hc; rw [splitT_10]; simp only [List.length_cons]; omega
    · rw [splitT_other _ hc]
      have hne := splitT_ne cs
      cases h : splitT cs with
      | nil => exact (hne h).elim
      | cons a t => rw [h] at ih; simp only [glue, List.length_cons] at *; omega
theorem splitT_row (L : List UInt8) : ∀ r : List UInt8, (∀ c ∈ r, c ≠ 10) → splitT (r ++ 10 :: L) = r :: splitT L
  | [], _ => splitT_10 L
  | c :: r, h => by
    rw [List.cons_append, splitT_other _ (h c (by simp)), splitT_row L r (fun x hx => h x (by simp [hx]))]
    rfl
theorem rtW_mem (R : List Nat) (y : Nat) : ∀ (x : Nat) (c : UInt8), c ∈ rtW R y x → c = 35 ∨ c = 46
  | 0, c, h => by simp [rtW] at h
  | x + 1, c, h => by
    rw [rtW] at h
    rcases List.mem_append.1 h with h | h
    · exact rtW_mem R y x c h
    · simp only [List.mem_singleton] at h
      subst h
      unfold rtD; split
      · exact .inl rfl
      · exact .inr rfl
theorem rtW_get (R : List Nat) (y : Nat) : ∀ (m x : Nat), x < m → (rtW R y m)[x]? = some (rtD R x y)
  | 0, x, h => by omega
  | m + 1, x, h => by
    rw [rtW]
    by_cases e : x < m
    · rw [List.getElem?_append_left (by rw [rtW_len]; exact e)]; exact rtW_get R y m x e
    · obtain rfl : x = m := by omega
      rw [List.getElem?_append_right (by rw [rtW_len]; exact Nat.le_refl _), rtW_len, Nat.sub_self]; rfl
theorem splitT_text (R : List Nat) (L : List UInt8) : ∀ y, splitT (rtT R y ++ L) = (List.range y).map (fun y => rtW R y 16) ++ splitT L
  | 0 => by simp [rtT]
  | y + 1 => by
    have h1 : rtT R (y + 1) ++ L = rtT R y ++ (rtW R y 16 ++ 10 :: L) := by rw [rtT, List.append_assoc, List.append_assoc]; rfl
    have h2 : splitT (rtW R y 16 ++ 10 :: L) = rtW R y 16 :: splitT L := splitT_row L _ (fun c hc e => by
      subst e
      rcases rtW_mem R y 16 _ hc with h | h <;> cases h)
    rw [h1, splitT_text R _ y, h2, List.range_succ, List.map_append, List.append_assoc]
    rfl
def joinT : List (List UInt8) → List UInt8
  | [] => []
  | [x] => x
  | x :: y :: r => x ++ 10 :: joinT (y :: r)
theorem joinT_split : ∀ L : List UInt8, joinT (splitT L) = L
  | [] => rfl
  | c :: cs => by
    have ih := joinT_split cs
    have hne := splitT_ne cs
    by_cases hc : c = 10
    · subst hc
      rw [splitT_10]
      cases h : splitT cs with
      | nil => exact (hne h).elim
      | cons a t => rw [h] at ih; show [] ++ 10 :: joinT (a :: t) = _; rw [ih]; rfl
    · rw [splitT_other _ hc]
      cases h : splitT cs with
      | nil => exact (hne h).elim
      | cons a t =>
        rw [h] at ih
        cases t with
        | nil => show [c] ++ a = _; rw [← ih]; rfl
        | cons b t => show ([c] ++ a) ++ 10 :: joinT (b :: t) = _; rw [← ih]; rfl
/-- The lines are those of a rubbing. -/
def okT (S : List (List UInt8)) : Prop := S.length = 9 ∧ S.getD 8 [] = [] ∧ ∀ y, y < 8 → (S.getD y []).length = 16 ∧ ∀ c ∈ S.getD y [], c = 35 ∨ c = 46
theorem okT_text (R : List Nat) : okT (splitT (rtT R 8)) := by
  have h := splitT_text R [] 8
  rw [List.append_nil] at h
  have hg : ∀ y, y < 8 → (splitT (rtT R 8)).getD y [] = rtW R y 16 := fun y hy => by
    rw [h, List.getD_eq_getElem?_getD, List.getElem?_append_left (by simp; exact hy), List.getElem?_map, List.getElem?_range hy]; rfl
  refine ⟨by rw [h]; simp [splitT], by rw [h]; rfl, fun y hy => ?_⟩
  rw [hg y hy]
  exact ⟨rtW_len R y 16, rtW_mem R y 16⟩
/-- The dot at x, y is dark in a text. -/
def rdF (L : List UInt8) (x y : Nat) : Bool := L[y * 17 + x]? == some 35
/-- The only rubbing that can have the text. -/
def rdR (L : List UInt8) : List Nat := rubF (rdF L)
/-- The dot at x, y is dark in lines. -/
def lnF (S : List (List UInt8)) (x y : Nat) : Bool := (S.getD y [])[x]? == some 35
theorem rd_bit {f : Nat → Nat → Bool} {x y : Nat} (hx : x < 16) (hy : y < 8) : ((rubF f).getD y 0).testBit x = f x y := by
  have := dk_rubF (f := f) hx hy
  rw [dk_in hx hy] at this
  exact this
theorem ok_rows {L : List UInt8} (h : okT (splitT L)) : ∀ y, y ≤ 8 → L = rtT (rdR L) y ++ joinT ((splitT L).drop y) ∧ ∀ y', y' < y → (splitT L).getD y' [] = rtW (rdR L) y' 16
  | 0, _ => ⟨by rw [rtT, List.drop_zero, joinT_split]; rfl, fun y' h => by omega⟩
  | y + 1, hy => by
    obtain ⟨ih, ih2⟩ := ok_rows h y (by omega)
    obtain ⟨h1, h2, h3⟩ := h
    obtain ⟨hl, hm⟩ := h3 y (by omega)
    have hyl : y < (splitT L).length := by omega
    have hyl2 : y + 1 < (splitT L).length := by omega
    have hgd : (splitT L).getD y [] = (splitT L)[y] := by rw [List.getD_eq_getElem?_getD, List.getElem?_eq_getElem hyl]; rfl
    have hd : (splitT L).drop y = (splitT L)[y] :: (splitT L)[y + 1] :: (splitT L).drop (y + 1 + 1) := by
      rw [List.drop_eq_getElem_cons hyl, List.drop_eq_getElem_cons hyl2]
    have hj : joinT ((splitT L).drop y) = (splitT L)[y] ++ 10 :: joinT ((splitT L).drop (y + 1)) := by
      rw [hd, List.drop_eq_getElem_cons hyl2]; rfl
    rw [hgd] at hl hm
    have hrow : (splitT L)[y] = rtW (rdR L) y 16 := by
      refine List.ext_getElem? fun x => ?_
      by_cases hx : x < 16
      · rw [rtW_get _ _ _ _ hx]
        have hxl : x < ((splitT L)[y]).length := by omega
        have hLx : L[y * 17 + x]? = ((splitT L)[y])[x]? := by
          conv => lhs; rw [ih, hj]
          rw [List.getElem?_append_right (by rw [rtT_len]; omega), rtT_len, List.getElem?_append_left (by omega)]
          congr 1; omega
        unfold rtD
        rw [show ((rdR L).getD y 0).testBit x = rdF L x y from rd_bit hx (by omega)]
        unfold rdF
        rw [hLx, List.getElem?_eq_getElem hxl]
        rcases hm _ (List.getElem_mem hxl) with e | e
        · rw [e]; rfl
        · rw [e]; rfl
      · rw [List.getElem?_eq_none (by omega), List.getElem?_eq_none (by rw [rtW_len]; omega)]
    refine ⟨?_, fun y' hy' => ?_⟩
    · conv => lhs; rw [ih, hj]
      rw [rtT, hrow]; simp
    · by_cases e : y' < y
      · exact ih2 y' e
      · obtain rfl : y' = y := by omega
        rw [hgd, hrow]
theorem ok_text {L : List UInt8} (h : okT (splitT L)) : rtT (rdR L) 8 = L := by
  have h8 := (ok_rows h 8 (by omega)).1
  have hd : (splitT L).drop 8 = [[]] := by
    have hl : 8 < (splitT L).length := by rw [h.1]; decide
    rw [List.drop_eq_getElem_cons hl, List.drop_eq_nil_of_le (by rw [h.1]; exact Nat.le_refl _)]
    have := h.2.1
    rw [List.getD_eq_getElem?_getD, List.getElem?_eq_getElem hl] at this
    simp only [Option.getD_some] at this
    rw [this]
  rw [hd] at h8
  simp only [joinT, List.append_nil] at h8
  exact h8.symm
theorem no_text {L : List UInt8} (h : ¬ okT (splitT L)) : rtT (rdR L) 8 ≠ L := fun e => h (by have := okT_text (rdR L); rwa [e] at this)
theorem ok_ln {L : List UInt8} (h : okT (splitT L)) {x y : Nat} (hx : x < 16) (hy : y < 8) : lnF (splitT L) x y = rdF L x y := by
  unfold lnF
  rw [(ok_rows h 8 (by omega)).2 y hy, rtW_get _ _ _ _ hx]
  unfold rtD
  rw [show ((rdR L).getD y 0).testBit x = rdF L x y from rd_bit hx hy]
  cases rdF L x y <;> rfl
end Go.Proofs.YtngondeaeipcfaaDoor
