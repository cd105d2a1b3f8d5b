/- The words of a text: what lies between blanks; as the model splits, and as the program cuts. -/
import Derived.Test.YtikndeloeeppaaaJoinP
import Derived.Lib.CutLaws
import Derived.Lib.IndexLaws
import Derived.Lib.IndexBytes
namespace Go.Proofs.Ytikndeloeeppaaa
open Go Go.RowKit

def glue (cur : List UInt8) : List (List UInt8) → List (List UInt8)
  | [] => [cur]
  | h :: t => (cur ++ h) :: t
theorem glue_nil {S : List (List UInt8)} (h : S ≠ []) : glue [] S = S := by
  cases S with
  | nil => exact (h rfl).elim
  | cons a t => rfl
theorem glue_glue (a b : List UInt8) (S : List (List UInt8)) : glue a (glue b S) = glue (a ++ b) S := by
  cases S <;> simp [glue]
theorem glue_ne (a : List UInt8) (S : List (List UInt8)) : glue a S ≠ [] := by cases S <;> simp [glue]
/-- The pieces between blanks. -/
def splitL : List UInt8 → List (List UInt8)
  | [] => [[]]
  | c :: cs => if c = 32 then [] :: splitL cs else glue [c] (splitL cs)
theorem splitL_ne : ∀ L, splitL L ≠ []
  | [] => by simp [splitL]
  | c :: cs => by unfold splitL; split <;> simp [glue_ne]
def wordsL (L : List UInt8) : List (List UInt8) := if L = [] then [] else splitL L
/-- What the program cuts. -/
def itN : Nat → List UInt8 → List (List UInt8)
  | 0, _ => []
  | n + 1, L => if L = [] then [] else (Lib.cut L [32]).1 :: itN n (Lib.cut L [32]).2.1
def itW (L : List UInt8) : List (List UInt8) := itN L.length L

theorem cut_nil : Lib.cut [] [32] = ([], [], false) := by
  unfold Lib.cut; rw [Lib.index_one]; simp [Lib.indexByte]
theorem cut_32 (cs : List UInt8) : Lib.cut (32 :: cs) [32] = ([], cs, true) := by
  unfold Lib.cut; rw [Lib.index_one]; simp [Lib.indexByte]
theorem cut_cons {c : UInt8} (cs : List UInt8) (h : c ≠ 32) : Lib.cut (c :: cs) [32] = (c :: (Lib.cut cs [32]).1, (Lib.cut cs [32]).2.1, (Lib.cut cs [32]).2.2) := by
  have hge := Lib.indexByte_ge cs 32
  unfold Lib.cut
  rw [Lib.index_one, Lib.index_one]
  have e : Lib.indexByte (c :: cs) 32 = if Lib.indexByte cs 32 = -1 then -1 else Lib.indexByte cs 32 + 1 := by
    simp [Lib.indexByte, h]
  rw [e]
  by_cases h1 : Lib.indexByte cs 32 = -1
  · rw [if_pos h1, h1]; simp
  · rw [if_neg h1, if_pos (by omega), if_pos (by omega)]
    obtain ⟨k, hk⟩ : ∃ k : Nat, Lib.indexByte cs 32 = k := ⟨(Lib.indexByte cs 32).toNat, by omega⟩
    have ek : ((k : Int) + 1).toNat = k + 1 := by omega
    rw [hk, ek]
    simp [Nat.add_right_comm]
theorem cut_rest_nil : ∀ {L : List UInt8}, (Lib.cut L [32]).2.2 = false → (Lib.cut L [32]).2.1 = [] ∧ (Lib.cut L [32]).1 = L
  | [], _ => by rw [cut_nil]; exact ⟨rfl, rfl⟩
  | c :: cs, h => by
    by_cases hc : c = 32
    · subst hc; rw [cut_32] at h; cases h
    · rw [cut_cons cs hc] at h ⊢
      have ih := cut_rest_nil (L := cs) h
      exact ⟨ih.1, by rw [ih.2]⟩
theorem cut_len : ∀ {L : List UInt8}, L ≠ [] → (Lib.cut L [32]).2.1.length < L.length
  | [], h => (h rfl).elim
  | c :: cs, _ => by
    by_cases hc : c = 32
    · subst hc; rw [cut_32]; simp
    · rw [cut_cons cs hc]
      by_cases hn : cs = []
      · subst hn; rw [cut_nil]; simp
      · have := cut_len hn
        simp only [List.length_cons]; omega
theorem cut_len1 (L : List UInt8) : (Lib.cut L [32]).1.length ≤ L.length := by
  unfold Lib.cut; split <;> simp; omega
theorem split_cut : ∀ L : List UInt8, splitL L = if (Lib.cut L [32]).2.2 = true then (Lib.cut L [32]).1 :: splitL (Lib.cut L [32]).2.1 else [(Lib.cut L [32]).1]
  | [] => by rw [cut_nil]; rfl
  | c :: cs => by
    by_cases hc : c = 32
    · subst hc; rw [cut_32]; simp [splitL]
    · rw [cut_cons cs hc]
      have ih := split_cut cs
      have e : splitL (c :: cs) = glue [c] (splitL cs) := by
        show (if c = 32 then _ else _) = _
        rw [if_neg hc]
      rw [e, ih]
      dsimp only
      split <;> simp [glue]
theorem cut_last : ∀ {L : List UInt8}, (Lib.cut L [32]).2.2 = true → L.getLast? ≠ some 32 → (Lib.cut L [32]).2.1 ≠ [] ∧ (Lib.cut L [32]).2.1.getLast? ≠ some 32
  | [], h, _ => by rw [cut_nil] at h; cases h
  | c :: cs, h, hl => by
    have hcs : cs ≠ [] → cs.getLast? ≠ some 32 := fun hn => by
      cases cs with
      | nil => exact (hn rfl).elim
      | cons a t => rwa [List.getLast?_cons_cons] at hl
    by_cases hc : c = 32
    · subst hc; rw [cut_32]
      have hn : cs ≠ [] := by intro e; subst e; exact hl rfl
      exact ⟨hn, hcs hn⟩
    · rw [cut_cons cs hc] at h ⊢
      have hn : cs ≠ [] := by intro e; subst e; rw [cut_nil] at h; cases h
      exact cut_last (L := cs) h (hcs hn)
theorem splitL_32 (cs : List UInt8) : splitL (32 :: cs) = [] :: splitL cs := by simp [splitL]
theorem splitL_other {c : UInt8} (cs : List UInt8) (hc : c ≠ 32) : splitL (c :: cs) = glue [c] (splitL cs) := by
  show (if c = 32 then _ else _) = _
  rw [if_neg hc]
theorem itN_split : ∀ (n : Nat) (L : List UInt8), L.length ≤ n → L ≠ [] → L.getLast? ≠ some 32 → itN n L = splitL L
  | 0, L, h, hn, _ => (hn (List.length_eq_zero_iff.1 (by omega))).elim
  | n + 1, L, h, hn, hl => by
    unfold itN
    rw [if_neg hn, split_cut L]
    have hlen := cut_len hn
    by_cases hf : (Lib.cut L [32]).2.2 = true
    · rw [if_pos hf]
      have := cut_last hf hl
      rw [itN_split n _ (by omega) this.1 this.2]
    · have hr := cut_rest_nil (L := L) (by simpa using hf)
      rw [if_neg hf, hr.1]
      cases n <;> simp [itN]
theorem itN_fuel : ∀ (n m : Nat) (L : List UInt8), L.length ≤ n → L.length ≤ m → itN n L = itN m L
  | 0, m, L, h, _ => by
    obtain rfl : L = [] := List.length_eq_zero_iff.1 (by omega)
    cases m <;> simp [itN]
  | n + 1, 0, L, _, h => by
    obtain rfl : L = [] := List.length_eq_zero_iff.1 (by omega)
    simp [itN]
  | n + 1, m + 1, L, h1, h2 => by
    unfold itN
    by_cases hn : L = []
    · rw [if_pos hn, if_pos hn]
    · have := cut_len hn
      rw [if_neg hn, if_neg hn, itN_fuel n m _ (by omega) (by omega)]
theorem itW_nil : itW [] = [] := rfl
theorem itW_step {L : List UInt8} (hn : L ≠ []) : itW L = (Lib.cut L [32]).1 :: itW (Lib.cut L [32]).2.1 := by
  have := cut_len hn
  unfold itW
  obtain ⟨k, hk⟩ : ∃ k, L.length = k + 1 := ⟨L.length - 1, by omega⟩
  rw [hk]
  show (if L = [] then [] else _) = _
  rw [if_neg hn, itN_fuel k _ _ (by omega) (Nat.le_refl _)]
theorem itW_len : ∀ (n : Nat) (L : List UInt8), L.length ≤ n → (itW L).length ≤ L.length
  | 0, L, h => by obtain rfl : L = [] := List.length_eq_zero_iff.1 (by omega); simp [itW_nil]
  | n + 1, L, h => by
    by_cases hn : L = []
    · subst hn; simp [itW_nil]
    · have hl := cut_len hn
      have := itW_len n (Lib.cut L [32]).2.1 (by omega)
      rw [itW_step hn]; simp only [List.length_cons]; omega
theorem itW_words {L : List UInt8} (h : vtext L = true) : itW L = wordsL L := by
  unfold wordsL
  by_cases hn : L = []
  · subst hn; simp [itW_nil]
  · rw [if_neg hn]
    refine itN_split _ _ (Nat.le_refl _) hn ?_
    intro hl
    have hlen : 0 < L.length := List.length_pos_iff.2 hn
    obtain ⟨_, hg⟩ := vtext_true.1 h
    have hg' := hg (L.length - 1) (by omega)
    rw [List.getLast?_eq_getElem?] at hl
    have hb : byteAt L (L.length - 1) = 32 := by unfold byteAt; rw [List.getD_eq_getElem?_getD, hl]; rfl
    unfold good at hg'
    rw [hb] at hg'
    have h32 : cap 32 = false := cap_32 rfl
    rcases hg' with hh | hh
    · omega
    · rw [h32] at hh; cases hh
end Go.Proofs.Ytikndeloeeppaaa
