/- Systems as plain data, and what makes one valid: nothing of the program stands here. -/
import Derived.Test.YtjmkbdghenjlaaaDoorG1
namespace Go.Proofs.YtjmkbdghenjlaaaDoor
open Go.RowKit

abbrev Dub := Int × Int
/-- A system as plain data: signs, minus pairs. -/
structure Sy where
  sg : List Dub
  mn : List Dub
def i16ok (n : Int) : Prop := -32768 ≤ n ∧ n ≤ 32767
structure Sy.ok (S : Sy) : Prop where
  sg : ∀ p ∈ S.sg, u8ok p.1 ∧ i16ok p.2
  mn : ∀ p ∈ S.mn, u8ok p.1 ∧ u8ok p.2
  n : S.sg.length ≤ maxLen
  m : S.mn.length ≤ maxLen
theorem Sy.ok.sign {S : Sy} (h : S.ok) {k : Nat} {x y : Int} (e : S.sg[k]? = some (x, y)) : (0 ≤ x ∧ x ≤ 255) ∧ (-32768 ≤ y ∧ y ≤ 32767) := h.sg _ (List.mem_of_getElem? e)
theorem Sy.ok.pair {S : Sy} (h : S.ok) {k : Nat} {x y : Int} (e : S.mn[k]? = some (x, y)) : (0 ≤ x ∧ x ≤ 255) ∧ (0 ≤ y ∧ y ≤ 255) := h.mn _ (List.mem_of_getElem? e)

/-- What a letter is worth; 0 if it is no sign. -/
def valL : List Dub → Int → Int
  | [], _ => 0
  | p :: r, x => if p.1 = x then p.2 else valL r x
theorem valL_get : ∀ {sg : List Dub} {x : Int} {k : Nat} {p : Dub}, sg[k]? = some p → p.1 = x → (∀ (j : Nat) (q : Dub), j < k → sg[j]? = some q → q.1 ≠ x) → valL sg x = p.2
  | [], _, _, _, h, _, _ => by simp at h
  | q :: r, x, 0, p, h, hx, _ => by
    obtain rfl : q = p := by simpa using h
    simp [valL, hx]
  | q :: r, x, k + 1, p, h, hx, hj => by
    have h0 := hj 0 q (by omega) rfl
    rw [valL, if_neg h0]
    exact valL_get (by simpa using h) hx (fun j q' hj' hq => hj (j + 1) q' (by omega) (by simpa using hq))
theorem valL_none : ∀ {sg : List Dub} {x : Int}, (∀ (j : Nat) (q : Dub), sg[j]? = some q → q.1 ≠ x) → valL sg x = 0
  | [], _, _ => rfl
  | q :: r, x, h => by
    rw [valL, if_neg (h 0 q rfl)]
    exact valL_none (fun j q' hq => h (j + 1) q' (by simpa using hq))
theorem valL_in : ∀ (sg : List Dub) (x : Int), valL sg x = 0 ∨ ∃ (k : Nat) (p : Dub), sg[k]? = some p ∧ p.1 = x ∧ valL sg x = p.2
  | [], _ => .inl rfl
  | q :: r, x => by
    by_cases h : q.1 = x
    · exact .inr ⟨0, q, rfl, h, by simp [valL, h]⟩
    · rcases valL_in r x with e | ⟨k, p, h1, h2, h3⟩
      · left; rw [valL, if_neg h]; exact e
      · exact .inr ⟨k + 1, p, by simpa using h1, h2, by rw [valL, if_neg h]; exact h3⟩
theorem valL_bd {S : Sy} (hS : S.ok) (x : Int) : -32768 ≤ valL S.sg x ∧ valL S.sg x ≤ 32767 := by
  rcases valL_in S.sg x with e | ⟨k, p, h1, _, h3⟩
  · omega
  · have := (hS.sg p (List.mem_of_getElem? h1)).2; unfold i16ok at this; omega

def lexB (p q : Dub) : Bool := decide (p.1 < q.1 ∨ p.1 = q.1 ∧ p.2 < q.2)
theorem lexB_true {p q : Dub} : lexB p q = true ↔ p.1 < q.1 ∨ p.1 = q.1 ∧ p.2 < q.2 := by simp [lexB]
theorem lexB_false {p q : Dub} : lexB p q = false ↔ ¬ (p.1 < q.1 ∨ p.1 = q.1 ∧ p.2 < q.2) := by simp [lexB]

/-- The signs are as they have to be up to place k, but for being different. -/
structure sgTo (sg : List Dub) (k : Nat) : Prop where
  caps : ∀ (i : Nat) (p : Dub), i < k → sg[i]? = some p → cap p.1 = true
  fall : ∀ (i : Nat) (p q : Dub), i + 1 < k → sg[i]? = some p → sg[i + 1]? = some q → q.2 < p.2
  top : ∀ p, 0 < k → sg[0]? = some p → p.2 ≤ 5000
def apart (sg : List Dub) (k : Nat) : Prop := ∀ (i j : Nat) (p q : Dub), i < j → j < k → sg[i]? = some p → sg[j]? = some q → p.1 ≠ q.1
/-- The minus pairs are as they have to be up to place k. -/
structure mnTo (S : Sy) (k : Nat) : Prop where
  val : ∀ (i : Nat) (p : Dub), i < k → S.mn[i]? = some p → valL S.sg p.1 ≠ 0 ∧ valL S.sg p.1 < valL S.sg p.2
  ord : ∀ (i : Nat) (p q : Dub), i + 1 < k → S.mn[i]? = some p → S.mn[i + 1]? = some q → lexB p q = true
structure vsg (sg : List Dub) : Prop where
  n1 : 1 ≤ sg.length
  n8 : sg.length ≤ 8
  last : ∀ p, sg[sg.length - 1]? = some p → p.2 = 1
  to : sgTo sg sg.length
structure okS (S : Sy) : Prop where
  sg : vsg S.sg
  ap : apart S.sg S.sg.length
  m8 : S.mn.length ≤ 8
  mn : mnTo S S.mn.length
noncomputable def vsys (S : Sy) : Bool := @decide (okS S) (Classical.propDecidable _)
theorem vsys_true {S : Sy} : vsys S = true ↔ okS S := by simp [vsys]
theorem vsys_false {S : Sy} : vsys S = false ↔ ¬ okS S := by simp [vsys]

theorem sgTo.succ {sg : List Dub} {k : Nat} {p : Dub} (h : sgTo sg k) (hp : sg[k]? = some p) (hc : cap p.1 = true) (hf : ∀ q, 0 < k → sg[k - 1]? = some q → p.2 < q.2) (ht : k = 0 → p.2 ≤ 5000) : sgTo sg (k + 1) where
  caps i q hi hq := by
    by_cases e : i = k
    · subst e; rw [hp] at hq; injection hq with hq; subst hq; exact hc
    · exact h.caps i q (by omega) hq
  fall i a b hi ha hb := by
    by_cases e : i + 1 = k
    · subst e; rw [hp] at hb; injection hb with hb; subst hb; exact hf a (by omega) ha
    · exact h.fall i a b (by omega) ha hb
  top q _ hq := by
    by_cases e : k = 0
    · subst e; rw [hp] at hq; injection hq with hq; subst hq; exact ht rfl
    · exact h.top q (by omega) hq
theorem sgTo.zero (sg : List Dub) : sgTo sg 0 := ⟨fun _ _ h => by omega, fun _ _ _ h => by omega, fun _ h => by omega⟩
theorem sgTo.mono {sg : List Dub} {k j : Nat} (h : sgTo sg k) (hj : j ≤ k) : sgTo sg j :=
  ⟨fun i p hi => h.caps i p (by omega), fun i p q hi => h.fall i p q (by omega), fun p hi => h.top p (by omega)⟩
theorem apart.zero (sg : List Dub) : apart sg 0 := fun _ _ _ _ _ h => by omega
theorem apart.succ {sg : List Dub} {k : Nat} {p : Dub} (h : apart sg k) (hp : sg[k]? = some p) (hn : ∀ j q, j < k → sg[j]? = some q → q.1 ≠ p.1) : apart sg (k + 1) := fun i j a b hij hj ha hb => by
  by_cases e : j = k
  · subst e; rw [hp] at hb; injection hb with hb; subst hb; exact hn i a hij ha
  · exact h i j a b hij (by omega) ha hb
theorem mnTo.zero (S : Sy) : mnTo S 0 := ⟨fun _ _ h => by omega, fun _ _ _ h => by omega⟩
theorem mnTo.succ {S : Sy} {k : Nat} {p : Dub} (h : mnTo S k) (hp : S.mn[k]? = some p) (h1 : valL S.sg p.1 ≠ 0) (h2 : valL S.sg p.1 < valL S.sg p.2) (ho : ∀ q, 0 < k → S.mn[k - 1]? = some q → lexB q p = true) : mnTo S (k + 1) where
  val i q hi hq := by
    by_cases e : i = k
    · subst e; rw [hp] at hq; injection hq with hq; subst hq; exact ⟨h1, h2⟩
    · exact h.val i q (by omega) hq
  ord i a b hi ha hb := by
    by_cases e : i + 1 = k
    · subst e; rw [hp] at hb; injection hb with hb; subst hb; exact ho a (by omega) ha
    · exact h.ord i a b (by omega) ha hb
theorem sgTo.low {sg : List Dub} (h : sgTo sg sg.length) {m : Int} (hl : ∀ p, sg[sg.length - 1]? = some p → p.2 = m) : ∀ (d i : Nat) (p : Dub), i + d + 1 = sg.length → sg[i]? = some p → m + d ≤ p.2
  | 0, i, p, hi, hp => by have := hl p (by rw [← hi]; exact hp); omega
  | d + 1, i, p, hi, hp => by
    obtain ⟨q, hq⟩ : ∃ q, sg[i + 1]? = some q := ⟨sg[i + 1]'(by omega), List.getElem?_eq_getElem _⟩
    have := sgTo.low h hl d (i + 1) q (by omega) hq
    have := h.fall i p q (by omega) hp hq
    omega
theorem sgTo.high {sg : List Dub} (h : sgTo sg sg.length) : ∀ (i : Nat) (p : Dub), sg[i]? = some p → p.2 + i ≤ 5000
  | 0, p, hp => by have := h.top p (by have := (List.getElem?_eq_some_iff.1 hp).1; omega) hp; omega
  | i + 1, p, hp => by
    have hlt := (List.getElem?_eq_some_iff.1 hp).1
    obtain ⟨q, hq⟩ : ∃ q, sg[i]? = some q := ⟨sg[i]'(by omega), List.getElem?_eq_getElem _⟩
    have := sgTo.high h i q hq
    have := h.fall i q p hlt hq hp
    omega
/-- Values of valid signs. -/
theorem vsg.bd {sg : List Dub} (h : vsg sg) {i : Nat} {p : Dub} (hp : sg[i]? = some p) : 1 ≤ p.2 ∧ p.2 ≤ 5000 ∧ cap p.1 = true := by
  have hlt := (List.getElem?_eq_some_iff.1 hp).1
  have h1 := sgTo.low h.to h.last (sg.length - 1 - i) i p (by omega) hp
  have h2 := sgTo.high h.to i p hp
  exact ⟨by omega, by omega, h.to.caps i p hlt hp⟩
end Go.Proofs.YtjmkbdghenjlaaaDoor
