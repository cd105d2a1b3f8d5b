/- Pairs in their order: where a pair is, as plain data. -/
import Derived.Test.YtikndeloeeppaaaShapeP
import Derived.Test.YtikndeloeeppaaaImplFace
namespace Go.Proofs.Ytikndeloeeppaaa
open Go.RowKit

abbrev Tri := Int × Int × Int
theorem ahead_trans {p q r : Tri} (h : ahead p q = true) (h' : ahead q r = true) : ahead p r = true := by
  rw [ahead_true] at *; omega
theorem ahead_irrefl (p : Tri) : ahead p p = false := by
  cases h : ahead p p
  · rfl
  · rw [ahead_true] at h; omega
theorem ahead_asymm {p q : Tri} (h : ahead p q = true) : ahead q p = false := by
  cases h' : ahead q p
  · rfl
  · rw [ahead_true] at *; omega
def sortedP (ps : List Tri) : Prop := ∀ (i j : Nat) (p q : Tri), i < j → ps[i]? = some p → ps[j]? = some q → ahead p q = true
theorem sortedP_of_good {g : Int} {ps : List Tri} (h : goodTo g ps ps.length) : sortedP ps := by
  intro i j
  induction j with
  | zero => intro p q hij; omega
  | succ j ih =>
    intro p q hij hp hq
    have hj := (List.getElem?_eq_some_iff.1 hq).1
    obtain ⟨r, hr⟩ : ∃ r, ps[j]? = some r := ⟨ps[j]'(by omega), List.getElem?_eq_getElem _⟩
    have h1 := (h (j + 1) q hj hq).2 r (by omega) (by simpa using hr)
    by_cases e : i = j
    · subst e; rw [hr] at hp; injection hp with hp; subst hp; exact h1
    · exact ahead_trans (ih p r (by omega) hp hr) h1
/-- How many pairs come ahead of p. -/
def lb (ps : List Tri) (p : Tri) : Nat := (ps.takeWhile (ahead · p)).length
theorem lb_le (ps : List Tri) (p : Tri) : lb ps p ≤ ps.length := by
  unfold lb
  have h : (ps.takeWhile (ahead · p)).length ≤ ps.length := List.Sublist.length_le (List.takeWhile_sublist _)
  exact h
theorem lb_eq : ∀ {ps : List Tri} {p : Tri} {i : Nat}, i ≤ ps.length → (∀ k q, k < i → ps[k]? = some q → ahead q p = true) → (∀ q, ps[i]? = some q → ahead q p = false) → i = lb ps p
  | [], p, i, hi, _, _ => by simp [lb] at *; omega
  | q :: ps, p, 0, _, _, h => by
    have := h q rfl
    simp [lb, List.takeWhile_cons, this]
  | q :: ps, p, i + 1, hi, h1, h2 => by
    have h0 := h1 0 q (by omega) rfl
    have ih := lb_eq (ps := ps) (p := p) (i := i) (by simpa using hi) (fun k r hk hr => h1 (k + 1) r (by omega) (by simpa using hr)) (fun r hr => h2 r (by simpa using hr))
    have : lb (q :: ps) p = lb ps p + 1 := by simp [lb, List.takeWhile_cons, h0]
    omega
/-- Whether p's letters stand there. -/
def hit (ps : List Tri) (p : Tri) : Bool := match ps[lb ps p]? with
  | some q => cmpP q p == 0
  | none => false
theorem cmpP_zero {p q : Tri} : cmpP p q = 0 ↔ p.1 = q.1 ∧ p.2.1 = q.2.1 := by
  unfold cmpP cmpI
  (repeat' split) <;> omega
/-- By of a pair: of the first one with its letters, 0 if there is none. -/
def byL (ps : List Tri) (a b : Int) : Int := match ps.find? (fun p => p.1 == a && p.2.1 == b) with
  | some p => p.2.2
  | none => 0
theorem byL_cons (p : Tri) (ps : List Tri) (a b : Int) : byL (p :: ps) a b = if p.1 = a ∧ p.2.1 = b then p.2.2 else byL ps a b := by
  unfold byL
  rw [List.find?_cons]
  by_cases h : p.1 = a ∧ p.2.1 = b
  · simp [h]
  · rw [if_neg h]
    have : (p.1 == a && p.2.1 == b) = false := by
      cases h' : (p.1 == a && p.2.1 == b)
      · rfl
      · simp at h'; exact (h h').elim
    rw [this]
theorem byL_of_get {ps : List Tri} {a b : Int} {k : Nat} {p : Tri} (hk : ps[k]? = some p) (h1 : p.1 = a) (h2 : p.2.1 = b) (h : ∀ j q, j < k → ps[j]? = some q → ¬ (q.1 = a ∧ q.2.1 = b)) : byL ps a b = p.2.2 := by
  induction ps generalizing k with
  | nil => simp at hk
  | cons q ps ih =>
    rw [byL_cons]
    cases k with
    | zero => simp at hk; subst hk; rw [if_pos ⟨h1, h2⟩]
    | succ k =>
      rw [if_neg (h 0 q (by omega) rfl)]
      exact ih (by simpa using hk) (fun j r hj hr => h (j + 1) r (by omega) (by simpa using hr))
theorem byL_none {ps : List Tri} {a b : Int} (h : ∀ (j : Nat) (q : Tri), ps[j]? = some q → ¬ (q.1 = a ∧ q.2.1 = b)) : byL ps a b = 0 := by
  induction ps with
  | nil => rfl
  | cons q ps ih =>
    rw [byL_cons, if_neg (h 0 q rfl)]
    exact ih (fun j r hr => h (j + 1) r (by simpa using hr))
/-- In pairs that rise, the search finds just the pair with these letters. -/
theorem byL_hit {ps : List Tri} (hs : sortedP ps) (a b : Int) : (hit ps (a, b, 0) = true → ∃ q, ps[lb ps (a, b, 0)]? = some q ∧ byL ps a b = q.2.2) ∧ (hit ps (a, b, 0) = false → byL ps a b = 0) := by
  have hlow : ∀ k q, k < lb ps (a, b, 0) → ps[k]? = some q → ahead q (a, b, 0) = true := by
    intro k q hk hq
    unfold lb at hk
    have hmem : ∀ (l : List Tri) (f : Tri → Bool) (k : Nat) (q : Tri), k < (l.takeWhile f).length → l[k]? = some q → f q = true := by
      intro l f
      induction l with
      | nil => intro k q hk; simp at hk
      | cons x l ih =>
        intro k q hk hq
        rw [List.takeWhile_cons] at hk
        split at hk
        · cases k with
          | zero => simp at hq; subst hq; assumption
          | succ k => exact ih k q (by simpa using hk) (by simpa using hq)
        · simp at hk
    exact hmem ps (ahead · (a, b, 0)) k q hk hq
  have hne : ∀ k q, k < lb ps (a, b, 0) → ps[k]? = some q → ¬ (q.1 = a ∧ q.2.1 = b) := by
    intro k q hk hq ⟨h1, h2⟩
    have := hlow k q hk hq
    rw [ahead_true] at this
    simp only at this
    omega
  cases hg : ps[lb ps (a, b, 0)]? with
  | none =>
    have hh : hit ps (a, b, 0) = false := by simp [hit, hg]
    refine ⟨fun h => absurd h (by rw [hh]; decide), fun _ => byL_none fun j q hq => ?_⟩
    have := (List.getElem?_eq_some_iff.1 hq).1
    have := List.getElem?_eq_none_iff.1 hg
    exact hne j q (by omega) hq
  | some q =>
    have hh : hit ps (a, b, 0) = (cmpP q (a, b, 0) == 0) := by simp [hit, hg]
    refine ⟨fun h => ?_, fun h => ?_⟩
    · rw [hh] at h
      have hc := cmpP_zero.1 (by simpa using h)
      exact ⟨q, rfl, byL_of_get hg hc.1 hc.2 hne⟩
    · rw [hh] at h
      have hc : ¬ (q.1 = a ∧ q.2.1 = b) := fun e => by
        have := cmpP_zero (p := q) (q := (a, b, 0)) |>.2 e
        rw [this] at h; simp at h
      have hna : ahead q (a, b, 0) = false := by
        cases e : ahead q (a, b, 0)
        · rfl
        · exfalso
          have htw : ∀ (l : List Tri) (f : Tri → Bool) (q : Tri), l[(l.takeWhile f).length]? = some q → f q = false := by
            intro l f
            induction l with
            | nil => intro q hq; simp at hq
            | cons x l ih =>
              intro q hq
              rw [List.takeWhile_cons] at hq
              cases hx : f x
              · simp only [hx] at hq
                simp at hq; subst hq; exact hx
              · simp only [hx] at hq
                exact ih q (by simpa using hq)
          have := htw ps (ahead · (a, b, 0)) q hg
          rw [e] at this; cases this
      refine byL_none fun j r hr => ?_
      by_cases hj : j < lb ps (a, b, 0)
      · exact hne j r hj hr
      · by_cases ej : j = lb ps (a, b, 0)
        · rw [ej, hg] at hr; injection hr with hr; subst hr; exact hc
        · intro ⟨h1, h2⟩
          have hqr := hs _ _ q r (by omega) hg hr
          rw [ahead_true] at hqr
          have : ¬ (q.1 < a ∨ q.1 = a ∧ q.2.1 < b) := fun h => by rw [ahead_true.2 h] at hna; cases hna
          omega
theorem sorted_vface {F : Fc} (h : vface F = true) : sortedP F.ps := sortedP_of_good (vface_true.1 h).2.ps
end Go.Proofs.Ytikndeloeeppaaa
