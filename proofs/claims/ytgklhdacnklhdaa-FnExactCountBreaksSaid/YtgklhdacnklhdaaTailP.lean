/- The table of tails as plain data: how words are broken best from one on, and in how many ways. -/
import Derived.Test.YtgklhdacnklhdaaG1
namespace Go.Proofs.Ytgklhdacnklhdaa
open Go.RowKit

structure Td where
  u : Int
  bs : List Int
  wy : Int
/-- A list comes before another one. -/
def lexL : List Int → List Int → Bool
  | [], [] => false
  | [], _ :: _ => true
  | _ :: _, [] => false
  | a :: r, b :: s => if a = b then lexL r s else decide (a < b)
/-- lw f t: how wide the line is that begins with word f and ends ahead of word t. -/
def ownT (x : Int) (lw : Nat → Nat → Int) (n f t : Nat) (T : Nat → Td) : Td :=
  if t < n then ⟨(x - lw f t) * (x - lw f t) + (T t).u, (t : Int) :: (T t).bs, (T t).wy⟩ else ⟨0, [], 1⟩
def better (o b : Td) : Bool := decide (b.u < 0) || (decide (o.u < b.u) || (decide (o.u = b.u) && lexL o.bs b.bs))
def stepT (o b : Td) : Td := if better o b = true then ⟨o.u, o.bs, o.wy + b.wy⟩ else ⟨b.u, b.bs, o.wy + b.wy⟩
def roundT (x : Int) (lw : Nat → Nat → Int) (n f t : Nat) (T : Nat → Td) (b : Td) : Td := if t < n ∧ (T t).u < 0 then b else stepT (ownT x lw n f t T) b
def bestT (x : Int) (lw : Nat → Nat → Int) (n f : Nat) (T : Nat → Td) : Nat → Td
  | 0 => ⟨-1, [], 0⟩
  | m + 1 => roundT x lw n f (f + 1 + m) T (bestT x lw n f T m)
def cntTo (p : Nat → Bool) : Nat → Nat → Nat
  | 0, j => j
  | k + 1, j => if p j = true then cntTo p k (j + 1) else j
theorem cntTo_eq {p : Nat → Bool} : ∀ {k j m : Nat}, j ≤ m → m ≤ j + k → (∀ i, j ≤ i → i < m → p i = true) → (m = j + k ∨ p m = false) → cntTo p k j = m
  | 0, j, m, h1, h2, _, _ => by simp only [cntTo]; omega
  | k + 1, j, m, h1, h2, h3, h4 => by
    rw [cntTo]
    by_cases e : j = m
    · subst e
      rcases h4 with h | h
      · omega
      · rw [h]; rfl
    · rw [if_pos (h3 j (Nat.le_refl _) (by omega))]
      exact cntTo_eq (by omega) (by omega) (fun i hi hm => h3 i (by omega) hm) (by rcases h4 with h | h; exact .inl (by omega); exact .inr h)
/-- How many lines that begin with word f fit. -/
def cntT (x : Int) (lw : Nat → Nat → Int) (n f : Nat) : Nat := cntTo (fun j => decide (lw f (f + 1 + j) ≤ x)) (n - f) 0
theorem cntT_eq {x : Int} {lw : Nat → Nat → Int} {n f m : Nat} (h2 : m ≤ n - f) (h3 : ∀ j, j < m → lw f (f + 1 + j) ≤ x) (h4 : m = n - f ∨ x < lw f (f + 1 + m)) : cntT x lw n f = m :=
  cntTo_eq (Nat.zero_le _) (by omega) (fun i _ hi => decide_eq_true (h3 i hi)) (by rcases h4 with h | h; exact .inl (by omega); exact .inr (decide_eq_false (by omega)))
/-- The table when d words from the last one on have been seen. -/
def tabT (x : Int) (lw : Nat → Nat → Int) (n : Nat) : Nat → Nat → Td
  | 0, _ => ⟨0, [], 0⟩
  | d + 1, i => if i = n - (d + 1) then bestT x lw n (n - (d + 1)) (tabT x lw n d) (cntT x lw n (n - (d + 1))) else tabT x lw n d i

def pw (k : Nat) : Nat := 2 ^ k
theorem pw_le {k : Nat} (h : k ≤ 61) : pw k ≤ 2305843009213693952 := Nat.pow_le_pow_right (n := 2) (by omega) h
/-- What a row of the table is within. -/
structure tdB (n i : Nat) (t : Td) : Prop where
  u0 : -1 ≤ t.u
  u1 : t.u ≤ 16000000 * ((n - i : Nat) : Int)
  w0 : 0 ≤ t.wy
  w1 : t.wy ≤ (pw (n - i) : Int)
  bl : t.bs.length ≤ n - i
theorem sq_bd {a : Int} (h0 : 0 ≤ a) (h1 : a ≤ 4000) : 0 ≤ a * a ∧ a * a ≤ 16000000 := by
  refine ⟨Int.mul_nonneg h0 h0, ?_⟩
  have := Int.mul_le_mul h1 h1 h0 (by omega : (0 : Int) ≤ 4000)
  omega
theorem pow_half {k : Nat} (h : 0 < k) : pw k = pw (k - 1) + pw (k - 1) := by
  unfold pw
  obtain ⟨j, rfl⟩ : ∃ j, k = j + 1 := ⟨k - 1, by omega⟩
  rw [Nat.pow_succ]; simp; omega
theorem bestT_bd {x : Int} {lw : Nat → Nat → Int} {n f : Nat} {T : Nat → Td} (hf : f < n) (hx : x ≤ 4000) (hl : ∀ t, f < t → t ≤ n → 0 ≤ lw f t) (hT : ∀ t, f < t → t ≤ n → tdB n t (T t)) :
    ∀ m, m ≤ n - f → (∀ j, j < m → lw f (f + 1 + j) ≤ x) → -1 ≤ (bestT x lw n f T m).u ∧ (bestT x lw n f T m).u ≤ 16000000 * ((n - f : Nat) : Int) ∧ 0 ≤ (bestT x lw n f T m).wy ∧
      (bestT x lw n f T m).wy + (pw (n - f - m) : Int) ≤ (pw (n - f) : Int) ∧ (bestT x lw n f T m).bs.length ≤ n - f
  | 0, _, _ => by simp only [bestT, Nat.sub_zero, List.length_nil]; refine ⟨by omega, by omega, by omega, by omega, by omega⟩
  | m + 1, hm, hj => by
    obtain ⟨i1, i2, i3, i4, i5⟩ := bestT_bd hf hx hl hT m (by omega) (fun j h => hj j (by omega))
    have hp := pow_half (k := n - f - m) (by omega)
    rw [show n - f - m - 1 = n - f - (m + 1) by omega] at hp
    have hp' : (pw (n - f - m) : Int) = (pw (n - f - (m + 1)) : Int) + (pw (n - f - (m + 1)) : Int) := by rw [hp]; omega
    have hpos : (0 : Int) ≤ (pw (n - f - (m + 1)) : Int) := by omega
    rw [bestT]
    generalize bestT x lw n f T m = b at *
    unfold roundT
    split
    · exact ⟨i1, i2, i3, by omega, i5⟩
    · rename_i hc
      have ht := hT (f + 1 + m) (by omega) (by omega)
      have h1 := hl (f + 1 + m) (by omega) (by omega)
      have h2 := hj m (by omega)
      have hs := sq_bd (a := x - lw f (f + 1 + m)) (by omega) (by omega)
      have hw := ht.w1
      rw [show n - (f + 1 + m) = n - f - (m + 1) by omega] at hw
      have ho : (-1 ≤ (ownT x lw n f (f + 1 + m) T).u ∧ (ownT x lw n f (f + 1 + m) T).u ≤ 16000000 * ((n - f : Nat) : Int)) ∧ (0 ≤ (ownT x lw n f (f + 1 + m) T).wy ∧ (ownT x lw n f (f + 1 + m) T).wy ≤ (pw (n - f - (m + 1)) : Int)) ∧ (ownT x lw n f (f + 1 + m) T).bs.length ≤ n - f := by
        unfold ownT
        split
        · rename_i hlt
          have := ht.u0
          have := ht.u1
          have := ht.w0
          have := ht.bl
          refine ⟨⟨by simp only; omega, by simp only; omega⟩, ⟨by simp only; omega, by simp only; omega⟩, by simp only [List.length_cons]; omega⟩
        · rename_i hlt
          have : n - f - (m + 1) = 0 := by omega
          rw [this]
          exact ⟨⟨by simp only; omega, by simp only; omega⟩, ⟨by simp only; omega, by decide⟩, by simp⟩
      generalize ownT x lw n f (f + 1 + m) T = o at *
      unfold stepT
      split
      · exact ⟨ho.1.1, ho.1.2, by simp only; omega, by simp only; omega, ho.2.2⟩
      · exact ⟨i1, i2, by simp only; omega, by simp only; omega, i5⟩
theorem cntTo_le {p : Nat → Bool} : ∀ (k j : Nat), j ≤ cntTo p k j ∧ cntTo p k j ≤ j + k ∧ ∀ i, j ≤ i → i < cntTo p k j → p i = true
  | 0, j => by simp only [cntTo]; exact ⟨Nat.le_refl _, Nat.le_refl _, fun i h1 h2 => by omega⟩
  | k + 1, j => by
    obtain ⟨h1, h2, h3⟩ := cntTo_le (p := p) k (j + 1)
    rw [cntTo]
    split
    · rename_i hp
      refine ⟨by omega, by omega, fun i hi hc => ?_⟩
      by_cases e : i = j
      · subst e; exact hp
      · exact h3 i (by omega) hc
    · exact ⟨Nat.le_refl _, by omega, fun i h1 h2 => by omega⟩
theorem cntT_le (x : Int) (lw : Nat → Nat → Int) (n f : Nat) : cntT x lw n f ≤ n - f ∧ ∀ j, j < cntT x lw n f → lw f (f + 1 + j) ≤ x := by
  obtain ⟨h1, h2, h3⟩ := cntTo_le (p := fun j => decide (lw f (f + 1 + j) ≤ x)) (n - f) 0
  exact ⟨by unfold cntT; omega, fun j hj => of_decide_eq_true (h3 j (Nat.zero_le _) hj)⟩
theorem tabT_bd {x : Int} {lw : Nat → Nat → Int} {n : Nat} (hx : x ≤ 4000) (hl : ∀ f t, f < t → t ≤ n → 0 ≤ lw f t) : ∀ d, d ≤ n → ∀ i, i ≤ n → tdB n i (tabT x lw n d i)
  | 0, _, i, _ => ⟨by simp only [tabT]; omega, by simp only [tabT]; omega, by simp only [tabT]; omega, by simp only [tabT]; omega, by simp [tabT]⟩
  | d + 1, hd, i, hi => by
    rw [tabT]
    split
    · rename_i e
      subst e
      obtain ⟨c1, c2⟩ := cntT_le x lw n (n - (d + 1))
      obtain ⟨i1, i2, i3, i4, i5⟩ := bestT_bd (f := n - (d + 1)) (T := tabT x lw n d) (by omega) hx (fun t h1 h2 => hl _ t h1 h2) (fun t _ h2 => tabT_bd hx hl d (by omega) t h2) _ c1 c2
      exact ⟨i1, i2, i3, by omega, i5⟩
    · exact tabT_bd hx hl d (by omega) i hi
end Go.Proofs.Ytgklhdacnklhdaa
