/- A pair is put into sorted pairs: plain data, by the program's cuts and by the model's loop. -/
import Derived.Test.YtkbemhjeflmppaaG3
namespace Go.Proofs.Ytkbemhjeflmppaa
open Go.RowKit

def own1 (p : Tri) : List Tri := if p.2.2 = 0 then [] else [p]
def sameKey (q p : Tri) : Prop := q.1 = p.1 ∧ q.2.1 = p.2.1
instance (q p : Tri) : Decidable (sameKey q p) := inferInstanceAs (Decidable (_ ∧ _))
/-- The pairs when p is put. -/
def putL : List Tri → Tri → List Tri
  | [], p => own1 p
  | q :: r, p => if ahead q p = true then q :: putL r p else own1 p ++ (if sameKey q p then r else q :: r)
/-- The model's way. -/
def spS : List Tri → Tri → Bool → List Tri
  | [], p, d => if d = true then [] else [p]
  | q :: r, p, d => (if (!d && ahead p q) = true then [p] else []) ++ ((if sameKey q p then [] else [q]) ++ spS r p (d || ahead p q))
theorem lb_cons_in {q : Tri} {r : List Tri} {p : Tri} (h : ahead q p = true) : lb (q :: r) p = lb r p + 1 := by simp [lb, List.takeWhile_cons, h]
theorem lb_cons_no {q : Tri} {r : List Tri} {p : Tri} (h : ahead q p = false) : lb (q :: r) p = 0 := by simp [lb, List.takeWhile_cons, h]
theorem hit_cons_in {q : Tri} {r : List Tri} {p : Tri} (h : ahead q p = true) : hit (q :: r) p = hit r p := by unfold hit; rw [lb_cons_in h, List.getElem?_cons_succ]
theorem hit_cons_no {q : Tri} {r : List Tri} {p : Tri} (h : ahead q p = false) : hit (q :: r) p = decide (sameKey q p) := by
  unfold hit; rw [lb_cons_no h]
  simp only [List.getElem?_cons_zero]
  rw [Bool.eq_iff_iff]
  simp only [beq_iff_eq, decide_eq_true_eq]
  exact cmpP_zero
/-- The program's way. -/
theorem putL_cut : ∀ (ps : List Tri) (p : Tri), putL ps p = ps.take (lb ps p) ++ (own1 p ++ ps.drop (lb ps p + if hit ps p = true then 1 else 0))
  | [], p => by simp [putL, lb, hit]
  | q :: r, p => by
    rw [putL]
    cases h : ahead q p
    · rw [if_neg (by decide), lb_cons_no h, hit_cons_no h]
      by_cases e : sameKey q p
      · simp [e]
      · simp [e]
    · rw [if_pos rfl, lb_cons_in h, hit_cons_in h, putL_cut r p, List.take_succ_cons, show lb r p + 1 + (if hit r p = true then 1 else 0) = (lb r p + if hit r p = true then 1 else 0) + 1 by omega, List.drop_succ_cons]
      rfl
theorem spS_after : ∀ (r : List Tri) (p : Tri) (d : Bool), (∀ q ∈ r, ahead p q = true) → spS r p d = (if d = true then [] else [p]) ++ r
  | [], p, d, _ => by simp [spS]
  | q :: r, p, d, h => by
    have h1 := h q (by simp)
    have hk : ¬ sameKey q p := fun e => by
      have := ahead_true.1 h1; unfold sameKey at e; omega
    have ih := spS_after r p true (fun q' hq => h q' (by simp [hq]))
    rw [spS, h1, if_neg hk, Bool.or_true, ih]
    cases d <;> simp
theorem sortedP_tail {q : Tri} {r : List Tri} (h : sortedP (q :: r)) : sortedP r := fun i j a b hij ha hb => h (i + 1) (j + 1) a b (by omega) ha hb
theorem sortedP_head {q : Tri} {r : List Tri} (h : sortedP (q :: r)) : ∀ x ∈ r, ahead q x = true := fun x hx => by
  obtain ⟨j, hj⟩ := List.getElem?_of_mem hx
  exact h 0 (j + 1) q x (by omega) rfl hj
theorem spS_putL : ∀ (ps : List Tri) (p : Tri), sortedP ps → spS ps p (decide (p.2.2 = 0)) = putL ps p
  | [], p, _ => by simp [spS, putL, own1]
  | q :: r, p, hs => by
    have ih := spS_putL r p (sortedP_tail hs)
    have hh := sortedP_head hs
    rw [spS, putL]
    cases h : ahead q p
    · by_cases e : sameKey q p
      · have h1 : ahead p q = false := by
          cases h' : ahead p q
          · rfl
          · have := ahead_true.1 h'; unfold sameKey at e; omega
        simp only [h1, if_pos e, Bool.and_false, Bool.or_false, Bool.false_eq_true, if_false, List.nil_append]
        rw [spS_after r p _ (fun x hx => by
          have := ahead_true.1 (hh x hx); unfold sameKey at e; rw [ahead_true]; omega)]
        simp [own1]
      · have h1 : ahead p q = true := by
          have hn : ¬ (ahead q p = true) := by rw [h]; decide
          rw [ahead_true] at hn ⊢; unfold sameKey at e; omega
        simp only [h1, if_neg e, Bool.and_true, Bool.or_true, Bool.false_eq_true, if_false]
        rw [spS_after r p _ (fun x hx => ahead_trans h1 (hh x hx))]
        by_cases h0 : p.2.2 = 0 <;> simp [own1, h0]
    · have h1 := ahead_asymm h
      have hk : ¬ sameKey q p := fun e => by have := ahead_true.1 h; unfold sameKey at e; omega
      rw [h1, if_neg hk, if_pos rfl, Bool.and_false, Bool.or_false, ih]
      rfl
theorem putL_mem : ∀ (ps : List Tri) (p x : Tri), x ∈ putL ps p → x ∈ own1 p ∨ x ∈ ps
  | [], p, x, h => .inl h
  | q :: r, p, x, h => by
    rw [putL] at h
    split at h
    · rcases List.mem_cons.1 h with rfl | h
      · exact .inr (by simp)
      · rcases putL_mem r p x h with h | h
        · exact .inl h
        · exact .inr (by simp [h])
    · rcases List.mem_append.1 h with h | h
      · exact .inl h
      · split at h
        · exact .inr (by simp [h])
        · exact .inr h
theorem putL_own : ∀ (ps : List Tri) (p x : Tri), x ∈ own1 p → x ∈ putL ps p
  | [], p, x, h => h
  | q :: r, p, x, h => by
    rw [putL]
    split
    · exact List.mem_cons_of_mem _ (putL_own r p x h)
    · exact List.mem_append_left _ h
theorem sortedP_cons {q : Tri} {r : List Tri} (h : sortedP r) (hq : ∀ x ∈ r, ahead q x = true) : sortedP (q :: r) := fun i j a b hij ha hb => by
  cases j with
  | zero => omega
  | succ j =>
    cases i with
    | zero =>
      obtain rfl : q = a := by simpa using ha
      exact hq b (List.mem_of_getElem? (by simpa using hb))
    | succ i => exact h i j a b (by omega) (by simpa using ha) (by simpa using hb)
theorem own1_eq {p x : Tri} (h : x ∈ own1 p) : x = p := by unfold own1 at h; split at h; cases h; simpa using h
theorem putL_sorted : ∀ (ps : List Tri) (p : Tri), sortedP ps → sortedP (putL ps p)
  | [], p, _ => by
    rw [putL, own1]; split
    · exact fun i j a b _ ha _ => by simp at ha
    · exact sortedP_cons (fun i j a b _ ha _ => by simp at ha) (by simp)
  | q :: r, p, hs => by
    have hh := sortedP_head hs
    have ht := sortedP_tail hs
    rw [putL]
    split
    · rename_i h
      exact sortedP_cons (putL_sorted r p ht) (fun x hx => by
        rcases putL_mem r p x hx with hx | hx
        · rw [own1_eq hx]; exact h
        · exact hh x hx)
    · rename_i h
      rw [ahead_true] at h
      by_cases e : sameKey q p
      · rw [if_pos e, own1]
        split
        · exact ht
        · exact sortedP_cons ht (fun x hx => by have := ahead_true.1 (hh x hx); unfold sameKey at e; rw [ahead_true]; omega)
      · have h1 : ahead p q = true := by rw [ahead_true]; unfold sameKey at e; omega
        rw [if_neg e, own1]
        split
        · exact hs
        · exact sortedP_cons hs (fun x hx => by
            rcases List.mem_cons.1 hx with rfl | hx
            · exact h1
            · exact ahead_trans h1 (hh x hx))
theorem good_iff {g : Int} {ps : List Tri} : goodTo g ps ps.length ↔ sortedP ps ∧ ∀ x ∈ ps, pairOk g x := by
  constructor
  · intro h
    refine ⟨sortedP_of_good h, fun x hx => ?_⟩
    obtain ⟨j, hj⟩ := List.getElem?_of_mem hx
    exact (h j x (List.getElem?_eq_some_iff.1 hj).1 hj).1
  · intro ⟨h1, h2⟩ i p hi hp
    exact ⟨h2 p (List.mem_of_getElem? hp), fun q h0 hq => h1 (i - 1) i q p (by omega) hq hp⟩
/-- The pairs that are put are as they have to be if what is put is. -/
theorem putL_good {g : Int} {ps : List Tri} {p : Tri} (h : goodTo g ps ps.length) : goodTo g (putL ps p) (putL ps p).length ↔ p.2.2 = 0 ∨ pairOk g p := by
  obtain ⟨h1, h2⟩ := good_iff.1 h
  rw [good_iff]
  constructor
  · intro ⟨_, h3⟩
    by_cases h0 : p.2.2 = 0
    · exact .inl h0
    · exact .inr (h3 p (putL_own ps p p (by simp [own1, h0])))
  · intro h3
    refine ⟨putL_sorted ps p h1, fun x hx => ?_⟩
    rcases putL_mem ps p x hx with hx | hx
    · rcases h3 with h3 | h3
      · simp [own1, h3] at hx
      · rw [own1_eq hx]; exact h3
    · exact h2 x hx
theorem putL_len (ps : List Tri) (p : Tri) : (putL ps p).length ≤ ps.length + 1 := by
  induction ps with
  | nil => rw [putL, own1]; split <;> simp
  | cons q r ih =>
    have h1 : (own1 p).length ≤ 1 := by rw [own1]; split <;> simp
    rw [putL]
    split
    · simp; omega
    · split
      · simp; omega
      · simp; omega
end Go.Proofs.Ytkbemhjeflmppaa
