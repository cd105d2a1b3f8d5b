/- The values of signs in a map, as plain data. -/
import Derived.Test.YtgklhdacnklhdaaSysP
import Derived.Maps.OwnSet
namespace Go.Proofs.Ytgklhdacnklhdaa
open Go.RowKit
open Go.Maps (Keyed IsMap Tidy)

/-- The map of the first signs. -/
def vmap (sg : List Dub) : DataW Unit := sg.foldl (fun m p => m.put (.int .i32 p.1) (.lit (.int .i64 p.2))) (.map [])
theorem vmap_snoc (sg : List Dub) (p : Dub) : vmap (sg ++ [p]) = (vmap sg).put (.int .i32 p.1) (.lit (.int .i64 p.2)) := by simp [vmap, List.foldl_append]
theorem vmap_take {sg : List Dub} {k : Nat} {p : Dub} (h : sg[k]? = some p) : vmap (sg.take (k + 1)) = (vmap (sg.take k)).put (.int .i32 p.1) (.lit (.int .i64 p.2)) := by
  obtain ⟨hk, e⟩ := List.getElem?_eq_some_iff.1 h
  rw [List.take_succ_eq_append_getElem hk, e, vmap_snoc]
theorem keyLit (x : Int) : WideAt.IsKeyLit (.int .i32 x) := by trivial
theorem tidy_vmap : ∀ (sg : List Dub) (m : DataW Unit), Tidy m → Tidy (sg.foldl (fun m p => m.put (.int .i32 p.1) (.lit (.int .i64 p.2))) m)
  | [], _, h => h
  | p :: r, m, h => tidy_vmap r _ (h.put (keyLit _) _)
theorem vmap_tidy (sg : List Dub) : Tidy (vmap sg) := tidy_vmap sg _ Maps.tidy_empty
theorem has_vmap : ∀ (r l : List Dub) (x : Int), r = l.reverse → Maps.has (vmap l) (.int .i32 x) = l.any (fun p => decide (p.1 = x))
  | [], l, x, h => by
    obtain rfl : l = [] := by simpa using h.symm
    rfl
  | p :: r, l, x, h => by
    obtain rfl : l = r.reverse ++ [p] := by have := congrArg List.reverse h; simpa using this.symm
    have ih := has_vmap r r.reverse x (by simp)
    rw [vmap_snoc, List.any_append]
    by_cases e : p.1 = x
    · subst e
      rw [Maps.has_put_same (vmap_tidy _).isMap (keyLit _)]; simp
    · rw [Maps.has_put_other (by intro h; injection h with _ h; exact e h.symm), ih]; simp [e]
theorem valL_snoc_other : ∀ (l : List Dub) (p : Dub) (x : Int), p.1 ≠ x → valL (l ++ [p]) x = valL l x
  | [], p, x, h => by simp [valL, h]
  | q :: r, p, x, h => by
    simp only [List.cons_append, valL]
    rw [valL_snoc_other r p x h]
theorem valL_snoc_same : ∀ (l : List Dub) (p : Dub), (∀ q ∈ l, q.1 ≠ p.1) → valL (l ++ [p]) p.1 = p.2
  | [], p, _ => by simp [valL]
  | q :: r, p, h => by
    simp only [List.cons_append, valL]
    rw [if_neg (h q (by simp)), valL_snoc_same r p (fun q' hq' => h q' (by simp [hq']))]
theorem apart_snoc {l : List Dub} {p : Dub} : apart (l ++ [p]) (l ++ [p]).length ↔ apart l l.length ∧ ∀ q ∈ l, q.1 ≠ p.1 := by
  constructor
  · intro h
    refine ⟨fun i j a b hij hj ha hb => h i j a b hij (by simp; omega) (by rw [List.getElem?_append_left (by omega)]; exact ha) (by rw [List.getElem?_append_left (by omega)]; exact hb), fun q hq => ?_⟩
    obtain ⟨i, hi⟩ := List.getElem?_of_mem hq
    have hlt := (List.getElem?_eq_some_iff.1 hi).1
    exact h i l.length q p hlt (by simp) (by rw [List.getElem?_append_left hlt]; exact hi) (by simp)
  · intro ⟨h, h2⟩ i j a b hij hj ha hb
    by_cases e : j < l.length
    · rw [List.getElem?_append_left (by omega)] at ha hb
      exact h i j a b hij e ha hb
    · have : j = l.length := by simp at hj; omega
      subst this
      rw [List.getElem?_append_left hij] at ha
      obtain rfl : p = b := by simpa using hb
      exact h2 a (List.mem_of_getElem? ha)
theorem at_vmap : ∀ (r l : List Dub) (x : Int), r = l.reverse → apart l l.length → (vmap l).atKey (.int .i32 x) (.lit (.int .i64 0)) = .lit (.int .i64 (valL l x))
  | [], l, x, h, _ => by
    obtain rfl : l = [] := by simpa using h.symm
    rfl
  | p :: r, l, x, h, ha => by
    obtain rfl : l = r.reverse ++ [p] := by have := congrArg List.reverse h; simpa using this.symm
    obtain ⟨h1, h2⟩ := apart_snoc.1 ha
    have ih := at_vmap r r.reverse x (by simp) h1
    rw [vmap_snoc]
    by_cases e : p.1 = x
    · subst e
      rw [Maps.atKey_put_same (vmap_tidy _).isMap (keyLit _), valL_snoc_same _ _ h2]
    · rw [Maps.atKey_put_other (by intro h; injection h with _ h; exact e h.symm), ih, valL_snoc_other _ _ _ e]
theorem size_vmap : ∀ (r l : List Dub), r = l.reverse → Maps.size (vmap l) ≤ l.length ∧ (Maps.size (vmap l) = l.length ↔ apart l l.length)
  | [], l, h => by
    obtain rfl : l = [] := by simpa using h.symm
    exact ⟨Nat.le_refl _, fun _ => apart.zero _, fun _ => rfl⟩
  | p :: r, l, h => by
    obtain rfl : l = r.reverse ++ [p] := by have := congrArg List.reverse h; simpa using this.symm
    obtain ⟨i1, i2⟩ := size_vmap r r.reverse (by simp)
    rw [vmap_snoc, Maps.size_put (vmap_tidy _), has_vmap r _ _ (by simp), apart_snoc]
    cases hb : r.reverse.any fun q => decide (q.1 = p.1)
    · have hn : ∀ q ∈ r.reverse, q.1 ≠ p.1 := fun q hq e => by
        have := List.any_eq_false.1 hb q hq; simp [e] at this
      simp only [Bool.false_eq_true, if_false, List.length_append, List.length_cons, List.length_nil]
      exact ⟨by omega, fun e => ⟨i2.1 (by omega), hn⟩, fun ⟨e, _⟩ => by have := i2.2 e; omega⟩
    · have hn : ¬ ∀ q ∈ r.reverse, q.1 ≠ p.1 := fun hn => by
        obtain ⟨q, hq, e⟩ := List.any_eq_true.1 hb
        exact hn q hq (by simpa using e)
      simp only [if_true, List.length_append, List.length_cons, List.length_nil]
      exact ⟨by omega, fun e => by omega, fun ⟨_, e⟩ => (hn e).elim⟩
end Go.Proofs.Ytgklhdacnklhdaa
