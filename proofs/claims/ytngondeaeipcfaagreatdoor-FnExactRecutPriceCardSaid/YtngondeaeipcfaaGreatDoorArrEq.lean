/- Arrays of numbers are equal if their numbers are. -/
import Derived.Test.YtngondeaeipcfaaGreatDoorG2
import Derived.Laws.StructEq
namespace Go.Proofs.YtngondeaeipcfaaGreatDoor
open Go.RowKit

theorem all_idx (f g : Nat → Int) : ∀ (l : List Nat), (l.all fun i => f i == g i) = decide (∀ i ∈ l, f i = g i)
  | [] => by simp
  | i :: l => by
    rw [List.all_cons, all_idx f g l, Bool.eq_iff_iff]
    simp
theorem eq_of_idx {xs ys : List Int} {n : Nat} (hx : xs.length = n) (hy : ys.length = n) : (∀ i ∈ List.range' 0 n 1, xs.getD i 0 = ys.getD i 0) ↔ xs = ys := by
  refine ⟨fun h => ?_, fun h i _ => by rw [h]⟩
  apply List.ext_getElem (hx.trans hy.symm)
  intro i h1 h2
  have := h i (by simp; omega)
  simpa [List.getD, List.getElem?_eq_getElem h1, List.getElem?_eq_getElem h2] using this

section
variable {P : Program}
theorem part_int {e : TypeId} {k : IntKind} (he : P.underlying e = some (.int k)) (xs : List Int) (i : Nat) (hi : i < xs.length) (w : World) :
    (Go.part e (xs.map (Value.int k)).toArray (i * 1)).run P w = .ok (.int k (xs.getD i 0)) w := by
  simp [Go.part, isAgg, run_underlying he, List.getD, List.getElem?_eq_getElem hi]
theorem run_equalIn_ints (d : Nat) {t e : TypeId} {n : Nat} {k : IntKind} (ht : P.underlying t = some (.array n e)) (he : P.underlying e = some (.int k)) (hsz : ∀ w, (sizeOf e).run P w = .ok 1 w)
    (xs ys : List Int) (hx : xs.length = n) (hy : ys.length = n) (w : World) :
    (Op.equalIn (d + 2) t (.agg (xs.map (Value.int k)).toArray) (.agg (ys.map (Value.int k)).toArray)).run P w = .ok (decide (xs = ys)) w := by
  rw [show decide (xs = ys) = ((List.range' 0 n 1).all fun i => xs.getD i 0 == ys.getD i 0) from by rw [all_idx (fun i => xs.getD i 0) (fun i => ys.getD i 0)]; exact decide_eq_decide.2 (eq_of_idx hx hy).symm]
  have hl : ∀ i ∈ List.range' 0 n 1, i < n := fun i hi => by simpa using (List.mem_range'_1.1 hi).2
  rw [Op.equalIn]
  simp only [Sem.run_bind, run_underlying ht, Result.andThen_ok, hsz, Std.Legacy.Range.forIn_eq_forIn_range', Std.Legacy.Range.size, Nat.sub_zero, Nat.add_sub_cancel, Nat.div_one]
  revert hl
  generalize List.range' 0 n 1 = l
  intro hl
  induction l with
  | nil => simp
  | cons i l ih =>
    have hi := hl i (by simp)
    have e1 := part_int he xs i (by omega) w
    have e2 := part_int he ys i (by omega) w
    have e3 := run_equalIn_int (P := P) w d e k k (xs.getD i 0) (ys.getD i 0) he
    have ih' := ih (fun j hj => hl j (by simp [hj]))
    simp only [List.forIn_cons, Sem.run_bind, e1, e2, e3, Result.andThen_ok, List.all_cons] at ih' ⊢
    cases hb : (xs.getD i 0 == ys.getD i 0)
    · simp
    · simpa using ih'
theorem run_eql_ints {t e : TypeId} {n : Nat} {k : IntKind} (ht : P.underlying t = some (.array n e)) (he : P.underlying e = some (.int k)) (hsz : ∀ w, (sizeOf e).run P w = .ok 1 w)
    (xs ys : List Int) (hx : xs.length = n) (hy : ys.length = n) (w : World) :
    (binOp .eql t (.agg (xs.map (Value.int k)).toArray) (.agg (ys.map (Value.int k)).toArray)).run P w = .ok (.bool (decide (xs = ys))) w := by
  rw [run_eql_struct, run_equalIn_ints 9998 ht he hsz xs ys hx hy]; rfl
theorem run_neq_ints {t e : TypeId} {n : Nat} {k : IntKind} (ht : P.underlying t = some (.array n e)) (he : P.underlying e = some (.int k)) (hsz : ∀ w, (sizeOf e).run P w = .ok 1 w)
    (xs ys : List Int) (hx : xs.length = n) (hy : ys.length = n) (w : World) :
    (binOp .neq t (.agg (xs.map (Value.int k)).toArray) (.agg (ys.map (Value.int k)).toArray)).run P w = .ok (.bool (!decide (xs = ys))) w := by
  rw [run_neq_struct, run_equalIn_ints 9998 ht he hsz xs ys hx hy]; rfl
end
end Go.Proofs.YtngondeaeipcfaaGreatDoor
