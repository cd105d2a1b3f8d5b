/- The library's number that strings.Contains and its like read. · A region that draws its order, walked by a script: some operations at once, all else in one order. -/
import Derived.Test.YtngondeaeipcfaaGreatDoorG1

namespace Go.Proofs.YtngondeaeipcfaaGreatDoor
open Go.RowKit

/-- internal/bytealg.MaxLen holds some number. -/
def Glob (w : World) : Prop := ∃ m, w.cell? ⟨0, 0, none⟩ = some (.int .i64 m)
theorem Glob.lt {w : World} (h : Glob w) : 0 < w.heap.size := by obtain ⟨m, hm⟩ := h; exact World.block_lt_of_cell? w _ hm
theorem Glob.below {w w' : World} (h : Glob w) (hb : Below w.heap.size w w') : Glob w' := by
  have hl := h.lt
  obtain ⟨m, hm⟩ := h
  exact ⟨m, (hb.cell (p := ⟨0, 0, none⟩) hl).trans hm⟩
end Go.Proofs.YtngondeaeipcfaaGreatDoor

namespace Go.Proofs.YtngondeaeipcfaaGreatDoor
open Go Go.RowKit

section
variable {P : Program} {ops : Array Oper} {Q : Exit → Act → World → Prop} {S : World → Prop}
def scB (ops : Array Oper) : List (Nat × Bool) → Array Bool → Bool
  | [], l => Region.ready .any ops l == []
  | (i, true) :: r, l => Region.free .any ops l i && ((Region.ready .any ops l).contains i && scB ops r (l.setIfInBounds i true))
  | (i, false) :: r, l => Region.ready .any ops l == [i] && scB ops r (l.setIfInBounds i true)
def wpSc (P : Program) (ops : Array Oper) (Q : Exit → Act → World → Prop) (S : World → Prop) : List (Nat × Bool) → Act → World → Prop
  | [], a, w => Q .normal a w
  | (i, true) :: r, a, w => ∃ o v, ops[i]? = some o ∧ YieldsIf P ops S o v a ∧ wpSc P ops Q S r (a.put o.dst v) w
  | (i, false) :: r, a, w => ∃ o, ops[i]? = some o ∧ wpList P ops (Exit.then (fun a' w' => S w' ∧ wpSc P ops Q S r a' w') Q) [o] a w
theorem sc_nil {a : Act} {w : World} (h : Q .normal a w) : wpSc P ops Q S [] a w := h
theorem sc_take {i : Nat} {r : List (Nat × Bool)} {a : Act} {w : World} {o : Oper} (v : Value) (ho : ops[i]? = some o) (hy : YieldsIf P ops S o v a) (h : wpSc P ops Q S r (a.put o.dst v) w) : wpSc P ops Q S ((i, true) :: r) a w := ⟨o, v, ho, hy, h⟩
theorem sc_step {i : Nat} {r : List (Nat × Bool)} {a : Act} {w : World} {o : Oper} (ho : ops[i]? = some o) (h : wpList P ops (Exit.then (fun a' w' => S w' ∧ wpSc P ops Q S r a' w') Q) [o] a w) : wpSc P ops Q S ((i, false) :: r) a w := ⟨o, ho, h⟩
theorem held_of_script (hs : Region.noSelect ops = true) (hQ : ∀ c (a : Act) d v w, Q (.panic c) (a.put d v) w → Q (.panic c) a w) : ∀ (sc : List (Nat × Bool)) (l : Array Bool) (n : Nat) (a : Act) (w : World), scB ops sc l = true → sc.length ≤ n → S w → wpSc P ops Q S sc a w → wpAnyH P .any ops Q S n l a w
  | [], l, n, a, w, hb, _, _, h => by
    simp only [scB, beq_iff_eq] at hb
    exact wpAnyH_done hb h n
  | (i, true) :: r, l, n, a, w, hb, hn, hS, h => by
    simp only [scB, Bool.and_eq_true] at hb
    obtain ⟨o, v, ho, hy, h'⟩ := h
    match n, hn with
    | n + 1, hn => exact wpAnyH_take ho hs hb.1 hb.2.1 (fun c a w hq => hQ c a _ _ w hq) hy hS (held_of_script hs hQ r _ n _ w hb.2.2 (by simp at hn; omega) hS h')
  | (i, false) :: r, l, n, a, w, hb, hn, hS, h => by
    simp only [scB, Bool.and_eq_true, beq_iff_eq] at hb
    obtain ⟨o, ho, hl⟩ := h
    match n, hn with
    | n + 1, hn =>
      refine wpAnyH_all hb.1 (by simp) (fun j hj => ?_)
      obtain rfl : j = i := by simpa using hj
      exact wpOp_mono (fun a' w' h' => ⟨h'.1, held_of_script hs hQ r _ n a' w' hb.2 (by simp at hn; omega) h'.1 h'.2⟩) (wpOp_of_list ho hl)
theorem wp_region_script {id : Nat} {a : Act} {w : World} (sc : List (Nat × Bool)) (S : World → Prop) (hm : P.follows .mixedOrders = true) (hs : Region.noSelect ops = true) (hn : sc.length ≤ ops.size)
    (hb : scB ops sc (Array.replicate ops.size false) = true) (hQ : ∀ c (a : Act) d v w, Q (.panic c) (a.put d v) w → Q (.panic c) a w) (hS : S w.drew) (h : wpSc P ops Q S sc a w.drew) : (Code.region id ops true).wp P Q a w :=
  wp_region_held (S := S) hm (held_of_script hs hQ sc _ _ a _ hb hn hS h)
end
end Go.Proofs.YtngondeaeipcfaaGreatDoor
