/- A region that draws its order, walked by a script that may branch. -/
import Derived.Test.YtngondeaeipcfaaDoorG1
namespace Go.Proofs.YtngondeaeipcfaaDoor
open Go Go.RowKit

/-- The end; an operation at once; the only one that may come up; one of two. -/
inductive Sct where
  | fin
  | now (i : Nat) (r : Sct)
  | one (i : Nat) (r : Sct)
  | two (i j : Nat) (r s : Sct)
section
variable {P : Program} {ops : Array Oper} {Q : Exit → Act → World → Prop} {S : World → Prop}
def Sct.size : Sct → Nat
  | .fin => 0
  | .now _ r => r.size + 1
  | .one _ r => r.size + 1
  | .two _ _ r s => max r.size s.size + 1
def Sct.ok (ops : Array Oper) : Sct → Array Bool → Bool
  | .fin, l => Region.ready .any ops l == []
  | .now i r, l => Region.free .any ops l i && ((Region.ready .any ops l).contains i && r.ok ops (l.setIfInBounds i true))
  | .one i r, l => Region.ready .any ops l == [i] && r.ok ops (l.setIfInBounds i true)
  | .two i j r s, l => Region.ready .any ops l == [i, j] && (r.ok ops (l.setIfInBounds i true) && s.ok ops (l.setIfInBounds j true))
def wpSct (P : Program) (ops : Array Oper) (Q : Exit → Act → World → Prop) (S : World → Prop) : Sct → Act → World → Prop
  | .fin, a, w => Q .normal a w
  | .now i r, a, w => ∃ o v, ops[i]? = some o ∧ YieldsIf P ops S o v a ∧ wpSct P ops Q S r (a.put o.dst v) w
  | .one i r, a, w => ∃ o, ops[i]? = some o ∧ wpList P ops (Exit.then (fun a' w' => S w' ∧ wpSct P ops Q S r a' w') Q) [o] a w
  | .two i j r s, a, w => (∃ o, ops[i]? = some o ∧ wpList P ops (Exit.then (fun a' w' => S w' ∧ wpSct P ops Q S r a' w') Q) [o] a w) ∧ ∃ o, ops[j]? = some o ∧ wpList P ops (Exit.then (fun a' w' => S w' ∧ wpSct P ops Q S s a' w') Q) [o] a w
theorem sct_fin {a : Act} {w : World} (h : Q .normal a w) : wpSct P ops Q S .fin a w := h
theorem sct_now {i : Nat} {r : Sct} {a : Act} {w : World} {o : Oper} (v : Value) (ho : ops[i]? = some o) (hy : YieldsIf P ops S o v a) (h : wpSct P ops Q S r (a.put o.dst v) w) : wpSct P ops Q S (.now i r) a w := ⟨o, v, ho, hy, h⟩
theorem sct_one {i : Nat} {r : Sct} {a : Act} {w : World} {o : Oper} (ho : ops[i]? = some o) (h : wpList P ops (Exit.then (fun a' w' => S w' ∧ wpSct P ops Q S r a' w') Q) [o] a w) : wpSct P ops Q S (.one i r) a w := ⟨o, ho, h⟩
theorem sct_two {i j : Nat} {r s : Sct} {a : Act} {w : World} {o o' : Oper} (ho : ops[i]? = some o) (ho' : ops[j]? = some o') (h : wpList P ops (Exit.then (fun a' w' => S w' ∧ wpSct P ops Q S r a' w') Q) [o] a w)
    (h' : wpList P ops (Exit.then (fun a' w' => S w' ∧ wpSct P ops Q S s a' w') Q) [o'] a w) : wpSct P ops Q S (.two i j r s) a w := ⟨⟨o, ho, h⟩, o', ho', h'⟩
theorem held_of_sct (hs : Region.noSelect ops = true) (hQ : ∀ c (a : Act) d v w, Q (.panic c) (a.put d v) w → Q (.panic c) a w) : ∀ (sc : Sct) (l : Array Bool) (n : Nat) (a : Act) (w : World), sc.ok ops l = true → sc.size ≤ n → S w → wpSct P ops Q S sc a w → wpAnyH P .any ops Q S n l a w
  | .fin, l, n, a, w, hb, _, _, h => by
    simp only [Sct.ok, beq_iff_eq] at hb
    exact wpAnyH_done hb h n
  | .now i r, l, n, a, w, hb, hn, hS, h => by
    simp only [Sct.ok, Bool.and_eq_true] at hb
    obtain ⟨o, v, ho, hy, h'⟩ := h
    match n, hn with
    | n + 1, hn => exact wpAnyH_take ho hs hb.1 hb.2.1 (fun c a w hq => hQ c a _ _ w hq) hy hS (held_of_sct hs hQ r _ n _ w hb.2.2 (by simp [Sct.size] at hn; omega) hS h')
  | .one i r, l, n, a, w, hb, hn, hS, h => by
    simp only [Sct.ok, Bool.and_eq_true, beq_iff_eq] at hb
    obtain ⟨o, ho, hl⟩ := h
    match n, hn with
    | n + 1, hn =>
      refine wpAnyH_all hb.1 (by simp) (fun j hj => ?_)
      obtain rfl : j = i := by simpa using hj
      exact wpOp_mono (fun a' w' h' => ⟨h'.1, held_of_sct hs hQ r _ n a' w' hb.2 (by simp [Sct.size] at hn; omega) h'.1 h'.2⟩) (wpOp_of_list ho hl)
  | .two i j r s, l, n, a, w, hb, hn, hS, h => by
    simp only [Sct.ok, Bool.and_eq_true, beq_iff_eq] at hb
    obtain ⟨⟨o, ho, hl⟩, o', ho', hl'⟩ := h
    match n, hn with
    | n + 1, hn =>
      have hn' : r.size ≤ n ∧ s.size ≤ n := by simp [Sct.size] at hn; omega
      refine wpAnyH_all hb.1 (by simp) (fun q hq => ?_)
      rcases List.mem_cons.1 hq with rfl | hq
      · exact wpOp_mono (fun a' w' h' => ⟨h'.1, held_of_sct hs hQ r _ n a' w' hb.2.1 hn'.1 h'.1 h'.2⟩) (wpOp_of_list ho hl)
      · obtain rfl : q = j := by simpa using hq
        exact wpOp_mono (fun a' w' h' => ⟨h'.1, held_of_sct hs hQ s _ n a' w' hb.2.2 hn'.2 h'.1 h'.2⟩) (wpOp_of_list ho' hl')
theorem wp_region_sct {id : Nat} {a : Act} {w : World} (sc : Sct) (S : World → Prop) (hm : P.follows .mixedOrders = true) (hs : Region.noSelect ops = true) (hn : sc.size ≤ ops.size)
    (hb : sc.ok ops (Array.replicate ops.size false) = true) (hQ : ∀ c (a : Act) d v w, Q (.panic c) (a.put d v) w → Q (.panic c) a w) (hS : S w.drew) (h : wpSct P ops Q S sc a w.drew) : (Code.region id ops true).wp P Q a w :=
  wp_region_held (S := S) hm (held_of_sct hs hQ sc _ _ a _ hb hn hS h)
end
end Go.Proofs.YtngondeaeipcfaaDoor
