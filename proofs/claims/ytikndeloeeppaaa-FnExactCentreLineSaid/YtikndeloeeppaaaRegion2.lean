/- A region that draws its order, in which two loads may come at any time and all else comes in one order. -/
import Derived.Test.YtikndeloeeppaaaOver
import Derived.OrdersHeld
namespace Go.Proofs.Ytikndeloeeppaaa
open Go.RowKit

section
variable {P : Program} {Q : Exit → Act → World → Prop}
theorem upon_then {o : Oper} {a : Act} {next K : Act → World → Prop} {r : Result Next} (h : o.upon P a next (Exit.then K Q) r) : o.upon P a next Q r := by
  cases r with
  | ok n w =>
    cases n with
    | enter f args =>
      refine Calls.mono h fun e w' he => ?_
      cases e <;> exact he
    | _ => exact h
  | halt x w => cases x <;> exact h
theorem wpOp_of_list {ops : Array Oper} {i : Nat} {o : Oper} {K : Act → World → Prop} {a : Act} {w : World} (hi : ops[i]? = some o) (h : wpList P ops (Exit.then K Q) [o] a w) : wpOp P ops Q i K a w := by
  unfold wpOp
  simp only [hi]
  unfold wpList at h
  split at h
  · rename_i hw
    rw [if_pos hw]
    rcases h with h | ⟨h1, h2⟩
    · left
      have h' : o.wp P a w K (Exit.then K Q) := h
      exact upon_then h'
    · exact .inr ⟨h1, h2⟩
  · rename_i hw
    rw [if_neg hw]
    exact h

theorem wp_region_loads2 {id : Nat} {a : Act} {w : World} {o0 o1 o2 o3 o4 : Oper} {v0 v1 : Value} (S : World → Prop) (hm : P.follows .mixedOrders = true)
    (hs : Region.noSelect #[o0, o1, o2, o3, o4] = true)
    (f0 : Region.free .any #[o0, o1, o2, o3, o4] #[false, false, false, false, false] 0 = true) (r0 : (Region.ready .any #[o0, o1, o2, o3, o4] #[false, false, false, false, false]).contains 0 = true)
    (f1 : Region.free .any #[o0, o1, o2, o3, o4] #[true, false, false, false, false] 1 = true) (r1 : (Region.ready .any #[o0, o1, o2, o3, o4] #[true, false, false, false, false]).contains 1 = true)
    (r2 : Region.ready .any #[o0, o1, o2, o3, o4] #[true, true, false, false, false] = [2]) (r3 : Region.ready .any #[o0, o1, o2, o3, o4] #[true, true, true, false, false] = [3])
    (r4 : Region.ready .any #[o0, o1, o2, o3, o4] #[true, true, true, true, false] = [4]) (r5 : Region.ready .any #[o0, o1, o2, o3, o4] #[true, true, true, true, true] = [])
    (hQ0 : ∀ c a w, Q (.panic c) (Act.put a o0.dst v0) w → Q (.panic c) a w) (hQ1 : ∀ c a w, Q (.panic c) (Act.put a o1.dst v1) w → Q (.panic c) a w)
    (y0 : YieldsIf P #[o0, o1, o2, o3, o4] S o0 v0 a) (y1 : YieldsIf P #[o0, o1, o2, o3, o4] S o1 v1 (a.put o0.dst v0)) (hS : S w.drew)
    (h : wpList P #[o0, o1, o2, o3, o4] (Exit.then (fun a2 w2 => S w2 ∧ wpList P #[o0, o1, o2, o3, o4] (Exit.then (fun a3 w3 => S w3 ∧ wpList P #[o0, o1, o2, o3, o4] (Exit.then (fun a4 w4 => S w4 ∧ Q .normal a4 w4) Q) [o4] a3 w3) Q) [o3] a2 w2) Q) [o2] ((a.put o0.dst v0).put o1.dst v1) w.drew) :
    (Code.region id #[o0, o1, o2, o3, o4] true).wp P Q a w := by
  refine wp_region_held (S := S) hm ?_
  change wpAnyH P .any _ Q S (4 + 1) #[false, false, false, false, false] a w.drew
  refine wpAnyH_take (i := 0) rfl hs f0 r0 hQ0 y0 hS ?_
  change wpAnyH P .any _ Q S (3 + 1) #[true, false, false, false, false] _ w.drew
  refine wpAnyH_take (i := 1) rfl hs f1 r1 hQ1 y1 hS ?_
  change wpAnyH P .any _ Q S (2 + 1) #[true, true, false, false, false] _ w.drew
  refine wpAnyH_all r2 (by simp) (fun i hi => ?_)
  obtain rfl : i = 2 := by simpa using hi
  refine wpOp_mono (fun a2 w2 h2 => ⟨h2.1, ?_⟩) (wpOp_of_list rfl h)
  change wpAnyH P .any _ Q S (1 + 1) #[true, true, true, false, false] _ _
  refine wpAnyH_all r3 (by simp) (fun i hi => ?_)
  obtain rfl : i = 3 := by simpa using hi
  refine wpOp_mono (fun a3 w3 h3 => ⟨h3.1, ?_⟩) (wpOp_of_list rfl h2.2)
  change wpAnyH P .any _ Q S (0 + 1) #[true, true, true, true, false] _ _
  refine wpAnyH_all r4 (by simp) (fun i hi => ?_)
  obtain rfl : i = 4 := by simpa using hi
  refine wpOp_mono (fun a4 w4 h4 => ⟨h4.1, ?_⟩) (wpOp_of_list rfl h3.2)
  exact wpAnyH_done r5 h4.2 _

/-! ### Some loads at any time, all else in one order -/
def forcedB (md : Region.Mode) (ops : Array Oper) : List Nat → Array Bool → Bool
  | [], listed => Region.ready md ops listed == []
  | i :: rest, listed => Region.ready md ops listed == [i] && forcedB md ops rest (listed.setIfInBounds i true)
def wpForced (P : Program) (ops : Array Oper) (Q : Exit → Act → World → Prop) (S : World → Prop) : List Nat → Act → World → Prop
  | [], a, w => Q .normal a w
  | i :: rest, a, w => ∃ o, ops[i]? = some o ∧ wpList P ops (Exit.then (fun a' w' => S w' ∧ wpForced P ops Q S rest a' w') Q) [o] a w
theorem wpForced_nil {ops : Array Oper} {S : World → Prop} {a : Act} {w : World} (h : Q .normal a w) : wpForced P ops Q S [] a w := h
theorem wpForced_cons {ops : Array Oper} {S : World → Prop} {i : Nat} {o : Oper} {rest : List Nat} {a : Act} {w : World} (hi : ops[i]? = some o)
    (h : wpList P ops (Exit.then (fun a' w' => S w' ∧ wpForced P ops Q S rest a' w') Q) [o] a w) : wpForced P ops Q S (i :: rest) a w := ⟨o, hi, h⟩
theorem held_of_forced {md : Region.Mode} {ops : Array Oper} {S : World → Prop} : ∀ (order : List Nat) (listed : Array Bool) (n : Nat) (a : Act) (w : World), forcedB md ops order listed = true → order.length ≤ n →
    wpForced P ops Q S order a w → wpAnyH P md ops Q S n listed a w
  | [], listed, n, a, w, hb, _, h => by
    simp only [forcedB, beq_iff_eq] at hb
    exact wpAnyH_done hb h n
  | i :: rest, listed, n, a, w, hb, hn, h => by
    simp only [forcedB, Bool.and_eq_true, beq_iff_eq] at hb
    obtain ⟨o, hi, hl⟩ := h
    match n, hn with
    | n + 1, hn =>
      refine wpAnyH_all hb.1 (by simp) (fun j hj => ?_)
      obtain rfl : j = i := by simpa using hj
      exact wpOp_mono (fun a' w' h' => ⟨h'.1, held_of_forced rest _ n a' w' hb.2 (by simp at hn; omega) h'.2⟩) (wpOp_of_list hi hl)

theorem wp_region_take2 {id : Nat} {a : Act} {w : World} {ops : Array Oper} {oi oj : Oper} {vi vj : Value} (i j : Nat) (order : List Nat) (n : Nat) (S : World → Prop) (hm : P.follows .mixedOrders = true) (hz : ops.size = n + 1 + 1) (hn : order.length ≤ n)
    (hi : ops[i]? = some oi) (hj : ops[j]? = some oj) (hs : Region.noSelect ops = true)
    (fi : Region.free .any ops (Array.replicate (n + 1 + 1) false) i = true) (ri : (Region.ready .any ops (Array.replicate (n + 1 + 1) false)).contains i = true)
    (fj : Region.free .any ops ((Array.replicate (n + 1 + 1) false).setIfInBounds i true) j = true) (rj : (Region.ready .any ops ((Array.replicate (n + 1 + 1) false).setIfInBounds i true)).contains j = true)
    (hf : forcedB .any ops order (((Array.replicate (n + 1 + 1) false).setIfInBounds i true).setIfInBounds j true) = true)
    (hQi : ∀ c a w, Q (.panic c) (Act.put a oi.dst vi) w → Q (.panic c) a w) (hQj : ∀ c a w, Q (.panic c) (Act.put a oj.dst vj) w → Q (.panic c) a w)
    (yi : YieldsIf P ops S oi vi a) (yj : YieldsIf P ops S oj vj (a.put oi.dst vi)) (hS : S w.drew)
    (h : wpForced P ops Q S order ((a.put oi.dst vi).put oj.dst vj) w.drew) : (Code.region id ops true).wp P Q a w := by
  refine wp_region_held (S := S) hm ?_
  rw [hz]
  change wpAnyH P .any ops Q S (n + 1 + 1) (Array.replicate (n + 1 + 1) false) a w.drew
  refine wpAnyH_take hi hs fi ri hQi yi hS ?_
  refine wpAnyH_take hj hs fj rj hQj yj hS ?_
  exact held_of_forced order _ n _ _ hf hn h
theorem wp_region_take1 {id : Nat} {a : Act} {w : World} {ops : Array Oper} {oi : Oper} {vi : Value} (i : Nat) (order : List Nat) (n : Nat) (S : World → Prop) (hm : P.follows .mixedOrders = true) (hz : ops.size = n + 1) (hn : order.length ≤ n)
    (hi : ops[i]? = some oi) (hs : Region.noSelect ops = true)
    (fi : Region.free .any ops (Array.replicate (n + 1) false) i = true) (ri : (Region.ready .any ops (Array.replicate (n + 1) false)).contains i = true)
    (hf : forcedB .any ops order ((Array.replicate (n + 1) false).setIfInBounds i true) = true)
    (hQi : ∀ c a w, Q (.panic c) (Act.put a oi.dst vi) w → Q (.panic c) a w)
    (yi : YieldsIf P ops S oi vi a) (hS : S w.drew)
    (h : wpForced P ops Q S order (a.put oi.dst vi) w.drew) : (Code.region id ops true).wp P Q a w := by
  refine wp_region_held (S := S) hm ?_
  rw [hz]
  change wpAnyH P .any ops Q S (n + 1) (Array.replicate (n + 1) false) a w.drew
  refine wpAnyH_take hi hs fi ri hQi yi hS ?_
  exact held_of_forced order _ n _ _ hf hn h
end
end Go.Proofs.Ytikndeloeeppaaa
