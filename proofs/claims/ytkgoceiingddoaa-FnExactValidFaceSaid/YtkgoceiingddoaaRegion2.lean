/- A region that draws its order, in which two loads may come at any time and all else comes in one order. -/
import Derived.Test.YtkgoceiingddoaaOver
import Derived.OrdersHeld
namespace Go.Proofs.Ytkgoceiingddoaa
open Go.RowKit

section
variable {P : Program} {Q : Exit → Act → World → Prop}
theorem upon_then {o : Oper} {a : Act} {next K : Act → World → Prop} {r : Result Next} (h : o.upon P a next (Exit.then K Q) r) : o.upon P a next Q r := by
  cases r with
  | ok n w =>
    cases n with
    | enter f args =>
      refine Calls.mono h fun e w' he => ?_
      cases e <;> exact he
    | _ => exact h
  | halt x w => cases x <;> exact h
theorem wpOp_of_list {ops : Array Oper} {i : Nat} {o : Oper} {K : Act → World → Prop} {a : Act} {w : World} (hi : ops[i]? = some o) (h : wpList P ops (Exit.then K Q) [o] a w) : wpOp P ops Q i K a w := by
  unfold wpOp
  simp only [hi]
  unfold wpList at h
  split at h
  · rename_i hw
    rw [if_pos hw]
    rcases h with h | ⟨h1, h2⟩
    · left
      have h' : o.wp P a w K (Exit.then K Q) := h
      exact upon_then h'
    · exact .inr ⟨h1, h2⟩
  · rename_i hw
    rw [if_neg hw]
    exact h

theorem wp_region_loads2 {id : Nat} {a : Act} {w : World} {o0 o1 o2 o3 o4 : Oper} {v0 v1 : Value} (S : World → Prop) (hm : P.follows .mixedOrders = true)
    (hs : Region.noSelect #[o0, o1, o2, o3, o4] = true)
    (f0 : Region.free .any #[o0, o1, o2, o3, o4] #[false, false, false, false, false] 0 = true) (r0 : (Region.ready .any #[o0, o1, o2, o3, o4] #[false, false, false, false, false]).contains 0 = true)
    (f1 : Region.free .any #[o0, o1, o2, o3, o4] #[true, false, false, false, false] 1 = true) (r1 : (Region.ready .any #[o0, o1, o2, o3, o4] #[true, false, false, false, false]).contains 1 = true)
    (r2 : Region.ready .any #[o0, o1, o2, o3, o4] #[true, true, false, false, false] = [2]) (r3 : Region.ready .any #[o0, o1, o2, o3, o4] #[true, true, true, false, false] = [3])
    (r4 : Region.ready .any #[o0, o1, o2, o3, o4] #[true, true, true, true, false] = [4]) (r5 : Region.ready .any #[o0, o1, o2, o3, o4] #[true, true, true, true, true] = [])
    (hQ0 : ∀ c a w, Q (.panic c) (Act.put a o0.dst v0) w → Q (.panic c) a w) (hQ1 : ∀ c a w, Q (.panic c) (Act.put a o1.dst v1) w → Q (.panic c) a w)
    (y0 : YieldsIf P #[o0, o1, o2, o3, o4] S o0 v0 a) (y1 : YieldsIf P #[o0, o1, o2, o3, o4] S o1 v1 (a.put o0.dst v0)) (hS : S w.drew)
    (h : wpList P #[o0, o1, o2, o3, o4] (Exit.then (fun a2 w2 => S w2 ∧ wpList P #[o0, o1, o2, o3, o4] (Exit.then (fun a3 w3 => S w3 ∧ wpList P #[o0, o1, o2, o3, o4] (Exit.then (fun a4 w4 => S w4 ∧ Q .normal a4 w4) Q) [o4] a3 w3) Q) [o3] a2 w2) Q) [o2] ((a.put o0.dst v0).put o1.dst v1) w.drew) :
    (Code.region id #[o0, o1, o2, o3, o4] true).wp P Q a w := by
  refine wp_region_held (S := S) hm ?_
  change wpAnyH P .any _ Q S (4 + 1) #[false, false, false, false, false] a w.drew
  refine wpAnyH_take (i := 0) rfl hs f0 r0 hQ0 y0 hS ?_
  change wpAnyH P .any _ Q S (3 + 1) #[true, false, false, false, false] _ w.drew
  refine wpAnyH_take (i := 1) rfl hs f1 r1 hQ1 y1 hS ?_
  change wpAnyH P .any _ Q S (2 + 1) #[true, true, false, false, false] _ w.drew
  refine wpAnyH_all r2 (by simp) (fun i hi => ?_)
  obtain rfl : i = 2 := by simpa using hi
  refine wpOp_mono (fun a2 w2 h2 => ⟨h2.1, ?_⟩) (wpOp_of_list rfl h)
  change wpAnyH P .any _ Q S (1 + 1) #[true, true, true, false, false] _ _
  refine wpAnyH_all r3 (by simp) (fun i hi => ?_)
  obtain rfl : i = 3 := by simpa using hi
  refine wpOp_mono (fun a3 w3 h3 => ⟨h3.1, ?_⟩) (wpOp_of_list rfl h2.2)
  change wpAnyH P .any _ Q S (0 + 1) #[true, true, true, true, false] _ _
  refine wpAnyH_all r4 (by simp) (fun i hi => ?_)
  obtain rfl : i = 4 := by simpa using hi
  refine wpOp_mono (fun a4 w4 h4 => ⟨h4.1, ?_⟩) (wpOp_of_list rfl h3.2)
  exact wpAnyH_done r5 h4.2 _
end
end Go.Proofs.Ytkgoceiingddoaa
