/- FnExactDaysFor holds for every input: the statement as it is given, with no condition of ours. -/
import Derived.Test.YtkbemhjeflmppaaFacts
import Derived.Test.YtkbemhjeflmppaaDaysFor
import Derived.Test.YtkbemhjeflmppaaOpen
import Derived.Test.YtkbemhjeflmppaaOpenInts
import Derived.ProofKit
import Derived.Test.YtkbemhjeflmppaaLeave
import Derived.OpenShut
import Derived.ShutString
import Derived.ChangeOld
import Derived.Below
namespace Go.Proofs.Ytkbemhjeflmppaa
open Go.ChangeShapes Go.WideShapes Go.ChangeAt Go.RowKit
open Go.ChangeMaps (open_string shut_string)

set_option maxRecDepth 100000 in
theorem fnExactDaysFor_lifted (os : Os) (started : os.Started) (H : Type) (enc : TypeId × Value → H) :
    ReturnsInHanded {} Try.checked os 5 .any (Rows.fnExactDaysForSpec.pre6 enc Try.prog Try.f5 Rows.fnExactDaysForRow.domain false) (Rows.fnExactDaysForSpec.post enc Try.prog Try.f5 false true false false) := by
  refine returnsInHanded_of_change (C := Try.checked) pf_own started (by kernel_rfl) Try.func5
    (ChangeSpec.witness6 (enc := enc) (C := Try.checked) false ⟨#[], #[.slice none 0 0, .int .i64 0], []⟩ 8 (by kernel_rfl) (by kernel_rfl) (by kernel_rfl) (by kernel_rfl)) ?_
  intro W base args ds gs before hval0 hW hcnd _
  have hval : ∀ (j : Nat) t v, Try.f5.params[j]? = some t → args[j]? = some v → Value.okWide Try.prog W .any base t v := hval0
  have hW' := hW
  obtain ⟨p, q, hA0, hV, rfl, hfz, hnd⟩ := hW
  have hA : DataW.TrodAll enc Try.prog W 0 (fun _ => true) true Try.f5.params.toList args.toList ds p := hA0
  rw [Try.params5] at hA hval
  obtain ⟨v0, vs0, d0, ds0, p0, q0, hargs, rfl, rfl, h0, r0⟩ := trodAll_cons hA
  obtain ⟨v1, vs1, d1, ds1, p1, q1, rfl, rfl, rfl, h1, r1⟩ := trodAll_cons r0
  obtain ⟨rfl, rfl, rfl⟩ := trodAll_nil r1
  obtain rfl : args = #[v0, v1] := by cases args; simp_all
  obtain ⟨rfl, rfl⟩ := trodVars_none hV
  have k0 := h0
  have lt0 : ∀ x ∈ p0, x.block < W.heap.size := by obtain ⟨m, hm⟩ := k0; exact DataW.trod_lt m _ _ _ hm
  have k1 := h1
  have lt1 : ∀ x ∈ p1, x.block < W.heap.size := by obtain ⟨m, hm⟩ := k1; exact DataW.trod_lt m _ _ _ hm
  obtain ⟨A0, xs0, cap0, rfl, hn0, hF0⟩ := open_i64s (hval 0 35 v0 rfl rfl) h0
  obtain ⟨a1, rfl, _, _, w1⟩ := open_int Try.underlying2 (hval 1 2 v1 rfl rfl) h1
  clear hA0 hval0
  refine (lawDaysFor_any A0 xs0 cap0 hn0 a1 w1 W hF0).mono fun e W' ⟨he, bel⟩ => ?_
  subst he
  exact ⟨_, rfl, _, _, _, [], _, [], hW', trodAll_mk1 (shut_bool Try.underlying4 _), (trodAll_cons_mk (Below.trod pf_laidOut (by kernel_rfl) (of_decide_eq_true (by kernel_rfl)) k0 bel lt0) (trodAll_cons_mk (Below.trod pf_laidOut (by kernel_rfl) (of_decide_eq_true (by kernel_rfl)) k1 bel lt1) trodAll_mk0)), rfl, bel.frame _, fun h => by cases h⟩

theorem fnExactDaysFor_named : Try.pinned.checked.prog.funcNamed Rows.fnExactDaysForRow.func = some 5 := by kernel_rfl
theorem fnExactDaysFor_facts4 : ((Rows.fnExactDaysForRow.inPlace == Try.prog.inPlace 5) && (Rows.fnExactDaysForRow.unfollowed == Try.prog.unfollowed 5) && (Rows.fnExactDaysForRow.recurses == Try.prog.recurses 5) && (Rows.fnExactDaysForRow.named == Try.prog.varsNamed 5)) = true := by kernel_rfl
theorem fnExactDaysFor_facts : joinedFacts Try.prog 5 Try.f5 Rows.fnExactDaysForSpec Rows.fnExactDaysForRow = true := by
  have h4 := fnExactDaysFor_facts4
  simp only [Bool.and_eq_true] at h4
  unfold joinedFacts
  simp only [Bool.and_eq_true]
  exact ⟨⟨⟨⟨⟨⟨⟨⟨⟨⟨⟨⟨⟨⟨⟨⟨⟨⟨⟨⟨⟨⟨⟨⟨⟨⟨⟨⟨⟨⟨⟨(by kernel_rfl), pf_laidOut⟩, pf_maps⟩, (by kernel_rfl)⟩, (by kernel_rfl)⟩, (by kernel_rfl)⟩, pf_stops⟩, (by kernel_rfl)⟩, pf_knobs⟩, h4.1.1.1⟩, h4.1.1.2⟩, h4.1.2⟩, h4.2⟩, (by kernel_rfl)⟩, (by kernel_rfl)⟩, (by kernel_rfl)⟩, (by kernel_rfl)⟩, (by kernel_rfl)⟩, (by kernel_rfl)⟩, (by kernel_rfl)⟩, (by kernel_rfl)⟩, (by kernel_rfl)⟩, pf_plainKeys⟩, (by kernel_rfl)⟩, pf_heard⟩, pf_enter⟩, pf_lifted⟩, pf_make⟩, (by kernel_rfl)⟩, (by kernel_rfl)⟩, (by kernel_rfl)⟩, (by kernel_rfl)⟩
theorem fnExactDaysFor_instance : Try.f5.isInstance Try.pinned.checked.prog Rows.fnExactDaysForRow.origin Rows.fnExactDaysForRow.targs := of_decide_eq_true (by kernel_rfl)
theorem fnExactDaysFor_wrapper : Try.f5.isWrapper Try.pinned.checked.prog Rows.fnExactDaysForRow.wrapper Rows.fnExactDaysForRow.mainSum := by
  unfold Func.isWrapper; rw [if_neg (of_decide_eq_false (by kernel_rfl))]; exact ⟨rfl, rfl⟩

theorem fnExactDaysFor_over : Rows.fnExactDaysForRow.holds Try.pinned (OpenSpec.ofChange Rows.fnExactDaysForSpec) :=
  OpenClaim.holds_of_wide_leaving 5 Try.f5 rfl rfl rfl rfl rfl rfl rfl ⟨rfl, rfl, rfl, rfl, rfl⟩ rfl rfl rfl rfl rfl fnExactDaysFor_named Try.func5 fnExactDaysFor_facts
    fnExactDaysFor_instance fnExactDaysFor_wrapper
    (fun os started H enc _ => leaving_of_handed (fnExactDaysFor_lifted os started H enc))

/-- The statement. -/
theorem fnExactDaysFor_proved : Rows.FnExactDaysForSaid := fnExactDaysFor_over
#print axioms fnExactDaysFor_proved
end Go.Proofs.Ytkbemhjeflmppaa
