/- FnExactValidSystem holds for every input: the statement as it is given, with no condition of ours. -/
import Derived.Test.YtgklhdacnklhdaaFacts
import Derived.Test.YtgklhdacnklhdaaValidSystem
import Derived.Test.YtgklhdacnklhdaaOpen
import Derived.Test.YtgklhdacnklhdaaOpenSys
import Derived.ProofKit
import Derived.OpenShut
import Derived.ShutString
import Derived.ChangeOld
import Derived.Below
namespace Go.Proofs.Ytgklhdacnklhdaa
open Go.ChangeShapes Go.WideShapes Go.ChangeAt Go.RowKit
open Go.ChangeMaps (open_string shut_string)

set_option maxRecDepth 100000 in
theorem fnExactValidSystem_lifted (os : Os) (started : os.Started) (H : Type) (enc : TypeId × Value → H) :
    ReturnsInHanded {} Try.checked os 7 .any (Rows.fnExactValidSystemSpec.pre6 enc Try.prog Try.f7 Rows.fnExactValidSystemRow.domain false) (Rows.fnExactValidSystemSpec.post enc Try.prog Try.f7 false true false false) := by
  refine returnsInHanded_of_change (C := Try.checked) pf_own started (by kernel_rfl) Try.func7
    (ChangeSpec.witness6 (enc := enc) (C := Try.checked) false ⟨#[], #[.agg #[.slice none 0 0, .slice none 0 0]], []⟩ 8 (by kernel_rfl) (by kernel_rfl) (by kernel_rfl) (by kernel_rfl)) ?_
  intro W base args ds gs before hval0 hW hcnd _
  have hval : ∀ (j : Nat) t v, Try.f7.params[j]? = some t → args[j]? = some v → Value.okWide Try.prog W .any base t v := hval0
  have hW' := hW
  obtain ⟨p, q, hA0, hV, rfl, hfz, hnd⟩ := hW
  have hA : DataW.TrodAll enc Try.prog W 0 (fun _ => true) true Try.f7.params.toList args.toList ds p := hA0
  rw [Try.params7] at hA hval
  obtain ⟨v0, vs0, d0, ds0, p0, q0, hargs, rfl, rfl, h0, r0⟩ := trodAll_cons hA
  obtain ⟨rfl, rfl, rfl⟩ := trodAll_nil r0
  obtain rfl : args = #[v0] := by cases args; simp_all
  obtain ⟨rfl, rfl⟩ := trodVars_none hV
  have k0 := h0
  have lt0 : ∀ x ∈ p0, x.block < W.heap.size := by obtain ⟨m, hm⟩ := k0; exact DataW.trod_lt m _ _ _ hm
  obtain ⟨Y0, G0, J0, cg0, cj0, rfl, w0, hF0⟩ := open_system (hval 0 64 v0 rfl rfl) h0
  clear hA0 hval0
  refine (lawValidSystem_any Y0 w0 G0 J0 cg0 cj0 W hF0).mono fun e W' ⟨he, bel⟩ => ?_
  subst he
  exact ⟨_, rfl, _, _, _, [], _, [], hW', trodAll_mk1 (shut_bool Try.underlying4 _), (trodAll_cons_mk (Below.trod pf_laidOut (by kernel_rfl) (of_decide_eq_true (by kernel_rfl)) k0 bel lt0) trodAll_mk0), rfl, bel.frame _, fun h => by cases h⟩

theorem fnExactValidSystem_named : Try.pinned.checked.prog.funcNamed Rows.fnExactValidSystemRow.func = some 7 := by kernel_rfl
theorem fnExactValidSystem_facts4 : ((Rows.fnExactValidSystemRow.inPlace == Try.prog.inPlace 7) && (Rows.fnExactValidSystemRow.unfollowed == Try.prog.unfollowed 7) && (Rows.fnExactValidSystemRow.recurses == Try.prog.recurses 7) && (Rows.fnExactValidSystemRow.named == Try.prog.varsNamed 7)) = true := by kernel_rfl
theorem fnExactValidSystem_facts : joinedFacts Try.prog 7 Try.f7 Rows.fnExactValidSystemSpec Rows.fnExactValidSystemRow = true := by
  have h4 := fnExactValidSystem_facts4
  simp only [Bool.and_eq_true] at h4
  unfold joinedFacts
  simp only [Bool.and_eq_true]
  exact ⟨⟨⟨⟨⟨⟨⟨⟨⟨⟨⟨⟨⟨⟨⟨⟨⟨⟨⟨⟨⟨⟨⟨⟨⟨⟨⟨⟨⟨⟨⟨(by kernel_rfl), pf_laidOut⟩, pf_maps⟩, (by kernel_rfl)⟩, (by kernel_rfl)⟩, (by kernel_rfl)⟩, pf_stops⟩, (by kernel_rfl)⟩, pf_knobs⟩, h4.1.1.1⟩, h4.1.1.2⟩, h4.1.2⟩, h4.2⟩, (by kernel_rfl)⟩, (by kernel_rfl)⟩, (by kernel_rfl)⟩, (by kernel_rfl)⟩, (by kernel_rfl)⟩, (by kernel_rfl)⟩, (by kernel_rfl)⟩, (by kernel_rfl)⟩, (by kernel_rfl)⟩, pf_plainKeys⟩, (by kernel_rfl)⟩, pf_heard⟩, pf_enter⟩, pf_lifted⟩, pf_make⟩, (by kernel_rfl)⟩, (by kernel_rfl)⟩, (by kernel_rfl)⟩, (by kernel_rfl)⟩
theorem fnExactValidSystem_instance : Try.f7.isInstance Try.pinned.checked.prog Rows.fnExactValidSystemRow.origin Rows.fnExactValidSystemRow.targs := of_decide_eq_true (by kernel_rfl)
theorem fnExactValidSystem_wrapper : Try.f7.isWrapper Try.pinned.checked.prog Rows.fnExactValidSystemRow.wrapper Rows.fnExactValidSystemRow.mainSum := by
  unfold Func.isWrapper; rw [if_neg (of_decide_eq_false (by kernel_rfl))]; exact ⟨rfl, rfl⟩

theorem fnExactValidSystem_over : Rows.fnExactValidSystemRow.holds Try.pinned (OpenSpec.ofChange Rows.fnExactValidSystemSpec) :=
  OpenClaim.holds_of_wide 7 Try.f7 rfl rfl rfl rfl rfl rfl rfl ⟨rfl, rfl, rfl, rfl, rfl⟩ rfl rfl rfl rfl rfl fnExactValidSystem_named Try.func7 fnExactValidSystem_facts
    fnExactValidSystem_instance fnExactValidSystem_wrapper
    (fun os started H enc _ => fnExactValidSystem_lifted os started H enc)

/-- The statement. -/
theorem fnExactValidSystem_proved : Rows.FnExactValidSystemSaid := fnExactValidSystem_over
#print axioms fnExactValidSystem_proved
end Go.Proofs.Ytgklhdacnklhdaa
