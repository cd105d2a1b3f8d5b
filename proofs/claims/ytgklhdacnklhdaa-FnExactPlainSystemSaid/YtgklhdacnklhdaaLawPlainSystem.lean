/- FnExactPlainSystem holds for every input: the statement as it is given, with no condition of ours. -/
import Derived.Test.YtgklhdacnklhdaaFacts
import Derived.Test.YtgklhdacnklhdaaPlainSystem
import Derived.Test.YtgklhdacnklhdaaOpen
import Derived.Test.YtgklhdacnklhdaaOpenSys
import Derived.ProofKit
import Derived.OpenShut
import Derived.ShutString
import Derived.ChangeOld
import Derived.Below
namespace Go.Proofs.Ytgklhdacnklhdaa
open Go.ChangeShapes Go.WideShapes Go.ChangeAt Go.RowKit
open Go.ChangeMaps (open_string shut_string)

set_option maxRecDepth 100000 in
theorem fnExactPlainSystem_lifted (os : Os) (started : os.Started) (H : Type) (enc : TypeId × Value → H) :
    ReturnsInHanded {} Try.checked os 10 .any (Rows.fnExactPlainSystemSpec.pre6 enc Try.prog Try.f10 Rows.fnExactPlainSystemRow.domain false) (Rows.fnExactPlainSystemSpec.post enc Try.prog Try.f10 false true false false) := by
  refine returnsInHanded_of_change (C := Try.checked) pf_own started (by kernel_rfl) Try.func10
    (ChangeSpec.witness6 (enc := enc) (C := Try.checked) false ⟨#[], #[.agg #[.slice none 0 0, .slice none 0 0]], []⟩ 8 (by kernel_rfl) (by kernel_rfl) (by kernel_rfl) (by kernel_rfl)) ?_
  intro W base args ds gs before hval0 hW hcnd _
  have hval : ∀ (j : Nat) t v, Try.f10.params[j]? = some t → args[j]? = some v → Value.okWide Try.prog W .any base t v := hval0
  have hW' := hW
  obtain ⟨p, q, hA0, hV, rfl, hfz, hnd⟩ := hW
  have hA : DataW.TrodAll enc Try.prog W 0 (fun _ => true) true Try.f10.params.toList args.toList ds p := hA0
  rw [Try.params10] at hA hval
  obtain ⟨v0, vs0, d0, ds0, p0, q0, hargs, rfl, rfl, h0, r0⟩ := trodAll_cons hA
  obtain ⟨rfl, rfl, rfl⟩ := trodAll_nil r0
  obtain rfl : args = #[v0] := by cases args; simp_all
  obtain ⟨rfl, rfl⟩ := trodVars_none hV
  have k0 := h0
  have lt0 : ∀ x ∈ p0, x.block < W.heap.size := by obtain ⟨m, hm⟩ := k0; exact DataW.trod_lt m _ _ _ hm
  obtain ⟨Y0, G0, J0, cg0, cj0, rfl, w0, hF0⟩ := open_system (hval 0 64 v0 rfl rfl) h0
  clear hA0 hval0
  refine (lawPlainSystem_any Y0 w0 G0 J0 cg0 cj0 W hF0).mono fun e W' ⟨he, bel⟩ => ?_
  subst he
  exact ⟨_, rfl, _, _, _, [], _, [], hW', trodAll_mk1 (shut_bool Try.underlying4 _), (trodAll_cons_mk (Below.trod pf_laidOut (by kernel_rfl) (of_decide_eq_true (by kernel_rfl)) k0 bel lt0) trodAll_mk0), rfl, bel.frame _, fun h => by cases h⟩

theorem fnExactPlainSystem_named : Try.pinned.checked.prog.funcNamed Rows.fnExactPlainSystemRow.func = some 10 := by kernel_rfl
theorem fnExactPlainSystem_facts4 : ((Rows.fnExactPlainSystemRow.inPlace == Try.prog.inPlace 10) && (Rows.fnExactPlainSystemRow.unfollowed == Try.prog.unfollowed 10) && (Rows.fnExactPlainSystemRow.recurses == Try.prog.recurses 10) && (Rows.fnExactPlainSystemRow.named == Try.prog.varsNamed 10)) = true := by kernel_rfl
theorem fnExactPlainSystem_facts : joinedFacts Try.prog 10 Try.f10 Rows.fnExactPlainSystemSpec Rows.fnExactPlainSystemRow = true := by
  have h4 := fnExactPlainSystem_facts4
  simp only [Bool.and_eq_true] at h4
  unfold joinedFacts
  simp only [Bool.and_eq_true]
  exact ⟨⟨⟨⟨⟨⟨⟨⟨⟨⟨⟨⟨⟨⟨⟨⟨⟨⟨⟨⟨⟨⟨⟨⟨⟨⟨⟨⟨⟨⟨⟨(by kernel_rfl), pf_laidOut⟩, pf_maps⟩, (by kernel_rfl)⟩, (by kernel_rfl)⟩, (by kernel_rfl)⟩, pf_stops⟩, (by kernel_rfl)⟩, pf_knobs⟩, h4.1.1.1⟩, h4.1.1.2⟩, h4.1.2⟩, h4.2⟩, (by kernel_rfl)⟩, (by kernel_rfl)⟩, (by kernel_rfl)⟩, (by kernel_rfl)⟩, (by kernel_rfl)⟩, (by kernel_rfl)⟩, (by kernel_rfl)⟩, (by kernel_rfl)⟩, (by kernel_rfl)⟩, pf_plainKeys⟩, (by kernel_rfl)⟩, pf_heard⟩, pf_enter⟩, pf_lifted⟩, pf_make⟩, (by kernel_rfl)⟩, (by kernel_rfl)⟩, (by kernel_rfl)⟩, (by kernel_rfl)⟩
theorem fnExactPlainSystem_instance : Try.f10.isInstance Try.pinned.checked.prog Rows.fnExactPlainSystemRow.origin Rows.fnExactPlainSystemRow.targs := of_decide_eq_true (by kernel_rfl)
theorem fnExactPlainSystem_wrapper : Try.f10.isWrapper Try.pinned.checked.prog Rows.fnExactPlainSystemRow.wrapper Rows.fnExactPlainSystemRow.mainSum := by
  unfold Func.isWrapper; rw [if_neg (of_decide_eq_false (by kernel_rfl))]; exact ⟨rfl, rfl⟩

theorem fnExactPlainSystem_over : Rows.fnExactPlainSystemRow.holds Try.pinned (OpenSpec.ofChange Rows.fnExactPlainSystemSpec) :=
  OpenClaim.holds_of_wide 10 Try.f10 rfl rfl rfl rfl rfl rfl rfl ⟨rfl, rfl, rfl, rfl, rfl⟩ rfl rfl rfl rfl rfl fnExactPlainSystem_named Try.func10 fnExactPlainSystem_facts
    fnExactPlainSystem_instance fnExactPlainSystem_wrapper
    (fun os started H enc _ => fnExactPlainSystem_lifted os started H enc)

/-- The statement. -/
theorem fnExactPlainSystem_proved : Rows.FnExactPlainSystemSaid := fnExactPlainSystem_over
#print axioms fnExactPlainSystem_proved
end Go.Proofs.Ytgklhdacnklhdaa
