/- FnExactOldSystem holds for every input: the statement as it is given, with no condition of ours. -/
import Derived.Test.YtgklhdacnklhdaaFacts
import Derived.Test.YtgklhdacnklhdaaOldSystem
import Derived.Test.YtgklhdacnklhdaaOpen
import Derived.ProofKit
import Derived.OpenShut
import Derived.ShutString
import Derived.ChangeOld
import Derived.Below
namespace Go.Proofs.Ytgklhdacnklhdaa
open Go.ChangeShapes Go.WideShapes Go.ChangeAt Go.RowKit
open Go.ChangeMaps (open_string shut_string)

set_option maxRecDepth 100000 in
theorem fnExactOldSystem_lifted (os : Os) (started : os.Started) (H : Type) (enc : TypeId × Value → H) :
    ReturnsInHanded {} Try.checked os 9 .any (Rows.fnExactOldSystemSpec.pre6 enc Try.prog Try.f9 Rows.fnExactOldSystemRow.domain false) (Rows.fnExactOldSystemSpec.post enc Try.prog Try.f9 false true false false) := by
  refine returnsInHanded_of_change (C := Try.checked) pf_own started (by kernel_rfl) Try.func9
    (ChangeSpec.witness6 (enc := enc) (C := Try.checked) false ⟨#[], #[.bool false], []⟩ 8 (by kernel_rfl) (by kernel_rfl) (by kernel_rfl) (by kernel_rfl)) ?_
  intro W base args ds gs before hval0 hW hcnd _
  have hval : ∀ (j : Nat) t v, Try.f9.params[j]? = some t → args[j]? = some v → Value.okWide Try.prog W .any base t v := hval0
  have hW' := hW
  obtain ⟨p, q, hA0, hV, rfl, hfz, hnd⟩ := hW
  have hA : DataW.TrodAll enc Try.prog W 0 (fun _ => true) true Try.f9.params.toList args.toList ds p := hA0
  rw [Try.params9] at hA hval
  obtain ⟨v0, vs0, d0, ds0, p0, q0, hargs, rfl, rfl, h0, r0⟩ := trodAll_cons hA
  obtain ⟨rfl, rfl, rfl⟩ := trodAll_nil r0
  obtain rfl : args = #[v0] := by cases args; simp_all
  obtain ⟨rfl, rfl⟩ := trodVars_none hV
  have k0 := h0
  have lt0 : ∀ x ∈ p0, x.block < W.heap.size := by obtain ⟨m, hm⟩ := k0; exact DataW.trod_lt m _ _ _ hm
  obtain ⟨a0, rfl, _⟩ := open_bool Try.underlying4 (hval 0 4 v0 rfl rfl) h0
  clear hA0 hval0
  refine (lawOldSystem_any a0 W).mono fun e W' ⟨he, bel⟩ => ?_
  subst he
  exact ⟨_, rfl, _, _, _, [], _, [], hW', trodAll_mk1 (shut_bool Try.underlying4 _), (trodAll_cons_mk (Below.trod pf_laidOut (by kernel_rfl) (of_decide_eq_true (by kernel_rfl)) k0 bel lt0) trodAll_mk0), rfl, bel.frame _, fun h => by cases h⟩

theorem fnExactOldSystem_named : Try.pinned.checked.prog.funcNamed Rows.fnExactOldSystemRow.func = some 9 := by kernel_rfl
theorem fnExactOldSystem_facts4 : ((Rows.fnExactOldSystemRow.inPlace == Try.prog.inPlace 9) && (Rows.fnExactOldSystemRow.unfollowed == Try.prog.unfollowed 9) && (Rows.fnExactOldSystemRow.recurses == Try.prog.recurses 9) && (Rows.fnExactOldSystemRow.named == Try.prog.varsNamed 9)) = true := by kernel_rfl
theorem fnExactOldSystem_facts : joinedFacts Try.prog 9 Try.f9 Rows.fnExactOldSystemSpec Rows.fnExactOldSystemRow = true := by
  have h4 := fnExactOldSystem_facts4
  simp only [Bool.and_eq_true] at h4
  unfold joinedFacts
  simp only [Bool.and_eq_true]
  exact ⟨⟨⟨⟨⟨⟨⟨⟨⟨⟨⟨⟨⟨⟨⟨⟨⟨⟨⟨⟨⟨⟨⟨⟨⟨⟨⟨⟨⟨⟨⟨(by kernel_rfl), pf_laidOut⟩, pf_maps⟩, (by kernel_rfl)⟩, (by kernel_rfl)⟩, (by kernel_rfl)⟩, pf_stops⟩, (by kernel_rfl)⟩, pf_knobs⟩, h4.1.1.1⟩, h4.1.1.2⟩, h4.1.2⟩, h4.2⟩, (by kernel_rfl)⟩, (by kernel_rfl)⟩, (by kernel_rfl)⟩, (by kernel_rfl)⟩, (by kernel_rfl)⟩, (by kernel_rfl)⟩, (by kernel_rfl)⟩, (by kernel_rfl)⟩, (by kernel_rfl)⟩, pf_plainKeys⟩, (by kernel_rfl)⟩, pf_heard⟩, pf_enter⟩, pf_lifted⟩, pf_make⟩, (by kernel_rfl)⟩, (by kernel_rfl)⟩, (by kernel_rfl)⟩, (by kernel_rfl)⟩
theorem fnExactOldSystem_instance : Try.f9.isInstance Try.pinned.checked.prog Rows.fnExactOldSystemRow.origin Rows.fnExactOldSystemRow.targs := of_decide_eq_true (by kernel_rfl)
theorem fnExactOldSystem_wrapper : Try.f9.isWrapper Try.pinned.checked.prog Rows.fnExactOldSystemRow.wrapper Rows.fnExactOldSystemRow.mainSum := by
  unfold Func.isWrapper; rw [if_neg (of_decide_eq_false (by kernel_rfl))]; exact ⟨rfl, rfl⟩

theorem fnExactOldSystem_over : Rows.fnExactOldSystemRow.holds Try.pinned (OpenSpec.ofChange Rows.fnExactOldSystemSpec) :=
  OpenClaim.holds_of_wide 9 Try.f9 rfl rfl rfl rfl rfl rfl rfl ⟨rfl, rfl, rfl, rfl, rfl⟩ rfl rfl rfl rfl rfl fnExactOldSystem_named Try.func9 fnExactOldSystem_facts
    fnExactOldSystem_instance fnExactOldSystem_wrapper
    (fun os started H enc _ => fnExactOldSystem_lifted os started H enc)

/-- The statement. -/
theorem fnExactOldSystem_proved : Rows.FnExactOldSystemSaid := fnExactOldSystem_over
#print axioms fnExactOldSystem_proved
end Go.Proofs.Ytgklhdacnklhdaa
