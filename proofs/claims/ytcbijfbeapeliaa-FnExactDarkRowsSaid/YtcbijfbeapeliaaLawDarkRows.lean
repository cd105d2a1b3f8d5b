/- FnExactDarkRows holds for every input: the statement as it is given, with no condition of ours. -/
import Derived.Test.YtcbijfbeapeliaaFacts
import Derived.Test.YtcbijfbeapeliaaDarkRows
import Derived.Test.YtcbijfbeapeliaaOpen
import Derived.Test.YtcbijfbeapeliaaOpenRub
import Derived.ProofKit
import Derived.OpenShut
import Derived.ShutString
import Derived.ChangeOld
import Derived.Below
namespace Go.Proofs.Ytcbijfbeapeliaa
open Go.ChangeShapes Go.WideShapes Go.ChangeAt Go.RowKit
open Go.ChangeMaps (open_string shut_string)

set_option maxRecDepth 100000 in
theorem fnExactDarkRows_lifted (os : Os) (started : os.Started) (H : Type) (enc : TypeId × Value → H) :
    ReturnsInHanded {} Try.checked os 8 .any (Rows.fnExactDarkRowsSpec.pre6 enc Try.prog Try.f8 Rows.fnExactDarkRowsRow.domain false) (Rows.fnExactDarkRowsSpec.post enc Try.prog Try.f8 false true false false) := by
  refine returnsInHanded_of_change (C := Try.checked) pf_own started (by kernel_rfl) Try.func8
    (ChangeSpec.witness6 (enc := enc) (C := Try.checked) false ⟨#[], #[.agg #[.int .u16 0, .int .u16 0, .int .u16 0, .int .u16 0, .int .u16 0, .int .u16 0, .int .u16 0, .int .u16 0]], []⟩ 8 (by kernel_rfl) (by kernel_rfl) (by kernel_rfl) (by kernel_rfl)) ?_
  intro W base args ds gs before hval0 hW hcnd _
  have hval : ∀ (j : Nat) t v, Try.f8.params[j]? = some t → args[j]? = some v → Value.okWide Try.prog W .any base t v := hval0
  have hW' := hW
  obtain ⟨p, q, hA0, hV, rfl, hfz, hnd⟩ := hW
  have hA : DataW.TrodAll enc Try.prog W 0 (fun _ => true) true Try.f8.params.toList args.toList ds p := hA0
  rw [Try.params8] at hA hval
  obtain ⟨v0, vs0, d0, ds0, p0, q0, hargs, rfl, rfl, h0, r0⟩ := trodAll_cons hA
  obtain ⟨rfl, rfl, rfl⟩ := trodAll_nil r0
  obtain rfl : args = #[v0] := by cases args; simp_all
  obtain ⟨rfl, rfl⟩ := trodVars_none hV
  have k0 := h0
  have lt0 : ∀ x ∈ p0, x.block < W.heap.size := by obtain ⟨m, hm⟩ := k0; exact DataW.trod_lt m _ _ _ hm
  obtain ⟨S0, rfl, w0⟩ := open_rubbing (hval 0 23 v0 rfl rfl) h0
  clear hA0 hval0
  refine (lawDarkRows_any S0 w0 W).mono fun e W' ⟨he, bel⟩ => ?_
  subst he
  exact ⟨_, rfl, _, _, _, [], _, [], hW', trodAll_mk1 (shut_bool Try.underlying4 _), (trodAll_cons_mk (Below.trod pf_laidOut (by kernel_rfl) (of_decide_eq_true (by kernel_rfl)) k0 bel lt0) trodAll_mk0), rfl, bel.frame _, fun h => by cases h⟩

theorem fnExactDarkRows_named : Try.pinned.checked.prog.funcNamed Rows.fnExactDarkRowsRow.func = some 8 := by kernel_rfl
theorem fnExactDarkRows_facts4 : ((Rows.fnExactDarkRowsRow.inPlace == Try.prog.inPlace 8) && (Rows.fnExactDarkRowsRow.unfollowed == Try.prog.unfollowed 8) && (Rows.fnExactDarkRowsRow.recurses == Try.prog.recurses 8) && (Rows.fnExactDarkRowsRow.named == Try.prog.varsNamed 8)) = true := by kernel_rfl
theorem fnExactDarkRows_facts : joinedFacts Try.prog 8 Try.f8 Rows.fnExactDarkRowsSpec Rows.fnExactDarkRowsRow = true := by
  have h4 := fnExactDarkRows_facts4
  simp only [Bool.and_eq_true] at h4
  unfold joinedFacts
  simp only [Bool.and_eq_true]
  exact ⟨⟨⟨⟨⟨⟨⟨⟨⟨⟨⟨⟨⟨⟨⟨⟨⟨⟨⟨⟨⟨⟨⟨⟨⟨⟨⟨⟨⟨⟨⟨(by kernel_rfl), pf_laidOut⟩, pf_maps⟩, (by kernel_rfl)⟩, (by kernel_rfl)⟩, (by kernel_rfl)⟩, pf_stops⟩, (by kernel_rfl)⟩, pf_knobs⟩, h4.1.1.1⟩, h4.1.1.2⟩, h4.1.2⟩, h4.2⟩, (by kernel_rfl)⟩, (by kernel_rfl)⟩, (by kernel_rfl)⟩, (by kernel_rfl)⟩, (by kernel_rfl)⟩, (by kernel_rfl)⟩, (by kernel_rfl)⟩, (by kernel_rfl)⟩, (by kernel_rfl)⟩, pf_plainKeys⟩, (by kernel_rfl)⟩, pf_heard⟩, pf_enter⟩, pf_lifted⟩, pf_make⟩, (by kernel_rfl)⟩, (by kernel_rfl)⟩, (by kernel_rfl)⟩, (by kernel_rfl)⟩
theorem fnExactDarkRows_instance : Try.f8.isInstance Try.pinned.checked.prog Rows.fnExactDarkRowsRow.origin Rows.fnExactDarkRowsRow.targs := of_decide_eq_true (by kernel_rfl)
theorem fnExactDarkRows_wrapper : Try.f8.isWrapper Try.pinned.checked.prog Rows.fnExactDarkRowsRow.wrapper Rows.fnExactDarkRowsRow.mainSum := by
  unfold Func.isWrapper; rw [if_neg (of_decide_eq_false (by kernel_rfl))]; exact ⟨rfl, rfl⟩

theorem fnExactDarkRows_over : Rows.fnExactDarkRowsRow.holds Try.pinned (OpenSpec.ofChange Rows.fnExactDarkRowsSpec) :=
  OpenClaim.holds_of_wide 8 Try.f8 rfl rfl rfl rfl rfl rfl rfl ⟨rfl, rfl, rfl, rfl, rfl⟩ rfl rfl rfl rfl rfl fnExactDarkRows_named Try.func8 fnExactDarkRows_facts
    fnExactDarkRows_instance fnExactDarkRows_wrapper
    (fun os started H enc _ => fnExactDarkRows_lifted os started H enc)

/-- The statement. -/
theorem fnExactDarkRows_proved : Rows.FnExactDarkRowsSaid := fnExactDarkRows_over
#print axioms fnExactDarkRows_proved
end Go.Proofs.Ytcbijfbeapeliaa
