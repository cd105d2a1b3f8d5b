/- FnExactReadRubbing holds for every input: the statement as it is given, with no condition of ours. -/
import Derived.Test.YtjmkbdghenjlaaaFacts
import Derived.Test.YtjmkbdghenjlaaaReadRubbing
import Derived.Test.YtjmkbdghenjlaaaOpen
import Derived.ProofKit
import Derived.OpenShut
import Derived.ShutString
import Derived.ChangeOld
import Derived.Below
namespace Go.Proofs.Ytjmkbdghenjlaaa
open Go.ChangeShapes Go.WideShapes Go.ChangeAt Go.RowKit
open Go.ChangeMaps (open_string shut_string)

set_option maxRecDepth 100000 in
theorem fnExactReadRubbing_lifted (os : Os) (started : os.Started) (H : Type) (enc : TypeId × Value → H) :
    ReturnsInHanded {} Try.checked os 5 .any (Rows.fnExactReadRubbingSpec.pre6 enc Try.prog Try.f5 Rows.fnExactReadRubbingRow.domain false) (Rows.fnExactReadRubbingSpec.post enc Try.prog Try.f5 false true false false) := by
  refine returnsInHanded_of_change (C := Try.checked) pf_own started (by kernel_rfl) Try.func5
    (ChangeSpec.witness6 (enc := enc) (C := Try.checked) false ⟨#[], #[.string ⟨#[]⟩], []⟩ 8 (by kernel_rfl) (by kernel_rfl) (by kernel_rfl) (by kernel_rfl)) ?_
  intro W base args ds gs before hval0 hW hcnd _
  have hval : ∀ (j : Nat) t v, Try.f5.params[j]? = some t → args[j]? = some v → Value.okWide Try.prog W .any base t v := hval0
  have hW' := hW
  obtain ⟨p, q, hA0, hV, rfl, hfz, hnd⟩ := hW
  have hA : DataW.TrodAll enc Try.prog W 0 (fun _ => true) true Try.f5.params.toList args.toList ds p := hA0
  rw [Try.params5] at hA hval
  obtain ⟨v0, vs0, d0, ds0, p0, q0, hargs, rfl, rfl, h0, r0⟩ := trodAll_cons hA
  obtain ⟨rfl, rfl, rfl⟩ := trodAll_nil r0
  obtain rfl : args = #[v0] := by cases args; simp_all
  obtain ⟨rfl, rfl⟩ := trodVars_none hV
  have k0 := h0
  have lt0 : ∀ x ∈ p0, x.block < W.heap.size := by obtain ⟨m, hm⟩ := k0; exact DataW.trod_lt m _ _ _ hm
  obtain ⟨a0, rfl, _, _, w0⟩ := open_string Try.underlying9 (hval 0 9 v0 rfl rfl) h0
  clear hA0 hval0
  refine (lawReadRubbing_any a0 w0 W).mono fun e W' ⟨he, bel⟩ => ?_
  subst he
  exact ⟨_, rfl, _, _, _, [], _, [], hW', trodAll_mk1 (shut_bool Try.underlying4 _), (trodAll_cons_mk (Below.trod pf_laidOut (by kernel_rfl) (of_decide_eq_true (by kernel_rfl)) k0 bel lt0) trodAll_mk0), rfl, bel.frame _, fun h => by cases h⟩

theorem fnExactReadRubbing_named : Try.pinned.checked.prog.funcNamed Rows.fnExactReadRubbingRow.func = some 5 := by kernel_rfl
theorem fnExactReadRubbing_facts4 : ((Rows.fnExactReadRubbingRow.inPlace == Try.prog.inPlace 5) && (Rows.fnExactReadRubbingRow.unfollowed == Try.prog.unfollowed 5) && (Rows.fnExactReadRubbingRow.recurses == Try.prog.recurses 5) && (Rows.fnExactReadRubbingRow.named == Try.prog.varsNamed 5)) = true := by kernel_rfl
theorem fnExactReadRubbing_facts : joinedFacts Try.prog 5 Try.f5 Rows.fnExactReadRubbingSpec Rows.fnExactReadRubbingRow = true := by
  have h4 := fnExactReadRubbing_facts4
  simp only [Bool.and_eq_true] at h4
  unfold joinedFacts
  simp only [Bool.and_eq_true]
  exact ⟨⟨⟨⟨⟨⟨⟨⟨⟨⟨⟨⟨⟨⟨⟨⟨⟨⟨⟨⟨⟨⟨⟨⟨⟨⟨⟨⟨⟨⟨⟨(by kernel_rfl), pf_laidOut⟩, pf_maps⟩, (by kernel_rfl)⟩, (by kernel_rfl)⟩, (by kernel_rfl)⟩, pf_stops⟩, (by kernel_rfl)⟩, pf_knobs⟩, h4.1.1.1⟩, h4.1.1.2⟩, h4.1.2⟩, h4.2⟩, (by kernel_rfl)⟩, (by kernel_rfl)⟩, (by kernel_rfl)⟩, (by kernel_rfl)⟩, (by kernel_rfl)⟩, (by kernel_rfl)⟩, (by kernel_rfl)⟩, (by kernel_rfl)⟩, (by kernel_rfl)⟩, pf_plainKeys⟩, (by kernel_rfl)⟩, pf_heard⟩, pf_enter⟩, pf_lifted⟩, pf_make⟩, (by kernel_rfl)⟩, (by kernel_rfl)⟩, (by kernel_rfl)⟩, (by kernel_rfl)⟩
theorem fnExactReadRubbing_instance : Try.f5.isInstance Try.pinned.checked.prog Rows.fnExactReadRubbingRow.origin Rows.fnExactReadRubbingRow.targs := of_decide_eq_true (by kernel_rfl)
theorem fnExactReadRubbing_wrapper : Try.f5.isWrapper Try.pinned.checked.prog Rows.fnExactReadRubbingRow.wrapper Rows.fnExactReadRubbingRow.mainSum := by
  unfold Func.isWrapper; rw [if_neg (of_decide_eq_false (by kernel_rfl))]; exact ⟨rfl, rfl⟩

theorem fnExactReadRubbing_over : Rows.fnExactReadRubbingRow.holds Try.pinned (OpenSpec.ofChange Rows.fnExactReadRubbingSpec) :=
  OpenClaim.holds_of_wide 5 Try.f5 rfl rfl rfl rfl rfl rfl rfl ⟨rfl, rfl, rfl, rfl, rfl⟩ rfl rfl rfl rfl rfl fnExactReadRubbing_named Try.func5 fnExactReadRubbing_facts
    fnExactReadRubbing_instance fnExactReadRubbing_wrapper
    (fun os started H enc _ => fnExactReadRubbing_lifted os started H enc)

/-- The statement. -/
theorem fnExactReadRubbing_proved : Rows.FnExactReadRubbingSaid := fnExactReadRubbing_over
#print axioms fnExactReadRubbing_proved
end Go.Proofs.Ytjmkbdghenjlaaa
