/- FnExactValidChisel holds for every input: the statement as it is given, with no condition of ours. -/
import Derived.Test.YtkbemhjeflmppaaFacts
import Derived.Test.YtkbemhjeflmppaaValidChisel
import Derived.Test.YtkbemhjeflmppaaOpen
import Derived.Test.YtkbemhjeflmppaaOpenChi
import Derived.ProofKit
import Derived.OpenShut
import Derived.ShutString
import Derived.ChangeOld
import Derived.Below
namespace Go.Proofs.Ytkbemhjeflmppaa
open Go.ChangeShapes Go.WideShapes Go.ChangeAt Go.RowKit
open Go.ChangeMaps (open_string shut_string)

set_option maxRecDepth 100000 in
theorem fnExactValidChisel_lifted (os : Os) (started : os.Started) (H : Type) (enc : TypeId × Value → H) :
    ReturnsInHanded {} Try.checked os 4 .any (Rows.fnExactValidChiselSpec.pre6 enc Try.prog Try.f4 Rows.fnExactValidChiselRow.domain false) (Rows.fnExactValidChiselSpec.post enc Try.prog Try.f4 false true false false) := by
  refine returnsInHanded_of_change (C := Try.checked) pf_own started (by kernel_rfl) Try.func4
    (ChangeSpec.witness6 (enc := enc) (C := Try.checked) false ⟨#[], #[.agg #[.int .i16 0, .int .i8 0]], []⟩ 8 (by kernel_rfl) (by kernel_rfl) (by kernel_rfl) (by kernel_rfl)) ?_
  intro W base args ds gs before hval0 hW hcnd _
  have hval : ∀ (j : Nat) t v, Try.f4.params[j]? = some t → args[j]? = some v → Value.okWide Try.prog W .any base t v := hval0
  have hW' := hW
  obtain ⟨p, q, hA0, hV, rfl, hfz, hnd⟩ := hW
  have hA : DataW.TrodAll enc Try.prog W 0 (fun _ => true) true Try.f4.params.toList args.toList ds p := hA0
  rw [Try.params4] at hA hval
  obtain ⟨v0, vs0, d0, ds0, p0, q0, hargs, rfl, rfl, h0, r0⟩ := trodAll_cons hA
  obtain ⟨rfl, rfl, rfl⟩ := trodAll_nil r0
  obtain rfl : args = #[v0] := by cases args; simp_all
  obtain ⟨rfl, rfl⟩ := trodVars_none hV
  have k0 := h0
  have lt0 : ∀ x ∈ p0, x.block < W.heap.size := by obtain ⟨m, hm⟩ := k0; exact DataW.trod_lt m _ _ _ hm
  obtain ⟨c0, p0_, rfl, w0, wx0⟩ := open_chisel (hval 0 30 v0 rfl rfl) h0
  clear hA0 hval0
  refine (lawValidChisel_any c0 w0 p0_ wx0 W).mono fun e W' ⟨he, bel⟩ => ?_
  subst he
  exact ⟨_, rfl, _, _, _, [], _, [], hW', trodAll_mk1 (shut_bool Try.underlying4 _), (trodAll_cons_mk (Below.trod pf_laidOut (by kernel_rfl) (of_decide_eq_true (by kernel_rfl)) k0 bel lt0) trodAll_mk0), rfl, bel.frame _, fun h => by cases h⟩

theorem fnExactValidChisel_named : Try.pinned.checked.prog.funcNamed Rows.fnExactValidChiselRow.func = some 4 := by kernel_rfl
theorem fnExactValidChisel_facts4 : ((Rows.fnExactValidChiselRow.inPlace == Try.prog.inPlace 4) && (Rows.fnExactValidChiselRow.unfollowed == Try.prog.unfollowed 4) && (Rows.fnExactValidChiselRow.recurses == Try.prog.recurses 4) && (Rows.fnExactValidChiselRow.named == Try.prog.varsNamed 4)) = true := by kernel_rfl
theorem fnExactValidChisel_facts : joinedFacts Try.prog 4 Try.f4 Rows.fnExactValidChiselSpec Rows.fnExactValidChiselRow = true := by
  have h4 := fnExactValidChisel_facts4
  simp only [Bool.and_eq_true] at h4
  unfold joinedFacts
  simp only [Bool.and_eq_true]
  exact ⟨⟨⟨⟨⟨⟨⟨⟨⟨⟨⟨⟨⟨⟨⟨⟨⟨⟨⟨⟨⟨⟨⟨⟨⟨⟨⟨⟨⟨⟨⟨(by kernel_rfl), pf_laidOut⟩, pf_maps⟩, (by kernel_rfl)⟩, (by kernel_rfl)⟩, (by kernel_rfl)⟩, pf_stops⟩, (by kernel_rfl)⟩, pf_knobs⟩, h4.1.1.1⟩, h4.1.1.2⟩, h4.1.2⟩, h4.2⟩, (by kernel_rfl)⟩, (by kernel_rfl)⟩, (by kernel_rfl)⟩, (by kernel_rfl)⟩, (by kernel_rfl)⟩, (by kernel_rfl)⟩, (by kernel_rfl)⟩, (by kernel_rfl)⟩, (by kernel_rfl)⟩, pf_plainKeys⟩, (by kernel_rfl)⟩, pf_heard⟩, pf_enter⟩, pf_lifted⟩, pf_make⟩, (by kernel_rfl)⟩, (by kernel_rfl)⟩, (by kernel_rfl)⟩, (by kernel_rfl)⟩
theorem fnExactValidChisel_instance : Try.f4.isInstance Try.pinned.checked.prog Rows.fnExactValidChiselRow.origin Rows.fnExactValidChiselRow.targs := of_decide_eq_true (by kernel_rfl)
theorem fnExactValidChisel_wrapper : Try.f4.isWrapper Try.pinned.checked.prog Rows.fnExactValidChiselRow.wrapper Rows.fnExactValidChiselRow.mainSum := by
  unfold Func.isWrapper; rw [if_neg (of_decide_eq_false (by kernel_rfl))]; exact ⟨rfl, rfl⟩

theorem fnExactValidChisel_over : Rows.fnExactValidChiselRow.holds Try.pinned (OpenSpec.ofChange Rows.fnExactValidChiselSpec) :=
  OpenClaim.holds_of_wide 4 Try.f4 rfl rfl rfl rfl rfl rfl rfl ⟨rfl, rfl, rfl, rfl, rfl⟩ rfl rfl rfl rfl rfl fnExactValidChisel_named Try.func4 fnExactValidChisel_facts
    fnExactValidChisel_instance fnExactValidChisel_wrapper
    (fun os started H enc _ => fnExactValidChisel_lifted os started H enc)

/-- The statement. -/
theorem fnExactValidChisel_proved : Rows.FnExactValidChiselSaid := fnExactValidChisel_over
#print axioms fnExactValidChisel_proved
end Go.Proofs.Ytkbemhjeflmppaa
