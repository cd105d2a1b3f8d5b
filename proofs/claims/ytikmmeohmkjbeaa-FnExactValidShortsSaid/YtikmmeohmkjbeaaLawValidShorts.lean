/- FnExactValidShorts holds for every input: the statement as it is given, with no condition of ours. -/
import Derived.Test.YtikmmeohmkjbeaaFacts
import Derived.Test.YtikmmeohmkjbeaaValidShorts
import Derived.Test.YtikmmeohmkjbeaaOpen
import Derived.Test.YtikmmeohmkjbeaaOpenShorts
import Derived.ProofKit
import Derived.OpenShut
import Derived.ShutString
import Derived.ChangeOld
import Derived.Below
namespace Go.Proofs.Ytikmmeohmkjbeaa
open Go.ChangeShapes Go.WideShapes Go.ChangeAt Go.RowKit
open Go.ChangeMaps (open_string shut_string)

set_option maxRecDepth 100000 in
theorem fnExactValidShorts_lifted (os : Os) (started : os.Started) (H : Type) (enc : TypeId × Value → H) :
    ReturnsInHanded {} Try.checked os 10 .any (Rows.fnExactValidShortsSpec.pre6 enc Try.prog Try.f10 Rows.fnExactValidShortsRow.domain false) (Rows.fnExactValidShortsSpec.post enc Try.prog Try.f10 false true false false) := by
  refine returnsInHanded_of_change (C := Try.checked) pf_own started (by kernel_rfl) Try.func10
    (ChangeSpec.witness6 (enc := enc) (C := Try.checked) false ⟨#[], #[.slice none 0 0], []⟩ 8 (by kernel_rfl) (by kernel_rfl) (by kernel_rfl) (by kernel_rfl)) ?_
  intro W base args ds gs before hval0 hW hcnd _
  have hval : ∀ (j : Nat) t v, Try.f10.params[j]? = some t → args[j]? = some v → Value.okWide Try.prog W .any base t v := hval0
  have hW' := hW
  obtain ⟨p, q, hA0, hV, rfl, hfz, hnd⟩ := hW
  have hA : DataW.TrodAll enc Try.prog W 0 (fun _ => true) true Try.f10.params.toList args.toList ds p := hA0
  rw [Try.params10] at hA hval
  obtain ⟨v0, vs0, d0, ds0, p0, q0, hargs, rfl, rfl, h0, r0⟩ := trodAll_cons hA
  obtain ⟨rfl, rfl, rfl⟩ := trodAll_nil r0
  obtain rfl : args = #[v0] := by cases args; simp_all
  obtain ⟨rfl, rfl⟩ := trodVars_none hV
  have k0 := h0
  have lt0 : ∀ x ∈ p0, x.block < W.heap.size := by obtain ⟨m, hm⟩ := k0; exact DataW.trod_lt m _ _ _ hm
  obtain ⟨A0, xs0, cap0, rfl, hn0, hx0, hF0⟩ := open_shorts (hval 0 55 v0 rfl rfl) h0
  clear hA0 hval0
  refine (lawValidShorts_any A0 xs0 cap0 hn0 hx0 W hF0).mono fun e W' ⟨he, bel⟩ => ?_
  subst he
  exact ⟨_, rfl, _, _, _, [], _, [], hW', trodAll_mk1 (shut_bool Try.underlying4 _), (trodAll_cons_mk (Below.trod pf_laidOut (by kernel_rfl) (of_decide_eq_true (by kernel_rfl)) k0 bel lt0) trodAll_mk0), rfl, bel.frame _, fun h => by cases h⟩

theorem fnExactValidShorts_named : Try.pinned.checked.prog.funcNamed Rows.fnExactValidShortsRow.func = some 10 := by kernel_rfl
theorem fnExactValidShorts_facts4 : ((Rows.fnExactValidShortsRow.inPlace == Try.prog.inPlace 10) && (Rows.fnExactValidShortsRow.unfollowed == Try.prog.unfollowed 10) && (Rows.fnExactValidShortsRow.recurses == Try.prog.recurses 10) && (Rows.fnExactValidShortsRow.named == Try.prog.varsNamed 10)) = true := by kernel_rfl
theorem fnExactValidShorts_facts : joinedFacts Try.prog 10 Try.f10 Rows.fnExactValidShortsSpec Rows.fnExactValidShortsRow = true := by
  have h4 := fnExactValidShorts_facts4
  simp only [Bool.and_eq_true] at h4
  unfold joinedFacts
  simp only [Bool.and_eq_true]
  exact ⟨⟨⟨⟨⟨⟨⟨⟨⟨⟨⟨⟨⟨⟨⟨⟨⟨⟨⟨⟨⟨⟨⟨⟨⟨⟨⟨⟨⟨⟨⟨(by kernel_rfl), pf_laidOut⟩, pf_maps⟩, (by kernel_rfl)⟩, (by kernel_rfl)⟩, (by kernel_rfl)⟩, pf_stops⟩, (by kernel_rfl)⟩, pf_knobs⟩, h4.1.1.1⟩, h4.1.1.2⟩, h4.1.2⟩, h4.2⟩, (by kernel_rfl)⟩, (by kernel_rfl)⟩, (by kernel_rfl)⟩, (by kernel_rfl)⟩, (by kernel_rfl)⟩, (by kernel_rfl)⟩, (by kernel_rfl)⟩, (by kernel_rfl)⟩, (by kernel_rfl)⟩, pf_plainKeys⟩, (by kernel_rfl)⟩, pf_heard⟩, pf_enter⟩, pf_lifted⟩, pf_make⟩, (by kernel_rfl)⟩, (by kernel_rfl)⟩, (by kernel_rfl)⟩, (by kernel_rfl)⟩
theorem fnExactValidShorts_instance : Try.f10.isInstance Try.pinned.checked.prog Rows.fnExactValidShortsRow.origin Rows.fnExactValidShortsRow.targs := of_decide_eq_true (by kernel_rfl)
theorem fnExactValidShorts_wrapper : Try.f10.isWrapper Try.pinned.checked.prog Rows.fnExactValidShortsRow.wrapper Rows.fnExactValidShortsRow.mainSum := by
  unfold Func.isWrapper; rw [if_neg (of_decide_eq_false (by kernel_rfl))]; exact ⟨rfl, rfl⟩

theorem fnExactValidShorts_over : Rows.fnExactValidShortsRow.holds Try.pinned (OpenSpec.ofChange Rows.fnExactValidShortsSpec) :=
  OpenClaim.holds_of_wide 10 Try.f10 rfl rfl rfl rfl rfl rfl rfl ⟨rfl, rfl, rfl, rfl, rfl⟩ rfl rfl rfl rfl rfl fnExactValidShorts_named Try.func10 fnExactValidShorts_facts
    fnExactValidShorts_instance fnExactValidShorts_wrapper
    (fun os started H enc _ => fnExactValidShorts_lifted os started H enc)

/-- The statement. -/
theorem fnExactValidShorts_proved : Rows.FnExactValidShortsSaid := fnExactValidShorts_over
#print axioms fnExactValidShorts_proved
end Go.Proofs.Ytikmmeohmkjbeaa
