/- FnExactLinesOf holds for every input: the statement as it is given, with no condition of ours. -/
import Derived.Test.YtikmmeohmkjbeaaFacts
import Derived.Test.YtikmmeohmkjbeaaLinesOf
import Derived.Test.YtikmmeohmkjbeaaOpen
import Derived.Test.YtikmmeohmkjbeaaOpenInts
import Derived.ProofKit
import Derived.OpenShut
import Derived.ShutString
import Derived.ChangeOld
import Derived.Below
namespace Go.Proofs.Ytikmmeohmkjbeaa
open Go.ChangeShapes Go.WideShapes Go.ChangeAt Go.RowKit
open Go.ChangeMaps (open_string shut_string)

set_option maxRecDepth 100000 in
theorem fnExactLinesOf_lifted (os : Os) (started : os.Started) (H : Type) (enc : TypeId × Value → H) :
    ReturnsInHanded {} Try.checked os 6 .any (Rows.fnExactLinesOfSpec.pre6 enc Try.prog Try.f6 Rows.fnExactLinesOfRow.domain false) (Rows.fnExactLinesOfSpec.post enc Try.prog Try.f6 false true false false) := by
  refine returnsInHanded_of_change (C := Try.checked) pf_own started (by kernel_rfl) Try.func6
    (ChangeSpec.witness6 (enc := enc) (C := Try.checked) false ⟨#[], #[.string ⟨#[]⟩, .slice none 0 0], []⟩ 8 (by kernel_rfl) (by kernel_rfl) (by kernel_rfl) (by kernel_rfl)) ?_
  intro W base args ds gs before hval0 hW hcnd _
  have hval : ∀ (j : Nat) t v, Try.f6.params[j]? = some t → args[j]? = some v → Value.okWide Try.prog W .any base t v := hval0
  have hW' := hW
  obtain ⟨p, q, hA0, hV, rfl, hfz, hnd⟩ := hW
  have hA : DataW.TrodAll enc Try.prog W 0 (fun _ => true) true Try.f6.params.toList args.toList ds p := hA0
  rw [Try.params6] at hA hval
  obtain ⟨v0, vs0, d0, ds0, p0, q0, hargs, rfl, rfl, h0, r0⟩ := trodAll_cons hA
  obtain ⟨v1, vs1, d1, ds1, p1, q1, rfl, rfl, rfl, h1, r1⟩ := trodAll_cons r0
  obtain ⟨rfl, rfl, rfl⟩ := trodAll_nil r1
  obtain rfl : args = #[v0, v1] := by cases args; simp_all
  obtain ⟨rfl, rfl⟩ := trodVars_none hV
  have k0 := h0
  have lt0 : ∀ x ∈ p0, x.block < W.heap.size := by obtain ⟨m, hm⟩ := k0; exact DataW.trod_lt m _ _ _ hm
  have k1 := h1
  have lt1 : ∀ x ∈ p1, x.block < W.heap.size := by obtain ⟨m, hm⟩ := k1; exact DataW.trod_lt m _ _ _ hm
  obtain ⟨a0, rfl, _, _, w0⟩ := open_string Try.underlying9 (hval 0 9 v0 rfl rfl) h0
  obtain ⟨A1, xs1, cap1, rfl, hn1, hF1⟩ := open_i64s (hval 1 27 v1 rfl rfl) h1
  clear hA0 hval0
  refine (lawLinesOf_any a0 w0 A1 xs1 cap1 hn1 W hF1).mono fun e W' ⟨he, bel⟩ => ?_
  subst he
  exact ⟨_, rfl, _, _, _, [], _, [], hW', trodAll_mk1 (shut_bool Try.underlying4 _), (trodAll_cons_mk (Below.trod pf_laidOut (by kernel_rfl) (of_decide_eq_true (by kernel_rfl)) k0 bel lt0) (trodAll_cons_mk (Below.trod pf_laidOut (by kernel_rfl) (of_decide_eq_true (by kernel_rfl)) k1 bel lt1) trodAll_mk0)), rfl, bel.frame _, fun h => by cases h⟩

theorem fnExactLinesOf_named : Try.pinned.checked.prog.funcNamed Rows.fnExactLinesOfRow.func = some 6 := by kernel_rfl
theorem fnExactLinesOf_facts4 : ((Rows.fnExactLinesOfRow.inPlace == Try.prog.inPlace 6) && (Rows.fnExactLinesOfRow.unfollowed == Try.prog.unfollowed 6) && (Rows.fnExactLinesOfRow.recurses == Try.prog.recurses 6) && (Rows.fnExactLinesOfRow.named == Try.prog.varsNamed 6)) = true := by kernel_rfl
theorem fnExactLinesOf_facts : joinedFacts Try.prog 6 Try.f6 Rows.fnExactLinesOfSpec Rows.fnExactLinesOfRow = true := by
  have h4 := fnExactLinesOf_facts4
  simp only [Bool.and_eq_true] at h4
  unfold joinedFacts
  simp only [Bool.and_eq_true]
  exact ⟨⟨⟨⟨⟨⟨⟨⟨⟨⟨⟨⟨⟨⟨⟨⟨⟨⟨⟨⟨⟨⟨⟨⟨⟨⟨⟨⟨⟨⟨⟨(by kernel_rfl), pf_laidOut⟩, pf_maps⟩, (by kernel_rfl)⟩, (by kernel_rfl)⟩, (by kernel_rfl)⟩, pf_stops⟩, (by kernel_rfl)⟩, pf_knobs⟩, h4.1.1.1⟩, h4.1.1.2⟩, h4.1.2⟩, h4.2⟩, (by kernel_rfl)⟩, (by kernel_rfl)⟩, (by kernel_rfl)⟩, (by kernel_rfl)⟩, (by kernel_rfl)⟩, (by kernel_rfl)⟩, (by kernel_rfl)⟩, (by kernel_rfl)⟩, (by kernel_rfl)⟩, pf_plainKeys⟩, (by kernel_rfl)⟩, pf_heard⟩, pf_enter⟩, pf_lifted⟩, pf_make⟩, (by kernel_rfl)⟩, (by kernel_rfl)⟩, (by kernel_rfl)⟩, (by kernel_rfl)⟩
theorem fnExactLinesOf_instance : Try.f6.isInstance Try.pinned.checked.prog Rows.fnExactLinesOfRow.origin Rows.fnExactLinesOfRow.targs := of_decide_eq_true (by kernel_rfl)
theorem fnExactLinesOf_wrapper : Try.f6.isWrapper Try.pinned.checked.prog Rows.fnExactLinesOfRow.wrapper Rows.fnExactLinesOfRow.mainSum := by
  unfold Func.isWrapper; rw [if_neg (of_decide_eq_false (by kernel_rfl))]; exact ⟨rfl, rfl⟩

theorem fnExactLinesOf_over : Rows.fnExactLinesOfRow.holds Try.pinned (OpenSpec.ofChange Rows.fnExactLinesOfSpec) :=
  OpenClaim.holds_of_wide 6 Try.f6 rfl rfl rfl rfl rfl rfl rfl ⟨rfl, rfl, rfl, rfl, rfl⟩ rfl rfl rfl rfl rfl fnExactLinesOf_named Try.func6 fnExactLinesOf_facts
    fnExactLinesOf_instance fnExactLinesOf_wrapper
    (fun os started H enc _ => fnExactLinesOf_lifted os started H enc)

/-- The statement. -/
theorem fnExactLinesOf_proved : Rows.FnExactLinesOfSaid := fnExactLinesOf_over
#print axioms fnExactLinesOf_proved
end Go.Proofs.Ytikmmeohmkjbeaa
