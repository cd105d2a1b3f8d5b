/- FnExactJoinsOf holds for every input: the statement as it is given, with no condition of ours. -/
import Derived.Test.YtajlbfbpkafjfaaFacts
import Derived.Test.YtajlbfbpkafjfaaJoinsOf
import Derived.Test.YtajlbfbpkafjfaaOpen
import Derived.Test.YtajlbfbpkafjfaaOpenPieces
import Derived.ProofKit
import Derived.OpenShut
import Derived.ShutString
import Derived.ChangeOld
import Derived.Below
namespace Go.Proofs.Ytajlbfbpkafjfaa
open Go.ChangeShapes Go.WideShapes Go.ChangeAt Go.RowKit
open Go.ChangeMaps (open_string shut_string)

set_option maxRecDepth 100000 in
theorem fnExactJoinsOf_lifted (os : Os) (started : os.Started) (H : Type) (enc : TypeId × Value → H) :
    ReturnsInHanded {} Try.checked os 15 .any (Rows.fnExactJoinsOfSpec.pre6 enc Try.prog Try.f15 Rows.fnExactJoinsOfRow.domain false) (Rows.fnExactJoinsOfSpec.post enc Try.prog Try.f15 false true false false) := by
  refine returnsInHanded_of_change (C := Try.checked) pf_own started (by kernel_rfl) Try.func15
    (ChangeSpec.witness6 (enc := enc) (C := Try.checked) false ⟨#[], #[.slice none 0 0], []⟩ 8 (by kernel_rfl) (by kernel_rfl) (by kernel_rfl) (by kernel_rfl)) ?_
  intro W base args ds gs before hval0 hW hcnd _
  have hval : ∀ (j : Nat) t v, Try.f15.params[j]? = some t → args[j]? = some v → Value.okWide Try.prog W .any base t v := hval0
  have hW' := hW
  obtain ⟨p, q, hA0, hV, rfl, hfz, hnd⟩ := hW
  have hA : DataW.TrodAll enc Try.prog W 0 (fun _ => true) true Try.f15.params.toList args.toList ds p := hA0
  rw [Try.params15] at hA hval
  obtain ⟨v0, vs0, d0, ds0, p0, q0, hargs, rfl, rfl, h0, r0⟩ := trodAll_cons hA
  obtain ⟨rfl, rfl, rfl⟩ := trodAll_nil r0
  obtain rfl : args = #[v0] := by cases args; simp_all
  obtain ⟨rfl, rfl⟩ := trodVars_none hV
  have k0 := h0
  have lt0 : ∀ x ∈ p0, x.block < W.heap.size := by obtain ⟨m, hm⟩ := k0; exact DataW.trod_lt m _ _ _ hm
  obtain ⟨A0, xs0, cap0, rfl, hn0, hx0, hF0⟩ := open_pieces (hval 0 66 v0 rfl rfl) h0
  clear hA0 hval0
  refine (lawJoinsOf_any A0 xs0 cap0 hn0 hx0 W hF0).mono fun e W' ⟨he, bel⟩ => ?_
  subst he
  exact ⟨_, rfl, _, _, _, [], _, [], hW', trodAll_mk1 (shut_bool Try.underlying4 _), (trodAll_cons_mk (Below.trod pf_laidOut (by kernel_rfl) (of_decide_eq_true (by kernel_rfl)) k0 bel lt0) trodAll_mk0), rfl, bel.frame _, fun h => by cases h⟩

theorem fnExactJoinsOf_named : Try.pinned.checked.prog.funcNamed Rows.fnExactJoinsOfRow.func = some 15 := by kernel_rfl
theorem fnExactJoinsOf_facts4 : ((Rows.fnExactJoinsOfRow.inPlace == Try.prog.inPlace 15) && (Rows.fnExactJoinsOfRow.unfollowed == Try.prog.unfollowed 15) && (Rows.fnExactJoinsOfRow.recurses == Try.prog.recurses 15) && (Rows.fnExactJoinsOfRow.named == Try.prog.varsNamed 15)) = true := by kernel_rfl
theorem fnExactJoinsOf_facts : joinedFacts Try.prog 15 Try.f15 Rows.fnExactJoinsOfSpec Rows.fnExactJoinsOfRow = true := by
  have h4 := fnExactJoinsOf_facts4
  simp only [Bool.and_eq_true] at h4
  unfold joinedFacts
  simp only [Bool.and_eq_true]
  exact ⟨⟨⟨⟨⟨⟨⟨⟨⟨⟨⟨⟨⟨⟨⟨⟨⟨⟨⟨⟨⟨⟨⟨⟨⟨⟨⟨⟨⟨⟨⟨(by kernel_rfl), pf_laidOut⟩, pf_maps⟩, (by kernel_rfl)⟩, (by kernel_rfl)⟩, (by kernel_rfl)⟩, pf_stops⟩, (by kernel_rfl)⟩, pf_knobs⟩, h4.1.1.1⟩, h4.1.1.2⟩, h4.1.2⟩, h4.2⟩, (by kernel_rfl)⟩, (by kernel_rfl)⟩, (by kernel_rfl)⟩, (by kernel_rfl)⟩, (by kernel_rfl)⟩, (by kernel_rfl)⟩, (by kernel_rfl)⟩, (by kernel_rfl)⟩, (by kernel_rfl)⟩, pf_plainKeys⟩, (by kernel_rfl)⟩, pf_heard⟩, pf_enter⟩, pf_lifted⟩, pf_make⟩, (by kernel_rfl)⟩, (by kernel_rfl)⟩, (by kernel_rfl)⟩, (by kernel_rfl)⟩
theorem fnExactJoinsOf_instance : Try.f15.isInstance Try.pinned.checked.prog Rows.fnExactJoinsOfRow.origin Rows.fnExactJoinsOfRow.targs := of_decide_eq_true (by kernel_rfl)
theorem fnExactJoinsOf_wrapper : Try.f15.isWrapper Try.pinned.checked.prog Rows.fnExactJoinsOfRow.wrapper Rows.fnExactJoinsOfRow.mainSum := by
  unfold Func.isWrapper; rw [if_neg (of_decide_eq_false (by kernel_rfl))]; exact ⟨rfl, rfl⟩

theorem fnExactJoinsOf_over : Rows.fnExactJoinsOfRow.holds Try.pinned (OpenSpec.ofChange Rows.fnExactJoinsOfSpec) :=
  OpenClaim.holds_of_wide 15 Try.f15 rfl rfl rfl rfl rfl rfl rfl ⟨rfl, rfl, rfl, rfl, rfl⟩ rfl rfl rfl rfl rfl fnExactJoinsOf_named Try.func15 fnExactJoinsOf_facts
    fnExactJoinsOf_instance fnExactJoinsOf_wrapper
    (fun os started H enc _ => fnExactJoinsOf_lifted os started H enc)

/-- The statement. -/
theorem fnExactJoinsOf_proved : Rows.FnExactJoinsOfSaid := fnExactJoinsOf_over
#print axioms fnExactJoinsOf_proved
end Go.Proofs.Ytajlbfbpkafjfaa
