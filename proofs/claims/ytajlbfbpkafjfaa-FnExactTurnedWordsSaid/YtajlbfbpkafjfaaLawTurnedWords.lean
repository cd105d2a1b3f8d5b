/- FnExactTurnedWords holds for every input: the statement as it is given, with no condition of ours. -/
import Derived.Test.YtajlbfbpkafjfaaFacts
import Derived.Test.YtajlbfbpkafjfaaTurnedWords
import Derived.Test.YtajlbfbpkafjfaaOpenStrs
import Derived.ProofKit
import Derived.OpenShut
import Derived.ShutString
import Derived.ChangeOld
import Derived.Below
namespace Go.Proofs.Ytajlbfbpkafjfaa
open Go.ChangeShapes Go.WideShapes Go.ChangeAt Go.RowKit
open Go.ChangeMaps (open_string shut_string)

set_option maxRecDepth 100000 in
theorem fnExactTurnedWords_lifted (os : Os) (started : os.Started) (H : Type) (enc : TypeId × Value → H) :
    ReturnsInHanded {} Try.checked os 13 .any (Rows.fnExactTurnedWordsSpec.pre6 enc Try.prog Try.f13 Rows.fnExactTurnedWordsRow.domain false) (Rows.fnExactTurnedWordsSpec.post enc Try.prog Try.f13 false true false false) := by
  refine returnsInHanded_of_change (C := Try.checked) pf_own started (by kernel_rfl) Try.func13
    (ChangeSpec.witness6 (enc := enc) (C := Try.checked) false ⟨#[], #[.slice none 0 0], []⟩ 8 (by kernel_rfl) (by kernel_rfl) (by kernel_rfl) (by kernel_rfl)) ?_
  intro W base args ds gs before hval0 hW hcnd _
  have hval : ∀ (j : Nat) t v, Try.f13.params[j]? = some t → args[j]? = some v → Value.okWide Try.prog W .any base t v := hval0
  have hW' := hW
  obtain ⟨p, q, hA0, hV, rfl, hfz, hnd⟩ := hW
  have hA : DataW.TrodAll enc Try.prog W 0 (fun _ => true) true Try.f13.params.toList args.toList ds p := hA0
  rw [Try.params13] at hA hval
  obtain ⟨v0, vs0, d0, ds0, p0, q0, hargs, rfl, rfl, h0, r0⟩ := trodAll_cons hA
  obtain ⟨rfl, rfl, rfl⟩ := trodAll_nil r0
  obtain rfl : args = #[v0] := by cases args; simp_all
  obtain ⟨rfl, rfl⟩ := trodVars_none hV
  have k0 := h0
  have lt0 : ∀ x ∈ p0, x.block < W.heap.size := by obtain ⟨m, hm⟩ := k0; exact DataW.trod_lt m _ _ _ hm
  obtain ⟨A0, xs0, cap0, rfl, hn0, hx0, hF0⟩ := open_strs (hval 0 22 v0 rfl rfl) h0
  clear hA0 hval0
  refine (lawTurnedWords_any A0 xs0 cap0 hn0 hx0 W hF0).mono fun e W' ⟨he, bel⟩ => ?_
  subst he
  exact ⟨_, rfl, _, _, _, [], _, [], hW', trodAll_mk1 (shut_bool Try.underlying4 _), (trodAll_cons_mk (Below.trod pf_laidOut (by kernel_rfl) (of_decide_eq_true (by kernel_rfl)) k0 bel lt0) trodAll_mk0), rfl, bel.frame _, fun h => by cases h⟩

theorem fnExactTurnedWords_named : Try.pinned.checked.prog.funcNamed Rows.fnExactTurnedWordsRow.func = some 13 := by kernel_rfl
theorem fnExactTurnedWords_facts4 : ((Rows.fnExactTurnedWordsRow.inPlace == Try.prog.inPlace 13) && (Rows.fnExactTurnedWordsRow.unfollowed == Try.prog.unfollowed 13) && (Rows.fnExactTurnedWordsRow.recurses == Try.prog.recurses 13) && (Rows.fnExactTurnedWordsRow.named == Try.prog.varsNamed 13)) = true := by kernel_rfl
theorem fnExactTurnedWords_facts : joinedFacts Try.prog 13 Try.f13 Rows.fnExactTurnedWordsSpec Rows.fnExactTurnedWordsRow = true := by
  have h4 := fnExactTurnedWords_facts4
  simp only [Bool.and_eq_true] at h4
  unfold joinedFacts
  simp only [Bool.and_eq_true]
  exact ⟨⟨⟨⟨⟨⟨⟨⟨⟨⟨⟨⟨⟨⟨⟨⟨⟨⟨⟨⟨⟨⟨⟨⟨⟨⟨⟨⟨⟨⟨⟨(by kernel_rfl), pf_laidOut⟩, pf_maps⟩, (by kernel_rfl)⟩, (by kernel_rfl)⟩, (by kernel_rfl)⟩, pf_stops⟩, (by kernel_rfl)⟩, pf_knobs⟩, h4.1.1.1⟩, h4.1.1.2⟩, h4.1.2⟩, h4.2⟩, (by kernel_rfl)⟩, (by kernel_rfl)⟩, (by kernel_rfl)⟩, (by kernel_rfl)⟩, (by kernel_rfl)⟩, (by kernel_rfl)⟩, (by kernel_rfl)⟩, (by kernel_rfl)⟩, (by kernel_rfl)⟩, pf_plainKeys⟩, (by kernel_rfl)⟩, pf_heard⟩, pf_enter⟩, pf_lifted⟩, pf_make⟩, (by kernel_rfl)⟩, (by kernel_rfl)⟩, (by kernel_rfl)⟩, (by kernel_rfl)⟩
theorem fnExactTurnedWords_instance : Try.f13.isInstance Try.pinned.checked.prog Rows.fnExactTurnedWordsRow.origin Rows.fnExactTurnedWordsRow.targs := of_decide_eq_true (by kernel_rfl)
theorem fnExactTurnedWords_wrapper : Try.f13.isWrapper Try.pinned.checked.prog Rows.fnExactTurnedWordsRow.wrapper Rows.fnExactTurnedWordsRow.mainSum := by
  unfold Func.isWrapper; rw [if_neg (of_decide_eq_false (by kernel_rfl))]; exact ⟨rfl, rfl⟩

theorem fnExactTurnedWords_over : Rows.fnExactTurnedWordsRow.holds Try.pinned (OpenSpec.ofChange Rows.fnExactTurnedWordsSpec) :=
  OpenClaim.holds_of_wide 13 Try.f13 rfl rfl rfl rfl rfl rfl rfl ⟨rfl, rfl, rfl, rfl, rfl⟩ rfl rfl rfl rfl rfl fnExactTurnedWords_named Try.func13 fnExactTurnedWords_facts
    fnExactTurnedWords_instance fnExactTurnedWords_wrapper
    (fun os started H enc _ => fnExactTurnedWords_lifted os started H enc)

/-- The statement. -/
theorem fnExactTurnedWords_proved : Rows.FnExactTurnedWordsSaid := fnExactTurnedWords_over
#print axioms fnExactTurnedWords_proved
end Go.Proofs.Ytajlbfbpkafjfaa
