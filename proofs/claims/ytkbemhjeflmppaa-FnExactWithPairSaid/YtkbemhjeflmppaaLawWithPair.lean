/- FnExactWithPair holds for every input: the statement as it is given, with no condition of ours. -/
import Derived.Test.YtkbemhjeflmppaaFacts
import Derived.Test.YtkbemhjeflmppaaWithPair
import Derived.Test.YtkbemhjeflmppaaOpen
import Derived.ProofKit
import Derived.Test.YtkbemhjeflmppaaLeave
import Derived.OpenShut
import Derived.ShutString
import Derived.ChangeOld
import Derived.Below
namespace Go.Proofs.Ytkbemhjeflmppaa
open Go.ChangeShapes Go.WideShapes Go.ChangeAt Go.RowKit
open Go.ChangeMaps (open_string shut_string)

set_option maxRecDepth 100000 in
theorem fnExactWithPair_lifted (os : Os) (started : os.Started) (H : Type) (enc : TypeId × Value → H) :
    ReturnsInHanded {} Try.checked os 11 .any (Rows.fnExactWithPairSpec.pre6 enc Try.prog Try.f11 Rows.fnExactWithPairRow.domain false) (Rows.fnExactWithPairSpec.post enc Try.prog Try.f11 false true false false) := by
  refine returnsInHanded_of_change (C := Try.checked) pf_own started (by kernel_rfl) Try.func11
    (ChangeSpec.witness6 (enc := enc) (C := Try.checked) false ⟨#[], #[.agg #[.int .i8 0, .int .i8 0, .int .i8 0, .int .i8 0, .int .i8 0, .int .i8 0, .int .i8 0, .int .i8 0, .int .i8 0, .int .i8 0, .int .i8 0, .int .i8 0, .int .i8 0, .int .i8 0, .int .i8 0, .int .i8 0, .int .i8 0, .int .i8 0, .int .i8 0, .int .i8 0, .int .i8 0, .int .i8 0, .int .i8 0, .int .i8 0, .int .i8 0, .int .i8 0, .int .i8 0, .int .i8 0, .slice none 0 0], .agg #[.int .u8 0, .int .u8 0, .int .i8 0]], []⟩ 8 (by kernel_rfl) (by kernel_rfl) (by kernel_rfl) (by kernel_rfl)) ?_
  intro W base args ds gs before hval0 hW hcnd _
  have hval : ∀ (j : Nat) t v, Try.f11.params[j]? = some t → args[j]? = some v → Value.okWide Try.prog W .any base t v := hval0
  have hW' := hW
  obtain ⟨p, q, hA0, hV, rfl, hfz, hnd⟩ := hW
  have hA : DataW.TrodAll enc Try.prog W 0 (fun _ => true) true Try.f11.params.toList args.toList ds p := hA0
  rw [Try.params11] at hA hval
  obtain ⟨v0, vs0, d0, ds0, p0, q0, hargs, rfl, rfl, h0, r0⟩ := trodAll_cons hA
  obtain ⟨v1, vs1, d1, ds1, p1, q1, rfl, rfl, rfl, h1, r1⟩ := trodAll_cons r0
  obtain ⟨rfl, rfl, rfl⟩ := trodAll_nil r1
  obtain rfl : args = #[v0, v1] := by cases args; simp_all
  obtain ⟨rfl, rfl⟩ := trodVars_none hV
  have k0 := h0
  have lt0 : ∀ x ∈ p0, x.block < W.heap.size := by obtain ⟨m, hm⟩ := k0; exact DataW.trod_lt m _ _ _ hm
  have k1 := h1
  have lt1 : ∀ x ∈ p1, x.block < W.heap.size := by obtain ⟨m, hm⟩ := k1; exact DataW.trod_lt m _ _ _ hm
  obtain ⟨F0, A0, cap0, rfl, w0, hF0⟩ := open_face (hval 0 59 v0 rfl rfl) h0
  obtain ⟨x1, y1, z1, rfl, w1⟩ := open_pair (hval 1 61 v1 rfl rfl) h1
  clear hA0 hval0
  refine (lawWithPair_any F0 w0 A0 cap0 x1 y1 z1 w1 W hF0).mono fun e W' ⟨he, bel⟩ => ?_
  subst he
  exact ⟨_, rfl, _, _, _, [], _, [], hW', trodAll_mk1 (shut_bool Try.underlying4 _), (trodAll_cons_mk (Below.trod pf_laidOut (by kernel_rfl) (of_decide_eq_true (by kernel_rfl)) k0 bel lt0) (trodAll_cons_mk (Below.trod pf_laidOut (by kernel_rfl) (of_decide_eq_true (by kernel_rfl)) k1 bel lt1) trodAll_mk0)), rfl, bel.frame _, fun h => by cases h⟩

theorem fnExactWithPair_named : Try.pinned.checked.prog.funcNamed Rows.fnExactWithPairRow.func = some 11 := by kernel_rfl
theorem fnExactWithPair_facts4 : ((Rows.fnExactWithPairRow.inPlace == Try.prog.inPlace 11) && (Rows.fnExactWithPairRow.unfollowed == Try.prog.unfollowed 11) && (Rows.fnExactWithPairRow.recurses == Try.prog.recurses 11) && (Rows.fnExactWithPairRow.named == Try.prog.varsNamed 11)) = true := by kernel_rfl
theorem fnExactWithPair_facts : joinedFacts Try.prog 11 Try.f11 Rows.fnExactWithPairSpec Rows.fnExactWithPairRow = true := by
  have h4 := fnExactWithPair_facts4
  simp only [Bool.and_eq_true] at h4
  unfold joinedFacts
  simp only [Bool.and_eq_true]
  exact ⟨⟨⟨⟨⟨⟨⟨⟨⟨⟨⟨⟨⟨⟨⟨⟨⟨⟨⟨⟨⟨⟨⟨⟨⟨⟨⟨⟨⟨⟨⟨(by kernel_rfl), pf_laidOut⟩, pf_maps⟩, (by kernel_rfl)⟩, (by kernel_rfl)⟩, (by kernel_rfl)⟩, pf_stops⟩, (by kernel_rfl)⟩, pf_knobs⟩, h4.1.1.1⟩, h4.1.1.2⟩, h4.1.2⟩, h4.2⟩, (by kernel_rfl)⟩, (by kernel_rfl)⟩, (by kernel_rfl)⟩, (by kernel_rfl)⟩, (by kernel_rfl)⟩, (by kernel_rfl)⟩, (by kernel_rfl)⟩, (by kernel_rfl)⟩, (by kernel_rfl)⟩, pf_plainKeys⟩, (by kernel_rfl)⟩, pf_heard⟩, pf_enter⟩, pf_lifted⟩, pf_make⟩, (by kernel_rfl)⟩, (by kernel_rfl)⟩, (by kernel_rfl)⟩, (by kernel_rfl)⟩
theorem fnExactWithPair_instance : Try.f11.isInstance Try.pinned.checked.prog Rows.fnExactWithPairRow.origin Rows.fnExactWithPairRow.targs := of_decide_eq_true (by kernel_rfl)
theorem fnExactWithPair_wrapper : Try.f11.isWrapper Try.pinned.checked.prog Rows.fnExactWithPairRow.wrapper Rows.fnExactWithPairRow.mainSum := by
  unfold Func.isWrapper; rw [if_neg (of_decide_eq_false (by kernel_rfl))]; exact ⟨rfl, rfl⟩

theorem fnExactWithPair_over : Rows.fnExactWithPairRow.holds Try.pinned (OpenSpec.ofChange Rows.fnExactWithPairSpec) :=
  OpenClaim.holds_of_wide_leaving 11 Try.f11 rfl rfl rfl rfl rfl rfl rfl ⟨rfl, rfl, rfl, rfl, rfl⟩ rfl rfl rfl rfl rfl fnExactWithPair_named Try.func11 fnExactWithPair_facts
    fnExactWithPair_instance fnExactWithPair_wrapper
    (fun os started H enc _ => leaving_of_handed (fnExactWithPair_lifted os started H enc))

/-- The statement. -/
theorem fnExactWithPair_proved : Rows.FnExactWithPairSaid := fnExactWithPair_over
#print axioms fnExactWithPair_proved
end Go.Proofs.Ytkbemhjeflmppaa
