/- FnExactShortenAt holds for every input: the statement as it is given, with no condition of ours. -/
import Derived.Test.YtikmmeohmkjbeaaFacts
import Derived.Test.YtikmmeohmkjbeaaShortenAt
import Derived.Test.YtikmmeohmkjbeaaOpen
import Derived.Test.YtikmmeohmkjbeaaOpenInts
import Derived.Test.YtikmmeohmkjbeaaOpenShorts
import Derived.ProofKit
import Derived.OpenShut
import Derived.ShutString
import Derived.ChangeOld
import Derived.Below
namespace Go.Proofs.Ytikmmeohmkjbeaa
open Go.ChangeShapes Go.WideShapes Go.ChangeAt Go.RowKit
open Go.ChangeMaps (open_string shut_string)

set_option maxRecDepth 100000 in
theorem fnExactShortenAt_lifted (os : Os) (started : os.Started) (H : Type) (enc : TypeId × Value → H) :
    ReturnsInHanded {} Try.checked os 11 .any (Rows.fnExactShortenAtSpec.pre6 enc Try.prog Try.f11 Rows.fnExactShortenAtRow.domain false) (Rows.fnExactShortenAtSpec.post enc Try.prog Try.f11 false true false false) := by
  refine returnsInHanded_of_change (C := Try.checked) pf_own started (by kernel_rfl) Try.func11
    (ChangeSpec.witness6 (enc := enc) (C := Try.checked) false ⟨#[], #[.string ⟨#[]⟩, .slice none 0 0, .slice none 0 0], []⟩ 8 (by kernel_rfl) (by kernel_rfl) (by kernel_rfl) (by kernel_rfl)) ?_
  intro W base args ds gs before hval0 hW hcnd _
  have hval : ∀ (j : Nat) t v, Try.f11.params[j]? = some t → args[j]? = some v → Value.okWide Try.prog W .any base t v := hval0
  have hW' := hW
  obtain ⟨p, q, hA0, hV, rfl, hfz, hnd⟩ := hW
  have hA : DataW.TrodAll enc Try.prog W 0 (fun _ => true) true Try.f11.params.toList args.toList ds p := hA0
  rw [Try.params11] at hA hval
  obtain ⟨v0, vs0, d0, ds0, p0, q0, hargs, rfl, rfl, h0, r0⟩ := trodAll_cons hA
  obtain ⟨v1, vs1, d1, ds1, p1, q1, rfl, rfl, rfl, h1, r1⟩ := trodAll_cons r0
  obtain ⟨v2, vs2, d2, ds2, p2, q2, rfl, rfl, rfl, h2, r2⟩ := trodAll_cons r1
  obtain ⟨rfl, rfl, rfl⟩ := trodAll_nil r2
  obtain rfl : args = #[v0, v1, v2] := by cases args; simp_all
  obtain ⟨rfl, rfl⟩ := trodVars_none hV
  have k0 := h0
  have lt0 : ∀ x ∈ p0, x.block < W.heap.size := by obtain ⟨m, hm⟩ := k0; exact DataW.trod_lt m _ _ _ hm
  have k1 := h1
  have lt1 : ∀ x ∈ p1, x.block < W.heap.size := by obtain ⟨m, hm⟩ := k1; exact DataW.trod_lt m _ _ _ hm
  have k2 := h2
  have lt2 : ∀ x ∈ p2, x.block < W.heap.size := by obtain ⟨m, hm⟩ := k2; exact DataW.trod_lt m _ _ _ hm
  obtain ⟨a0, rfl, _, _, w0⟩ := open_string Try.underlying9 (hval 0 9 v0 rfl rfl) h0
  obtain ⟨A1, xs1, cap1, rfl, hn1, hx1, hF1⟩ := open_shorts (hval 1 55 v1 rfl rfl) h1
  obtain ⟨A2, xs2, cap2, rfl, hn2, hF2⟩ := open_i64s (hval 2 27 v2 rfl rfl) h2
  clear hA0 hval0
  refine (lawShortenAt_any a0 w0 A1 xs1 cap1 hn1 hx1 A2 xs2 cap2 hn2 W hF1 hF2).mono fun e W' ⟨he, bel⟩ => ?_
  subst he
  exact ⟨_, rfl, _, _, _, [], _, [], hW', trodAll_mk1 (shut_bool Try.underlying4 _), (trodAll_cons_mk (Below.trod pf_laidOut (by kernel_rfl) (of_decide_eq_true (by kernel_rfl)) k0 bel lt0) (trodAll_cons_mk (Below.trod pf_laidOut (by kernel_rfl) (of_decide_eq_true (by kernel_rfl)) k1 bel lt1) (trodAll_cons_mk (Below.trod pf_laidOut (by kernel_rfl) (of_decide_eq_true (by kernel_rfl)) k2 bel lt2) trodAll_mk0))), rfl, bel.frame _, fun h => by cases h⟩

theorem fnExactShortenAt_named : Try.pinned.checked.prog.funcNamed Rows.fnExactShortenAtRow.func = some 11 := by kernel_rfl
theorem fnExactShortenAt_facts4 : ((Rows.fnExactShortenAtRow.inPlace == Try.prog.inPlace 11) && (Rows.fnExactShortenAtRow.unfollowed == Try.prog.unfollowed 11) && (Rows.fnExactShortenAtRow.recurses == Try.prog.recurses 11) && (Rows.fnExactShortenAtRow.named == Try.prog.varsNamed 11)) = true := by kernel_rfl
theorem fnExactShortenAt_facts : joinedFacts Try.prog 11 Try.f11 Rows.fnExactShortenAtSpec Rows.fnExactShortenAtRow = true := by
  have h4 := fnExactShortenAt_facts4
  simp only [Bool.and_eq_true] at h4
  unfold joinedFacts
  simp only [Bool.and_eq_true]
  exact ⟨⟨⟨⟨⟨⟨⟨⟨⟨⟨⟨⟨⟨⟨⟨⟨⟨⟨⟨⟨⟨⟨⟨⟨⟨⟨⟨⟨⟨⟨⟨(by kernel_rfl), pf_laidOut⟩, pf_maps⟩, (by kernel_rfl)⟩, (by kernel_rfl)⟩, (by kernel_rfl)⟩, pf_stops⟩, (by kernel_rfl)⟩, pf_knobs⟩, h4.1.1.1⟩, h4.1.1.2⟩, h4.1.2⟩, h4.2⟩, (by kernel_rfl)⟩, (by kernel_rfl)⟩, (by kernel_rfl)⟩, (by kernel_rfl)⟩, (by kernel_rfl)⟩, (by kernel_rfl)⟩, (by kernel_rfl)⟩, (by kernel_rfl)⟩, (by kernel_rfl)⟩, pf_plainKeys⟩, (by kernel_rfl)⟩, pf_heard⟩, pf_enter⟩, pf_lifted⟩, pf_make⟩, (by kernel_rfl)⟩, (by kernel_rfl)⟩, (by kernel_rfl)⟩, (by kernel_rfl)⟩
theorem fnExactShortenAt_instance : Try.f11.isInstance Try.pinned.checked.prog Rows.fnExactShortenAtRow.origin Rows.fnExactShortenAtRow.targs := of_decide_eq_true (by kernel_rfl)
theorem fnExactShortenAt_wrapper : Try.f11.isWrapper Try.pinned.checked.prog Rows.fnExactShortenAtRow.wrapper Rows.fnExactShortenAtRow.mainSum := by
  unfold Func.isWrapper; rw [if_neg (of_decide_eq_false (by kernel_rfl))]; exact ⟨rfl, rfl⟩

theorem fnExactShortenAt_over : Rows.fnExactShortenAtRow.holds Try.pinned (OpenSpec.ofChange Rows.fnExactShortenAtSpec) :=
  OpenClaim.holds_of_wide 11 Try.f11 rfl rfl rfl rfl rfl rfl rfl ⟨rfl, rfl, rfl, rfl, rfl⟩ rfl rfl rfl rfl rfl fnExactShortenAt_named Try.func11 fnExactShortenAt_facts
    fnExactShortenAt_instance fnExactShortenAt_wrapper
    (fun os started H enc _ => fnExactShortenAt_lifted os started H enc)

/-- The statement. -/
theorem fnExactShortenAt_proved : Rows.FnExactShortenAtSaid := fnExactShortenAt_over
#print axioms fnExactShortenAt_proved
end Go.Proofs.Ytikmmeohmkjbeaa
