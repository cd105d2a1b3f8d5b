/- FnExactStockAfter holds for every input: the statement as it is given, with no condition of ours. -/
import Derived.Test.YtjgcadohjccfaaaFacts
import Derived.Test.YtjgcadohjccfaaaStockAfter
import Derived.Test.YtjgcadohjccfaaaOpen
import Derived.Test.YtjgcadohjccfaaaOpenInts
import Derived.ProofKit
import Derived.OpenShut
import Derived.ShutString
import Derived.ChangeOld
import Derived.Below
namespace Go.Proofs.Ytjgcadohjccfaaa
open Go.ChangeShapes Go.WideShapes Go.ChangeAt Go.RowKit
open Go.ChangeMaps (open_string shut_string)

set_option maxRecDepth 100000 in
theorem fnExactStockAfter_lifted (os : Os) (started : os.Started) (H : Type) (enc : TypeId × Value → H) :
    ReturnsInHanded {} Try.checked os 12 .any (Rows.fnExactStockAfterSpec.pre6 enc Try.prog Try.f12 Rows.fnExactStockAfterRow.domain false) (Rows.fnExactStockAfterSpec.post enc Try.prog Try.f12 false true false false) := by
  refine returnsInHanded_of_change (C := Try.checked) pf_own started (by kernel_rfl) Try.func12
    (ChangeSpec.witness6 (enc := enc) (C := Try.checked) false ⟨#[], #[.int .i64 0, .slice none 0 0], []⟩ 8 (by kernel_rfl) (by kernel_rfl) (by kernel_rfl) (by kernel_rfl)) ?_
  intro W base args ds gs before hval0 hW hcnd _
  have hval : ∀ (j : Nat) t v, Try.f12.params[j]? = some t → args[j]? = some v → Value.okWide Try.prog W .any base t v := hval0
  have hW' := hW
  obtain ⟨p, q, hA0, hV, rfl, hfz, hnd⟩ := hW
  have hA : DataW.TrodAll enc Try.prog W 0 (fun _ => true) true Try.f12.params.toList args.toList ds p := hA0
  rw [Try.params12] at hA hval
  obtain ⟨v0, vs0, d0, ds0, p0, q0, hargs, rfl, rfl, h0, r0⟩ := trodAll_cons hA
  obtain ⟨v1, vs1, d1, ds1, p1, q1, rfl, rfl, rfl, h1, r1⟩ := trodAll_cons r0
  obtain ⟨rfl, rfl, rfl⟩ := trodAll_nil r1
  obtain rfl : args = #[v0, v1] := by cases args; simp_all
  obtain ⟨rfl, rfl⟩ := trodVars_none hV
  have k0 := h0
  have lt0 : ∀ x ∈ p0, x.block < W.heap.size := by obtain ⟨m, hm⟩ := k0; exact DataW.trod_lt m _ _ _ hm
  have k1 := h1
  have lt1 : ∀ x ∈ p1, x.block < W.heap.size := by obtain ⟨m, hm⟩ := k1; exact DataW.trod_lt m _ _ _ hm
  obtain ⟨a0, rfl, _, _, w0⟩ := open_int Try.underlying2 (hval 0 2 v0 rfl rfl) h0
  obtain ⟨A1, xs1, cap1, rfl, hn1, hF1⟩ := open_i64s (hval 1 35 v1 rfl rfl) h1
  clear hA0 hval0
  refine (lawStockAfter_any a0 w0 A1 xs1 cap1 hn1 W hF1).mono fun e W' ⟨he, bel⟩ => ?_
  subst he
  exact ⟨_, rfl, _, _, _, [], _, [], hW', trodAll_mk1 (shut_bool Try.underlying4 _), (trodAll_cons_mk (Below.trod pf_laidOut (by kernel_rfl) (of_decide_eq_true (by kernel_rfl)) k0 bel lt0) (trodAll_cons_mk (Below.trod pf_laidOut (by kernel_rfl) (of_decide_eq_true (by kernel_rfl)) k1 bel lt1) trodAll_mk0)), rfl, bel.frame _, fun h => by cases h⟩

theorem fnExactStockAfter_named : Try.pinned.checked.prog.funcNamed Rows.fnExactStockAfterRow.func = some 12 := by kernel_rfl
theorem fnExactStockAfter_facts4 : ((Rows.fnExactStockAfterRow.inPlace == Try.prog.inPlace 12) && (Rows.fnExactStockAfterRow.unfollowed == Try.prog.unfollowed 12) && (Rows.fnExactStockAfterRow.recurses == Try.prog.recurses 12) && (Rows.fnExactStockAfterRow.named == Try.prog.varsNamed 12)) = true := by kernel_rfl
theorem fnExactStockAfter_facts : joinedFacts Try.prog 12 Try.f12 Rows.fnExactStockAfterSpec Rows.fnExactStockAfterRow = true := by
  have h4 := fnExactStockAfter_facts4
  simp only [Bool.and_eq_true] at h4
  unfold joinedFacts
  simp only [Bool.and_eq_true]
  exact ⟨⟨⟨⟨⟨⟨⟨⟨⟨⟨⟨⟨⟨⟨⟨⟨⟨⟨⟨⟨⟨⟨⟨⟨⟨⟨⟨⟨⟨⟨⟨(by kernel_rfl), pf_laidOut⟩, pf_maps⟩, (by kernel_rfl)⟩, (by kernel_rfl)⟩, (by kernel_rfl)⟩, pf_stops⟩, (by kernel_rfl)⟩, pf_knobs⟩, h4.1.1.1⟩, h4.1.1.2⟩, h4.1.2⟩, h4.2⟩, (by kernel_rfl)⟩, (by kernel_rfl)⟩, (by kernel_rfl)⟩, (by kernel_rfl)⟩, (by kernel_rfl)⟩, (by kernel_rfl)⟩, (by kernel_rfl)⟩, (by kernel_rfl)⟩, (by kernel_rfl)⟩, pf_plainKeys⟩, (by kernel_rfl)⟩, pf_heard⟩, pf_enter⟩, pf_lifted⟩, pf_make⟩, (by kernel_rfl)⟩, (by kernel_rfl)⟩, (by kernel_rfl)⟩, (by kernel_rfl)⟩
theorem fnExactStockAfter_instance : Try.f12.isInstance Try.pinned.checked.prog Rows.fnExactStockAfterRow.origin Rows.fnExactStockAfterRow.targs := of_decide_eq_true (by kernel_rfl)
theorem fnExactStockAfter_wrapper : Try.f12.isWrapper Try.pinned.checked.prog Rows.fnExactStockAfterRow.wrapper Rows.fnExactStockAfterRow.mainSum := by
  unfold Func.isWrapper; rw [if_neg (of_decide_eq_false (by kernel_rfl))]; exact ⟨rfl, rfl⟩

theorem fnExactStockAfter_over : Rows.fnExactStockAfterRow.holds Try.pinned (OpenSpec.ofChange Rows.fnExactStockAfterSpec) :=
  OpenClaim.holds_of_wide 12 Try.f12 rfl rfl rfl rfl rfl rfl rfl ⟨rfl, rfl, rfl, rfl, rfl⟩ rfl rfl rfl rfl rfl fnExactStockAfter_named Try.func12 fnExactStockAfter_facts
    fnExactStockAfter_instance fnExactStockAfter_wrapper
    (fun os started H enc _ => fnExactStockAfter_lifted os started H enc)

/-- The statement. -/
theorem fnExactStockAfter_proved : Rows.FnExactStockAfterSaid := fnExactStockAfter_over
#print axioms fnExactStockAfter_proved
end Go.Proofs.Ytjgcadohjccfaaa
