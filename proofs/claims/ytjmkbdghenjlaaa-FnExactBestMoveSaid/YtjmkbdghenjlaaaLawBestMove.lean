/- FnExactBestMove holds for every input: the statement as it is given, with no condition of ours. -/
import Derived.Test.YtjmkbdghenjlaaaFacts
import Derived.Test.YtjmkbdghenjlaaaBestMove
import Derived.Test.YtjmkbdghenjlaaaOpen
import Derived.Test.YtjmkbdghenjlaaaOpenRub
import Derived.ProofKit
import Derived.OpenShut
import Derived.ShutString
import Derived.ChangeOld
import Derived.Below
namespace Go.Proofs.Ytjmkbdghenjlaaa
open Go.ChangeShapes Go.WideShapes Go.ChangeAt Go.RowKit
open Go.ChangeMaps (open_string shut_string)

set_option maxRecDepth 100000 in
theorem fnExactBestMove_lifted (os : Os) (started : os.Started) (H : Type) (enc : TypeId × Value → H) :
    ReturnsInHanded {} Try.checked os 3 .any (Rows.fnExactBestMoveSpec.pre6 enc Try.prog Try.f3 Rows.fnExactBestMoveRow.domain false) (Rows.fnExactBestMoveSpec.post enc Try.prog Try.f3 false true false false) := by
  refine returnsInHanded_of_change (C := Try.checked) pf_own started (by kernel_rfl) Try.func3
    (ChangeSpec.witness6 (enc := enc) (C := Try.checked) false ⟨#[], #[.agg #[.int .u16 0, .int .u16 0, .int .u16 0, .int .u16 0, .int .u16 0, .int .u16 0, .int .u16 0, .int .u16 0], .agg #[.int .u16 0, .int .u16 0, .int .u16 0, .int .u16 0, .int .u16 0, .int .u16 0, .int .u16 0, .int .u16 0]], []⟩ 8 (by kernel_rfl) (by kernel_rfl) (by kernel_rfl) (by kernel_rfl)) ?_
  intro W base args ds gs before hval0 hW hcnd _
  have hval : ∀ (j : Nat) t v, Try.f3.params[j]? = some t → args[j]? = some v → Value.okWide Try.prog W .any base t v := hval0
  have hW' := hW
  obtain ⟨p, q, hA0, hV, rfl, hfz, hnd⟩ := hW
  have hA : DataW.TrodAll enc Try.prog W 0 (fun _ => true) true Try.f3.params.toList args.toList ds p := hA0
  rw [Try.params3] at hA hval
  obtain ⟨v0, vs0, d0, ds0, p0, q0, hargs, rfl, rfl, h0, r0⟩ := trodAll_cons hA
  obtain ⟨v1, vs1, d1, ds1, p1, q1, rfl, rfl, rfl, h1, r1⟩ := trodAll_cons r0
  obtain ⟨rfl, rfl, rfl⟩ := trodAll_nil r1
  obtain rfl : args = #[v0, v1] := by cases args; simp_all
  obtain ⟨rfl, rfl⟩ := trodVars_none hV
  have k0 := h0
  have lt0 : ∀ x ∈ p0, x.block < W.heap.size := by obtain ⟨m, hm⟩ := k0; exact DataW.trod_lt m _ _ _ hm
  have k1 := h1
  have lt1 : ∀ x ∈ p1, x.block < W.heap.size := by obtain ⟨m, hm⟩ := k1; exact DataW.trod_lt m _ _ _ hm
  obtain ⟨S0, rfl, w0⟩ := open_rubbing (hval 0 23 v0 rfl rfl) h0
  obtain ⟨S1, rfl, w1⟩ := open_rubbing (hval 1 23 v1 rfl rfl) h1
  clear hA0 hval0
  refine (lawBestMove_any S0 w0 S1 w1 W).mono fun e W' ⟨he, bel⟩ => ?_
  subst he
  exact ⟨_, rfl, _, _, _, [], _, [], hW', trodAll_mk1 (shut_bool Try.underlying4 _), (trodAll_cons_mk (Below.trod pf_laidOut (by kernel_rfl) (of_decide_eq_true (by kernel_rfl)) k0 bel lt0) (trodAll_cons_mk (Below.trod pf_laidOut (by kernel_rfl) (of_decide_eq_true (by kernel_rfl)) k1 bel lt1) trodAll_mk0)), rfl, bel.frame _, fun h => by cases h⟩

theorem fnExactBestMove_named : Try.pinned.checked.prog.funcNamed Rows.fnExactBestMoveRow.func = some 3 := by kernel_rfl
theorem fnExactBestMove_facts4 : ((Rows.fnExactBestMoveRow.inPlace == Try.prog.inPlace 3) && (Rows.fnExactBestMoveRow.unfollowed == Try.prog.unfollowed 3) && (Rows.fnExactBestMoveRow.recurses == Try.prog.recurses 3) && (Rows.fnExactBestMoveRow.named == Try.prog.varsNamed 3)) = true := by kernel_rfl
theorem fnExactBestMove_facts : joinedFacts Try.prog 3 Try.f3 Rows.fnExactBestMoveSpec Rows.fnExactBestMoveRow = true := by
  have h4 := fnExactBestMove_facts4
  simp only [Bool.and_eq_true] at h4
  unfold joinedFacts
  simp only [Bool.and_eq_true]
  exact ⟨⟨⟨⟨⟨⟨⟨⟨⟨⟨⟨⟨⟨⟨⟨⟨⟨⟨⟨⟨⟨⟨⟨⟨⟨⟨⟨⟨⟨⟨⟨(by kernel_rfl), pf_laidOut⟩, pf_maps⟩, (by kernel_rfl)⟩, (by kernel_rfl)⟩, (by kernel_rfl)⟩, pf_stops⟩, (by kernel_rfl)⟩, pf_knobs⟩, h4.1.1.1⟩, h4.1.1.2⟩, h4.1.2⟩, h4.2⟩, (by kernel_rfl)⟩, (by kernel_rfl)⟩, (by kernel_rfl)⟩, (by kernel_rfl)⟩, (by kernel_rfl)⟩, (by kernel_rfl)⟩, (by kernel_rfl)⟩, (by kernel_rfl)⟩, (by kernel_rfl)⟩, pf_plainKeys⟩, (by kernel_rfl)⟩, pf_heard⟩, pf_enter⟩, pf_lifted⟩, pf_make⟩, (by kernel_rfl)⟩, (by kernel_rfl)⟩, (by kernel_rfl)⟩, (by kernel_rfl)⟩
theorem fnExactBestMove_instance : Try.f3.isInstance Try.pinned.checked.prog Rows.fnExactBestMoveRow.origin Rows.fnExactBestMoveRow.targs := of_decide_eq_true (by kernel_rfl)
theorem fnExactBestMove_wrapper : Try.f3.isWrapper Try.pinned.checked.prog Rows.fnExactBestMoveRow.wrapper Rows.fnExactBestMoveRow.mainSum := by
  unfold Func.isWrapper; rw [if_neg (of_decide_eq_false (by kernel_rfl))]; exact ⟨rfl, rfl⟩

theorem fnExactBestMove_over : Rows.fnExactBestMoveRow.holds Try.pinned (OpenSpec.ofChange Rows.fnExactBestMoveSpec) :=
  OpenClaim.holds_of_wide 3 Try.f3 rfl rfl rfl rfl rfl rfl rfl ⟨rfl, rfl, rfl, rfl, rfl⟩ rfl rfl rfl rfl rfl fnExactBestMove_named Try.func3 fnExactBestMove_facts
    fnExactBestMove_instance fnExactBestMove_wrapper
    (fun os started H enc _ => fnExactBestMove_lifted os started H enc)

/-- The statement. -/
theorem fnExactBestMove_proved : Rows.FnExactBestMoveSaid := fnExactBestMove_over
#print axioms fnExactBestMove_proved
end Go.Proofs.Ytjmkbdghenjlaaa
