/- FnExactStrokesText holds for every input: the statement as it is given, with no condition of ours. -/
import Derived.Test.YtkbemhjeflmppaaDoorFacts
import Derived.Test.YtkbemhjeflmppaaDoorStrokesText
import Derived.Test.YtkbemhjeflmppaaDoorOpen
import Derived.Test.YtkbemhjeflmppaaDoorOpenChi
import Derived.ProofKit
import Derived.Test.YtkbemhjeflmppaaDoorTie
import Derived.Test.YtkbemhjeflmppaaDoorCards
import Derived.LaidMore
import Derived.Lay
import Derived.SevenTiedAt
import Derived.Stop.Joined
import Derived.Test.YtkbemhjeflmppaaDoorCard
import Derived.HandedShaped
import Derived.Shelf.Vars
import Derived.OpenShut
import Derived.ShutString
import Derived.ChangeOld
import Derived.Below
namespace Go.Proofs.YtkbemhjeflmppaaDoor
open Go.ChangeShapes Go.WideShapes Go.ChangeAt Go.RowKit
open Go.ChangeMaps (open_string shut_string)

set_option maxRecDepth 100000 in
theorem fnExactStrokesText_lifted (os : Os) (started : os.Started) (H : Type) (enc : TypeId × Value → H) :
    ReturnsInHanded {} Tryd.checked os 10 .any (fun w args => (Rows.fnExactStrokesTextSpec.pre enc Tryd.prog Tryd.f10 Rows.fnExactStrokesTextRow.domain false w args ∧ laidMetH Tryd.prog Rows.fnExactStrokesTextRow.laid w) ∧ sizedMet enc Tryd.prog Tryd.f10 (OpenSpec.ofChange Rows.fnExactStrokesTextSpec) false w args) (Rows.fnExactStrokesTextSpec.post enc Tryd.prog Tryd.f10 false true false false) := by
  refine returns_listed (C := Tryd.checked) (X := fun w _ => laidMetH Tryd.prog Rows.fnExactStrokesTextRow.laid w) (fun _ _ _ hh h => h.of_heap hh) pf_own started (by kernel_rfl) Tryd.func10
    (ChangeSpec.witness_shaped (enc := enc) (C := Tryd.checked) (os := os) (X := fun w _ => laidMetH Tryd.prog Rows.fnExactStrokesTextRow.laid w) false (World.laidAll Tryd.prog os Rows.fnExactStrokesTextRow.laid) #[.agg #[.int .i8 0, .int .i8 0, .int .i8 0, .int .i8 0, .int .i8 0, .int .i8 0, .int .i8 0, .int .i8 0, .int .i8 0, .int .i8 0, .int .i8 0, .int .i8 0, .int .i8 0, .int .i8 0, .int .i8 0, .int .i8 0, .int .i8 0, .int .i8 0, .int .i8 0, .int .i8 0, .int .i8 0, .int .i8 0, .int .i8 0, .int .i8 0, .int .i8 0, .int .i8 0]] 8 (World.laidAll_os _ _ _)
      (World.shaped_of_ZipB (by kernel_rfl) (by kernel_rfl)) (by kernel_rfl) (by kernel_rfl) (by kernel_rfl)
      (by rw [MakeChecks.laidMetH_plain _ _ _ (by kernel_rfl)]; exact laidMet_laidAll _ (by kernel_rfl) (by kernel_rfl))) ?_
  intro W base args ds gs before hval0 hW hcnd _ hsh _
  have hval : ∀ (j : Nat) t v, Tryd.f10.params[j]? = some t → args[j]? = some v → Value.okWide Tryd.prog W .any base t v := hval0
  have hW' := hW
  obtain ⟨p, q, hA0, hV, rfl, hfz, hnd⟩ := hW
  have hA : DataW.TrodAll enc Tryd.prog W 0 (fun _ => true) true Tryd.f10.params.toList args.toList ds p := hA0
  rw [Tryd.params10] at hA hval
  obtain ⟨v0, vs0, d0, ds0, p0, q0, hargs, rfl, rfl, h0, r0⟩ := trodAll_cons hA
  obtain ⟨rfl, rfl, rfl⟩ := trodAll_nil r0
  obtain rfl : args = #[v0] := by cases args; simp_all
  obtain ⟨rfl, rfl⟩ := trodVars_none hV
  have k0 := h0
  have lt0 : ∀ x ∈ p0, x.block < W.heap.size := by obtain ⟨m, hm⟩ := k0; exact DataW.trod_lt m _ _ _ hm
  obtain ⟨S0, rfl, w0, wx0⟩ := open_strokes (hval 0 23 v0 rfl rfl) h0
  clear hA0 hval0
  refine (lawStrokesText_any S0 w0 wx0 W).mono fun e W' ⟨he, bel⟩ => ?_
  subst he
  exact ⟨_, rfl, _, _, _, [], _, [], hW', trodAll_mk1 (shut_bool Tryd.underlying4 _), (trodAll_cons_mk (Below.trod pf_laidOut (by kernel_rfl) (of_decide_eq_true (by kernel_rfl)) k0 bel lt0) trodAll_mk0), rfl, bel.frame _, fun h => by cases h⟩

theorem fnExactStrokesText_named : Tryd.pinned.checked.prog.funcNamed Rows.fnExactStrokesTextRow.func = some 10 := by kernel_rfl
theorem fnExactStrokesText_facts4 : ((Rows.fnExactStrokesTextRow.inPlace == Tryd.prog.inPlace 10) && (Rows.fnExactStrokesTextRow.unfollowed == Tryd.prog.unfollowed 10) && (Rows.fnExactStrokesTextRow.recurses == Tryd.prog.recurses 10) && (Rows.fnExactStrokesTextRow.named == Tryd.prog.varsNamed 10)) = true := by kernel_rfl
theorem fnExactStrokesText_facts : joinedFacts Tryd.prog 10 Tryd.f10 Rows.fnExactStrokesTextSpec Rows.fnExactStrokesTextRow = true := by
  have h4 := fnExactStrokesText_facts4
  simp only [Bool.and_eq_true] at h4
  unfold joinedFacts
  simp only [Bool.and_eq_true]
  exact ⟨⟨⟨⟨⟨⟨⟨⟨⟨⟨⟨⟨⟨⟨⟨⟨⟨⟨⟨⟨⟨⟨⟨⟨⟨⟨⟨⟨⟨⟨⟨(by kernel_rfl), pf_laidOut⟩, pf_maps⟩, (by kernel_rfl)⟩, (by kernel_rfl)⟩, (by kernel_rfl)⟩, pf_stops⟩, (by kernel_rfl)⟩, pf_knobs⟩, h4.1.1.1⟩, h4.1.1.2⟩, h4.1.2⟩, h4.2⟩, (by kernel_rfl)⟩, (by kernel_rfl)⟩, (by kernel_rfl)⟩, (by kernel_rfl)⟩, (by kernel_rfl)⟩, (by kernel_rfl)⟩, (by kernel_rfl)⟩, (by kernel_rfl)⟩, (by kernel_rfl)⟩, pf_plainKeys⟩, (by kernel_rfl)⟩, pf_heard⟩, pf_enter⟩, pf_lifted⟩, pf_make⟩, (by kernel_rfl)⟩, (by kernel_rfl)⟩, (by kernel_rfl)⟩, (by kernel_rfl)⟩
theorem fnExactStrokesText_instance : Tryd.f10.isInstance Tryd.pinned.checked.prog Rows.fnExactStrokesTextRow.origin Rows.fnExactStrokesTextRow.targs := of_decide_eq_true (by kernel_rfl)
theorem fnExactStrokesText_wrapper : Tryd.f10.isWrapper Tryd.pinned.checked.prog Rows.fnExactStrokesTextRow.wrapper Rows.fnExactStrokesTextRow.mainSum := by
  unfold Func.isWrapper; rw [if_neg (of_decide_eq_false (by kernel_rfl))]; exact ⟨rfl, rfl⟩

theorem fnExactStrokesText_over : Rows.fnExactStrokesTextRow.holds Tryd.pinned (OpenSpec.ofChange Rows.fnExactStrokesTextSpec) :=
  OpenClaim.holds_of_wide 10 Tryd.f10 rfl rfl rfl rfl rfl rfl rfl ⟨rfl, rfl, rfl, rfl, rfl⟩ rfl rfl rfl rfl rfl fnExactStrokesText_named Tryd.func10 fnExactStrokesText_facts
    fnExactStrokesText_instance fnExactStrokesText_wrapper
    (fun os started H enc _ => fnExactStrokesText_lifted os started H enc)

/-- The statement. -/
theorem fnExactStrokesText_proved : Rows.FnExactStrokesTextCardSaid :=
  Claim7.holds_tied_plain_at .later [] [.data, .data, .data] true (true, "237fb795411359c2297618e959c068edbca67bcc05fc9f6462f5c80213d958c4") false fnExactStrokesText_over (fun _ h => by cases h) (by kernel_rfl) (fun _ h => by cases h) fnExactStrokesText_row_tie rfl ⟨rfl, rfl⟩ (by kernel_rfl) rfl
    (fun f fn hf hfn => by
      obtain rfl : f = 10 := (Option.some.inj (fnExactStrokesText_named.symm.trans hf)).symm
      obtain rfl : fn = Tryd.f10 := (Option.some.inj (Tryd.func10.symm.trans hfn)).symm
      exact ⟨by kernel_rfl, fun j t ht => by
        rw [Tryd.params10] at ht
        have hm : t ∈ [23] := by simpa using Array.mem_of_getElem? ht
        have hall : ([23].all fun u => !Tryd.prog.wantsStandIn u) = true := by kernel_rfl
        exact (show Tryd.prog.wantsStandIn t = false by simpa using List.all_eq_true.1 hall t hm)⟩)
    (by kernel_rfl)
#print axioms fnExactStrokesText_proved
end Go.Proofs.YtkbemhjeflmppaaDoor
