/- FnExactJoinRubbings holds for every input: the statement as it is given, with no condition of ours. -/
import Derived.Test.YtcbijfbeapeliaaDoorFacts
import Derived.Test.YtcbijfbeapeliaaDoorJoinRubbings
import Derived.Test.YtcbijfbeapeliaaDoorOpen
import Derived.Test.YtcbijfbeapeliaaDoorOpenRubs
import Derived.ProofKit
import Derived.Test.YtcbijfbeapeliaaDoorErrT
import Derived.Test.YtcbijfbeapeliaaDoorTie
import Derived.Test.YtcbijfbeapeliaaDoorCards
import Derived.LaidMore
import Derived.Lay
import Derived.SevenTiedAt
import Derived.Stop.Joined
import Derived.Test.YtcbijfbeapeliaaDoorCard
import Derived.HandedShaped
import Derived.Shelf.Vars
import Derived.HandedShaped
import Derived.Shelf.Vars
import Derived.OpenShut
import Derived.ShutString
import Derived.ChangeOld
import Derived.Below
namespace Go.Proofs.YtcbijfbeapeliaaDoor
open Go.ChangeShapes Go.WideShapes Go.ChangeAt Go.RowKit
open Go.ChangeMaps (open_string shut_string)

set_option maxRecDepth 100000 in
theorem fnExactJoinRubbings_lifted (os : Os) (started : os.Started) (H : Type) (enc : TypeId × Value → H) :
    ReturnsInHanded {} Tryd.checked os 7 .any (fun w args => (Rows.fnExactJoinRubbingsSpec.pre enc Tryd.prog Tryd.f7 Rows.fnExactJoinRubbingsRow.domain false w args ∧ laidMetH Tryd.prog Rows.fnExactJoinRubbingsRow.laid w) ∧ sizedMet enc Tryd.prog Tryd.f7 (OpenSpec.ofChange Rows.fnExactJoinRubbingsSpec) false w args) (Rows.fnExactJoinRubbingsSpec.post enc Tryd.prog Tryd.f7 false true false false) := by
  refine returns_listed (C := Tryd.checked) (X := fun w _ => laidMetH Tryd.prog Rows.fnExactJoinRubbingsRow.laid w) (fun _ _ _ hh h => h.of_heap hh) pf_own started (by kernel_rfl) Tryd.func7
    (ChangeSpec.witness_shaped (enc := enc) (C := Tryd.checked) (os := os) (X := fun w _ => laidMetH Tryd.prog Rows.fnExactJoinRubbingsRow.laid w) false (laidWorldE os) #[.slice none 0 0] 8 rfl (World.shaped_of_ZipB (by kernel_rfl) (by kernel_rfl)) (by kernel_rfl) (by kernel_rfl) (by kernel_rfl) (laidMetH_of_parts (laidMet_nil _ _) (by kernel_rfl))) ?_
  intro W base args ds gs before hval0 hW hcnd hX hsh _
  have hGl : ErrT W := errT_of_laid hX
  have hval : ∀ (j : Nat) t v, Tryd.f7.params[j]? = some t → args[j]? = some v → Value.okWide Tryd.prog W .any base t v := hval0
  have hW' := hW
  obtain ⟨p, q, hA0, hV, rfl, hfz, hnd⟩ := hW
  have hA : DataW.TrodAll enc Tryd.prog W 0 (fun _ => true) true Tryd.f7.params.toList args.toList ds p := hA0
  rw [Tryd.params7] at hA hval
  obtain ⟨v0, vs0, d0, ds0, p0, q0, hargs, rfl, rfl, h0, r0⟩ := trodAll_cons hA
  obtain ⟨rfl, rfl, rfl⟩ := trodAll_nil r0
  obtain rfl : args = #[v0] := by cases args; simp_all
  obtain ⟨rfl, rfl⟩ := trodVars_none hV
  have k0 := h0
  have lt0 : ∀ x ∈ p0, x.block < W.heap.size := by obtain ⟨m, hm⟩ := k0; exact DataW.trod_lt m _ _ _ hm
  obtain ⟨A0, xs0, cap0, rfl, hn0, hx0, hF0⟩ := open_rubbings (hval 0 36 v0 rfl rfl) h0
  clear hA0 hval0
  refine (lawJoinRubbings_any A0 xs0 cap0 hn0 hx0 W hGl hF0).mono fun e W' ⟨he, bel⟩ => ?_
  subst he
  exact ⟨_, rfl, _, _, _, [], _, [], hW', trodAll_mk1 (shut_bool Tryd.underlying4 _), (trodAll_cons_mk (Below.trod pf_laidOut (by kernel_rfl) (of_decide_eq_true (by kernel_rfl)) k0 bel lt0) trodAll_mk0), rfl, bel.frame _, fun h => by cases h⟩

theorem fnExactJoinRubbings_named : Tryd.pinned.checked.prog.funcNamed Rows.fnExactJoinRubbingsRow.func = some 7 := by kernel_rfl
theorem fnExactJoinRubbings_facts4 : ((Rows.fnExactJoinRubbingsRow.inPlace == Tryd.prog.inPlace 7) && (Rows.fnExactJoinRubbingsRow.unfollowed == Tryd.prog.unfollowed 7) && (Rows.fnExactJoinRubbingsRow.recurses == Tryd.prog.recurses 7) && (Rows.fnExactJoinRubbingsRow.named == Tryd.prog.varsNamed 7)) = true := by kernel_rfl
theorem fnExactJoinRubbings_facts : joinedFacts Tryd.prog 7 Tryd.f7 Rows.fnExactJoinRubbingsSpec Rows.fnExactJoinRubbingsRow = true := by
  have h4 := fnExactJoinRubbings_facts4
  simp only [Bool.and_eq_true] at h4
  unfold joinedFacts
  simp only [Bool.and_eq_true]
  exact ⟨⟨⟨⟨⟨⟨⟨⟨⟨⟨⟨⟨⟨⟨⟨⟨⟨⟨⟨⟨⟨⟨⟨⟨⟨⟨⟨⟨⟨⟨⟨(by kernel_rfl), pf_laidOut⟩, pf_maps⟩, (by kernel_rfl)⟩, (by kernel_rfl)⟩, (by kernel_rfl)⟩, pf_stops⟩, (by kernel_rfl)⟩, pf_knobs⟩, h4.1.1.1⟩, h4.1.1.2⟩, h4.1.2⟩, h4.2⟩, (by kernel_rfl)⟩, (by kernel_rfl)⟩, (by kernel_rfl)⟩, (by kernel_rfl)⟩, (by kernel_rfl)⟩, (by kernel_rfl)⟩, (by kernel_rfl)⟩, (by kernel_rfl)⟩, (by kernel_rfl)⟩, pf_plainKeys⟩, (by kernel_rfl)⟩, pf_heard⟩, pf_enter⟩, pf_lifted⟩, pf_make⟩, (by kernel_rfl)⟩, (by kernel_rfl)⟩, (by kernel_rfl)⟩, (by kernel_rfl)⟩
theorem fnExactJoinRubbings_instance : Tryd.f7.isInstance Tryd.pinned.checked.prog Rows.fnExactJoinRubbingsRow.origin Rows.fnExactJoinRubbingsRow.targs := of_decide_eq_true (by kernel_rfl)
theorem fnExactJoinRubbings_wrapper : Tryd.f7.isWrapper Tryd.pinned.checked.prog Rows.fnExactJoinRubbingsRow.wrapper Rows.fnExactJoinRubbingsRow.mainSum := by
  unfold Func.isWrapper; rw [if_neg (of_decide_eq_false (by kernel_rfl))]; exact ⟨rfl, rfl⟩

theorem fnExactJoinRubbings_over : Rows.fnExactJoinRubbingsRow.holds Tryd.pinned (OpenSpec.ofChange Rows.fnExactJoinRubbingsSpec) :=
  OpenClaim.holds_of_wide 7 Tryd.f7 rfl rfl rfl rfl rfl rfl rfl ⟨rfl, rfl, rfl, rfl, rfl⟩ rfl rfl rfl rfl rfl fnExactJoinRubbings_named Tryd.func7 fnExactJoinRubbings_facts
    fnExactJoinRubbings_instance fnExactJoinRubbings_wrapper
    (fun os started H enc _ => fnExactJoinRubbings_lifted os started H enc)

/-- The statement. -/
theorem fnExactJoinRubbings_proved : Rows.FnExactJoinRubbingsCardSaid :=
  Claim7.holds_tied_plain_at .later [] [.handle] true (true, "543b7f1da95beaeac8a4890fd30391e6870cc2a2e371e05d3a3f2f09a5431ea1") true fnExactJoinRubbings_over (fun _ h => by cases h) (by kernel_rfl) (fun _ h => by cases h) fnExactJoinRubbings_row_tie rfl ⟨rfl, rfl⟩ (by kernel_rfl) rfl
    (fun f fn hf hfn => by
      obtain rfl : f = 7 := (Option.some.inj (fnExactJoinRubbings_named.symm.trans hf)).symm
      obtain rfl : fn = Tryd.f7 := (Option.some.inj (Tryd.func7.symm.trans hfn)).symm
      exact ⟨by kernel_rfl, fun j t ht => by
        rw [Tryd.params7] at ht
        have hm : t ∈ [36] := by simpa using Array.mem_of_getElem? ht
        have hall : ([36].all fun u => !Tryd.prog.wantsStandIn u) = true := by kernel_rfl
        exact (show Tryd.prog.wantsStandIn t = false by simpa using List.all_eq_true.1 hall t hm)⟩)
    (by kernel_rfl)
#print axioms fnExactJoinRubbings_proved
end Go.Proofs.YtcbijfbeapeliaaDoor
