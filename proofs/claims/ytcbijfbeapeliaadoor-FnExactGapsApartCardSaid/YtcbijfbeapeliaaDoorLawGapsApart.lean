/- FnExactGapsApart holds for every input: the statement as it is given, with no condition of ours. -/
import Derived.Test.YtcbijfbeapeliaaDoorFacts
import Derived.Test.YtcbijfbeapeliaaDoorGapsApart
import Derived.Test.YtcbijfbeapeliaaDoorOpen
import Derived.Test.YtcbijfbeapeliaaDoorOpenInts
import Derived.ProofKit
import Derived.Test.YtcbijfbeapeliaaDoorErrT
import Derived.Test.YtcbijfbeapeliaaDoorTie
import Derived.Test.YtcbijfbeapeliaaDoorCards
import Derived.LaidMore
import Derived.Lay
import Derived.SevenTiedAt
import Derived.Stop.Joined
import Derived.Test.YtcbijfbeapeliaaDoorCard
import Derived.HandedShaped
import Derived.Shelf.Vars
import Derived.HandedShaped
import Derived.Shelf.Vars
import Derived.OpenShut
import Derived.ShutString
import Derived.ChangeOld
import Derived.Below
namespace Go.Proofs.YtcbijfbeapeliaaDoor
open Go.ChangeShapes Go.WideShapes Go.ChangeAt Go.RowKit
open Go.ChangeMaps (open_string shut_string)

set_option maxRecDepth 100000 in
theorem fnExactGapsApart_lifted (os : Os) (started : os.Started) (H : Type) (enc : TypeId × Value → H) :
    ReturnsInHanded {} Tryd.checked os 9 .any (fun w args => (Rows.fnExactGapsApartSpec.pre enc Tryd.prog Tryd.f9 Rows.fnExactGapsApartRow.domain false w args ∧ laidMetH Tryd.prog Rows.fnExactGapsApartRow.laid w) ∧ sizedMet enc Tryd.prog Tryd.f9 (OpenSpec.ofChange Rows.fnExactGapsApartSpec) false w args) (Rows.fnExactGapsApartSpec.post enc Tryd.prog Tryd.f9 false true false false) := by
  refine returns_listed (C := Tryd.checked) (X := fun w _ => laidMetH Tryd.prog Rows.fnExactGapsApartRow.laid w) (fun _ _ _ hh h => h.of_heap hh) pf_own started (by kernel_rfl) Tryd.func9
    (ChangeSpec.witness_shaped (enc := enc) (C := Tryd.checked) (os := os) (X := fun w _ => laidMetH Tryd.prog Rows.fnExactGapsApartRow.laid w) false (laidWorldE os) #[.slice none 0 0, .slice none 0 0] 8 rfl (World.shaped_of_ZipB (by kernel_rfl) (by kernel_rfl)) (by kernel_rfl) (by kernel_rfl) (by kernel_rfl) (laidMetH_of_parts (laidMet_nil _ _) (by kernel_rfl))) ?_
  intro W base args ds gs before hval0 hW hcnd hX hsh _
  have hGl : ErrT W := errT_of_laid hX
  have hval : ∀ (j : Nat) t v, Tryd.f9.params[j]? = some t → args[j]? = some v → Value.okWide Tryd.prog W .any base t v := hval0
  have hW' := hW
  obtain ⟨p, q, hA0, hV, rfl, hfz, hnd⟩ := hW
  have hA : DataW.TrodAll enc Tryd.prog W 0 (fun _ => true) true Tryd.f9.params.toList args.toList ds p := hA0
  rw [Tryd.params9] at hA hval
  obtain ⟨v0, vs0, d0, ds0, p0, q0, hargs, rfl, rfl, h0, r0⟩ := trodAll_cons hA
  obtain ⟨v1, vs1, d1, ds1, p1, q1, rfl, rfl, rfl, h1, r1⟩ := trodAll_cons r0
  obtain ⟨rfl, rfl, rfl⟩ := trodAll_nil r1
  obtain rfl : args = #[v0, v1] := by cases args; simp_all
  obtain ⟨rfl, rfl⟩ := trodVars_none hV
  have k0 := h0
  have lt0 : ∀ x ∈ p0, x.block < W.heap.size := by obtain ⟨m, hm⟩ := k0; exact DataW.trod_lt m _ _ _ hm
  have k1 := h1
  have lt1 : ∀ x ∈ p1, x.block < W.heap.size := by obtain ⟨m, hm⟩ := k1; exact DataW.trod_lt m _ _ _ hm
  obtain ⟨A0, xs0, cap0, rfl, hn0, hF0⟩ := open_i64s (hval 0 45 v0 rfl rfl) h0
  obtain ⟨A1, xs1, cap1, rfl, hn1, hF1⟩ := open_i64s (hval 1 45 v1 rfl rfl) h1
  clear hA0 hval0
  refine (lawGapsApart_any A0 xs0 cap0 hn0 A1 xs1 cap1 hn1 W hGl hF0 hF1).mono fun e W' ⟨he, bel⟩ => ?_
  subst he
  exact ⟨_, rfl, _, _, _, [], _, [], hW', trodAll_mk1 (shut_bool Tryd.underlying4 _), (trodAll_cons_mk (Below.trod pf_laidOut (by kernel_rfl) (of_decide_eq_true (by kernel_rfl)) k0 bel lt0) (trodAll_cons_mk (Below.trod pf_laidOut (by kernel_rfl) (of_decide_eq_true (by kernel_rfl)) k1 bel lt1) trodAll_mk0)), rfl, bel.frame _, fun h => by cases h⟩

theorem fnExactGapsApart_named : Tryd.pinned.checked.prog.funcNamed Rows.fnExactGapsApartRow.func = some 9 := by kernel_rfl
theorem fnExactGapsApart_facts4 : ((Rows.fnExactGapsApartRow.inPlace == Tryd.prog.inPlace 9) && (Rows.fnExactGapsApartRow.unfollowed == Tryd.prog.unfollowed 9) && (Rows.fnExactGapsApartRow.recurses == Tryd.prog.recurses 9) && (Rows.fnExactGapsApartRow.named == Tryd.prog.varsNamed 9)) = true := by kernel_rfl
theorem fnExactGapsApart_facts : joinedFacts Tryd.prog 9 Tryd.f9 Rows.fnExactGapsApartSpec Rows.fnExactGapsApartRow = true := by
  have h4 := fnExactGapsApart_facts4
  simp only [Bool.and_eq_true] at h4
  unfold joinedFacts
  simp only [Bool.and_eq_true]
  exact ⟨⟨⟨⟨⟨⟨⟨⟨⟨⟨⟨⟨⟨⟨⟨⟨⟨⟨⟨⟨⟨⟨⟨⟨⟨⟨⟨⟨⟨⟨⟨(by kernel_rfl), pf_laidOut⟩, pf_maps⟩, (by kernel_rfl)⟩, (by kernel_rfl)⟩, (by kernel_rfl)⟩, pf_stops⟩, (by kernel_rfl)⟩, pf_knobs⟩, h4.1.1.1⟩, h4.1.1.2⟩, h4.1.2⟩, h4.2⟩, (by kernel_rfl)⟩, (by kernel_rfl)⟩, (by kernel_rfl)⟩, (by kernel_rfl)⟩, (by kernel_rfl)⟩, (by kernel_rfl)⟩, (by kernel_rfl)⟩, (by kernel_rfl)⟩, (by kernel_rfl)⟩, pf_plainKeys⟩, (by kernel_rfl)⟩, pf_heard⟩, pf_enter⟩, pf_lifted⟩, pf_make⟩, (by kernel_rfl)⟩, (by kernel_rfl)⟩, (by kernel_rfl)⟩, (by kernel_rfl)⟩
theorem fnExactGapsApart_instance : Tryd.f9.isInstance Tryd.pinned.checked.prog Rows.fnExactGapsApartRow.origin Rows.fnExactGapsApartRow.targs := of_decide_eq_true (by kernel_rfl)
theorem fnExactGapsApart_wrapper : Tryd.f9.isWrapper Tryd.pinned.checked.prog Rows.fnExactGapsApartRow.wrapper Rows.fnExactGapsApartRow.mainSum := by
  unfold Func.isWrapper; rw [if_neg (of_decide_eq_false (by kernel_rfl))]; exact ⟨rfl, rfl⟩

theorem fnExactGapsApart_over : Rows.fnExactGapsApartRow.holds Tryd.pinned (OpenSpec.ofChange Rows.fnExactGapsApartSpec) :=
  OpenClaim.holds_of_wide 9 Tryd.f9 rfl rfl rfl rfl rfl rfl rfl ⟨rfl, rfl, rfl, rfl, rfl⟩ rfl rfl rfl rfl rfl fnExactGapsApart_named Tryd.func9 fnExactGapsApart_facts
    fnExactGapsApart_instance fnExactGapsApart_wrapper
    (fun os started H enc _ => fnExactGapsApart_lifted os started H enc)

/-- The statement. -/
theorem fnExactGapsApart_proved : Rows.FnExactGapsApartCardSaid :=
  Claim7.holds_tied_plain_at .later [] [.handle] true (true, "543b7f1da95beaeac8a4890fd30391e6870cc2a2e371e05d3a3f2f09a5431ea1") true fnExactGapsApart_over (fun _ h => by cases h) (by kernel_rfl) (fun _ h => by cases h) fnExactGapsApart_row_tie rfl ⟨rfl, rfl⟩ (by kernel_rfl) rfl
    (fun f fn hf hfn => by
      obtain rfl : f = 9 := (Option.some.inj (fnExactGapsApart_named.symm.trans hf)).symm
      obtain rfl : fn = Tryd.f9 := (Option.some.inj (Tryd.func9.symm.trans hfn)).symm
      exact ⟨by kernel_rfl, fun j t ht => by
        rw [Tryd.params9] at ht
        have hm : t ∈ [45, 45] := by simpa using Array.mem_of_getElem? ht
        have hall : ([45, 45].all fun u => !Tryd.prog.wantsStandIn u) = true := by kernel_rfl
        exact (show Tryd.prog.wantsStandIn t = false by simpa using List.all_eq_true.1 hall t hm)⟩)
    (by kernel_rfl)
#print axioms fnExactGapsApart_proved
end Go.Proofs.YtcbijfbeapeliaaDoor
