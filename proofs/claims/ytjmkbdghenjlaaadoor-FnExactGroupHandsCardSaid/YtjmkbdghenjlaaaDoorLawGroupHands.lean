/- FnExactGroupHands holds for every input: the statement as it is given, with no condition of ours. -/
import Derived.Test.YtjmkbdghenjlaaaDoorFacts
import Derived.Test.YtjmkbdghenjlaaaDoorGroupHands
import Derived.Test.YtjmkbdghenjlaaaDoorOpen
import Derived.Test.YtjmkbdghenjlaaaDoorOpenIntss
import Derived.ProofKit
import Derived.Test.YtjmkbdghenjlaaaDoorErrT
import Derived.Test.YtjmkbdghenjlaaaDoorTie
import Derived.Test.YtjmkbdghenjlaaaDoorCards
import Derived.LaidMore
import Derived.Lay
import Derived.SevenTiedAt
import Derived.Stop.Joined
import Derived.Test.YtjmkbdghenjlaaaDoorCard
import Derived.HandedShaped
import Derived.Shelf.Vars
import Derived.HandedShaped
import Derived.Shelf.Vars
import Derived.OpenShut
import Derived.ShutString
import Derived.ChangeOld
import Derived.Below
namespace Go.Proofs.YtjmkbdghenjlaaaDoor
open Go.ChangeShapes Go.WideShapes Go.ChangeAt Go.RowKit
open Go.ChangeMaps (open_string shut_string)

set_option maxRecDepth 100000 in
theorem fnExactGroupHands_lifted (os : Os) (started : os.Started) (H : Type) (enc : TypeId × Value → H) :
    ReturnsInHanded {} Tryd.checked os 6 .any (fun w args => (Rows.fnExactGroupHandsSpec.pre enc Tryd.prog Tryd.f6 Rows.fnExactGroupHandsRow.domain false w args ∧ laidMetH Tryd.prog Rows.fnExactGroupHandsRow.laid w) ∧ sizedMet enc Tryd.prog Tryd.f6 (OpenSpec.ofChange Rows.fnExactGroupHandsSpec) false w args) (Rows.fnExactGroupHandsSpec.post enc Tryd.prog Tryd.f6 false true false false) := by
  refine returns_listed (C := Tryd.checked) (X := fun w _ => laidMetH Tryd.prog Rows.fnExactGroupHandsRow.laid w) (fun _ _ _ hh h => h.of_heap hh) pf_own started (by kernel_rfl) Tryd.func6
    (ChangeSpec.witness_shaped (enc := enc) (C := Tryd.checked) (os := os) (X := fun w _ => laidMetH Tryd.prog Rows.fnExactGroupHandsRow.laid w) false (laidWorldE os) #[.slice none 0 0, .int .i64 0] 8 rfl (World.shaped_of_ZipB (by kernel_rfl) (by kernel_rfl)) (by kernel_rfl) (by kernel_rfl) (by kernel_rfl) (laidMetH_of_parts (laidMet_nil _ _) (by kernel_rfl))) ?_
  intro W base args ds gs before hval0 hW hcnd hX hsh _
  have hGl : ErrT W := errT_of_laid hX
  have hval : ∀ (j : Nat) t v, Tryd.f6.params[j]? = some t → args[j]? = some v → Value.okWide Tryd.prog W .any base t v := hval0
  have hW' := hW
  obtain ⟨p, q, hA0, hV, rfl, hfz, hnd⟩ := hW
  have hA : DataW.TrodAll enc Tryd.prog W 0 (fun _ => true) true Tryd.f6.params.toList args.toList ds p := hA0
  rw [Tryd.params6] at hA hval
  obtain ⟨v0, vs0, d0, ds0, p0, q0, hargs, rfl, rfl, h0, r0⟩ := trodAll_cons hA
  obtain ⟨v1, vs1, d1, ds1, p1, q1, rfl, rfl, rfl, h1, r1⟩ := trodAll_cons r0
  obtain ⟨rfl, rfl, rfl⟩ := trodAll_nil r1
  obtain rfl : args = #[v0, v1] := by cases args; simp_all
  obtain ⟨rfl, rfl⟩ := trodVars_none hV
  have k0 := h0
  have lt0 : ∀ x ∈ p0, x.block < W.heap.size := by obtain ⟨m, hm⟩ := k0; exact DataW.trod_lt m _ _ _ hm
  have k1 := h1
  have lt1 : ∀ x ∈ p1, x.block < W.heap.size := by obtain ⟨m, hm⟩ := k1; exact DataW.trod_lt m _ _ _ hm
  obtain ⟨A0, xs0, cap0, rfl, hn0, hx0, hF0⟩ := open_intss (hval 0 38 v0 rfl rfl) h0
  obtain ⟨a1, rfl, _, _, w1⟩ := open_int Tryd.underlying2 (hval 1 2 v1 rfl rfl) h1
  clear hA0 hval0
  refine (lawGroupHands_any A0 xs0 cap0 hn0 a1 w1 W hGl hx0 hF0).mono fun e W' ⟨he, bel⟩ => ?_
  subst he
  exact ⟨_, rfl, _, _, _, [], _, [], hW', trodAll_mk1 (shut_bool Tryd.underlying4 _), (trodAll_cons_mk (Below.trod pf_laidOut (by kernel_rfl) (of_decide_eq_true (by kernel_rfl)) k0 bel lt0) (trodAll_cons_mk (Below.trod pf_laidOut (by kernel_rfl) (of_decide_eq_true (by kernel_rfl)) k1 bel lt1) trodAll_mk0)), rfl, bel.frame _, fun h => by cases h⟩

theorem fnExactGroupHands_named : Tryd.pinned.checked.prog.funcNamed Rows.fnExactGroupHandsRow.func = some 6 := by kernel_rfl
theorem fnExactGroupHands_facts4 : ((Rows.fnExactGroupHandsRow.inPlace == Tryd.prog.inPlace 6) && (Rows.fnExactGroupHandsRow.unfollowed == Tryd.prog.unfollowed 6) && (Rows.fnExactGroupHandsRow.recurses == Tryd.prog.recurses 6) && (Rows.fnExactGroupHandsRow.named == Tryd.prog.varsNamed 6)) = true := by kernel_rfl
theorem fnExactGroupHands_facts : joinedFacts Tryd.prog 6 Tryd.f6 Rows.fnExactGroupHandsSpec Rows.fnExactGroupHandsRow = true := by
  have h4 := fnExactGroupHands_facts4
  simp only [Bool.and_eq_true] at h4
  unfold joinedFacts
  simp only [Bool.and_eq_true]
  exact ⟨⟨⟨⟨⟨⟨⟨⟨⟨⟨⟨⟨⟨⟨⟨⟨⟨⟨⟨⟨⟨⟨⟨⟨⟨⟨⟨⟨⟨⟨⟨(by kernel_rfl), pf_laidOut⟩, pf_maps⟩, (by kernel_rfl)⟩, (by kernel_rfl)⟩, (by kernel_rfl)⟩, pf_stops⟩, (by kernel_rfl)⟩, pf_knobs⟩, h4.1.1.1⟩, h4.1.1.2⟩, h4.1.2⟩, h4.2⟩, (by kernel_rfl)⟩, (by kernel_rfl)⟩, (by kernel_rfl)⟩, (by kernel_rfl)⟩, (by kernel_rfl)⟩, (by kernel_rfl)⟩, (by kernel_rfl)⟩, (by kernel_rfl)⟩, (by kernel_rfl)⟩, pf_plainKeys⟩, (by kernel_rfl)⟩, pf_heard⟩, pf_enter⟩, pf_lifted⟩, pf_make⟩, (by kernel_rfl)⟩, (by kernel_rfl)⟩, (by kernel_rfl)⟩, (by kernel_rfl)⟩
theorem fnExactGroupHands_instance : Tryd.f6.isInstance Tryd.pinned.checked.prog Rows.fnExactGroupHandsRow.origin Rows.fnExactGroupHandsRow.targs := of_decide_eq_true (by kernel_rfl)
theorem fnExactGroupHands_wrapper : Tryd.f6.isWrapper Tryd.pinned.checked.prog Rows.fnExactGroupHandsRow.wrapper Rows.fnExactGroupHandsRow.mainSum := by
  unfold Func.isWrapper; rw [if_neg (of_decide_eq_false (by kernel_rfl))]; exact ⟨rfl, rfl⟩

theorem fnExactGroupHands_over : Rows.fnExactGroupHandsRow.holds Tryd.pinned (OpenSpec.ofChange Rows.fnExactGroupHandsSpec) :=
  OpenClaim.holds_of_wide 6 Tryd.f6 rfl rfl rfl rfl rfl rfl rfl ⟨rfl, rfl, rfl, rfl, rfl⟩ rfl rfl rfl rfl rfl fnExactGroupHands_named Tryd.func6 fnExactGroupHands_facts
    fnExactGroupHands_instance fnExactGroupHands_wrapper
    (fun os started H enc _ => fnExactGroupHands_lifted os started H enc)

/-- The statement. -/
theorem fnExactGroupHands_proved : Rows.FnExactGroupHandsCardSaid :=
  Claim7.holds_tied_plain_at .later [] [.handle] true (true, "deacf30ac010a04f5145cdec51788bc62896bf0301a7bc8bc2cba2628202078b") true fnExactGroupHands_over (fun _ h => by cases h) (by kernel_rfl) (fun _ h => by cases h) fnExactGroupHands_row_tie rfl ⟨rfl, rfl⟩ (by kernel_rfl) rfl
    (fun f fn hf hfn => by
      obtain rfl : f = 6 := (Option.some.inj (fnExactGroupHands_named.symm.trans hf)).symm
      obtain rfl : fn = Tryd.f6 := (Option.some.inj (Tryd.func6.symm.trans hfn)).symm
      exact ⟨by kernel_rfl, fun j t ht => by
        rw [Tryd.params6] at ht
        have hm : t ∈ [38, 2] := by simpa using Array.mem_of_getElem? ht
        have hall : ([38, 2].all fun u => !Tryd.prog.wantsStandIn u) = true := by kernel_rfl
        exact (show Tryd.prog.wantsStandIn t = false by simpa using List.all_eq_true.1 hall t hm)⟩)
    (by kernel_rfl)
#print axioms fnExactGroupHands_proved
end Go.Proofs.YtjmkbdghenjlaaaDoor
