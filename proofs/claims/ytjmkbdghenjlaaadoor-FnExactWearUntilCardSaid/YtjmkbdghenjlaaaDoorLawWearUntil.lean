/- FnExactWearUntil holds for every input: the statement as it is given, with no condition of ours. -/
import Derived.Test.YtjmkbdghenjlaaaDoorFacts
import Derived.Test.YtjmkbdghenjlaaaDoorWearUntil
import Derived.Test.YtjmkbdghenjlaaaDoorOpen
import Derived.Test.YtjmkbdghenjlaaaDoorOpenRub
import Derived.ProofKit
import Derived.Test.YtjmkbdghenjlaaaDoorErrT
import Derived.Test.YtjmkbdghenjlaaaDoorTie
import Derived.Test.YtjmkbdghenjlaaaDoorCards
import Derived.LaidMore
import Derived.Lay
import Derived.SevenTiedAt
import Derived.Stop.Joined
import Derived.Test.YtjmkbdghenjlaaaDoorCard
import Derived.HandedShaped
import Derived.Shelf.Vars
import Derived.HandedShaped
import Derived.Shelf.Vars
import Derived.OpenShut
import Derived.ShutString
import Derived.ChangeOld
import Derived.Below
namespace Go.Proofs.YtjmkbdghenjlaaaDoor
open Go.ChangeShapes Go.WideShapes Go.ChangeAt Go.RowKit
open Go.ChangeMaps (open_string shut_string)

set_option maxRecDepth 100000 in
theorem fnExactWearUntil_lifted (os : Os) (started : os.Started) (H : Type) (enc : TypeId × Value → H) :
    ReturnsInHanded {} Tryd.checked os 4 .any (fun w args => (Rows.fnExactWearUntilSpec.pre enc Tryd.prog Tryd.f4 Rows.fnExactWearUntilRow.domain false w args ∧ laidMetH Tryd.prog Rows.fnExactWearUntilRow.laid w) ∧ sizedMet enc Tryd.prog Tryd.f4 (OpenSpec.ofChange Rows.fnExactWearUntilSpec) false w args) (Rows.fnExactWearUntilSpec.post enc Tryd.prog Tryd.f4 false true false false) := by
  refine returns_listed (C := Tryd.checked) (X := fun w _ => laidMetH Tryd.prog Rows.fnExactWearUntilRow.laid w) (fun _ _ _ hh h => h.of_heap hh) pf_own started (by kernel_rfl) Tryd.func4
    (ChangeSpec.witness_shaped (enc := enc) (C := Tryd.checked) (os := os) (X := fun w _ => laidMetH Tryd.prog Rows.fnExactWearUntilRow.laid w) false (laidWorldE os) #[.agg #[.int .u16 0, .int .u16 0, .int .u16 0, .int .u16 0, .int .u16 0, .int .u16 0, .int .u16 0, .int .u16 0], .int .i64 0, .int .i64 0] 8 rfl (World.shaped_of_ZipB (by kernel_rfl) (by kernel_rfl)) (by kernel_rfl) (by kernel_rfl) (by kernel_rfl) (laidMetH_of_parts (laidMet_nil _ _) (by kernel_rfl))) ?_
  intro W base args ds gs before hval0 hW hcnd hX hsh _
  have hGl : ErrT W := errT_of_laid hX
  have hval : ∀ (j : Nat) t v, Tryd.f4.params[j]? = some t → args[j]? = some v → Value.okWide Tryd.prog W .any base t v := hval0
  have hW' := hW
  obtain ⟨p, q, hA0, hV, rfl, hfz, hnd⟩ := hW
  have hA : DataW.TrodAll enc Tryd.prog W 0 (fun _ => true) true Tryd.f4.params.toList args.toList ds p := hA0
  rw [Tryd.params4] at hA hval
  obtain ⟨v0, vs0, d0, ds0, p0, q0, hargs, rfl, rfl, h0, r0⟩ := trodAll_cons hA
  obtain ⟨v1, vs1, d1, ds1, p1, q1, rfl, rfl, rfl, h1, r1⟩ := trodAll_cons r0
  obtain ⟨v2, vs2, d2, ds2, p2, q2, rfl, rfl, rfl, h2, r2⟩ := trodAll_cons r1
  obtain ⟨rfl, rfl, rfl⟩ := trodAll_nil r2
  obtain rfl : args = #[v0, v1, v2] := by cases args; simp_all
  obtain ⟨rfl, rfl⟩ := trodVars_none hV
  have k0 := h0
  have lt0 : ∀ x ∈ p0, x.block < W.heap.size := by obtain ⟨m, hm⟩ := k0; exact DataW.trod_lt m _ _ _ hm
  have k1 := h1
  have lt1 : ∀ x ∈ p1, x.block < W.heap.size := by obtain ⟨m, hm⟩ := k1; exact DataW.trod_lt m _ _ _ hm
  have k2 := h2
  have lt2 : ∀ x ∈ p2, x.block < W.heap.size := by obtain ⟨m, hm⟩ := k2; exact DataW.trod_lt m _ _ _ hm
  obtain ⟨S0, rfl, w0⟩ := open_rubbing (hval 0 25 v0 rfl rfl) h0
  obtain ⟨a1, rfl, _, _, w1⟩ := open_int Tryd.underlying2 (hval 1 2 v1 rfl rfl) h1
  obtain ⟨a2, rfl, _, _, w2⟩ := open_int Tryd.underlying2 (hval 2 2 v2 rfl rfl) h2
  clear hA0 hval0
  refine (lawWearUntil_any S0 w0 a1 w1 a2 w2 W hGl).mono fun e W' ⟨he, bel⟩ => ?_
  subst he
  exact ⟨_, rfl, _, _, _, [], _, [], hW', trodAll_mk1 (shut_bool Tryd.underlying4 _), (trodAll_cons_mk (Below.trod pf_laidOut (by kernel_rfl) (of_decide_eq_true (by kernel_rfl)) k0 bel lt0) (trodAll_cons_mk (Below.trod pf_laidOut (by kernel_rfl) (of_decide_eq_true (by kernel_rfl)) k1 bel lt1) (trodAll_cons_mk (Below.trod pf_laidOut (by kernel_rfl) (of_decide_eq_true (by kernel_rfl)) k2 bel lt2) trodAll_mk0))), rfl, bel.frame _, fun h => by cases h⟩

theorem fnExactWearUntil_named : Tryd.pinned.checked.prog.funcNamed Rows.fnExactWearUntilRow.func = some 4 := by kernel_rfl
theorem fnExactWearUntil_facts4 : ((Rows.fnExactWearUntilRow.inPlace == Tryd.prog.inPlace 4) && (Rows.fnExactWearUntilRow.unfollowed == Tryd.prog.unfollowed 4) && (Rows.fnExactWearUntilRow.recurses == Tryd.prog.recurses 4) && (Rows.fnExactWearUntilRow.named == Tryd.prog.varsNamed 4)) = true := by kernel_rfl
theorem fnExactWearUntil_facts : joinedFacts Tryd.prog 4 Tryd.f4 Rows.fnExactWearUntilSpec Rows.fnExactWearUntilRow = true := by
  have h4 := fnExactWearUntil_facts4
  simp only [Bool.and_eq_true] at h4
  unfold joinedFacts
  simp only [Bool.and_eq_true]
  exact ⟨⟨⟨⟨⟨⟨⟨⟨⟨⟨⟨⟨⟨⟨⟨⟨⟨⟨⟨⟨⟨⟨⟨⟨⟨⟨⟨⟨⟨⟨⟨(by kernel_rfl), pf_laidOut⟩, pf_maps⟩, (by kernel_rfl)⟩, (by kernel_rfl)⟩, (by kernel_rfl)⟩, pf_stops⟩, (by kernel_rfl)⟩, pf_knobs⟩, h4.1.1.1⟩, h4.1.1.2⟩, h4.1.2⟩, h4.2⟩, (by kernel_rfl)⟩, (by kernel_rfl)⟩, (by kernel_rfl)⟩, (by kernel_rfl)⟩, (by kernel_rfl)⟩, (by kernel_rfl)⟩, (by kernel_rfl)⟩, (by kernel_rfl)⟩, (by kernel_rfl)⟩, pf_plainKeys⟩, (by kernel_rfl)⟩, pf_heard⟩, pf_enter⟩, pf_lifted⟩, pf_make⟩, (by kernel_rfl)⟩, (by kernel_rfl)⟩, (by kernel_rfl)⟩, (by kernel_rfl)⟩
theorem fnExactWearUntil_instance : Tryd.f4.isInstance Tryd.pinned.checked.prog Rows.fnExactWearUntilRow.origin Rows.fnExactWearUntilRow.targs := of_decide_eq_true (by kernel_rfl)
theorem fnExactWearUntil_wrapper : Tryd.f4.isWrapper Tryd.pinned.checked.prog Rows.fnExactWearUntilRow.wrapper Rows.fnExactWearUntilRow.mainSum := by
  unfold Func.isWrapper; rw [if_neg (of_decide_eq_false (by kernel_rfl))]; exact ⟨rfl, rfl⟩

theorem fnExactWearUntil_over : Rows.fnExactWearUntilRow.holds Tryd.pinned (OpenSpec.ofChange Rows.fnExactWearUntilSpec) :=
  OpenClaim.holds_of_wide 4 Tryd.f4 rfl rfl rfl rfl rfl rfl rfl ⟨rfl, rfl, rfl, rfl, rfl⟩ rfl rfl rfl rfl rfl fnExactWearUntil_named Tryd.func4 fnExactWearUntil_facts
    fnExactWearUntil_instance fnExactWearUntil_wrapper
    (fun os started H enc _ => fnExactWearUntil_lifted os started H enc)

/-- The statement. -/
theorem fnExactWearUntil_proved : Rows.FnExactWearUntilCardSaid :=
  Claim7.holds_tied_plain_at .later [] [.handle] true (true, "deacf30ac010a04f5145cdec51788bc62896bf0301a7bc8bc2cba2628202078b") true fnExactWearUntil_over (fun _ h => by cases h) (by kernel_rfl) (fun _ h => by cases h) fnExactWearUntil_row_tie rfl ⟨rfl, rfl⟩ (by kernel_rfl) rfl
    (fun f fn hf hfn => by
      obtain rfl : f = 4 := (Option.some.inj (fnExactWearUntil_named.symm.trans hf)).symm
      obtain rfl : fn = Tryd.f4 := (Option.some.inj (Tryd.func4.symm.trans hfn)).symm
      exact ⟨by kernel_rfl, fun j t ht => by
        rw [Tryd.params4] at ht
        have hm : t ∈ [25, 2, 2] := by simpa using Array.mem_of_getElem? ht
        have hall : ([25, 2, 2].all fun u => !Tryd.prog.wantsStandIn u) = true := by kernel_rfl
        exact (show Tryd.prog.wantsStandIn t = false by simpa using List.all_eq_true.1 hall t hm)⟩)
    (by kernel_rfl)
#print axioms fnExactWearUntil_proved
end Go.Proofs.YtjmkbdghenjlaaaDoor
