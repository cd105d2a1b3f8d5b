/- FnExactPricesText holds for every input: the statement as it is given, with no condition of ours. -/
import Derived.Test.YtjmkbdghenjlaaaDoorFacts
import Derived.Test.YtjmkbdghenjlaaaDoorPricesText
import Derived.Test.YtjmkbdghenjlaaaDoorOpen
import Derived.Test.YtjmkbdghenjlaaaDoorOpenGold
import Derived.ProofKit
import Derived.Test.YtjmkbdghenjlaaaDoorPow
import Derived.Test.YtjmkbdghenjlaaaDoorTie
import Derived.Test.YtjmkbdghenjlaaaDoorCards
import Derived.LaidMore
import Derived.Lay
import Derived.SevenTiedAt
import Derived.Stop.Joined
import Derived.Test.YtjmkbdghenjlaaaDoorCard
import Derived.HandedShaped
import Derived.Shelf.Vars
import Derived.HandedShaped
import Derived.Shelf.Vars
import Derived.OpenShut
import Derived.ShutString
import Derived.ChangeOld
import Derived.Below
namespace Go.Proofs.YtjmkbdghenjlaaaDoor
open Go.ChangeShapes Go.WideShapes Go.ChangeAt Go.RowKit
open Go.ChangeMaps (open_string shut_string)

set_option maxRecDepth 100000 in
theorem fnExactPricesText_lifted (os : Os) (started : os.Started) (H : Type) (enc : TypeId × Value → H) :
    ReturnsInHanded {} Tryd.checked os 7 .any (fun w args => (Rows.fnExactPricesTextSpec.pre enc Tryd.prog Tryd.f7 Rows.fnExactPricesTextRow.domain false w args ∧ laidMetH Tryd.prog Rows.fnExactPricesTextRow.laid w) ∧ sizedMet enc Tryd.prog Tryd.f7 (OpenSpec.ofChange Rows.fnExactPricesTextSpec) false w args) (Rows.fnExactPricesTextSpec.post enc Tryd.prog Tryd.f7 false true false false) := by
  refine returns_listed (C := Tryd.checked) (X := fun w _ => laidMetH Tryd.prog Rows.fnExactPricesTextRow.laid w) (fun _ _ _ hh h => h.of_heap hh) pf_own started (by kernel_rfl) Tryd.func7
    (ChangeSpec.witness_shaped (enc := enc) (C := Tryd.checked) (os := os) (X := fun w _ => laidMetH Tryd.prog Rows.fnExactPricesTextRow.laid w) false (World.laidAll Tryd.prog os Rows.fnExactPricesTextRow.laid) #[.agg #[.int .i16 0, .int .i16 0, .int .i16 0, .int .i16 0, .int .i16 0, .int .i16 0, .int .i16 0, .int .i16 0, .int .i16 0, .int .i16 0, .int .i16 0, .int .i16 0, .int .i16 0, .int .i16 0, .int .i16 0, .int .i16 0, .int .i16 0, .int .i16 0, .int .i16 0, .int .i16 0, .int .i16 0, .int .i16 0, .int .i16 0, .int .i16 0, .int .i16 0, .int .i16 0, .int .i16 0, .int .i16 0, .int .i16 0]] 8 (World.laidAll_os _ _ _)
      (World.shaped_of_ZipB (by kernel_rfl) (by kernel_rfl)) (by kernel_rfl) (by kernel_rfl) (by kernel_rfl)
      (by rw [MakeChecks.laidMetH_plain _ _ _ (by kernel_rfl)]; exact laidMet_laidAll _ (by kernel_rfl) (by kernel_rfl))) ?_
  intro W base args ds gs before hval0 hW hcnd hX hsh _
  have hGl : PowT W := pow_of_laid hX
  have hval : ∀ (j : Nat) t v, Tryd.f7.params[j]? = some t → args[j]? = some v → Value.okWide Tryd.prog W .any base t v := hval0
  have hW' := hW
  obtain ⟨p, q, hA0, hV, rfl, hfz, hnd⟩ := hW
  have hA : DataW.TrodAll enc Tryd.prog W 0 (fun _ => true) true Tryd.f7.params.toList args.toList ds p := hA0
  rw [Tryd.params7] at hA hval
  obtain ⟨v0, vs0, d0, ds0, p0, q0, hargs, rfl, rfl, h0, r0⟩ := trodAll_cons hA
  obtain ⟨rfl, rfl, rfl⟩ := trodAll_nil r0
  obtain rfl : args = #[v0] := by cases args; simp_all
  obtain ⟨rfl, rfl⟩ := trodVars_none hV
  have k0 := h0
  have lt0 : ∀ x ∈ p0, x.block < W.heap.size := by obtain ⟨m, hm⟩ := k0; exact DataW.trod_lt m _ _ _ hm
  obtain ⟨S0, rfl, w0, wx0⟩ := open_prices (hval 0 55 v0 rfl rfl) h0
  clear hA0 hval0
  refine (lawPricesText_any S0 w0 wx0 W hGl).mono fun e W' ⟨he, bel⟩ => ?_
  subst he
  exact ⟨_, rfl, _, _, _, [], _, [], hW', trodAll_mk1 (shut_bool Tryd.underlying4 _), (trodAll_cons_mk (Below.trod pf_laidOut (by kernel_rfl) (of_decide_eq_true (by kernel_rfl)) k0 bel lt0) trodAll_mk0), rfl, bel.frame _, fun h => by cases h⟩

theorem fnExactPricesText_named : Tryd.pinned.checked.prog.funcNamed Rows.fnExactPricesTextRow.func = some 7 := by kernel_rfl
theorem fnExactPricesText_facts4 : ((Rows.fnExactPricesTextRow.inPlace == Tryd.prog.inPlace 7) && (Rows.fnExactPricesTextRow.unfollowed == Tryd.prog.unfollowed 7) && (Rows.fnExactPricesTextRow.recurses == Tryd.prog.recurses 7) && (Rows.fnExactPricesTextRow.named == Tryd.prog.varsNamed 7)) = true := by kernel_rfl
theorem fnExactPricesText_facts : joinedFacts Tryd.prog 7 Tryd.f7 Rows.fnExactPricesTextSpec Rows.fnExactPricesTextRow = true := by
  have h4 := fnExactPricesText_facts4
  simp only [Bool.and_eq_true] at h4
  unfold joinedFacts
  simp only [Bool.and_eq_true]
  exact ⟨⟨⟨⟨⟨⟨⟨⟨⟨⟨⟨⟨⟨⟨⟨⟨⟨⟨⟨⟨⟨⟨⟨⟨⟨⟨⟨⟨⟨⟨⟨(by kernel_rfl), pf_laidOut⟩, pf_maps⟩, (by kernel_rfl)⟩, (by kernel_rfl)⟩, (by kernel_rfl)⟩, pf_stops⟩, (by kernel_rfl)⟩, pf_knobs⟩, h4.1.1.1⟩, h4.1.1.2⟩, h4.1.2⟩, h4.2⟩, (by kernel_rfl)⟩, (by kernel_rfl)⟩, (by kernel_rfl)⟩, (by kernel_rfl)⟩, (by kernel_rfl)⟩, (by kernel_rfl)⟩, (by kernel_rfl)⟩, (by kernel_rfl)⟩, (by kernel_rfl)⟩, pf_plainKeys⟩, (by kernel_rfl)⟩, pf_heard⟩, pf_enter⟩, pf_lifted⟩, pf_make⟩, (by kernel_rfl)⟩, (by kernel_rfl)⟩, (by kernel_rfl)⟩, (by kernel_rfl)⟩
theorem fnExactPricesText_instance : Tryd.f7.isInstance Tryd.pinned.checked.prog Rows.fnExactPricesTextRow.origin Rows.fnExactPricesTextRow.targs := of_decide_eq_true (by kernel_rfl)
theorem fnExactPricesText_wrapper : Tryd.f7.isWrapper Tryd.pinned.checked.prog Rows.fnExactPricesTextRow.wrapper Rows.fnExactPricesTextRow.mainSum := by
  unfold Func.isWrapper; rw [if_neg (of_decide_eq_false (by kernel_rfl))]; exact ⟨rfl, rfl⟩

theorem fnExactPricesText_over : Rows.fnExactPricesTextRow.holds Tryd.pinned (OpenSpec.ofChange Rows.fnExactPricesTextSpec) :=
  OpenClaim.holds_of_wide 7 Tryd.f7 rfl rfl rfl rfl rfl rfl rfl ⟨rfl, rfl, rfl, rfl, rfl⟩ rfl rfl rfl rfl rfl fnExactPricesText_named Tryd.func7 fnExactPricesText_facts
    fnExactPricesText_instance fnExactPricesText_wrapper
    (fun os started H enc _ => fnExactPricesText_lifted os started H enc)

/-- The statement. -/
theorem fnExactPricesText_proved : Rows.FnExactPricesTextCardSaid :=
  Claim7.holds_tied_plain_at .later [] [.data, .data, .data] true (true, "deacf30ac010a04f5145cdec51788bc62896bf0301a7bc8bc2cba2628202078b") true fnExactPricesText_over (fun _ h => by cases h) (by kernel_rfl) (fun _ h => by cases h) fnExactPricesText_row_tie rfl ⟨rfl, rfl⟩ (by kernel_rfl) rfl
    (fun f fn hf hfn => by
      obtain rfl : f = 7 := (Option.some.inj (fnExactPricesText_named.symm.trans hf)).symm
      obtain rfl : fn = Tryd.f7 := (Option.some.inj (Tryd.func7.symm.trans hfn)).symm
      exact ⟨by kernel_rfl, fun j t ht => by
        rw [Tryd.params7] at ht
        have hm : t ∈ [55] := by simpa using Array.mem_of_getElem? ht
        have hall : ([55].all fun u => !Tryd.prog.wantsStandIn u) = true := by kernel_rfl
        exact (show Tryd.prog.wantsStandIn t = false by simpa using List.all_eq_true.1 hall t hm)⟩)
    (by kernel_rfl)
#print axioms fnExactPricesText_proved
end Go.Proofs.YtjmkbdghenjlaaaDoor
