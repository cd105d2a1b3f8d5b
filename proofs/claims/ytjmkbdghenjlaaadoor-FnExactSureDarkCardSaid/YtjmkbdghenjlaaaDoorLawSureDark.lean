/- FnExactSureDark holds for every input: the statement as it is given, with no condition of ours. -/
import Derived.Test.YtjmkbdghenjlaaaDoorFacts
import Derived.Test.YtjmkbdghenjlaaaDoorSureDark
import Derived.Test.YtjmkbdghenjlaaaDoorOpen
import Derived.Test.YtjmkbdghenjlaaaDoorOpenRubs
import Derived.ProofKit
import Derived.Test.YtjmkbdghenjlaaaDoorErrT
import Derived.Test.YtjmkbdghenjlaaaDoorTie
import Derived.Test.YtjmkbdghenjlaaaDoorCards
import Derived.LaidMore
import Derived.Lay
import Derived.SevenTiedAt
import Derived.Stop.Joined
import Derived.Test.YtjmkbdghenjlaaaDoorCard
import Derived.HandedShaped
import Derived.Shelf.Vars
import Derived.HandedShaped
import Derived.Shelf.Vars
import Derived.OpenShut
import Derived.ShutString
import Derived.ChangeOld
import Derived.Below
namespace Go.Proofs.YtjmkbdghenjlaaaDoor
open Go.ChangeShapes Go.WideShapes Go.ChangeAt Go.RowKit
open Go.ChangeMaps (open_string shut_string)

set_option maxRecDepth 100000 in
theorem fnExactSureDark_lifted (os : Os) (started : os.Started) (H : Type) (enc : TypeId × Value → H) :
    ReturnsInHanded {} Tryd.checked os 3 .any (fun w args => (Rows.fnExactSureDarkSpec.pre enc Tryd.prog Tryd.f3 Rows.fnExactSureDarkRow.domain false w args ∧ laidMetH Tryd.prog Rows.fnExactSureDarkRow.laid w) ∧ sizedMet enc Tryd.prog Tryd.f3 (OpenSpec.ofChange Rows.fnExactSureDarkSpec) false w args) (Rows.fnExactSureDarkSpec.post enc Tryd.prog Tryd.f3 false true false false) := by
  refine returns_listed (C := Tryd.checked) (X := fun w _ => laidMetH Tryd.prog Rows.fnExactSureDarkRow.laid w) (fun _ _ _ hh h => h.of_heap hh) pf_own started (by kernel_rfl) Tryd.func3
    (ChangeSpec.witness_shaped (enc := enc) (C := Tryd.checked) (os := os) (X := fun w _ => laidMetH Tryd.prog Rows.fnExactSureDarkRow.laid w) false (laidWorldE os) #[.slice none 0 0, .int .i64 0] 8 rfl (World.shaped_of_ZipB (by kernel_rfl) (by kernel_rfl)) (by kernel_rfl) (by kernel_rfl) (by kernel_rfl) (laidMetH_of_parts (laidMet_nil _ _) (by kernel_rfl))) ?_
  intro W base args ds gs before hval0 hW hcnd hX hsh _
  have hGl : ErrT W := errT_of_laid hX
  have hval : ∀ (j : Nat) t v, Tryd.f3.params[j]? = some t → args[j]? = some v → Value.okWide Tryd.prog W .any base t v := hval0
  have hW' := hW
  obtain ⟨p, q, hA0, hV, rfl, hfz, hnd⟩ := hW
  have hA : DataW.TrodAll enc Tryd.prog W 0 (fun _ => true) true Tryd.f3.params.toList args.toList ds p := hA0
  rw [Tryd.params3] at hA hval
  obtain ⟨v0, vs0, d0, ds0, p0, q0, hargs, rfl, rfl, h0, r0⟩ := trodAll_cons hA
  obtain ⟨v1, vs1, d1, ds1, p1, q1, rfl, rfl, rfl, h1, r1⟩ := trodAll_cons r0
  obtain ⟨rfl, rfl, rfl⟩ := trodAll_nil r1
  obtain rfl : args = #[v0, v1] := by cases args; simp_all
  obtain ⟨rfl, rfl⟩ := trodVars_none hV
  have k0 := h0
  have lt0 : ∀ x ∈ p0, x.block < W.heap.size := by obtain ⟨m, hm⟩ := k0; exact DataW.trod_lt m _ _ _ hm
  have k1 := h1
  have lt1 : ∀ x ∈ p1, x.block < W.heap.size := by obtain ⟨m, hm⟩ := k1; exact DataW.trod_lt m _ _ _ hm
  obtain ⟨A0, xs0, cap0, rfl, hn0, hx0, hF0⟩ := open_rubbings (hval 0 22 v0 rfl rfl) h0
  obtain ⟨a1, rfl, _, _, w1⟩ := open_int Tryd.underlying2 (hval 1 2 v1 rfl rfl) h1
  clear hA0 hval0
  refine (lawSureDark_any A0 xs0 cap0 hn0 hx0 a1 w1 W hGl hF0).mono fun e W' ⟨he, bel⟩ => ?_
  subst he
  exact ⟨_, rfl, _, _, _, [], _, [], hW', trodAll_mk1 (shut_bool Tryd.underlying4 _), (trodAll_cons_mk (Below.trod pf_laidOut (by kernel_rfl) (of_decide_eq_true (by kernel_rfl)) k0 bel lt0) (trodAll_cons_mk (Below.trod pf_laidOut (by kernel_rfl) (of_decide_eq_true (by kernel_rfl)) k1 bel lt1) trodAll_mk0)), rfl, bel.frame _, fun h => by cases h⟩

theorem fnExactSureDark_named : Tryd.pinned.checked.prog.funcNamed Rows.fnExactSureDarkRow.func = some 3 := by kernel_rfl
theorem fnExactSureDark_facts4 : ((Rows.fnExactSureDarkRow.inPlace == Tryd.prog.inPlace 3) && (Rows.fnExactSureDarkRow.unfollowed == Tryd.prog.unfollowed 3) && (Rows.fnExactSureDarkRow.recurses == Tryd.prog.recurses 3) && (Rows.fnExactSureDarkRow.named == Tryd.prog.varsNamed 3)) = true := by kernel_rfl
theorem fnExactSureDark_facts : joinedFacts Tryd.prog 3 Tryd.f3 Rows.fnExactSureDarkSpec Rows.fnExactSureDarkRow = true := by
  have h4 := fnExactSureDark_facts4
  simp only [Bool.and_eq_true] at h4
  unfold joinedFacts
  simp only [Bool.and_eq_true]
  exact ⟨⟨⟨⟨⟨⟨⟨⟨⟨⟨⟨⟨⟨⟨⟨⟨⟨⟨⟨⟨⟨⟨⟨⟨⟨⟨⟨⟨⟨⟨⟨(by kernel_rfl), pf_laidOut⟩, pf_maps⟩, (by kernel_rfl)⟩, (by kernel_rfl)⟩, (by kernel_rfl)⟩, pf_stops⟩, (by kernel_rfl)⟩, pf_knobs⟩, h4.1.1.1⟩, h4.1.1.2⟩, h4.1.2⟩, h4.2⟩, (by kernel_rfl)⟩, (by kernel_rfl)⟩, (by kernel_rfl)⟩, (by kernel_rfl)⟩, (by kernel_rfl)⟩, (by kernel_rfl)⟩, (by kernel_rfl)⟩, (by kernel_rfl)⟩, (by kernel_rfl)⟩, pf_plainKeys⟩, (by kernel_rfl)⟩, pf_heard⟩, pf_enter⟩, pf_lifted⟩, pf_make⟩, (by kernel_rfl)⟩, (by kernel_rfl)⟩, (by kernel_rfl)⟩, (by kernel_rfl)⟩
theorem fnExactSureDark_instance : Tryd.f3.isInstance Tryd.pinned.checked.prog Rows.fnExactSureDarkRow.origin Rows.fnExactSureDarkRow.targs := of_decide_eq_true (by kernel_rfl)
theorem fnExactSureDark_wrapper : Tryd.f3.isWrapper Tryd.pinned.checked.prog Rows.fnExactSureDarkRow.wrapper Rows.fnExactSureDarkRow.mainSum := by
  unfold Func.isWrapper; rw [if_neg (of_decide_eq_false (by kernel_rfl))]; exact ⟨rfl, rfl⟩

theorem fnExactSureDark_over : Rows.fnExactSureDarkRow.holds Tryd.pinned (OpenSpec.ofChange Rows.fnExactSureDarkSpec) :=
  OpenClaim.holds_of_wide 3 Tryd.f3 rfl rfl rfl rfl rfl rfl rfl ⟨rfl, rfl, rfl, rfl, rfl⟩ rfl rfl rfl rfl rfl fnExactSureDark_named Tryd.func3 fnExactSureDark_facts
    fnExactSureDark_instance fnExactSureDark_wrapper
    (fun os started H enc _ => fnExactSureDark_lifted os started H enc)

/-- The statement. -/
theorem fnExactSureDark_proved : Rows.FnExactSureDarkCardSaid :=
  Claim7.holds_tied_plain_at .later [] [.handle] true (true, "deacf30ac010a04f5145cdec51788bc62896bf0301a7bc8bc2cba2628202078b") true fnExactSureDark_over (fun _ h => by cases h) (by kernel_rfl) (fun _ h => by cases h) fnExactSureDark_row_tie rfl ⟨rfl, rfl⟩ (by kernel_rfl) rfl
    (fun f fn hf hfn => by
      obtain rfl : f = 3 := (Option.some.inj (fnExactSureDark_named.symm.trans hf)).symm
      obtain rfl : fn = Tryd.f3 := (Option.some.inj (Tryd.func3.symm.trans hfn)).symm
      exact ⟨by kernel_rfl, fun j t ht => by
        rw [Tryd.params3] at ht
        have hm : t ∈ [22, 2] := by simpa using Array.mem_of_getElem? ht
        have hall : ([22, 2].all fun u => !Tryd.prog.wantsStandIn u) = true := by kernel_rfl
        exact (show Tryd.prog.wantsStandIn t = false by simpa using List.all_eq_true.1 hall t hm)⟩)
    (by kernel_rfl)
#print axioms fnExactSureDark_proved
end Go.Proofs.YtjmkbdghenjlaaaDoor
