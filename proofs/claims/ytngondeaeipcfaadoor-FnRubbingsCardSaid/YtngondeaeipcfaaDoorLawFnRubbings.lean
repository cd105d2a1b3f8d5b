/- FnRubbings holds for every input: the statement as it is given, with no condition of ours. -/
import Derived.Test.YtngondeaeipcfaaDoorFacts
import Derived.Test.YtngondeaeipcfaaDoorFnR
import Derived.Test.YtngondeaeipcfaaDoorOpen
import Derived.Test.YtngondeaeipcfaaDoorOpenBytes
import Derived.ProofKit
import Derived.Test.YtngondeaeipcfaaDoorErrT
import Derived.Test.YtngondeaeipcfaaDoorTie
import Derived.Test.YtngondeaeipcfaaDoorCards
import Derived.LaidMore
import Derived.Lay
import Derived.SevenTiedAt
import Derived.Stop.Joined
import Derived.Test.YtngondeaeipcfaaDoorCard
import Derived.HandedShaped
import Derived.Shelf.Vars
import Derived.HandedShaped
import Derived.Shelf.Vars
import Derived.OpenShut
import Derived.ShutString
import Derived.ChangeOld
import Derived.Below
namespace Go.Proofs.YtngondeaeipcfaaDoor
open Go.ChangeShapes Go.WideShapes Go.ChangeAt Go.RowKit
open Go.ChangeMaps (open_string shut_string)

set_option maxRecDepth 100000 in
theorem fnRubbings_lifted (os : Os) (started : os.Started) (H : Type) (enc : TypeId × Value → H) :
    ReturnsInHanded {} Tryd.checked os 3 .any (fun w args => (Rows.fnRubbingsSpec.pre enc Tryd.prog Tryd.f3 Rows.fnRubbingsRow.domain false w args ∧ laidMetH Tryd.prog Rows.fnRubbingsRow.laid w) ∧ sizedMet enc Tryd.prog Tryd.f3 (OpenSpec.ofChange Rows.fnRubbingsSpec) false w args) (Rows.fnRubbingsSpec.post enc Tryd.prog Tryd.f3 false true false false) := by
  refine returns_listed (C := Tryd.checked) (X := fun w _ => laidMetH Tryd.prog Rows.fnRubbingsRow.laid w) (fun _ _ _ hh h => h.of_heap hh) pf_own started (by kernel_rfl) Tryd.func3
    (ChangeSpec.witness_shaped (enc := enc) (C := Tryd.checked) (os := os) (X := fun w _ => laidMetH Tryd.prog Rows.fnRubbingsRow.laid w) false (laidWorldE os) #[.slice none 0 0, .slice none 0 0] 8 rfl (World.shaped_of_ZipB (by kernel_rfl) (by kernel_rfl)) (by kernel_rfl) (by kernel_rfl) (by kernel_rfl) (laidMetH_of_parts (laidMet_nil _ _) (by kernel_rfl))) ?_
  intro W base args ds gs before hval0 hW hcnd hX hsh _
  have hGl : ErrT W := errT_of_laid hX
  have hval : ∀ (j : Nat) t v, Tryd.f3.params[j]? = some t → args[j]? = some v → Value.okWide Tryd.prog W .any base t v := hval0
  have hW' := hW
  obtain ⟨p, q, hA0, hV, rfl, hfz, hnd⟩ := hW
  have hA : DataW.TrodAll enc Tryd.prog W 0 (fun _ => true) true Tryd.f3.params.toList args.toList ds p := hA0
  rw [Tryd.params3] at hA hval
  obtain ⟨v0, vs0, d0, ds0, p0, q0, hargs, rfl, rfl, h0, r0⟩ := trodAll_cons hA
  obtain ⟨v1, vs1, d1, ds1, p1, q1, rfl, rfl, rfl, h1, r1⟩ := trodAll_cons r0
  obtain ⟨rfl, rfl, rfl⟩ := trodAll_nil r1
  obtain rfl : args = #[v0, v1] := by cases args; simp_all
  obtain ⟨rfl, rfl⟩ := trodVars_none hV
  have k0 := h0
  have lt0 : ∀ x ∈ p0, x.block < W.heap.size := by obtain ⟨m, hm⟩ := k0; exact DataW.trod_lt m _ _ _ hm
  have k1 := h1
  have lt1 : ∀ x ∈ p1, x.block < W.heap.size := by obtain ⟨m, hm⟩ := k1; exact DataW.trod_lt m _ _ _ hm
  obtain ⟨A0, xs0, cap0, rfl, hn0, hx0, hF0⟩ := open_u8s (hval 0 22 v0 rfl rfl) h0
  obtain ⟨A1, xs1, cap1, rfl, hn1, hx1, hF1⟩ := open_u8s (hval 1 22 v1 rfl rfl) h1
  clear hA0 hval0
  refine (lawFnRubbings_any A0 xs0 cap0 hn0 hx0 A1 xs1 cap1 hn1 hx1 W hGl hF0 hF1).mono fun e W' ⟨he, bel⟩ => ?_
  subst he
  exact ⟨_, rfl, _, _, _, [], _, [], hW', trodAll_mk1 (shut_bool Tryd.underlying4 _), (trodAll_cons_mk (Below.trod pf_laidOut (by kernel_rfl) (of_decide_eq_true (by kernel_rfl)) k0 bel lt0) (trodAll_cons_mk (Below.trod pf_laidOut (by kernel_rfl) (of_decide_eq_true (by kernel_rfl)) k1 bel lt1) trodAll_mk0)), rfl, bel.frame _, fun h => by cases h⟩

theorem fnRubbings_named : Tryd.pinned.checked.prog.funcNamed Rows.fnRubbingsRow.func = some 3 := by kernel_rfl
theorem fnRubbings_facts4 : ((Rows.fnRubbingsRow.inPlace == Tryd.prog.inPlace 3) && (Rows.fnRubbingsRow.unfollowed == Tryd.prog.unfollowed 3) && (Rows.fnRubbingsRow.recurses == Tryd.prog.recurses 3) && (Rows.fnRubbingsRow.named == Tryd.prog.varsNamed 3)) = true := by kernel_rfl
theorem fnRubbings_facts : joinedFacts Tryd.prog 3 Tryd.f3 Rows.fnRubbingsSpec Rows.fnRubbingsRow = true := by
  have h4 := fnRubbings_facts4
  simp only [Bool.and_eq_true] at h4
  unfold joinedFacts
  simp only [Bool.and_eq_true]
  exact ⟨⟨⟨⟨⟨⟨⟨⟨⟨⟨⟨⟨⟨⟨⟨⟨⟨⟨⟨⟨⟨⟨⟨⟨⟨⟨⟨⟨⟨⟨⟨(by kernel_rfl), pf_laidOut⟩, pf_maps⟩, (by kernel_rfl)⟩, (by kernel_rfl)⟩, (by kernel_rfl)⟩, pf_stops⟩, (by kernel_rfl)⟩, pf_knobs⟩, h4.1.1.1⟩, h4.1.1.2⟩, h4.1.2⟩, h4.2⟩, (by kernel_rfl)⟩, (by kernel_rfl)⟩, (by kernel_rfl)⟩, (by kernel_rfl)⟩, (by kernel_rfl)⟩, (by kernel_rfl)⟩, (by kernel_rfl)⟩, (by kernel_rfl)⟩, (by kernel_rfl)⟩, pf_plainKeys⟩, (by kernel_rfl)⟩, pf_heard⟩, pf_enter⟩, pf_lifted⟩, pf_make⟩, (by kernel_rfl)⟩, (by kernel_rfl)⟩, (by kernel_rfl)⟩, (by kernel_rfl)⟩
theorem fnRubbings_instance : Tryd.f3.isInstance Tryd.pinned.checked.prog Rows.fnRubbingsRow.origin Rows.fnRubbingsRow.targs := of_decide_eq_true (by kernel_rfl)
theorem fnRubbings_wrapper : Tryd.f3.isWrapper Tryd.pinned.checked.prog Rows.fnRubbingsRow.wrapper Rows.fnRubbingsRow.mainSum := by
  unfold Func.isWrapper; rw [if_neg (of_decide_eq_false (by kernel_rfl))]; exact ⟨rfl, rfl⟩

theorem fnRubbings_over : Rows.fnRubbingsRow.holds Tryd.pinned (OpenSpec.ofChange Rows.fnRubbingsSpec) :=
  OpenClaim.holds_of_wide 3 Tryd.f3 rfl rfl rfl rfl rfl rfl rfl ⟨rfl, rfl, rfl, rfl, rfl⟩ rfl rfl rfl rfl rfl fnRubbings_named Tryd.func3 fnRubbings_facts
    fnRubbings_instance fnRubbings_wrapper
    (fun os started H enc _ => fnRubbings_lifted os started H enc)

/-- The statement. -/
theorem fnRubbings_proved : Rows.FnRubbingsCardSaid :=
  Claim7.holds_tied_plain_at .later [] [.handle] true (true, "c45647b369fc6d0ae09534926dec52555996c64264d95905a6bc510399084e53") true fnRubbings_over (fun _ h => by cases h) (by kernel_rfl) (fun _ h => by cases h) fnRubbings_row_tie rfl ⟨rfl, rfl⟩ (by kernel_rfl) rfl
    (fun f fn hf hfn => by
      obtain rfl : f = 3 := (Option.some.inj (fnRubbings_named.symm.trans hf)).symm
      obtain rfl : fn = Tryd.f3 := (Option.some.inj (Tryd.func3.symm.trans hfn)).symm
      exact ⟨by kernel_rfl, fun j t ht => by
        rw [Tryd.params3] at ht
        have hm : t ∈ [22, 22] := by simpa using Array.mem_of_getElem? ht
        have hall : ([22, 22].all fun u => !Tryd.prog.wantsStandIn u) = true := by kernel_rfl
        exact (show Tryd.prog.wantsStandIn t = false by simpa using List.all_eq_true.1 hall t hm)⟩)
    (by kernel_rfl)
#print axioms fnRubbings_proved
end Go.Proofs.YtngondeaeipcfaaDoor
