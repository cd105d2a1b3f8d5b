/- FnExactMatchAt holds for every input: the statement as it is given, with no condition of ours. -/
import Derived.Test.YtcbijfbeapeliaaDoorFacts
import Derived.Test.YtcbijfbeapeliaaDoorMatchAt
import Derived.Test.YtcbijfbeapeliaaDoorOpen
import Derived.Test.YtcbijfbeapeliaaDoorOpenRub
import Derived.ProofKit
import Derived.Test.YtcbijfbeapeliaaDoorErrT
import Derived.Test.YtcbijfbeapeliaaDoorTie
import Derived.Test.YtcbijfbeapeliaaDoorCards
import Derived.LaidMore
import Derived.Lay
import Derived.SevenTiedAt
import Derived.Stop.Joined
import Derived.Test.YtcbijfbeapeliaaDoorCard
import Derived.HandedShaped
import Derived.Shelf.Vars
import Derived.HandedShaped
import Derived.Shelf.Vars
import Derived.OpenShut
import Derived.ShutString
import Derived.ChangeOld
import Derived.Below
namespace Go.Proofs.YtcbijfbeapeliaaDoor
open Go.ChangeShapes Go.WideShapes Go.ChangeAt Go.RowKit
open Go.ChangeMaps (open_string shut_string)

set_option maxRecDepth 100000 in
theorem fnExactMatchAt_lifted (os : Os) (started : os.Started) (H : Type) (enc : TypeId × Value → H) :
    ReturnsInHanded {} Tryd.checked os 4 .any (fun w args => (Rows.fnExactMatchAtSpec.pre enc Tryd.prog Tryd.f4 Rows.fnExactMatchAtRow.domain false w args ∧ laidMetH Tryd.prog Rows.fnExactMatchAtRow.laid w) ∧ sizedMet enc Tryd.prog Tryd.f4 (OpenSpec.ofChange Rows.fnExactMatchAtSpec) false w args) (Rows.fnExactMatchAtSpec.post enc Tryd.prog Tryd.f4 false true false false) := by
  refine returns_listed (C := Tryd.checked) (X := fun w _ => laidMetH Tryd.prog Rows.fnExactMatchAtRow.laid w) (fun _ _ _ hh h => h.of_heap hh) pf_own started (by kernel_rfl) Tryd.func4
    (ChangeSpec.witness_shaped (enc := enc) (C := Tryd.checked) (os := os) (X := fun w _ => laidMetH Tryd.prog Rows.fnExactMatchAtRow.laid w) false (laidWorldE os) #[.agg #[.int .u16 0, .int .u16 0, .int .u16 0, .int .u16 0, .int .u16 0, .int .u16 0, .int .u16 0, .int .u16 0], .agg #[.int .u16 0, .int .u16 0, .int .u16 0, .int .u16 0, .int .u16 0, .int .u16 0, .int .u16 0, .int .u16 0], .int .i64 0, .int .i64 0] 8 rfl (World.shaped_of_ZipB (by kernel_rfl) (by kernel_rfl)) (by kernel_rfl) (by kernel_rfl) (by kernel_rfl) (laidMetH_of_parts (laidMet_nil _ _) (by kernel_rfl))) ?_
  intro W base args ds gs before hval0 hW hcnd hX hsh _
  have hGl : ErrT W := errT_of_laid hX
  have hval : ∀ (j : Nat) t v, Tryd.f4.params[j]? = some t → args[j]? = some v → Value.okWide Tryd.prog W .any base t v := hval0
  have hW' := hW
  obtain ⟨p, q, hA0, hV, rfl, hfz, hnd⟩ := hW
  have hA : DataW.TrodAll enc Tryd.prog W 0 (fun _ => true) true Tryd.f4.params.toList args.toList ds p := hA0
  rw [Tryd.params4] at hA hval
  obtain ⟨v0, vs0, d0, ds0, p0, q0, hargs, rfl, rfl, h0, r0⟩ := trodAll_cons hA
  obtain ⟨v1, vs1, d1, ds1, p1, q1, rfl, rfl, rfl, h1, r1⟩ := trodAll_cons r0
  obtain ⟨v2, vs2, d2, ds2, p2, q2, rfl, rfl, rfl, h2, r2⟩ := trodAll_cons r1
  obtain ⟨v3, vs3, d3, ds3, p3, q3, rfl, rfl, rfl, h3, r3⟩ := trodAll_cons r2
  obtain ⟨rfl, rfl, rfl⟩ := trodAll_nil r3
  obtain rfl : args = #[v0, v1, v2, v3] := by cases args; simp_all
  obtain ⟨rfl, rfl⟩ := trodVars_none hV
  have k0 := h0
  have lt0 : ∀ x ∈ p0, x.block < W.heap.size := by obtain ⟨m, hm⟩ := k0; exact DataW.trod_lt m _ _ _ hm
  have k1 := h1
  have lt1 : ∀ x ∈ p1, x.block < W.heap.size := by obtain ⟨m, hm⟩ := k1; exact DataW.trod_lt m _ _ _ hm
  have k2 := h2
  have lt2 : ∀ x ∈ p2, x.block < W.heap.size := by obtain ⟨m, hm⟩ := k2; exact DataW.trod_lt m _ _ _ hm
  have k3 := h3
  have lt3 : ∀ x ∈ p3, x.block < W.heap.size := by obtain ⟨m, hm⟩ := k3; exact DataW.trod_lt m _ _ _ hm
  obtain ⟨S0, rfl, w0⟩ := open_rubbing (hval 0 23 v0 rfl rfl) h0
  obtain ⟨S1, rfl, w1⟩ := open_rubbing (hval 1 23 v1 rfl rfl) h1
  obtain ⟨a2, rfl, _, _, w2⟩ := open_int Tryd.underlying2 (hval 2 2 v2 rfl rfl) h2
  obtain ⟨a3, rfl, _, _, w3⟩ := open_int Tryd.underlying2 (hval 3 2 v3 rfl rfl) h3
  clear hA0 hval0
  refine (lawMatchAt_any S0 w0 S1 w1 a2 w2 a3 w3 W hGl).mono fun e W' ⟨he, bel⟩ => ?_
  subst he
  exact ⟨_, rfl, _, _, _, [], _, [], hW', trodAll_mk1 (shut_bool Tryd.underlying4 _), (trodAll_cons_mk (Below.trod pf_laidOut (by kernel_rfl) (of_decide_eq_true (by kernel_rfl)) k0 bel lt0) (trodAll_cons_mk (Below.trod pf_laidOut (by kernel_rfl) (of_decide_eq_true (by kernel_rfl)) k1 bel lt1) (trodAll_cons_mk (Below.trod pf_laidOut (by kernel_rfl) (of_decide_eq_true (by kernel_rfl)) k2 bel lt2) (trodAll_cons_mk (Below.trod pf_laidOut (by kernel_rfl) (of_decide_eq_true (by kernel_rfl)) k3 bel lt3) trodAll_mk0)))), rfl, bel.frame _, fun h => by cases h⟩

theorem fnExactMatchAt_named : Tryd.pinned.checked.prog.funcNamed Rows.fnExactMatchAtRow.func = some 4 := by kernel_rfl
theorem fnExactMatchAt_facts4 : ((Rows.fnExactMatchAtRow.inPlace == Tryd.prog.inPlace 4) && (Rows.fnExactMatchAtRow.unfollowed == Tryd.prog.unfollowed 4) && (Rows.fnExactMatchAtRow.recurses == Tryd.prog.recurses 4) && (Rows.fnExactMatchAtRow.named == Tryd.prog.varsNamed 4)) = true := by kernel_rfl
theorem fnExactMatchAt_facts : joinedFacts Tryd.prog 4 Tryd.f4 Rows.fnExactMatchAtSpec Rows.fnExactMatchAtRow = true := by
  have h4 := fnExactMatchAt_facts4
  simp only [Bool.and_eq_true] at h4
  unfold joinedFacts
  simp only [Bool.and_eq_true]
  exact ⟨⟨⟨⟨⟨⟨⟨⟨⟨⟨⟨⟨⟨⟨⟨⟨⟨⟨⟨⟨⟨⟨⟨⟨⟨⟨⟨⟨⟨⟨⟨(by kernel_rfl), pf_laidOut⟩, pf_maps⟩, (by kernel_rfl)⟩, (by kernel_rfl)⟩, (by kernel_rfl)⟩, pf_stops⟩, (by kernel_rfl)⟩, pf_knobs⟩, h4.1.1.1⟩, h4.1.1.2⟩, h4.1.2⟩, h4.2⟩, (by kernel_rfl)⟩, (by kernel_rfl)⟩, (by kernel_rfl)⟩, (by kernel_rfl)⟩, (by kernel_rfl)⟩, (by kernel_rfl)⟩, (by kernel_rfl)⟩, (by kernel_rfl)⟩, (by kernel_rfl)⟩, pf_plainKeys⟩, (by kernel_rfl)⟩, pf_heard⟩, pf_enter⟩, pf_lifted⟩, pf_make⟩, (by kernel_rfl)⟩, (by kernel_rfl)⟩, (by kernel_rfl)⟩, (by kernel_rfl)⟩
theorem fnExactMatchAt_instance : Tryd.f4.isInstance Tryd.pinned.checked.prog Rows.fnExactMatchAtRow.origin Rows.fnExactMatchAtRow.targs := of_decide_eq_true (by kernel_rfl)
theorem fnExactMatchAt_wrapper : Tryd.f4.isWrapper Tryd.pinned.checked.prog Rows.fnExactMatchAtRow.wrapper Rows.fnExactMatchAtRow.mainSum := by
  unfold Func.isWrapper; rw [if_neg (of_decide_eq_false (by kernel_rfl))]; exact ⟨rfl, rfl⟩

theorem fnExactMatchAt_over : Rows.fnExactMatchAtRow.holds Tryd.pinned (OpenSpec.ofChange Rows.fnExactMatchAtSpec) :=
  OpenClaim.holds_of_wide 4 Tryd.f4 rfl rfl rfl rfl rfl rfl rfl ⟨rfl, rfl, rfl, rfl, rfl⟩ rfl rfl rfl rfl rfl fnExactMatchAt_named Tryd.func4 fnExactMatchAt_facts
    fnExactMatchAt_instance fnExactMatchAt_wrapper
    (fun os started H enc _ => fnExactMatchAt_lifted os started H enc)

/-- The statement. -/
theorem fnExactMatchAt_proved : Rows.FnExactMatchAtCardSaid :=
  Claim7.holds_tied_plain_at .later [] [.handle] true (true, "543b7f1da95beaeac8a4890fd30391e6870cc2a2e371e05d3a3f2f09a5431ea1") true fnExactMatchAt_over (fun _ h => by cases h) (by kernel_rfl) (fun _ h => by cases h) fnExactMatchAt_row_tie rfl ⟨rfl, rfl⟩ (by kernel_rfl) rfl
    (fun f fn hf hfn => by
      obtain rfl : f = 4 := (Option.some.inj (fnExactMatchAt_named.symm.trans hf)).symm
      obtain rfl : fn = Tryd.f4 := (Option.some.inj (Tryd.func4.symm.trans hfn)).symm
      exact ⟨by kernel_rfl, fun j t ht => by
        rw [Tryd.params4] at ht
        have hm : t ∈ [23, 23, 2, 2] := by simpa using Array.mem_of_getElem? ht
        have hall : ([23, 23, 2, 2].all fun u => !Tryd.prog.wantsStandIn u) = true := by kernel_rfl
        exact (show Tryd.prog.wantsStandIn t = false by simpa using List.all_eq_true.1 hall t hm)⟩)
    (by kernel_rfl)
#print axioms fnExactMatchAt_proved
end Go.Proofs.YtcbijfbeapeliaaDoor
