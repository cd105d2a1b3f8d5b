/- FnExactRecutPrice holds for every input: the statement as it is given, with no condition of ours. -/
import Derived.Test.YtngondeaeipcfaaGreatDoorFacts
import Derived.Test.YtngondeaeipcfaaGreatDoorRecutPrice
import Derived.Test.YtngondeaeipcfaaGreatDoorOpen
import Derived.Test.YtngondeaeipcfaaGreatDoorOpenGold
import Derived.ProofKit
import Derived.Test.YtngondeaeipcfaaGreatDoorTie
import Derived.Test.YtngondeaeipcfaaGreatDoorCards
import Derived.LaidMore
import Derived.Lay
import Derived.SevenTiedAt
import Derived.Stop.Joined
import Derived.Test.YtngondeaeipcfaaGreatDoorCard
import Derived.HandedShaped
import Derived.Shelf.Vars
import Derived.HandedShaped
import Derived.Shelf.Vars
import Derived.OpenShut
import Derived.ShutString
import Derived.ChangeOld
import Derived.Below
namespace Go.Proofs.YtngondeaeipcfaaGreatDoor
open Go.ChangeShapes Go.WideShapes Go.ChangeAt Go.RowKit
open Go.ChangeMaps (open_string shut_string)

set_option maxRecDepth 100000 in
theorem fnExactRecutPrice_lifted (os : Os) (started : os.Started) (H : Type) (enc : TypeId × Value → H) :
    ReturnsInHanded {} Tryz.checked os 7 .any (fun w args => (Rows.fnExactRecutPriceSpec.pre enc Tryz.prog Tryz.f7 Rows.fnExactRecutPriceRow.domain false w args ∧ laidMetH Tryz.prog Rows.fnExactRecutPriceRow.laid w) ∧ sizedMet enc Tryz.prog Tryz.f7 (OpenSpec.ofChange Rows.fnExactRecutPriceSpec) false w args) (Rows.fnExactRecutPriceSpec.post enc Tryz.prog Tryz.f7 false true false false) := by
  refine returns_listed (C := Tryz.checked) (X := fun w _ => laidMetH Tryz.prog Rows.fnExactRecutPriceRow.laid w) (fun _ _ _ hh h => h.of_heap hh) pf_own started (by kernel_rfl) Tryz.func7
    (ChangeSpec.witness_shaped (enc := enc) (C := Tryz.checked) (os := os) (X := fun w _ => laidMetH Tryz.prog Rows.fnExactRecutPriceRow.laid w) false (World.laidAll Tryz.prog os Rows.fnExactRecutPriceRow.laid) #[.agg #[.int .i8 0, .int .i8 0, .int .i8 0, .int .i8 0, .int .i8 0, .int .i8 0, .int .i8 0, .int .i8 0, .int .i8 0, .int .i8 0, .int .i8 0, .int .i8 0, .int .i8 0, .int .i8 0, .int .i8 0, .int .i8 0, .int .i8 0, .int .i8 0, .int .i8 0, .int .i8 0, .int .i8 0, .int .i8 0, .int .i8 0, .int .i8 0, .int .i8 0, .int .i8 0, .int .i8 0, .int .i8 0, .slice none 0 0], .agg #[.int .i16 0, .int .i16 0, .int .i16 0, .int .i16 0, .int .i16 0, .int .i16 0, .int .i16 0, .int .i16 0, .int .i16 0, .int .i16 0, .int .i16 0, .int .i16 0, .int .i16 0, .int .i16 0, .int .i16 0, .int .i16 0, .int .i16 0, .int .i16 0, .int .i16 0, .int .i16 0, .int .i16 0, .int .i16 0, .int .i16 0, .int .i16 0, .int .i16 0, .int .i16 0, .int .i16 0, .int .i16 0, .int .i16 0], .string ⟨#[]⟩, .string ⟨#[]⟩] 8 (World.laidAll_os _ _ _)
      (World.shaped_of_ZipB (by kernel_rfl) (by kernel_rfl)) (by kernel_rfl) (by kernel_rfl) (by kernel_rfl)
      (by rw [MakeChecks.laidMetH_plain _ _ _ (by kernel_rfl)]; exact laidMet_laidAll _ (by kernel_rfl) (by kernel_rfl))) ?_
  intro W base args ds gs before hval0 hW hcnd _ hsh _
  have hGl : Glob W := cell_of_shapedOpen_int (zero := #[.int .i64 0]) (t := 3) hsh (of_decide_eq_true (by kernel_rfl)) (by kernel_rfl) rfl (by kernel_rfl) (by kernel_rfl) Tryz.underlying3
  have hval : ∀ (j : Nat) t v, Tryz.f7.params[j]? = some t → args[j]? = some v → Value.okWide Tryz.prog W .any base t v := hval0
  have hW' := hW
  obtain ⟨p, q, hA0, hV, rfl, hfz, hnd⟩ := hW
  have hA : DataW.TrodAll enc Tryz.prog W 0 (fun _ => true) true Tryz.f7.params.toList args.toList ds p := hA0
  rw [Tryz.params7] at hA hval
  obtain ⟨v0, vs0, d0, ds0, p0, q0, hargs, rfl, rfl, h0, r0⟩ := trodAll_cons hA
  obtain ⟨v1, vs1, d1, ds1, p1, q1, rfl, rfl, rfl, h1, r1⟩ := trodAll_cons r0
  obtain ⟨v2, vs2, d2, ds2, p2, q2, rfl, rfl, rfl, h2, r2⟩ := trodAll_cons r1
  obtain ⟨v3, vs3, d3, ds3, p3, q3, rfl, rfl, rfl, h3, r3⟩ := trodAll_cons r2
  obtain ⟨rfl, rfl, rfl⟩ := trodAll_nil r3
  obtain rfl : args = #[v0, v1, v2, v3] := by cases args; simp_all
  obtain ⟨rfl, rfl⟩ := trodVars_none hV
  have k0 := h0
  have lt0 : ∀ x ∈ p0, x.block < W.heap.size := by obtain ⟨m, hm⟩ := k0; exact DataW.trod_lt m _ _ _ hm
  have k1 := h1
  have lt1 : ∀ x ∈ p1, x.block < W.heap.size := by obtain ⟨m, hm⟩ := k1; exact DataW.trod_lt m _ _ _ hm
  have k2 := h2
  have lt2 : ∀ x ∈ p2, x.block < W.heap.size := by obtain ⟨m, hm⟩ := k2; exact DataW.trod_lt m _ _ _ hm
  have k3 := h3
  have lt3 : ∀ x ∈ p3, x.block < W.heap.size := by obtain ⟨m, hm⟩ := k3; exact DataW.trod_lt m _ _ _ hm
  obtain ⟨F0, A0, cap0, rfl, w0, hF0⟩ := open_face (hval 0 97 v0 rfl rfl) h0
  obtain ⟨S1, rfl, w1, wx1⟩ := open_prices (hval 1 98 v1 rfl rfl) h1
  obtain ⟨a2, rfl, _, _, w2⟩ := open_string Tryz.underlying9 (hval 2 9 v2 rfl rfl) h2
  obtain ⟨a3, rfl, _, _, w3⟩ := open_string Tryz.underlying9 (hval 3 9 v3 rfl rfl) h3
  clear hA0 hval0
  refine (lawRecutPrice_any F0 w0 A0 cap0 S1 w1 wx1 a2 w2 a3 w3 W hGl hF0).mono fun e W' ⟨he, bel⟩ => ?_
  subst he
  exact ⟨_, rfl, _, _, _, [], _, [], hW', trodAll_mk1 (shut_bool Tryz.underlying4 _), (trodAll_cons_mk (Below.trod pf_laidOut (by kernel_rfl) (of_decide_eq_true (by kernel_rfl)) k0 bel lt0) (trodAll_cons_mk (Below.trod pf_laidOut (by kernel_rfl) (of_decide_eq_true (by kernel_rfl)) k1 bel lt1) (trodAll_cons_mk (Below.trod pf_laidOut (by kernel_rfl) (of_decide_eq_true (by kernel_rfl)) k2 bel lt2) (trodAll_cons_mk (Below.trod pf_laidOut (by kernel_rfl) (of_decide_eq_true (by kernel_rfl)) k3 bel lt3) trodAll_mk0)))), rfl, bel.frame _, fun h => by cases h⟩

theorem fnExactRecutPrice_named : Tryz.pinned.checked.prog.funcNamed Rows.fnExactRecutPriceRow.func = some 7 := by kernel_rfl
theorem fnExactRecutPrice_facts4 : ((Rows.fnExactRecutPriceRow.inPlace == Tryz.prog.inPlace 7) && (Rows.fnExactRecutPriceRow.unfollowed == Tryz.prog.unfollowed 7) && (Rows.fnExactRecutPriceRow.recurses == Tryz.prog.recurses 7) && (Rows.fnExactRecutPriceRow.named == Tryz.prog.varsNamed 7)) = true := by kernel_rfl
theorem fnExactRecutPrice_facts : joinedFacts Tryz.prog 7 Tryz.f7 Rows.fnExactRecutPriceSpec Rows.fnExactRecutPriceRow = true := by
  have h4 := fnExactRecutPrice_facts4
  simp only [Bool.and_eq_true] at h4
  unfold joinedFacts
  simp only [Bool.and_eq_true]
  exact ⟨⟨⟨⟨⟨⟨⟨⟨⟨⟨⟨⟨⟨⟨⟨⟨⟨⟨⟨⟨⟨⟨⟨⟨⟨⟨⟨⟨⟨⟨⟨(by kernel_rfl), pf_laidOut⟩, pf_maps⟩, (by kernel_rfl)⟩, (by kernel_rfl)⟩, (by kernel_rfl)⟩, pf_stops⟩, (by kernel_rfl)⟩, pf_knobs⟩, h4.1.1.1⟩, h4.1.1.2⟩, h4.1.2⟩, h4.2⟩, (by kernel_rfl)⟩, (by kernel_rfl)⟩, (by kernel_rfl)⟩, (by kernel_rfl)⟩, (by kernel_rfl)⟩, (by kernel_rfl)⟩, (by kernel_rfl)⟩, (by kernel_rfl)⟩, (by kernel_rfl)⟩, pf_plainKeys⟩, (by kernel_rfl)⟩, pf_heard⟩, pf_enter⟩, pf_lifted⟩, pf_make⟩, (by kernel_rfl)⟩, (by kernel_rfl)⟩, (by kernel_rfl)⟩, (by kernel_rfl)⟩
theorem fnExactRecutPrice_instance : Tryz.f7.isInstance Tryz.pinned.checked.prog Rows.fnExactRecutPriceRow.origin Rows.fnExactRecutPriceRow.targs := of_decide_eq_true (by kernel_rfl)
theorem fnExactRecutPrice_wrapper : Tryz.f7.isWrapper Tryz.pinned.checked.prog Rows.fnExactRecutPriceRow.wrapper Rows.fnExactRecutPriceRow.mainSum := by
  unfold Func.isWrapper; rw [if_neg (of_decide_eq_false (by kernel_rfl))]; exact ⟨rfl, rfl⟩

theorem fnExactRecutPrice_over : Rows.fnExactRecutPriceRow.holds Tryz.pinned (OpenSpec.ofChange Rows.fnExactRecutPriceSpec) :=
  OpenClaim.holds_of_wide 7 Tryz.f7 rfl rfl rfl rfl rfl rfl rfl ⟨rfl, rfl, rfl, rfl, rfl⟩ rfl rfl rfl rfl rfl fnExactRecutPrice_named Tryz.func7 fnExactRecutPrice_facts
    fnExactRecutPrice_instance fnExactRecutPrice_wrapper
    (fun os started H enc _ => fnExactRecutPrice_lifted os started H enc)

/-- The statement. -/
theorem fnExactRecutPrice_proved : Rows.FnExactRecutPriceCardSaid :=
  Claim7.holds_tied_plain_at .later [] [.data, .pinned] true (true, "8ec31db7322f916bc040b53ef4313919b8f37249126a30eaed934098febe0291") true fnExactRecutPrice_over (fun _ h => by cases h) (by kernel_rfl) (fun _ h => by cases h) fnExactRecutPrice_row_tie rfl ⟨rfl, rfl⟩ (by kernel_rfl) rfl
    (fun f fn hf hfn => by
      obtain rfl : f = 7 := (Option.some.inj (fnExactRecutPrice_named.symm.trans hf)).symm
      obtain rfl : fn = Tryz.f7 := (Option.some.inj (Tryz.func7.symm.trans hfn)).symm
      exact ⟨by kernel_rfl, fun j t ht => by
        rw [Tryz.params7] at ht
        have hm : t ∈ [97, 98, 9, 9] := by simpa using Array.mem_of_getElem? ht
        have hall : ([97, 98, 9, 9].all fun u => !Tryz.prog.wantsStandIn u) = true := by kernel_rfl
        exact (show Tryz.prog.wantsStandIn t = false by simpa using List.all_eq_true.1 hall t hm)⟩)
    (by kernel_rfl)
#print axioms fnExactRecutPrice_proved
end Go.Proofs.YtngondeaeipcfaaGreatDoor
