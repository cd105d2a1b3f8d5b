/- FnExactCheapestOf holds for every input: the statement as it is given, with no condition of ours. -/
import Derived.Test.YtjgcadohjccfaaaDoorFacts
import Derived.Test.YtjgcadohjccfaaaDoorCheapestOf
import Derived.Test.YtjgcadohjccfaaaDoorOpenStrs
import Derived.Test.YtjgcadohjccfaaaDoorOpenGold
import Derived.ProofKit
import Derived.Test.YtjgcadohjccfaaaDoorTie
import Derived.Test.YtjgcadohjccfaaaDoorCards
import Derived.LaidMore
import Derived.Lay
import Derived.SevenTiedAt
import Derived.Stop.Joined
import Derived.Test.YtjgcadohjccfaaaDoorCard
import Derived.HandedShaped
import Derived.Shelf.Vars
import Derived.HandedShaped
import Derived.Shelf.Vars
import Derived.OpenShut
import Derived.ShutString
import Derived.ChangeOld
import Derived.Below
namespace Go.Proofs.YtjgcadohjccfaaaDoor
open Go.ChangeShapes Go.WideShapes Go.ChangeAt Go.RowKit
open Go.ChangeMaps (open_string shut_string)

set_option maxRecDepth 100000 in
theorem fnExactCheapestOf_lifted (os : Os) (started : os.Started) (H : Type) (enc : TypeId × Value → H) :
    ReturnsInHanded {} Tryd.checked os 5 .any (fun w args => (Rows.fnExactCheapestOfSpec.pre enc Tryd.prog Tryd.f5 Rows.fnExactCheapestOfRow.domain false w args ∧ laidMetH Tryd.prog Rows.fnExactCheapestOfRow.laid w) ∧ sizedMet enc Tryd.prog Tryd.f5 (OpenSpec.ofChange Rows.fnExactCheapestOfSpec) false w args) (Rows.fnExactCheapestOfSpec.post enc Tryd.prog Tryd.f5 false true false false) := by
  refine returns_listed (C := Tryd.checked) (X := fun w _ => laidMetH Tryd.prog Rows.fnExactCheapestOfRow.laid w) (fun _ _ _ hh h => h.of_heap hh) pf_own started (by kernel_rfl) Tryd.func5
    (ChangeSpec.witness_shaped (enc := enc) (C := Tryd.checked) (os := os) (X := fun w _ => laidMetH Tryd.prog Rows.fnExactCheapestOfRow.laid w) false (World.laidAll Tryd.prog os Rows.fnExactCheapestOfRow.laid) #[.agg #[.int .i8 0, .int .i8 0, .int .i8 0, .int .i8 0, .int .i8 0, .int .i8 0, .int .i8 0, .int .i8 0, .int .i8 0, .int .i8 0, .int .i8 0, .int .i8 0, .int .i8 0, .int .i8 0, .int .i8 0, .int .i8 0, .int .i8 0, .int .i8 0, .int .i8 0, .int .i8 0, .int .i8 0, .int .i8 0, .int .i8 0, .int .i8 0, .int .i8 0, .int .i8 0, .int .i8 0, .int .i8 0, .slice none 0 0], .agg #[.int .i16 0, .int .i16 0, .int .i16 0, .int .i16 0, .int .i16 0, .int .i16 0, .int .i16 0, .int .i16 0, .int .i16 0, .int .i16 0, .int .i16 0, .int .i16 0, .int .i16 0, .int .i16 0, .int .i16 0, .int .i16 0, .int .i16 0, .int .i16 0, .int .i16 0, .int .i16 0, .int .i16 0, .int .i16 0, .int .i16 0, .int .i16 0, .int .i16 0, .int .i16 0, .int .i16 0, .int .i16 0, .int .i16 0], .slice none 0 0] 8 (World.laidAll_os _ _ _)
      (World.shaped_of_ZipB (by kernel_rfl) (by kernel_rfl)) (by kernel_rfl) (by kernel_rfl) (by kernel_rfl)
      (by rw [MakeChecks.laidMetH_plain _ _ _ (by kernel_rfl)]; exact laidMet_laidAll _ (by kernel_rfl) (by kernel_rfl))) ?_
  intro W base args ds gs before hval0 hW hcnd _ hsh _
  have hGl : Glob W := cell_of_shapedOpen_int (zero := #[.int .i64 0]) (t := 3) hsh (of_decide_eq_true (by kernel_rfl)) (by kernel_rfl) rfl (by kernel_rfl) (by kernel_rfl) Tryd.underlying3
  have hval : ∀ (j : Nat) t v, Tryd.f5.params[j]? = some t → args[j]? = some v → Value.okWide Tryd.prog W .any base t v := hval0
  have hW' := hW
  obtain ⟨p, q, hA0, hV, rfl, hfz, hnd⟩ := hW
  have hA : DataW.TrodAll enc Tryd.prog W 0 (fun _ => true) true Tryd.f5.params.toList args.toList ds p := hA0
  rw [Tryd.params5] at hA hval
  obtain ⟨v0, vs0, d0, ds0, p0, q0, hargs, rfl, rfl, h0, r0⟩ := trodAll_cons hA
  obtain ⟨v1, vs1, d1, ds1, p1, q1, rfl, rfl, rfl, h1, r1⟩ := trodAll_cons r0
  obtain ⟨v2, vs2, d2, ds2, p2, q2, rfl, rfl, rfl, h2, r2⟩ := trodAll_cons r1
  obtain ⟨rfl, rfl, rfl⟩ := trodAll_nil r2
  obtain rfl : args = #[v0, v1, v2] := by cases args; simp_all
  obtain ⟨rfl, rfl⟩ := trodVars_none hV
  have k0 := h0
  have lt0 : ∀ x ∈ p0, x.block < W.heap.size := by obtain ⟨m, hm⟩ := k0; exact DataW.trod_lt m _ _ _ hm
  have k1 := h1
  have lt1 : ∀ x ∈ p1, x.block < W.heap.size := by obtain ⟨m, hm⟩ := k1; exact DataW.trod_lt m _ _ _ hm
  have k2 := h2
  have lt2 : ∀ x ∈ p2, x.block < W.heap.size := by obtain ⟨m, hm⟩ := k2; exact DataW.trod_lt m _ _ _ hm
  obtain ⟨F0, A0, cap0, rfl, w0, hF0⟩ := open_face (hval 0 26 v0 rfl rfl) h0
  obtain ⟨S1, rfl, w1, wx1⟩ := open_prices (hval 1 30 v1 rfl rfl) h1
  obtain ⟨A2, xs2, cap2, rfl, hn2, hx2, hF2⟩ := open_strs (hval 2 44 v2 rfl rfl) h2
  clear hA0 hval0
  refine (lawCheapestOf_any F0 w0 A0 cap0 S1 w1 wx1 A2 xs2 cap2 hn2 hx2 W hGl hF0 hF2).mono fun e W' ⟨he, bel⟩ => ?_
  subst he
  exact ⟨_, rfl, _, _, _, [], _, [], hW', trodAll_mk1 (shut_bool Tryd.underlying4 _), (trodAll_cons_mk (Below.trod pf_laidOut (by kernel_rfl) (of_decide_eq_true (by kernel_rfl)) k0 bel lt0) (trodAll_cons_mk (Below.trod pf_laidOut (by kernel_rfl) (of_decide_eq_true (by kernel_rfl)) k1 bel lt1) (trodAll_cons_mk (Below.trod pf_laidOut (by kernel_rfl) (of_decide_eq_true (by kernel_rfl)) k2 bel lt2) trodAll_mk0))), rfl, bel.frame _, fun h => by cases h⟩

theorem fnExactCheapestOf_named : Tryd.pinned.checked.prog.funcNamed Rows.fnExactCheapestOfRow.func = some 5 := by kernel_rfl
theorem fnExactCheapestOf_facts4 : ((Rows.fnExactCheapestOfRow.inPlace == Tryd.prog.inPlace 5) && (Rows.fnExactCheapestOfRow.unfollowed == Tryd.prog.unfollowed 5) && (Rows.fnExactCheapestOfRow.recurses == Tryd.prog.recurses 5) && (Rows.fnExactCheapestOfRow.named == Tryd.prog.varsNamed 5)) = true := by kernel_rfl
theorem fnExactCheapestOf_facts : joinedFacts Tryd.prog 5 Tryd.f5 Rows.fnExactCheapestOfSpec Rows.fnExactCheapestOfRow = true := by
  have h4 := fnExactCheapestOf_facts4
  simp only [Bool.and_eq_true] at h4
  unfold joinedFacts
  simp only [Bool.and_eq_true]
  exact ⟨⟨⟨⟨⟨⟨⟨⟨⟨⟨⟨⟨⟨⟨⟨⟨⟨⟨⟨⟨⟨⟨⟨⟨⟨⟨⟨⟨⟨⟨⟨(by kernel_rfl), pf_laidOut⟩, pf_maps⟩, (by kernel_rfl)⟩, (by kernel_rfl)⟩, (by kernel_rfl)⟩, pf_stops⟩, (by kernel_rfl)⟩, pf_knobs⟩, h4.1.1.1⟩, h4.1.1.2⟩, h4.1.2⟩, h4.2⟩, (by kernel_rfl)⟩, (by kernel_rfl)⟩, (by kernel_rfl)⟩, (by kernel_rfl)⟩, (by kernel_rfl)⟩, (by kernel_rfl)⟩, (by kernel_rfl)⟩, (by kernel_rfl)⟩, (by kernel_rfl)⟩, pf_plainKeys⟩, (by kernel_rfl)⟩, pf_heard⟩, pf_enter⟩, pf_lifted⟩, pf_make⟩, (by kernel_rfl)⟩, (by kernel_rfl)⟩, (by kernel_rfl)⟩, (by kernel_rfl)⟩
theorem fnExactCheapestOf_instance : Tryd.f5.isInstance Tryd.pinned.checked.prog Rows.fnExactCheapestOfRow.origin Rows.fnExactCheapestOfRow.targs := of_decide_eq_true (by kernel_rfl)
theorem fnExactCheapestOf_wrapper : Tryd.f5.isWrapper Tryd.pinned.checked.prog Rows.fnExactCheapestOfRow.wrapper Rows.fnExactCheapestOfRow.mainSum := by
  unfold Func.isWrapper; rw [if_neg (of_decide_eq_false (by kernel_rfl))]; exact ⟨rfl, rfl⟩

theorem fnExactCheapestOf_over : Rows.fnExactCheapestOfRow.holds Tryd.pinned (OpenSpec.ofChange Rows.fnExactCheapestOfSpec) :=
  OpenClaim.holds_of_wide 5 Tryd.f5 rfl rfl rfl rfl rfl rfl rfl ⟨rfl, rfl, rfl, rfl, rfl⟩ rfl rfl rfl rfl rfl fnExactCheapestOf_named Tryd.func5 fnExactCheapestOf_facts
    fnExactCheapestOf_instance fnExactCheapestOf_wrapper
    (fun os started H enc _ => fnExactCheapestOf_lifted os started H enc)

/-- The statement. -/
theorem fnExactCheapestOf_proved : Rows.FnExactCheapestOfCardSaid :=
  Claim7.holds_tied_plain_at .later [] [.data, .pinned] true (true, "2367a9b5d30c738bdb562959bfa760724aa51a5ee077ef242c225716cb49883c") true fnExactCheapestOf_over (fun _ h => by cases h) (by kernel_rfl) (fun _ h => by cases h) fnExactCheapestOf_row_tie rfl ⟨rfl, rfl⟩ (by kernel_rfl) rfl
    (fun f fn hf hfn => by
      obtain rfl : f = 5 := (Option.some.inj (fnExactCheapestOf_named.symm.trans hf)).symm
      obtain rfl : fn = Tryd.f5 := (Option.some.inj (Tryd.func5.symm.trans hfn)).symm
      exact ⟨by kernel_rfl, fun j t ht => by
        rw [Tryd.params5] at ht
        have hm : t ∈ [26, 30, 44] := by simpa using Array.mem_of_getElem? ht
        have hall : ([26, 30, 44].all fun u => !Tryd.prog.wantsStandIn u) = true := by kernel_rfl
        exact (show Tryd.prog.wantsStandIn t = false by simpa using List.all_eq_true.1 hall t hm)⟩)
    (by kernel_rfl)
#print axioms fnExactCheapestOf_proved
end Go.Proofs.YtjgcadohjccfaaaDoor
