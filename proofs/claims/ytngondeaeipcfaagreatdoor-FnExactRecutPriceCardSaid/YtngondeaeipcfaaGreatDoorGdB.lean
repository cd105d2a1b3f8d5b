/- Prices: whether they are as they have to be, of both. -/
import Derived.Test.YtngondeaeipcfaaGreatDoorGdA
import Derived.Test.YtngondeaeipcfaaGreatDoorGs
import Derived.LoopTactic
namespace Go.Proofs.YtngondeaeipcfaaGreatDoor
open Go Go.RowKit

/-! The model -/
set_option maxRecDepth 100000 in
set_option maxHeartbeats 4000000 in
theorem l06Prices_any (P : List Int) (hP : P.length = 29) (hx : ∀ x ∈ P, i16ok x) (b : Nat) (w : World) (hr : w.rangeAt b 0 (pw P)) :
    Calls Tryz.prog 194 #[.pointer (some ⟨b, 0, none⟩)] w fun e w' => e = .returned (.bool (vprc P)) ∧ w = w' := by
  have HW := hide hP
  have HX := hide hx
  clear hx
  generalize hR : vprc P = R
  have HS := hide hR
  clear hR hP
  go_enter Tryz.func194, Tryz.ntmps194
  go_wp2
  go_loop [3] (fun i => ∃ k : Nat, k ≤ 26 ∧ i = .int .i64 k ∧ Hid (∀ j, j < k → inB (P.getD j 0) 0 1000 = true)) (fun i => 26 - (intOf i).toNat)
  case atStart => exact ⟨0, by omega, rfl, hide (fun j hj => by omega)⟩
  case round =>
    obtain ⟨k, hk, rfl, hall⟩ := hrel
    by_cases hlt : k < 26
    · have hc := rangeAt_cell hr (pw_get (k := k) (by rw [HW.out]; omega))
      have hi : (k : Int) < 26 := by omega
      have h0 : (0 : Int) ≤ k := by omega
      obtain ⟨wk1, wk2⟩ := pw_at HX.out k
      obtain ⟨x, hxx⟩ : ∃ x, P.getD k 0 = x := ⟨_, rfl⟩
      have HXX := hide hxx
      rw [hxx] at hc wk1 wk2
      clear hxx
      cases hv : inB x 0 1000
      · go_wp2_with (go_at_call 119; refine (l00In_any _ _ _ _).mono ?_; rintro e w' ⟨rfl, rfl⟩; simp only [hv])
        go_ret
        exact ⟨ret_bool (by rw [← HS.out]; exact (vprc_false (k := k) (by rw [HW.out]; omega) (by rw [HXX.out]; exact hv)).symm), rfl⟩
      · go_wp2_with (go_at_call 119; refine (l00In_any _ _ _ _).mono ?_; rintro e w' ⟨rfl, rfl⟩; simp only [hv])
        exact ⟨⟨k + 1, by omega, by go_num, hide (fun j hj => by
          by_cases e : j = k
          · subst e; rw [HXX.out]; exact hv
          · exact hall.out j (by omega))⟩, by simp [intOf]; omega⟩
    · obtain rfl : k = 26 := by omega
      have c26 := rangeAt_cell hr (pw_get (k := 26) (by rw [HW.out]; omega))
      have c27 := rangeAt_cell hr (pw_get (k := 27) (by rw [HW.out]; omega))
      have c28 := rangeAt_cell hr (pw_get (k := 28) (by rw [HW.out]; omega))
      obtain ⟨a1, a2⟩ := pw_at HX.out 26
      obtain ⟨b1, b2⟩ := pw_at HX.out 27
      obtain ⟨d1, d2⟩ := pw_at HX.out 28
      have HF := hide (fun k (hk : k < 29) h => vprc_false (P := P) (k := k) (by rw [HW.out]; exact hk) h)
      have HT := hide (fun h => vprc_true (P := P) (n := 29) HW.out h)
      obtain ⟨x, hxx⟩ : ∃ x, P.getD 26 0 = x := ⟨_, rfl⟩
      obtain ⟨y, hyy⟩ : ∃ y, P.getD 27 0 = y := ⟨_, rfl⟩
      obtain ⟨z, hzz⟩ : ∃ z, P.getD 28 0 = z := ⟨_, rfl⟩
      have HXX := hide hxx
      have HYY := hide hyy
      have HZZ := hide hzz
      rw [hxx] at c26 a1 a2
      rw [hyy] at c27 b1 b2
      rw [hzz] at c28 d1 d2
      clear hxx hyy hzz hr
      cases hv : inB x 0 1000
      · go_wp2_with (go_at_call 119; refine (l00In_any _ _ _ _).mono ?_; rintro e w' ⟨rfl, rfl⟩; simp only [hv])
        go_ret
        exact ⟨ret_bool (by rw [← HS.out]; exact (HF.out 26 (by omega) (by rw [HXX.out]; exact hv)).symm), rfl⟩
      · cases hv2 : inB y 0 1000
        · go_wp2_with (go_at_call 119; refine (l00In_any _ _ _ _).mono ?_; rintro e w' ⟨rfl, rfl⟩; simp only [hv, hv2])
          go_ret
          exact ⟨ret_bool (by rw [← HS.out]; exact (HF.out 27 (by omega) (by rw [HYY.out]; exact hv2)).symm), rfl⟩
        · cases hv3 : inB z 0 1000
          · go_wp2_with (go_at_call 119; refine (l00In_any _ _ _ _).mono ?_; rintro e w' ⟨rfl, rfl⟩; simp only [hv, hv2, hv3])
            go_ret
            exact ⟨ret_bool (by rw [← HS.out]; exact (HF.out 28 (by omega) (by rw [HZZ.out]; exact hv3)).symm), rfl⟩
          · have HA : Hid (vprc P = true) := hide (HT.out (fun j hj => by
              by_cases h26 : j < 26
              · exact hall.out j h26
              · have : j = 26 ∨ j = 27 ∨ j = 28 := by omega
                rcases this with rfl | rfl | rfl
                · rw [HXX.out]; exact hv
                · rw [HYY.out]; exact hv2
                · rw [HZZ.out]; exact hv3))
            clear hall
            go_wp2_with (go_at_call 119; refine (l00In_any _ _ _ _).mono ?_; rintro e w' ⟨rfl, rfl⟩; simp only [hv, hv2, hv3])
            go_ret
            exact ⟨ret_bool (by rw [← HS.out, HA.out]), rfl⟩

/-- One number brought into its bounds. -/
def clmq (x : Int) : Int := min (max x 0) 1000
def clQ (S : List Int) (k : Nat) : List Int := (S.take k).map clmq ++ S.drop k
theorem clQ_len {S : List Int} (h : S.length = 26) (k : Nat) : (clQ S k).length = 26 := by simp [clQ]; omega
theorem clQ_zero (S : List Int) : clQ S 0 = S := by simp [clQ]
theorem clQ_succ {S : List Int} (h : S.length = 26) {k : Nat} (hk : k < 26) : (clQ S k).set k (clmq (S.getD k 0)) = clQ S (k + 1) := by
  apply List.ext_getElem
  · rw [List.length_set, clQ_len h, clQ_len h]
  · intro i h1 h2
    have hi : i < 26 := by rw [clQ_len h] at h2; exact h2
    simp only [clQ, List.getElem_set, List.getElem_append, List.length_map, List.length_take, List.getElem_map, List.getElem_take, List.getElem_drop, h]
    by_cases e : k = i
    · subst e
      have : k < min (k + 1) 26 := by omega
      simp [this, List.getD, h, hk]
    · rw [if_neg e]
      by_cases h3 : i < min k 26
      · have : i < min (k + 1) 26 := by omega
        simp [h3, this]
      · have h4 : ¬ i < min (k + 1) 26 := by omega
        simp only [h3, h4, dite_false]
        congr 1
        omega
/-- Prices of letters are as they have to be. -/
def vpl (T : List Int) : Bool := T.all (fun x => inB x 0 1000)
theorem vpl_at {W : List Int} (h : vpl W = true) (hW : W.length = 26) {k : Nat} (hk : k < 26) : 0 ≤ W.getD k 0 ∧ W.getD k 0 ≤ 1000 := vprc_at h (by omega)
theorem vpl_true {W : List Int} (hW : W.length = 26) (h : ∀ k, k < 26 → inB (W.getD k 0) 0 1000 = true) : vpl W = true := vprc_true hW h
theorem clQ_eq {S : List Int} (h : S.length = 26) : decide (S = clQ S 26) = vpl S := by
  rw [Bool.eq_iff_iff, decide_eq_true_iff]
  have e : clQ S 26 = S.map clmq := by simp [clQ, ← h]
  rw [e]
  constructor
  · intro hS
    refine vpl_true h fun k hk => inB_true.2 ?_
    have : S.getD k 0 = clmq (S.getD k 0) := by
      have h1 : S[k]? = (S.map clmq)[k]? := by rw [← hS]
      rw [List.getElem?_map, List.getElem?_eq_getElem (by omega)] at h1
      simp only [Option.map_some, Option.some.injEq] at h1
      rw [List.getD_eq_getElem?_getD, List.getElem?_eq_getElem (by omega), Option.getD_some]
      exact h1
    unfold clmq at this
    omega
  · intro hv
    apply List.ext_getElem
    · simp
    · intro i h1 h2
      have hb := vpl_at hv h (k := i) (by omega)
      rw [List.getD_eq_getElem?_getD, List.getElem?_eq_getElem h1, Option.getD_some] at hb
      rw [List.getElem_map]
      unfold clmq
      omega

set_option maxRecDepth 100000 in
set_option maxHeartbeats 4000000 in
theorem clampedP_any (S : List Int) (hS : S.length = 26) (w : World) :
    Calls Tryz.prog 277 #[.agg (pw S).toArray] w fun e w' => e = .returned (.agg (pw (clQ S 26)).toArray) ∧ Below w.heap.size w w' := by
  have HW := hide hS
  have hi : (pw S).length = 26 := by rw [pw_length]; exact hS
  have HI := hide hi
  clear hS hi
  go_enter Tryz.func277, Tryz.ntmps277
  go_wp2_with (first
        | (refine wpList_load_mid rfl 88 (.tmp 1) rfl _ 0 rfl (pw S) _ (World.rangeAt_alloc (rangeAt_new _ _ _) _) Tryz.underlying88 rfl (by rw [HI.out]; kernel_rfl) ?_))
  go_loopw [6] (fun i wr => ∃ k : Nat, k ≤ 26 ∧ i = .int .i64 k ∧ Below w.heap.size w wr ∧ wr.rangeAt w.heap.size 0 (pw (clQ S k)) ∧ wr.there w.heap.size 0 26 ∧ wr.there (w.heap.size + 1) 0 26)
    (fun i _ => 26 - (intOf i).toNat)
  case atStart =>
    refine ⟨0, by omega, rfl, ?_, ?_, ?_, ?_⟩
    · exact ((Below.refl _ _).alloc (Nat.le_refl _) _).alloc (by simp) _
    · rw [clQ_zero]; exact World.rangeAt_alloc (rangeAt_new _ _ _) _
    · exact World.there_alloc (there_newg rfl (by simp [HI.out])) _
    · exact there_newg (by simp) rfl
  case round =>
    obtain ⟨k, hk, rfl, hB, hr, ht1, ht2⟩ := hrel
    by_cases hlt : k < 26
    · have hc2 := rangeAt_cell hr (pw_get (k := k) (by rw [clQ_len HW.out]; exact hlt))
      have hf2 := (ht1 k hlt).2
      simp only [Nat.zero_add] at hf2
      have hi : (k : Int) < 26 := by omega
      have h0 : (0 : Int) ≤ k := by omega
      have hix := run_index_agg (P := Tryz.prog) (t := 88) (k := k) (cs := (pw S).toArray) Tryz.underlying88 (fun _ => by kernel_rfl) (fun _ => by kernel_rfl) hlt (by rw [List.getElem?_toArray]; exact pw_get (k := k) (by rw [HW.out]; exact hlt))
      obtain ⟨x, hx⟩ : ∃ x, S.getD k 0 = x := ⟨_, rfl⟩
      rw [hx] at hix
      have HX := hide hx
      have HB := hide hB
      clear hx hB
      go_wp2
      refine ⟨⟨k + 1, by omega, by go_num, HB.out.setCell (p := ⟨w.heap.size, k, none⟩) (Nat.le_refl _) _, ?_, there_set ht1 _ _, there_set ht2 _ _⟩, by simp [intOf]; omega⟩
      have e : min (max x 0) 1000 = clmq (S.getD k 0) := by rw [HX.out]; rfl
      rw [e, ← clQ_succ HW.out hlt, ← pw_set]
      exact rangeAt_set hr k _ (by rw [pw_length, clQ_len HW.out]; exact hlt)
    · obtain rfl : k = 26 := by omega
      have hi : (pw (clQ S 26)).length = 26 := by rw [pw_length]; exact clQ_len HW.out 26
      have HI2 := hide hi
      clear hi
      go_wp2_with (first
        | (refine wpList_load_mid rfl 88 (.tmp 1) rfl _ 0 rfl (pw (clQ S 26)) _ hr Tryz.underlying88 rfl (by rw [HI2.out]; kernel_rfl) ?_)
        | (refine wpList_store_mid rfl 88 (.tmp 2) (.tmp 16) rfl _ 0 _ rfl rfl (by simpa [HI2.out] using ht2) (by simp only [List.size_toArray]; rw [HI2.out]; kernel_rfl) (pw_one _) ?_))
      refine bodyPost_ret (results_mid rfl _ _ (w.heap.size + 1) 0 (pw (clQ S 26)) _ rfl (World.rangeAt_setCells_same _ _ _ _ (by rw [HI2.out]; exact ht2)) Tryz.underlying88 rfl (by rw [HI2.out]; kernel_rfl)) rfl ⟨rfl, ?_⟩
      exact below_setCells _ _ _ _ hB (by omega)


set_option maxHeartbeats 1000000 in
theorem isPrice_any (x : Int) (hx : i16ok x) (w : World) :
    Calls Tryz.prog 276 #[.int .i16 x] w fun e w' => e = .returned (.bool (inB x 0 1000)) ∧ w = w' := by
  obtain ⟨h1, h2⟩ := hx
  go_enter Tryz.func276, Tryz.ntmps276
  go_wp2_with (go_at_call 116; refine (between_any _ _ _ _).mono ?_; rintro e w' ⟨rfl, rfl⟩)
  go_ret
  exact ⟨rfl, rfl⟩

set_option maxRecDepth 100000 in
set_option maxHeartbeats 2000000 in
theorem areAllH_any (b : Nat) (xs : List Int) (c : Nat) (w : World) (hn : xs.length ≤ 100) (hb : b < w.heap.size) (hA : ∀ k x, xs[k]? = some x → w.cell? ⟨b, k, none⟩ = some (.int .i16 x)) (hx : ∀ x ∈ xs, i16ok x) :
    Calls Tryz.prog 278 #[.slice (some ⟨b, 0, none⟩) xs.length c, .func (.func 276) #[] #[]] w fun e w' => e = .returned (.bool (vprc xs)) ∧ Below w.heap.size w w' := by
  generalize hS : vprc xs = S
  have HS := hide (show xs.all (fun x => inB x 0 1000) = S from hS)
  have HX := hide hx
  clear hS hx
  go_enter Tryz.func278, Tryz.ntmps278
  go_wp2
  go_loopw [9] (fun i wr => ∃ k : Nat, k ≤ xs.length ∧ i = .int .i64 k ∧ Hid (∀ j x, j < k → xs[j]? = some x → inB x 0 1000 = true) ∧ Below w.heap.size w wr) (fun i _ => xs.length - (intOf i).toNat)
  case atStart => exact ⟨0, Nat.zero_le _, rfl, hide (fun j x hj => by omega), Below.refl _ _⟩
  case round =>
    obtain ⟨k, hk, rfl, hg, hB⟩ := hrel
    by_cases hlt : k < xs.length
    · obtain ⟨x, hxk⟩ : ∃ x, xs[k]? = some x := ⟨xs[k]'hlt, List.getElem?_eq_getElem _⟩
      have hc : wr.cell? ⟨b, k, none⟩ = some (.int .i16 x) := (hB.cell (p := ⟨b, k, none⟩) hb).trans (hA k x hxk)
      have HXK := hide hxk
      have hi : (k : Int) < xs.length := by omega
      have h0 : (0 : Int) ≤ k := by omega
      have HC := hide (isPrice_any x (HX.out x (List.mem_of_getElem? hxk)) wr)
      clear hxk
      cases hbx : inB x 0 1000
      · rw [hbx] at HC
        go_wp2_with (go_at_call 276; refine HC.out.mono ?_; rintro e w1 ⟨rfl, rfl⟩)
        go_ret
        exact ⟨ret_bool (by rw [← HS.out, all_false_of HXK.out hbx]), hB⟩
      · rw [hbx] at HC
        go_wp2_with (go_at_call 276; refine HC.out.mono ?_; rintro e w1 ⟨rfl, rfl⟩)
        exact ⟨⟨k + 1, by omega, by go_num, hide (fun j y hj hy => by
          by_cases e : j = k
          · subst e; rw [HXK.out] at hy; injection hy with hy; subst hy; exact hbx
          · exact hg.out j y (by omega) hy), hB⟩, by simp [intOf]; omega⟩
    · have HA := hide (all_true_of (p := fun x => inB x 0 1000) (xs := xs) (fun j x hj => hg.out j x (by omega)))
      have hk' : k = xs.length := by omega
      clear hg
      go_wp2
      go_ret
      exact ⟨ret_bool (by rw [← HS.out, HA.out]), hB⟩

set_option maxRecDepth 100000 in
set_option maxHeartbeats 2000000 in
theorem others_any (P : List Int) (hP : P.length = 29) (w : World) :
    Calls Tryz.prog 279 #[.agg (pw P).toArray] w fun e w' => ∃ b, e = .returned (.slice (some ⟨b, 0, none⟩) 3 3) ∧ w.heap.size ≤ b ∧ b < w'.heap.size ∧ (∀ k x, [P.getD 26 0, P.getD 27 0, P.getD 28 0][k]? = some x → w'.cell? ⟨b, k, none⟩ = some (.int .i16 x)) ∧ Below w.heap.size w w' := by
  have hr := rangeAt_new w (pw P) 90
  have b0 : Below w.heap.size w (w.alloc (.cells (pw P).toArray 90)) := (Below.refl _ _).alloc (Nat.le_refl _) _
  have s0 : (w.alloc (.cells (pw P).toArray 90)).heap.size = w.heap.size + 1 := by simp
  have c26 := rangeAt_cell hr (pw_get (k := 26) (by omega))
  have c27 := rangeAt_cell hr (pw_get (k := 27) (by omega))
  have c28 := rangeAt_cell hr (pw_get (k := 28) (by omega))
  have HB := hide b0
  clear hr hP b0
  generalize P.getD 26 0 = x at *
  generalize P.getD 27 0 = y at *
  generalize P.getD 28 0 = z at *
  generalize hcs : (pw P).toArray = cs at *
  clear hcs
  go_enter Tryz.func279, Tryz.ntmps279
  go_wp2
  go_ret
  refine ⟨w.heap.size + 1, rfl, by omega, by simp, ?_, HB.out.alloc (by simp) _⟩
  intro k v hk
  have hk3 : k < 3 := by have := (List.getElem?_eq_some_iff.1 hk).1; simpa using this
  have hr2 := rangeAt_newg (w := w.alloc (.cells cs 90)) (cs := #[.int .i16 x, .int .i16 y, .int .i16 z]) (t := 87) (g := w.heap.size + 1) s0.symm rfl
  have : k = 0 ∨ k = 1 ∨ k = 2 := by omega
  rcases this with rfl | rfl | rfl
  · simp at hk; subst hk; exact rangeAt_cell (k := 0) hr2 rfl
  · simp at hk; subst hk; exact rangeAt_cell (k := 1) hr2 rfl
  · simp at hk; subst hk; exact rangeAt_cell (k := 2) hr2 rfl

theorem vprc_split {P : List Int} (h : P.length = 29) : vprc P = (vpl (P.take 26) && vprc [P.getD 26 0, P.getD 27 0, P.getD 28 0]) := by
  conv => lhs; rw [p29 h]
  unfold vprc vpl
  rw [List.all_append]

set_option maxRecDepth 100000 in
set_option maxHeartbeats 4000000 in
theorem implValidPrices_any (P : List Int) (hP : P.length = 29) (hx : ∀ x ∈ P, i16ok x) (w : World) :
    Calls Tryz.prog 250 #[.agg (pw P).toArray] w fun e w' => e = .returned (.bool (vprc P)) ∧ Below w.heap.size w w' := by
  have hl26 : (P.take 26).length = 26 := by simp [hP]
  have hsplit : pw P = pw (P.take 26) ++ [.int .i16 (P.getD 26 0), .int .i16 (P.getD 27 0), .int .i16 (P.getD 28 0)] := by
    conv => lhs; rw [p29 hP]
    rw [pw_append]; rfl
  have HI26 := hide (show (Tryz.prog.info? 88).map (·.size) = some (pw (P.take 26)).length by rw [pw_length, hl26]; kernel_rfl)
  have HI29 := hide (show (Tryz.prog.info? 90).map (·.size) = some (pw P).length by rw [pw_length, hP]; kernel_rfl)
  have hq := run_eql_ints (P := Tryz.prog) (k := .i16) Tryz.underlying88 Tryz.underlying87 (fun _ => by kernel_rfl) (P.take 26) (clQ (P.take 26) 26) hl26 (clQ_len hl26 26)
  rw [clQ_eq hl26] at hq
  change ∀ w, (binOp .eql 88 (.agg (pw (P.take 26)).toArray) (.agg (pw (clQ (P.take 26) 26)).toArray)).run Tryz.prog w = _ at hq
  have HC := hide (fun w => clampedP_any (P.take 26) hl26 w)
  have HO := hide (fun w => others_any P hP w)
  have HAA := hide (fun b c w hb hA => areAllH_any b [P.getD 26 0, P.getD 27 0, P.getD 28 0] c w (by simp) hb hA (by
    intro x hx'
    simp only [List.mem_cons, List.not_mem_nil, or_false] at hx'
    rcases hx' with rfl | rfl | rfl <;> exact pw_at hx _))
  have r0 := rangeAt_new w (pw P) 90
  have HSP := hide (vprc_split hP)
  have b0 : Below w.heap.size w (w.alloc (.cells (pw P).toArray 90)) := (Below.refl _ _).alloc (Nat.le_refl _) _
  have s0 : w.heap.size < (w.alloc (.cells (pw P).toArray 90)).heap.size := by simp
  have hr26 : (w.alloc (.cells (pw P).toArray 90)).rangeAt w.heap.size 0 (pw (P.take 26)) := by
    have := r0; rw [hsplit] at this ⊢; exact rangeAt_left this
  have HK := hide (fun w' (hb : Below (w.alloc (.cells (pw P).toArray 90)).heap.size (w.alloc (.cells (pw P).toArray 90)) w') => (⟨rangeAt_below hr26 hb s0, rangeAt_below r0 hb s0⟩ : w'.rangeAt w.heap.size 0 (pw (P.take 26)) ∧ w'.rangeAt w.heap.size 0 (pw P)))
  rw [HSP.out]
  clear hl26 hsplit hP hx hr26 HSP
  generalize P.take 26 = T at *
  generalize vprc [P.getD 26 0, P.getD 27 0, P.getD 28 0] = V at *
  cases hv : vpl T
  · rw [hv] at hq
    go_enter Tryz.func250, Tryz.ntmps250
    go_wp2
    generalize (w.alloc (.cells (pw P).toArray 90)) = W0 at *
    refine wp_region_script [(0, true), (1, true), (2, true), (3, true), (4, false), (5, false), (6, false), (7, true), (9, true), (8, false), (10, false), (11, false), (12, false)]
      (fun w' => Below W0.heap.size W0 w') (by kernel_rfl) (by kernel_rfl) (of_decide_eq_true (by kernel_rfl)) (by kernel_rfl) (fun _ _ d _ _ h => by cases d <;> exact h) ((Below.refl _ _).drew) ?_
    refine sc_take (.pointer (some ⟨w.heap.size, 0, none⟩)) rfl (.inl ⟨rfl, fun w _ => by kernel_rfl⟩) ?_
    refine sc_take (.agg (pw T).toArray) rfl (yieldsIf_load_mid (by rfl) _ (.tmp 4) rfl _ 0 rfl _ _ (fun w h => (HK.out w h).1) Tryz.underlying88 rfl HI26.out) ?_
    refine sc_take (.pointer (some ⟨w.heap.size, 0, none⟩)) rfl (.inl ⟨rfl, fun w _ => by kernel_rfl⟩) ?_
    refine sc_take (.agg (pw T).toArray) rfl (yieldsIf_load_mid (by rfl) _ (.tmp 6) rfl _ 0 rfl _ _ (fun w h => (HK.out w h).1) Tryz.underlying88 rfl HI26.out) ?_
    simp only [Act.put, List.setIfInBounds_toArray, List.set_cons_zero, List.set_cons_succ]
    refine sc_step rfl ?_
    go_wp2_with fail
    refine (HC.out _).mono ?_
    rintro e w1 ⟨rfl, hb1⟩
    replace hb1 := (Below.refl _ _).drew.trans hb1
    change Below W0.heap.size W0 w1 at hb1
    go_wp2_with fail
    refine ⟨hb1, sc_step rfl ?_⟩
    go_wp2_with fail
    refine ⟨hb1, sc_step rfl ?_⟩
    go_wp2_with fail
    refine ⟨hb1, sc_take undef rfl (.inr ⟨rfl, rfl⟩) ?_⟩
    refine sc_take undef rfl (.inr ⟨rfl, rfl⟩) ?_
    simp only [Act.put, List.setIfInBounds_toArray, List.set_cons_zero, List.set_cons_succ]
    refine sc_step rfl ?_
    go_wp2_with fail
    refine ⟨hb1, sc_step rfl ?_⟩
    go_wp2_with fail
    refine ⟨hb1, sc_step rfl ?_⟩
    go_wp2_with fail
    refine ⟨hb1, sc_step rfl ?_⟩
    go_wp2_with fail
    refine ⟨hb1, sc_nil ?_⟩
    go_wp2
    go_ret
    exact ⟨rfl, b0.trans (hb1.mono b0.size)⟩
  · rw [hv] at hq
    go_enter Tryz.func250, Tryz.ntmps250
    go_wp2
    generalize (w.alloc (.cells (pw P).toArray 90)) = W0 at *
    refine wp_region_script [(0, true), (1, true), (2, true), (3, true), (4, false), (5, false), (6, false), (7, true), (9, true), (8, false), (10, false), (11, false), (12, false)]
      (fun w' => Below W0.heap.size W0 w') (by kernel_rfl) (by kernel_rfl) (of_decide_eq_true (by kernel_rfl)) (by kernel_rfl) (fun _ _ d _ _ h => by cases d <;> exact h) ((Below.refl _ _).drew) ?_
    refine sc_take (.pointer (some ⟨w.heap.size, 0, none⟩)) rfl (.inl ⟨rfl, fun w _ => by kernel_rfl⟩) ?_
    refine sc_take (.agg (pw T).toArray) rfl (yieldsIf_load_mid (by rfl) _ (.tmp 4) rfl _ 0 rfl _ _ (fun w h => (HK.out w h).1) Tryz.underlying88 rfl HI26.out) ?_
    refine sc_take (.pointer (some ⟨w.heap.size, 0, none⟩)) rfl (.inl ⟨rfl, fun w _ => by kernel_rfl⟩) ?_
    refine sc_take (.agg (pw T).toArray) rfl (yieldsIf_load_mid (by rfl) _ (.tmp 6) rfl _ 0 rfl _ _ (fun w h => (HK.out w h).1) Tryz.underlying88 rfl HI26.out) ?_
    simp only [Act.put, List.setIfInBounds_toArray, List.set_cons_zero, List.set_cons_succ]
    refine sc_step rfl ?_
    go_wp2_with fail
    refine (HC.out _).mono ?_
    rintro e w1 ⟨rfl, hb1⟩
    replace hb1 := (Below.refl _ _).drew.trans hb1
    change Below W0.heap.size W0 w1 at hb1
    go_wp2_with fail
    refine ⟨hb1, sc_step rfl ?_⟩
    go_wp2_with fail
    refine ⟨hb1, sc_step rfl ?_⟩
    go_wp2_with fail
    refine ⟨hb1, sc_take (.agg (pw P).toArray) rfl (yieldsIf_load_mid (by rfl) _ (.tmp 1) rfl _ 0 rfl _ _ (fun w h => (HK.out w h).2) Tryz.underlying90 rfl HI29.out) ?_⟩
    refine sc_take _ rfl (.inl ⟨rfl, fun w _ => rfl⟩) ?_
    simp only [Act.put, List.setIfInBounds_toArray, List.set_cons_zero, List.set_cons_succ]
    refine sc_step rfl ?_
    go_wp2_with fail
    refine (HO.out _).mono ?_
    rintro e w2 ⟨b, rfl, hlb, hltb, hcell, hb2⟩
    have hB2 := hb1.trans (hb2.mono hb1.size)
    go_wp2_with fail
    refine ⟨hB2, sc_step rfl ?_⟩
    go_wp2_with fail
    refine (HAA.out b _ _ hltb hcell).mono ?_
    rintro e w3 ⟨rfl, hb3⟩
    have hB3 := hB2.trans (hb3.mono hB2.size)
    go_wp2_with fail
    refine ⟨hB3, sc_step rfl ?_⟩
    go_wp2_with fail
    refine ⟨hB3, sc_step rfl ?_⟩
    go_wp2_with fail
    refine ⟨hB3, sc_nil ?_⟩
    go_wp2
    go_ret
    exact ⟨rfl, b0.trans (hB3.mono b0.size)⟩
end Go.Proofs.YtngondeaeipcfaaGreatDoor
