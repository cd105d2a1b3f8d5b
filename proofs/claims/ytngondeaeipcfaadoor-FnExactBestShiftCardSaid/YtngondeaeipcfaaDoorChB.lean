/- Strokes of the program: brought into their bounds, and whether they are as they have to be. -/
import Derived.Test.YtngondeaeipcfaaDoorChA
namespace Go.Proofs.YtngondeaeipcfaaDoor
open Go.RowKit

/-- One number brought into its bounds. -/
def clmp (x : Int) : Int := min (max x 1) 30
def clT (S : List Int) (k : Nat) : List Int := (S.take k).map clmp ++ S.drop k
theorem clT_len {S : List Int} (h : S.length = 26) (k : Nat) : (clT S k).length = 26 := by simp [clT]; omega
theorem clT_zero (S : List Int) : clT S 0 = S := by simp [clT]
theorem clT_succ {S : List Int} (h : S.length = 26) {k : Nat} (hk : k < 26) : (clT S k).set k (clmp (S.getD k 0)) = clT S (k + 1) := by
  apply List.ext_getElem
  · rw [List.length_set, clT_len h, clT_len h]
  · intro i h1 h2
    have hi : i < 26 := by rw [clT_len h] at h2; exact h2
    simp only [clT, List.getElem_set, List.getElem_append, List.length_map, List.length_take, List.getElem_map, List.getElem_take, List.getElem_drop, h]
    by_cases e : k = i
    · subst e
      have : k < min (k + 1) 26 := by omega
      simp [this, List.getD, h, hk]
    · rw [if_neg e]
      by_cases h3 : i < min k 26
      · have : i < min (k + 1) 26 := by omega
        simp [h3, this]
      · have h4 : ¬ i < min (k + 1) 26 := by omega
        simp only [h3, h4, dite_false]
        congr 1
        omega
theorem clT_eq {S : List Int} (h : S.length = 26) : decide (S = clT S 26) = vstr S := by
  rw [Bool.eq_iff_iff, decide_eq_true_iff]
  have e : clT S 26 = S.map clmp := by simp [clT, ← h]
  rw [e]
  constructor
  · intro hS
    refine vstr_true h fun k hk => inB_true.2 ?_
    have : S.getD k 0 = clmp (S.getD k 0) := by
      have h1 : S[k]? = (S.map clmp)[k]? := by rw [← hS]
      rw [List.getElem?_map, List.getElem?_eq_getElem (by omega)] at h1
      simp only [Option.map_some, Option.some.injEq] at h1
      rw [List.getD_eq_getElem?_getD, List.getElem?_eq_getElem (by omega), Option.getD_some]
      exact h1
    unfold clmp at this
    omega
  · intro hv
    apply List.ext_getElem
    · simp
    · intro i h1 h2
      have hb := vstr_at hv h (k := i) (by omega)
      rw [List.getD_eq_getElem?_getD, List.getElem?_eq_getElem h1, Option.getD_some] at hb
      rw [List.getElem_map]
      unfold clmp
      omega

set_option maxRecDepth 100000 in
set_option maxHeartbeats 4000000 in
theorem clamped_any (S : List Int) (hS : S.length = 26) (w : World) :
    Calls Tryd.prog 195 #[.agg (wc S).toArray] w fun e w' => e = .returned (.agg (wc (clT S 26)).toArray) ∧ Below w.heap.size w w' := by
  have HW := hide hS
  have hi : (wc S).length = 26 := by rw [wc_length]; exact hS
  have HI := hide hi
  clear hS hi
  go_enter Tryd.func195, Tryd.ntmps195
  go_wp2_with (first
        | (refine wpList_load_mid rfl 80 (.tmp 1) rfl _ 0 rfl (wc S) _ (World.rangeAt_alloc (rangeAt_new _ _ _) _) Tryd.underlying80 rfl (by rw [HI.out]; kernel_rfl) ?_))
  go_loopw [6] (fun i wr => ∃ k : Nat, k ≤ 26 ∧ i = .int .i64 k ∧ Below w.heap.size w wr ∧ wr.rangeAt w.heap.size 0 (wc (clT S k)) ∧ wr.there w.heap.size 0 26 ∧ wr.there (w.heap.size + 1) 0 26)
    (fun i _ => 26 - (intOf i).toNat)
  case atStart =>
    refine ⟨0, by omega, rfl, ?_, ?_, ?_, ?_⟩
    · exact ((Below.refl _ _).alloc (Nat.le_refl _) _).alloc (by simp) _
    · rw [clT_zero]; exact World.rangeAt_alloc (rangeAt_new _ _ _) _
    · exact World.there_alloc (there_newg rfl (by simp [HI.out])) _
    · exact there_newg (by simp) rfl
  case round =>
    obtain ⟨k, hk, rfl, hB, hr, ht1, ht2⟩ := hrel
    by_cases hlt : k < 26
    · have hc2 := rangeAt_cell hr (wc_get (k := k) (by rw [clT_len HW.out]; exact hlt))
      have hf2 := (ht1 k hlt).2
      simp only [Nat.zero_add] at hf2
      have hi : (k : Int) < 26 := by omega
      have h0 : (0 : Int) ≤ k := by omega
      have hix := run_index_agg (P := Tryd.prog) (t := 80) (k := k) (cs := (wc S).toArray) Tryd.underlying80 (fun _ => by kernel_rfl) (fun _ => by kernel_rfl) hlt (by rw [List.getElem?_toArray]; exact wc_get (k := k) (by rw [HW.out]; exact hlt))
      obtain ⟨x, hx⟩ : ∃ x, S.getD k 0 = x := ⟨_, rfl⟩
      rw [hx] at hix
      have HX := hide hx
      have HB := hide hB
      clear hx hB
      go_wp2
      refine ⟨⟨k + 1, by omega, by go_num, HB.out.setCell (p := ⟨w.heap.size, k, none⟩) (Nat.le_refl _) _, ?_, there_set ht1 _ _, there_set ht2 _ _⟩, by simp [intOf]; omega⟩
      have e : min (max x 1) 30 = clmp (S.getD k 0) := by rw [HX.out]; rfl
      rw [e, ← clT_succ HW.out hlt, ← wc_set]
      exact rangeAt_set hr k _ (by rw [wc_length, clT_len HW.out]; exact hlt)
    · obtain rfl : k = 26 := by omega
      have hi : (wc (clT S 26)).length = 26 := by rw [wc_length]; exact clT_len HW.out 26
      have HI2 := hide hi
      clear hi
      go_wp2_with (first
        | (refine wpList_load_mid rfl 80 (.tmp 1) rfl _ 0 rfl (wc (clT S 26)) _ hr Tryd.underlying80 rfl (by rw [HI2.out]; kernel_rfl) ?_)
        | (refine wpList_store_mid rfl 80 (.tmp 2) (.tmp 16) rfl _ 0 _ rfl rfl (by simpa [HI2.out] using ht2) (by simp only [List.size_toArray]; rw [HI2.out]; kernel_rfl) (wc_one _) ?_))
      refine bodyPost_ret (results_mid rfl _ _ (w.heap.size + 1) 0 (wc (clT S 26)) _ rfl (World.rangeAt_setCells_same _ _ _ _ (by rw [HI2.out]; exact ht2)) Tryd.underlying80 rfl (by rw [HI2.out]; kernel_rfl)) rfl ⟨rfl, ?_⟩
      exact below_setCells _ _ _ _ hB (by omega)

set_option maxRecDepth 100000 in
set_option maxHeartbeats 4000000 in
theorem implValidStrokes_any (S : List Int) (hS : S.length = 26) (hSx : ∀ x ∈ S, i8ok x) (w : World) :
    Calls Tryd.prog 161 #[.agg (wc S).toArray] w fun e w' => e = .returned (.bool (vstr S)) ∧ Below w.heap.size w w' := by
  have hi : (Tryd.prog.info? 80).map (·.size) = some (wc S).length := by rw [wc_length, hS]; kernel_rfl
  have HI := hide hi
  have hq := run_eql_ints (P := Tryd.prog) (k := .i8) Tryd.underlying80 Tryd.underlying44 (fun _ => by kernel_rfl) S (clT S 26) hS (clT_len hS 26)
  rw [clT_eq hS] at hq
  change ∀ w, (binOp .eql 80 (.agg (wc S).toArray) (.agg (wc (clT S 26)).toArray)).run Tryd.prog w = _ at hq
  have HC := hide (fun w => clamped_any S hS w)
  have hb0 : Below w.heap.size w (w.alloc (.cells (wc S).toArray 80)) := (Below.refl _ _).alloc (Nat.le_refl _) _
  have r0 := rangeAt_new w (wc S) 80
  have s0 : w.heap.size < (w.alloc (.cells (wc S).toArray 80)).heap.size := by simp
  have HB := hide hb0
  clear hi hS hSx hb0
  go_enter Tryd.func161, Tryd.ntmps161
  go_wp2
  generalize (w.alloc (.cells (wc S).toArray 80)) = W0 at *
  have HROW := hide (over_row r0 s0)
  refine wp_region_over (by kernel_rfl) (by kernel_rfl) ?_
  repeat (first | (refine wpQuiet_load_row rfl 80 (.tmp 1) rfl _ 0 rfl _ _ HROW.out Tryd.underlying80 rfl HI.out ?_; simp only [Act.put, List.setIfInBounds_toArray, List.set_cons_zero, List.set_cons_succ]) | go_big_quiet_step ((go_at_call 195; exact over_call (HC.out _))))
  refine wpQuiet_nil ?_
  intro w1 hb1
  go_wp2
  go_ret
  exact ⟨rfl, HB.out.trans (hb1.mono HB.out.size)⟩
end Go.Proofs.YtngondeaeipcfaaDoor
