/- Rubbings: rows of the model, dots in common of both, matches, and whether one may be worn. -/
import Derived.Test.YtcbijfbeapeliaaRbB
import Derived.StillTailTactics
namespace Go.Proofs.Ytcbijfbeapeliaa
open Go Go.RowKit

set_option maxRecDepth 100000 in
set_option maxHeartbeats 8000000 in
theorem specDarkRows_any (R : List Nat) (hR : rok R) (w : World) :
    Calls Try.prog 24 #[.agg (rwc R).toArray] w (IntsB (drkL R) w) := by
  obtain ⟨i0, hi0, hz0, hz1, hz2⟩ := info_parts Try.infoI64
  have hb0 : Below w.heap.size w ((w.alloc (.cells (rwc R).toArray 25)).alloc (.cells #[] 2)) := ((Below.refl _ _).alloc (Nat.le_refl _) _).alloc (by simp) _
  have r0 : ((w.alloc (.cells (rwc R).toArray 25)).alloc (.cells #[] 2)).rangeAt w.heap.size 0 (rwc R) := World.rangeAt_alloc (rangeAt_new w (rwc R) 25) _
  have s0 : ((w.alloc (.cells (rwc R).toArray 25)).alloc (.cells #[] 2)).heap.size = w.heap.size + 1 + 1 := by simp
  have hown0 : ((w.alloc (.cells (rwc R).toArray 25)).alloc (.cells #[] 2)).ownsRow (w.heap.size + 1) 2 1 (.slice (some ⟨w.heap.size + 1, 0, none⟩) 0 0) 0 [] := by
    have h : ((w.alloc (.cells (rwc R).toArray 25)).alloc (.cells #[] 2)).ownsRow (w.alloc (.cells (rwc R).toArray 25)).heap.size 2 1 (.slice (some ⟨(w.alloc (.cells (rwc R).toArray 25)).heap.size, 0, none⟩) 0 0) 0 [] := World.ownsRow_made _ #[] 0 (Nat.le_refl _) (by unfold maxLen; omega) rfl
    simpa using h
  have HRW := hide (fun y hy W h => l07Row_any R hR w.heap.size y hy W h)
  have HL := hide (fun y => bitN_le (R.getD y 0) 16)
  clear hR
  go_enter Try.func24, Try.ntmps24
  go_wp2
  generalize ((w.alloc (.cells (rwc R).toArray 25)).alloc (.cells #[] 2)) = W0 at *
  go_loopw [3, 4] (fun br i wr => ∃ k : Nat, k ≤ 8 ∧ i = .int .i64 k ∧ wr.ownsRow (w.heap.size + 1) 2 1 br k ((drkT R k).map (.int .i64)) ∧ wr.rangeAt w.heap.size 0 (rwc R) ∧ w.heap.size + 1 < wr.heap.size ∧ Below w.heap.size w wr)
    (fun _ i _ => 8 - (intOf i).toNat)
  case atStart => exact ⟨0, by omega, rfl, hown0, r0, by omega, hb0⟩
  case round =>
    obtain ⟨k, hk, rfl, hown, hr, hsz, hB⟩ := hrel
    obtain ⟨Ab, cbb, rfl, hcap, _⟩ := cellsIn_of_own hown (by omega)
    have hbs := hB.size
    have HOWN := hide hown
    clear hown
    by_cases hlt : k < 8
    · have hi : (k : Int) < 8 := by omega
      have h0 : (0 : Int) ≤ k := by omega
      have HTU := hide (drkT_succ R k)
      have HC := hide (HRW.out k hlt wr hr)
      generalize bitN (R.getD k 0) 16 = q at *
      go_wp2_with (first | (go_at_call 51; refine HC.out.mono ?_; rintro e w1 ⟨rfl, rfl⟩) | (at_builtin; refine wpList_append_own _ rfl (.tmp 10) (.tmp 13) 34 rfl (w.heap.size + 1) 2 i0 (.int .i64 0) 1 8 Try.underlying34 hi0 hz0 hz1 hz2 rfl (by decide) _ k _ rfl (HOWN.out.alloc _) ⟨wr.heap.size, 0, none⟩ 1 1 [.int .i64 q] rfl rfl (one_cell _) (one_one rfl) ?h1 ?h2 ?h3 ?_))
      case h1 => unfold maxLen; omega
      case h2 => omega
      case h3 => first | omega | (simp; omega) | simp
      intro v' w4 hown4 hg4 _
      obtain ⟨A4, c4, rfl, _, _⟩ := cellsIn_of_own hown4 (by omega)
      have H4 := hide hown4
      have hg34 : wr.grownBy w4 _ := grown_trans (World.grownBy_alloc wr _ _) hg4
      have hbk : Below (w.heap.size + 1) wr w4 := grown_toBelow hg34 (by omega) (fun k hk => (HOWN.out.lt k hk).1)
      have hB4 := hB.trans (hbk.mono (by omega))
      have hr4 := rangeAt_below hr hbk (by omega)
      have hs4 := hbk.size
      clear hown4 hg4 hg34 hbk
      go_wp2
      refine ⟨⟨k + 1, by omega, by go_num, ?_, hr4, by omega, hB4⟩, by simp [intOf]; omega⟩
      rw [HTU.out, List.map_append]
      exact H4.out
    · obtain rfl : k = 8 := by omega
      obtain ⟨Ag, cg, e, _, hI⟩ := intsIn_of_own HOWN.out
      injection e with e1 e2 e3
      subst e1 e3
      have HI := hide hI
      clear hI
      go_wp2
      go_ret
      exact ⟨Ab, cbb, by rw [drkL_len]; rfl, by rw [drkL_len]; exact hcap, (drkT_all R ▸ HI.out).wider (by omega), hB⟩

set_option maxRecDepth 100000 in
set_option maxHeartbeats 4000000 in
theorem implDarkRows_any (R : List Nat) (hR : rok R) (w : World) :
    Calls Try.prog 25 #[.agg (rwc R).toArray] w (IntsB (drkL R) w) := by
  have HI := hide (rw_info hR.1)
  have hb0 : Below w.heap.size w (w.alloc (.cells (rwc R).toArray 25)) := (Below.refl _ _).alloc (Nat.le_refl _) _
  have r0 := rangeAt_new w (rwc R) 25
  have HD := hide (fun W => darkRows_any R hR W)
  clear hR
  go_enter Try.func25, Try.ntmps25
  go_wp2_with (refine wpList_load_mid rfl 25 (.tmp 1) rfl _ 0 rfl (rwc R) _ r0 Try.underlying25 rfl HI.out ?_)
  refine (HD.out _).mono ?_
  rintro e w1 ⟨Q1, k1, rfl, hk1, hI1, hb1⟩
  go_wp2
  go_ret
  exact ⟨Q1, k1, rfl, hk1, hI1.wider hb0.size, hb0.trans (hb1.mono hb0.size)⟩

/-! dots in common -/
set_option maxRecDepth 100000 in
set_option maxHeartbeats 8000000 in
theorem common_any (R S : List Nat) (hR : rok R) (hS : rok S) (w : World) :
    Calls Try.prog 42 #[.agg (rwc R).toArray, .agg (rwc S).toArray] w fun e w' => e = .returned (.agg (rwc (cmnL R S)).toArray) ∧ Below w.heap.size w w' := by
  have HW := hide hR.1
  have HW2 := hide hS.1
  have HX := hide (rok_at hR)
  have HX2 := hide (rok_at hS)
  clear hR hS
  go_enter Try.func42, Try.ntmps42
  go_wp2
  go_loopw [6] (fun i wr => ∃ k : Nat, k ≤ 8 ∧ i = .int .i64 k ∧ Below w.heap.size w wr ∧ wr.rangeAt w.heap.size 0 (rwc (cmnT R S k)) ∧ wr.there w.heap.size 0 8 ∧ wr.rangeAt (w.heap.size + 1) 0 (rwc S) ∧ wr.there (w.heap.size + 1 + 1) 0 8)
    (fun i _ => 8 - (intOf i).toNat)
  case atStart =>
    refine ⟨0, by omega, rfl, ?_, ?_, ?_, ?_, ?_⟩
    · exact (((Below.refl _ _).alloc (Nat.le_refl _) _).alloc (by simp) _).alloc (by simp only [World.size_alloc]; omega) _
    · rw [cmnT_zero HW.out]; exact World.rangeAt_alloc (World.rangeAt_alloc (rangeAt_new _ _ _) _) _
    · exact World.there_alloc (World.there_alloc (there_newg rfl (by simp [HW.out, rwc_length])) _) _
    · exact World.rangeAt_alloc (rangeAt_newg (by simp) rfl) _
    · exact there_newg (by simp) rfl
  case round =>
    obtain ⟨k, hk, rfl, hB, hr, ht, hr2, ht2⟩ := hrel
    by_cases hlt : k < 8
    · have hc := rangeAt_cell hr (rwc_get (k := k) (by rw [cmnT_len]; exact hlt))
      rw [cmnT_get R S hlt] at hc
      have hc2 := rangeAt_cell hr2 (rwc_get (k := k) (by rw [HW2.out]; exact hlt))
      have hf := (ht k hlt).2
      simp only [Nat.zero_add] at hf
      have hbt := u16_and_nat (R.getD k 0) (S.getD k 0) (HX.out k) (HX2.out k)
      have HCS := hide (cmnT_set R S hlt)
      generalize R.getD k 0 = m at *
      generalize S.getD k 0 = n at *
      have hi : (k : Int) < 8 := by omega
      have h0 : (0 : Int) ≤ k := by omega
      go_wp2
      go_still_tail 8, (by kernel_rfl)
      go_wp2
      refine ⟨⟨k + 1, by omega, by go_num, (hB.setCell (p := ⟨w.heap.size, k, none⟩) (Nat.le_refl _) _).drew, ?_, there_set ht _ _, rangeAt_far hr2 (by show w.heap.size ≠ w.heap.size + 1; omega) _, there_set ht2 _ _⟩, by simp [intOf]; omega⟩
      rw [← HCS.out, ← rwc_set]
      exact rangeAt_set hr k _ (by rw [rwc_length, cmnT_len]; exact hlt)
    · obtain rfl : k = 8 := by omega
      rw [cmnT_all] at hr
      have hi : (rwc (cmnL R S)).length = 8 := by rw [rwc_length]; exact cmnL_len R S
      have HI := hide hi
      clear hi
      go_wp2_with (first
        | (refine wpList_load_mid rfl 25 (.tmp 2) rfl _ 0 rfl (rwc (cmnL R S)) _ hr Try.underlying25 rfl (by rw [HI.out]; kernel_rfl) ?_)
        | (refine wpList_store_mid rfl 25 (.tmp 4) (.tmp 18) rfl _ 0 _ rfl rfl (by simpa [HI.out] using ht2) (by simp only [List.size_toArray]; rw [HI.out]; kernel_rfl) (rwc_one _) ?_))
      refine bodyPost_ret (results_mid rfl _ _ (w.heap.size + 1 + 1) 0 (rwc (cmnL R S)) _ rfl (World.rangeAt_setCells_same _ _ _ _ (by rw [HI.out]; exact ht2)) Try.underlying25 rfl (by rw [HI.out]; kernel_rfl)) rfl ⟨rfl, ?_⟩
      exact below_setCells _ _ _ _ hB (by omega)

set_option maxRecDepth 100000 in
set_option maxHeartbeats 8000000 in
theorem implMatchOf_any (R : List Nat) (hR : rok R) (R2 : List Nat) (hR2 : rok R2) (w : World) :
    Calls Try.prog 16 #[.agg (rwc R).toArray, .agg (rwc R2).toArray] w fun e w' => e = .returned (.int .i64 (mtN R R2)) ∧ Below w.heap.size w w' := by
  have HI := hide (rw_info hR.1)
  have HI2 := hide (rw_info hR2.1)
  have hb0 : Below w.heap.size w ((w.alloc (.cells (rwc R).toArray 25)).alloc (.cells (rwc R2).toArray 25)) := ((Below.refl _ _).alloc (Nat.le_refl _) _).alloc (by simp) _
  have r0 : ((w.alloc (.cells (rwc R).toArray 25)).alloc (.cells (rwc R2).toArray 25)).rangeAt w.heap.size 0 (rwc R) := World.rangeAt_alloc (rangeAt_new _ _ _) _
  have r1 : ((w.alloc (.cells (rwc R).toArray 25)).alloc (.cells (rwc R2).toArray 25)).rangeAt (w.heap.size + 1) 0 (rwc R2) := rangeAt_newg (by simp) rfl
  have HC := hide (fun W => common_any R R2 hR hR2 W)
  have HD := hide (fun W => countDark_any (cmnL R R2) (cmnL_ok hR R2) W)
  have HE := hide (show mtN R R2 = cntN (cmnL R R2) 8 from rfl)
  have HB := hide hb0
  clear hR hR2 hb0
  go_enter Try.func16, Try.ntmps16
  go_wp2_with (first | (refine wpList_load_mid rfl 25 (.tmp 2) rfl _ 0 rfl (rwc R) _ r0 Try.underlying25 rfl HI.out ?_) | (refine wpList_load_mid rfl 25 (.tmp 3) rfl _ 0 rfl (rwc R2) _ r1 Try.underlying25 rfl HI2.out ?_))
  refine (HC.out _).mono ?_
  rintro e w1 ⟨rfl, hb1⟩
  go_wp2_with fail
  refine (HD.out _).mono ?_
  rintro e w2 ⟨rfl, hb2⟩
  go_wp2
  go_ret
  exact ⟨ret_int (by rw [HE.out]), HB.out.trans ((hb1.trans (hb2.mono hb1.size)).mono HB.out.size)⟩

set_option maxRecDepth 100000 in
set_option maxHeartbeats 8000000 in
theorem l07Match_any (R S : List Nat) (hR : rok R) (hS : rok S) (b c : Nat) (w : World) (hr : w.rangeAt b 0 (rwc R)) (hr2 : w.rangeAt c 0 (rwc S)) :
    Calls Try.prog 41 #[.pointer (some ⟨b, 0, none⟩), .pointer (some ⟨c, 0, none⟩)] w fun e w' => e = .returned (.int .i64 (mtN R S)) ∧ Below w.heap.size w w' := by
  have HW := hide hR.1
  have HW2 := hide hS.1
  have HX := hide (rok_at hR)
  have HX2 := hide (rok_at hS)
  have HC := hide (fun g W h => l07Count_any (cmnL R S) (cmnL_ok hR S) g W h)
  have HE := hide (show mtN R S = cntN (cmnL R S) 8 from rfl)
  clear hR hS
  go_enter Try.func41, Try.ntmps41
  go_wp2
  go_loopw [6] (fun i wr => ∃ k : Nat, k ≤ 8 ∧ i = .int .i64 k ∧ Below w.heap.size w wr ∧ wr.rangeAt w.heap.size 0 (rwc ((cmnL R S).take k ++ List.replicate (8 - k) 0)) ∧ wr.there w.heap.size 0 8)
    (fun i _ => 8 - (intOf i).toNat)
  case atStart => exact ⟨0, by omega, rfl, (Below.refl _ _).alloc (Nat.le_refl _) _, rangeAt_newg rfl (by simp [rwc]), there_newg rfl rfl⟩
  case round =>
    obtain ⟨k, hk, rfl, hB, hg, ht⟩ := hrel
    by_cases hlt : k < 8
    · have hc0 := rangeAt_cell hr (rwc_get (k := k) (by rw [HW.out]; exact hlt))
      have hc1 := rangeAt_cell hr2 (rwc_get (k := k) (by rw [HW2.out]; exact hlt))
      have hc := (hB.cell (p := ⟨b, k, none⟩) (World.block_lt_of_cell? w _ hc0)).trans hc0
      have hc2 := (hB.cell (p := ⟨c, k, none⟩) (World.block_lt_of_cell? w _ hc1)).trans hc1
      have hf := (ht k hlt).2
      simp only [Nat.zero_add] at hf
      obtain ⟨old, ho⟩ : ∃ old, wr.cell? ⟨w.heap.size, k, none⟩ = some old := ⟨_, rangeAt_cell hg (rwc_get (k := k) (by simp [cmnL]; omega))⟩
      have hbt := u16_and_nat (R.getD k 0) (S.getD k 0) (HX.out k) (HX2.out k)
      have HCS : Hid (((cmnL R S).take k ++ List.replicate (8 - k) 0).set k (R.getD k 0 &&& S.getD k 0) = (cmnL R S).take (k + 1) ++ List.replicate (8 - (k + 1)) 0) := hide (by
        rw [← cmnL_get R S hlt]; exact prtN_succ (cmnL_len R S) hlt)
      generalize R.getD k 0 = m at *
      generalize S.getD k 0 = n at *
      have hi : (k : Int) < 8 := by omega
      have h0 : (0 : Int) ≤ k := by omega
      clear hc0 hc1
      go_wp2
      go_still_tail 13, (by kernel_rfl)
      go_wp2
      refine ⟨⟨k + 1, by omega, by go_num, (hB.setCell (p := ⟨w.heap.size, k, none⟩) (Nat.le_refl _) _).drew, ?_, there_set ht _ _⟩, by simp [intOf]; omega⟩
      rw [← HCS.out, ← rwc_set]
      exact rangeAt_set hg k _ (by rw [rwc_length]; simp [cmnL]; omega)
    · obtain rfl : k = 8 := by omega
      have hg2 : wr.rangeAt w.heap.size 0 (rwc (cmnL R S)) := by
        have e : (cmnL R S).take 8 ++ List.replicate (8 - 8) 0 = cmnL R S := prtN_all (cmnL_len R S)
        rw [e] at hg; exact hg
      clear hg
      go_wp2_with (go_at_call 39; refine (HC.out _ _ hg2).mono ?_; rintro e w1 ⟨rfl, rfl⟩)
      go_ret
      exact ⟨ret_int (by rw [HE.out]), hB⟩

set_option maxRecDepth 100000 in
set_option maxHeartbeats 4000000 in
theorem specMatchOf_any (R : List Nat) (hR : rok R) (R2 : List Nat) (hR2 : rok R2) (w : World) :
    Calls Try.prog 15 #[.agg (rwc R).toArray, .agg (rwc R2).toArray] w fun e w' => e = .returned (.int .i64 (mtN R R2)) ∧ Below w.heap.size w w' := by
  have hb0 : Below w.heap.size w ((w.alloc (.cells (rwc R).toArray 25)).alloc (.cells (rwc R2).toArray 25)) := ((Below.refl _ _).alloc (Nat.le_refl _) _).alloc (by simp) _
  have r0 : ((w.alloc (.cells (rwc R).toArray 25)).alloc (.cells (rwc R2).toArray 25)).rangeAt w.heap.size 0 (rwc R) := World.rangeAt_alloc (rangeAt_new _ _ _) _
  have r1 : ((w.alloc (.cells (rwc R).toArray 25)).alloc (.cells (rwc R2).toArray 25)).rangeAt (w.heap.size + 1) 0 (rwc R2) := rangeAt_newg (by simp) rfl
  have HC := hide (l07Match_any R R2 hR hR2 _ _ _ r0 r1)
  have HB := hide hb0
  clear hR hR2 hb0 r0 r1
  go_enter Try.func15, Try.ntmps15
  go_wp2_with (go_at_call 41; refine HC.out.mono ?_; rintro e w1 ⟨rfl, hb1⟩)
  go_ret
  exact ⟨rfl, HB.out.trans (hb1.mono HB.out.size)⟩

/-! may be worn -/
theorem cast_eq {A B : List Nat} : decide (A.map (fun n : Nat => (n : Int)) = B.map (fun n : Nat => (n : Int))) = decide (A = B) := by
  rw [decide_eq_decide]
  exact List.map_inj_right (fun x y h => by exact_mod_cast h)
theorem rwc_ints (A : List Nat) : rwc A = (A.map (fun n : Nat => (n : Int))).map (Value.int .u16) := by simp [rwc, Function.comp_def]
theorem run_eql_rub (A B : List Nat) (hA : A.length = 8) (hB : B.length = 8) (w : World) :
    (binOp .eql 25 (.agg (rwc A).toArray) (.agg (rwc B).toArray)).run Try.prog w = .ok (.bool (decide (A = B))) w := by
  rw [rwc_ints, rwc_ints, ← cast_eq]
  exact run_eql_ints (P := Try.prog) (k := .u16) Try.underlying25 Try.underlying22 (fun _ => by kernel_rfl) _ _ (by simpa using hA) (by simpa using hB) w
theorem andNot_zero {o n : Nat} (ho : o < 65536) (hn : n < 65536) : n &&& (65535 - o) = 0 ↔ o &&& n = n := by
  have e : ∀ j, (65535 - o).testBit j = (decide (j < 16) && !o.testBit j) := fun j => by
    have := Nat.testBit_two_pow_sub_succ (n := 16) (x := o) (by simpa using ho) j
    have e2 : 65535 - o = 2 ^ 16 - (o + 1) := by omega
    rw [e2]; exact this
  constructor
  · intro h
    refine Nat.eq_of_testBit_eq fun j => ?_
    have h1 : (n &&& (65535 - o)).testBit j = false := by rw [h]; simp
    rw [Nat.testBit_and, e] at h1
    rw [Nat.testBit_and]
    by_cases hj : j < 16
    · revert h1; cases n.testBit j <;> cases o.testBit j <;> simp [hj]
    · rw [bit_lt hn (by omega)]; simp
  · intro h
    refine Nat.eq_of_testBit_eq fun j => ?_
    have h1 : (o &&& n).testBit j = n.testBit j := by rw [h]
    rw [Nat.testBit_and] at h1
    rw [Nat.testBit_and, e]
    revert h1; cases n.testBit j <;> cases o.testBit j <;> simp
theorem cmn_same {R S : List Nat} (hS : S.length = 8) (h : ∀ y, y < 8 → R.getD y 0 &&& S.getD y 0 = S.getD y 0) : decide (cmnL R S = S) = true := by
  rw [decide_eq_true_iff]
  apply List.ext_getElem
  · rw [cmnL_len, hS]
  · intro i h1 h2
    have hi : i < 8 := by rw [hS] at h2; exact h2
    have := h i hi
    simp only [cmnL, List.getElem_map, List.getElem_range]
    rw [this, List.getD_eq_getElem?_getD, List.getElem?_eq_getElem h2, Option.getD_some]
theorem cmn_other {R S : List Nat} {y : Nat} (hy : y < 8) (h : ¬ R.getD y 0 &&& S.getD y 0 = S.getD y 0) : decide (cmnL R S = S) = false := by
  rw [decide_eq_false_iff_not]
  intro e
  apply h
  rw [← cmnL_get R S hy, e]

set_option maxRecDepth 100000 in
set_option maxHeartbeats 8000000 in
theorem specMayBeWorn_any (R : List Nat) (hR : rok R) (R2 : List Nat) (hR2 : rok R2) (w : World) :
    Calls Try.prog 19 #[.agg (rwc R).toArray, .agg (rwc R2).toArray] w fun e w' => e = .returned (.bool (decide (cmnL R R2 = R2))) ∧ Below w.heap.size w w' := by
  have hb0 : Below w.heap.size w ((w.alloc (.cells (rwc R).toArray 25)).alloc (.cells (rwc R2).toArray 25)) := ((Below.refl _ _).alloc (Nat.le_refl _) _).alloc (by simp) _
  have r0 : ((w.alloc (.cells (rwc R).toArray 25)).alloc (.cells (rwc R2).toArray 25)).rangeAt w.heap.size 0 (rwc R) := World.rangeAt_alloc (rangeAt_new _ _ _) _
  have r1 : ((w.alloc (.cells (rwc R).toArray 25)).alloc (.cells (rwc R2).toArray 25)).rangeAt (w.heap.size + 1) 0 (rwc R2) := rangeAt_newg (by simp) rfl
  have HB := hide hb0
  have HW := hide hR.1
  have HW2 := hide hR2.1
  have HX := hide (rok_at hR)
  have HX2 := hide (rok_at hR2)
  have HSM := hide (fun h => cmn_same (R := R) hR2.1 h)
  have HOT := hide (fun (y : Nat) (hy : y < 8) h => cmn_other (R := R) (S := R2) hy h)
  generalize decide (cmnL R R2 = R2) = Q at *
  clear hR hR2 hb0
  go_enter Try.func19, Try.ntmps19
  go_wp2
  generalize ((w.alloc (.cells (rwc R).toArray 25)).alloc (.cells (rwc R2).toArray 25)) = W0 at *
  go_loopw [5] (fun i wr => ∃ k : Nat, k ≤ 8 ∧ i = .int .i64 k ∧ Below W0.heap.size W0 wr ∧ Hid (∀ y, y < k → R.getD y 0 &&& R2.getD y 0 = R2.getD y 0))
    (fun i _ => 8 - (intOf i).toNat)
  case atStart => exact ⟨0, by omega, rfl, Below.refl _ _, hide (fun y h => by omega)⟩
  case round =>
    obtain ⟨k, hk, rfl, hB, HALL⟩ := hrel
    by_cases hlt : k < 8
    · have c0 := rangeAt_cell r0 (rwc_get (k := k) (by rw [HW.out]; exact hlt))
      have c1 := rangeAt_cell r1 (rwc_get (k := k) (by rw [HW2.out]; exact hlt))
      have d0 := (hB.cell (p := ⟨w.heap.size, k, none⟩) (World.block_lt_of_cell? W0 _ c0)).trans c0
      have d1 := (hB.cell (p := ⟨w.heap.size + 1, k, none⟩) (World.block_lt_of_cell? W0 _ c1)).trans c1
      have hbt := u16_andNot_nat (R2.getD k 0) (R.getD k 0) (HX2.out k) (HX.out k)
      have HZ := hide (andNot_zero (HX.out k) (HX2.out k))
      have HOK := hide (HOT.out k hlt)
      have HST : Hid (R.getD k 0 &&& R2.getD k 0 = R2.getD k 0 → ∀ y, y < k + 1 → R.getD y 0 &&& R2.getD y 0 = R2.getD y 0) := hide (fun h y hy => by
        by_cases e : y = k
        · subst e; exact h
        · exact HALL.out y (by omega))
      have hi : (k : Int) < 8 := by omega
      have h0 : (0 : Int) ≤ k := by omega
      generalize R.getD k 0 = m at *
      generalize R2.getD k 0 = n at *
      obtain ⟨z, hz⟩ : ∃ z, n &&& (65535 - m) = z := ⟨_, rfl⟩
      rw [hz] at hbt
      have HZZ := hide hz
      clear hz c0 c1
      cases hne : ((z : Int) != 0)
      · have HE : Hid (m &&& n = n) := hide (HZ.out.1 (by rw [HZZ.out]; simpa using hne))
        have HN := hide (HST.out HE.out)
        go_wp2
        go_region
        all_goals (go_wp2; exact ⟨⟨k + 1, by omega, by go_num, hB.drew, HN⟩, by simp [intOf]; omega⟩)
      · have HE : Hid (Q = false) := hide (HOK.out (fun h => by have := HZ.out.2 h; rw [HZZ.out] at this; rw [this] at hne; simp at hne))
        go_wp2
        go_region
        all_goals (go_wp2; go_ret; exact ⟨ret_bool HE.out.symm, HB.out.trans ((hB.drew).mono HB.out.size)⟩)
    · obtain rfl : k = 8 := by omega
      have HE := hide (HSM.out HALL.out)
      go_wp2
      go_ret
      exact ⟨ret_bool HE.out.symm, HB.out.trans (hB.mono HB.out.size)⟩

set_option maxRecDepth 100000 in
set_option maxHeartbeats 4000000 in
theorem implMayBeWorn_any (R : List Nat) (hR : rok R) (R2 : List Nat) (hR2 : rok R2) (w : World) :
    Calls Try.prog 20 #[.agg (rwc R).toArray, .agg (rwc R2).toArray] w fun e w' => e = .returned (.bool (decide (cmnL R R2 = R2))) ∧ Below w.heap.size w w' := by
  have HI := hide (rw_info hR.1)
  have HI2 := hide (rw_info hR2.1)
  have hb0 : Below w.heap.size w ((w.alloc (.cells (rwc R).toArray 25)).alloc (.cells (rwc R2).toArray 25)) := ((Below.refl _ _).alloc (Nat.le_refl _) _).alloc (by simp) _
  have r0 : ((w.alloc (.cells (rwc R).toArray 25)).alloc (.cells (rwc R2).toArray 25)).rangeAt w.heap.size 0 (rwc R) := World.rangeAt_alloc (rangeAt_new _ _ _) _
  have r1 : ((w.alloc (.cells (rwc R).toArray 25)).alloc (.cells (rwc R2).toArray 25)).rangeAt (w.heap.size + 1) 0 (rwc R2) := rangeAt_newg (by simp) rfl
  have s0 : w.heap.size < ((w.alloc (.cells (rwc R).toArray 25)).alloc (.cells (rwc R2).toArray 25)).heap.size := by simp; omega
  have s1 : w.heap.size + 1 < ((w.alloc (.cells (rwc R).toArray 25)).alloc (.cells (rwc R2).toArray 25)).heap.size := by simp
  have HC := hide (fun W => common_any R R2 hR hR2 W)
  have hq := run_eql_rub (cmnL R R2) R2 (cmnL_len R R2) hR2.1
  have HB := hide hb0
  clear hR hR2 hb0
  go_enter Try.func20, Try.ntmps20
  go_wp2
  generalize ((w.alloc (.cells (rwc R).toArray 25)).alloc (.cells (rwc R2).toArray 25)) = W0 at *
  have HROW := hide (over_row r0 s0)
  have HROW2 := hide (over_row r1 s1)
  refine wp_region_over (by kernel_rfl) (by kernel_rfl) ?_
  repeat (first | (refine wpQuiet_load_row rfl 25 (.tmp 2) rfl _ 0 rfl _ _ HROW.out Try.underlying25 rfl HI.out ?_; simp only [Act.put, List.setIfInBounds_toArray, List.set_cons_zero, List.set_cons_succ]) | (refine wpQuiet_load_row rfl 25 (.tmp 3) rfl _ 0 rfl _ _ HROW2.out Try.underlying25 rfl HI2.out ?_; simp only [Act.put, List.setIfInBounds_toArray, List.set_cons_zero, List.set_cons_succ]) | go_big_quiet_step ((go_at_call 42; exact over_call (HC.out _))))
  refine wpQuiet_nil ?_
  intro w1 hb1
  go_wp2
  go_ret
  exact ⟨rfl, HB.out.trans (hb1.mono HB.out.size)⟩
end Go.Proofs.Ytcbijfbeapeliaa
