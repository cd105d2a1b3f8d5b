/- Rubbings: rows of the model, dots in common of both, matches, and whether one may be worn. -/
import Derived.Test.YtjmkbdghenjlaaaRbB
import Derived.StillTailTactics
namespace Go.Proofs.Ytjmkbdghenjlaaa
open Go Go.RowKit

set_option maxRecDepth 100000 in
set_option maxHeartbeats 8000000 in
theorem common_any (R S : List Nat) (hR : rok R) (hS : rok S) (w : World) :
    Calls Try.prog 30 #[.agg (rwc R).toArray, .agg (rwc S).toArray] w fun e w' => e = .returned (.agg (rwc (cmnL R S)).toArray) ∧ Below w.heap.size w w' := by
  have HW := hide hR.1
  have HW2 := hide hS.1
  have HX := hide (rok_at hR)
  have HX2 := hide (rok_at hS)
  clear hR hS
  go_enter Try.func30, Try.ntmps30
  go_wp2
  go_loopw [6] (fun i wr => ∃ k : Nat, k ≤ 8 ∧ i = .int .i64 k ∧ Below w.heap.size w wr ∧ wr.rangeAt w.heap.size 0 (rwc (cmnT R S k)) ∧ wr.there w.heap.size 0 8 ∧ wr.rangeAt (w.heap.size + 1) 0 (rwc S) ∧ wr.there (w.heap.size + 1 + 1) 0 8)
    (fun i _ => 8 - (intOf i).toNat)
  case atStart =>
    refine ⟨0, by omega, rfl, ?_, ?_, ?_, ?_, ?_⟩
    · exact (((Below.refl _ _).alloc (Nat.le_refl _) _).alloc (by simp) _).alloc (by simp only [World.size_alloc]; omega) _
    · rw [cmnT_zero HW.out]; exact World.rangeAt_alloc (World.rangeAt_alloc (rangeAt_new _ _ _) _) _
    · exact World.there_alloc (World.there_alloc (there_newg rfl (by simp [HW.out, rwc_length])) _) _
    · exact World.rangeAt_alloc (rangeAt_newg (by simp) rfl) _
    · exact there_newg (by simp) rfl
  case round =>
    obtain ⟨k, hk, rfl, hB, hr, ht, hr2, ht2⟩ := hrel
    by_cases hlt : k < 8
    · have hc := rangeAt_cell hr (rwc_get (k := k) (by rw [cmnT_len]; exact hlt))
      rw [cmnT_get R S hlt] at hc
      have hc2 := rangeAt_cell hr2 (rwc_get (k := k) (by rw [HW2.out]; exact hlt))
      have hf := (ht k hlt).2
      simp only [Nat.zero_add] at hf
      have hbt := u16_and_nat (R.getD k 0) (S.getD k 0) (HX.out k) (HX2.out k)
      have HCS := hide (cmnT_set R S hlt)
      generalize R.getD k 0 = m at *
      generalize S.getD k 0 = n at *
      have hi : (k : Int) < 8 := by omega
      have h0 : (0 : Int) ≤ k := by omega
      go_wp2
      go_still_tail 8, (by kernel_rfl)
      go_wp2
      refine ⟨⟨k + 1, by omega, by go_num, (hB.setCell (p := ⟨w.heap.size, k, none⟩) (Nat.le_refl _) _).drew, ?_, there_set ht _ _, rangeAt_far hr2 (by show w.heap.size ≠ w.heap.size + 1; omega) _, there_set ht2 _ _⟩, by simp [intOf]; omega⟩
      rw [← HCS.out, ← rwc_set]
      exact rangeAt_set hr k _ (by rw [rwc_length, cmnT_len]; exact hlt)
    · obtain rfl : k = 8 := by omega
      rw [cmnT_all] at hr
      have hi : (rwc (cmnL R S)).length = 8 := by rw [rwc_length]; exact cmnL_len R S
      have HI := hide hi
      clear hi
      go_wp2_with (first
        | (refine wpList_load_mid rfl 26 (.tmp 2) rfl _ 0 rfl (rwc (cmnL R S)) _ hr Try.underlying26 rfl (by rw [HI.out]; kernel_rfl) ?_)
        | (refine wpList_store_mid rfl 26 (.tmp 4) (.tmp 18) rfl _ 0 _ rfl rfl (by simpa [HI.out] using ht2) (by simp only [List.size_toArray]; rw [HI.out]; kernel_rfl) (rwc_one _) ?_))
      refine bodyPost_ret (results_mid rfl _ _ (w.heap.size + 1 + 1) 0 (rwc (cmnL R S)) _ rfl (World.rangeAt_setCells_same _ _ _ _ (by rw [HI.out]; exact ht2)) Try.underlying26 rfl (by rw [HI.out]; kernel_rfl)) rfl ⟨rfl, ?_⟩
      exact below_setCells _ _ _ _ hB (by omega)

set_option maxRecDepth 100000 in
set_option maxHeartbeats 8000000 in
theorem implMatchOf_any (R : List Nat) (hR : rok R) (R2 : List Nat) (hR2 : rok R2) (w : World) :
    Calls Try.prog 17 #[.agg (rwc R).toArray, .agg (rwc R2).toArray] w fun e w' => e = .returned (.int .i64 (mtN R R2)) ∧ Below w.heap.size w w' := by
  have HI := hide (rw_info hR.1)
  have HI2 := hide (rw_info hR2.1)
  have hb0 : Below w.heap.size w ((w.alloc (.cells (rwc R).toArray 26)).alloc (.cells (rwc R2).toArray 26)) := ((Below.refl _ _).alloc (Nat.le_refl _) _).alloc (by simp) _
  have r0 : ((w.alloc (.cells (rwc R).toArray 26)).alloc (.cells (rwc R2).toArray 26)).rangeAt w.heap.size 0 (rwc R) := World.rangeAt_alloc (rangeAt_new _ _ _) _
  have r1 : ((w.alloc (.cells (rwc R).toArray 26)).alloc (.cells (rwc R2).toArray 26)).rangeAt (w.heap.size + 1) 0 (rwc R2) := rangeAt_newg (by simp) rfl
  have HC := hide (fun W => common_any R R2 hR hR2 W)
  have HD := hide (fun W => countDark_any (cmnL R R2) (cmnL_ok hR R2) W)
  have HE := hide (show mtN R R2 = cntN (cmnL R R2) 8 from rfl)
  have HB := hide hb0
  clear hR hR2 hb0
  go_enter Try.func17, Try.ntmps17
  go_wp2_with (first | (refine wpList_load_mid rfl 26 (.tmp 2) rfl _ 0 rfl (rwc R) _ r0 Try.underlying26 rfl HI.out ?_) | (refine wpList_load_mid rfl 26 (.tmp 3) rfl _ 0 rfl (rwc R2) _ r1 Try.underlying26 rfl HI2.out ?_))
  refine (HC.out _).mono ?_
  rintro e w1 ⟨rfl, hb1⟩
  go_wp2_with fail
  refine (HD.out _).mono ?_
  rintro e w2 ⟨rfl, hb2⟩
  go_wp2
  go_ret
  exact ⟨ret_int (by rw [HE.out]), HB.out.trans ((hb1.trans (hb2.mono hb1.size)).mono HB.out.size)⟩

set_option maxRecDepth 100000 in
set_option maxHeartbeats 8000000 in
theorem l07Match_any (R S : List Nat) (hR : rok R) (hS : rok S) (b c : Nat) (w : World) (hr : w.rangeAt b 0 (rwc R)) (hr2 : w.rangeAt c 0 (rwc S)) :
    Calls Try.prog 29 #[.pointer (some ⟨b, 0, none⟩), .pointer (some ⟨c, 0, none⟩)] w fun e w' => e = .returned (.int .i64 (mtN R S)) ∧ Below w.heap.size w w' := by
  have HW := hide hR.1
  have HW2 := hide hS.1
  have HX := hide (rok_at hR)
  have HX2 := hide (rok_at hS)
  have HC := hide (fun g W h => l07Count_any (cmnL R S) (cmnL_ok hR S) g W h)
  have HE := hide (show mtN R S = cntN (cmnL R S) 8 from rfl)
  clear hR hS
  go_enter Try.func29, Try.ntmps29
  go_wp2
  go_loopw [6] (fun i wr => ∃ k : Nat, k ≤ 8 ∧ i = .int .i64 k ∧ Below w.heap.size w wr ∧ wr.rangeAt w.heap.size 0 (rwc ((cmnL R S).take k ++ List.replicate (8 - k) 0)) ∧ wr.there w.heap.size 0 8)
    (fun i _ => 8 - (intOf i).toNat)
  case atStart => exact ⟨0, by omega, rfl, (Below.refl _ _).alloc (Nat.le_refl _) _, rangeAt_newg rfl (by simp [rwc]), there_newg rfl rfl⟩
  case round =>
    obtain ⟨k, hk, rfl, hB, hg, ht⟩ := hrel
    by_cases hlt : k < 8
    · have hc0 := rangeAt_cell hr (rwc_get (k := k) (by rw [HW.out]; exact hlt))
      have hc1 := rangeAt_cell hr2 (rwc_get (k := k) (by rw [HW2.out]; exact hlt))
      have hc := (hB.cell (p := ⟨b, k, none⟩) (World.block_lt_of_cell? w _ hc0)).trans hc0
      have hc2 := (hB.cell (p := ⟨c, k, none⟩) (World.block_lt_of_cell? w _ hc1)).trans hc1
      have hf := (ht k hlt).2
      simp only [Nat.zero_add] at hf
      obtain ⟨old, ho⟩ : ∃ old, wr.cell? ⟨w.heap.size, k, none⟩ = some old := ⟨_, rangeAt_cell hg (rwc_get (k := k) (by simp [cmnL]; omega))⟩
      have hbt := u16_and_nat (R.getD k 0) (S.getD k 0) (HX.out k) (HX2.out k)
      have HCS : Hid (((cmnL R S).take k ++ List.replicate (8 - k) 0).set k (R.getD k 0 &&& S.getD k 0) = (cmnL R S).take (k + 1) ++ List.replicate (8 - (k + 1)) 0) := hide (by
        rw [← cmnL_get R S hlt]; exact prtN_succ (cmnL_len R S) hlt)
      generalize R.getD k 0 = m at *
      generalize S.getD k 0 = n at *
      have hi : (k : Int) < 8 := by omega
      have h0 : (0 : Int) ≤ k := by omega
      clear hc0 hc1
      go_wp2
      go_still_tail 13, (by kernel_rfl)
      go_wp2
      refine ⟨⟨k + 1, by omega, by go_num, (hB.setCell (p := ⟨w.heap.size, k, none⟩) (Nat.le_refl _) _).drew, ?_, there_set ht _ _⟩, by simp [intOf]; omega⟩
      rw [← HCS.out, ← rwc_set]
      exact rangeAt_set hg k _ (by rw [rwc_length]; simp [cmnL]; omega)
    · obtain rfl : k = 8 := by omega
      have hg2 : wr.rangeAt w.heap.size 0 (rwc (cmnL R S)) := by
        have e : (cmnL R S).take 8 ++ List.replicate (8 - 8) 0 = cmnL R S := prtN_all (cmnL_len R S)
        rw [e] at hg; exact hg
      clear hg
      go_wp2_with (go_at_call 40; refine (HC.out _ _ hg2).mono ?_; rintro e w1 ⟨rfl, rfl⟩)
      go_ret
      exact ⟨ret_int (by rw [HE.out]), hB⟩

theorem cast_eq {A B : List Nat} : decide (A.map (fun n : Nat => (n : Int)) = B.map (fun n : Nat => (n : Int))) = decide (A = B) := by
  rw [decide_eq_decide]
  exact List.map_inj_right (fun x y h => by exact_mod_cast h)
theorem rwc_ints (A : List Nat) : rwc A = (A.map (fun n : Nat => (n : Int))).map (Value.int .u16) := by simp [rwc, Function.comp_def]
theorem run_eql_rub (A B : List Nat) (hA : A.length = 8) (hB : B.length = 8) (w : World) :
    (binOp .eql 26 (.agg (rwc A).toArray) (.agg (rwc B).toArray)).run Try.prog w = .ok (.bool (decide (A = B))) w := by
  rw [rwc_ints, rwc_ints, ← cast_eq]
  exact run_eql_ints (P := Try.prog) (k := .u16) Try.underlying26 Try.underlying22 (fun _ => by kernel_rfl) _ _ (by simpa using hA) (by simpa using hB) w
theorem andNot_zero {o n : Nat} (ho : o < 65536) (hn : n < 65536) : n &&& (65535 - o) = 0 ↔ o &&& n = n := by
  have e : ∀ j, (65535 - o).testBit j = (decide (j < 16) && !o.testBit j) := fun j => by
    have := Nat.testBit_two_pow_sub_succ (n := 16) (x := o) (by simpa using ho) j
    have e2 : 65535 - o = 2 ^ 16 - (o + 1) := by omega
    rw [e2]; exact this
  constructor
  · intro h
    refine Nat.eq_of_testBit_eq fun j => ?_
    have h1 : (n &&& (65535 - o)).testBit j = false := by rw [h]; simp
    rw [Nat.testBit_and, e] at h1
    rw [Nat.testBit_and]
    by_cases hj : j < 16
    · revert h1; cases n.testBit j <;> cases o.testBit j <;> simp [hj]
    · rw [bit_lt hn (by omega)]; simp
  · intro h
    refine Nat.eq_of_testBit_eq fun j => ?_
    have h1 : (o &&& n).testBit j = n.testBit j := by rw [h]
    rw [Nat.testBit_and] at h1
    rw [Nat.testBit_and, e]
    revert h1; cases n.testBit j <;> cases o.testBit j <;> simp
theorem cmn_same {R S : List Nat} (hS : S.length = 8) (h : ∀ y, y < 8 → R.getD y 0 &&& S.getD y 0 = S.getD y 0) : decide (cmnL R S = S) = true := by
  rw [decide_eq_true_iff]
  apply List.ext_getElem
  · rw [cmnL_len, hS]
  · intro i h1 h2
    have hi : i < 8 := by rw [hS] at h2; exact h2
    have := h i hi
    simp only [cmnL, List.getElem_map, List.getElem_range]
    rw [this, List.getD_eq_getElem?_getD, List.getElem?_eq_getElem h2, Option.getD_some]
theorem cmn_other {R S : List Nat} {y : Nat} (hy : y < 8) (h : ¬ R.getD y 0 &&& S.getD y 0 = S.getD y 0) : decide (cmnL R S = S) = false := by
  rw [decide_eq_false_iff_not]
  intro e
  apply h
  rw [← cmnL_get R S hy, e]

end Go.Proofs.Ytjmkbdghenjlaaa
