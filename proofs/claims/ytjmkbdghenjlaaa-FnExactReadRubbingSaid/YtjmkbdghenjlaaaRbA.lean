/- Rubbings: their copies in the program's own type, whether they are equal, their dots, and how many are dark, of both. -/
import Derived.Test.YtjmkbdghenjlaaaRbP
import Derived.Test.YtjmkbdghenjlaaaArrEq
import Derived.LoopTactic
import Derived.Laws.ShiftsVar
import Derived.Lib.BitFns
namespace Go.Proofs.Ytjmkbdghenjlaaa
open Go Go.RowKit

def prtN (R : List Nat) (k : Nat) : List Nat := R.take k ++ List.replicate (8 - k) 0
theorem prtN_len {R : List Nat} (h : R.length = 8) {k : Nat} (hk : k ≤ 8) : (prtN R k).length = 8 := by simp [prtN, h]; omega
theorem prtN_all {R : List Nat} (h : R.length = 8) : prtN R 8 = R := by simp [prtN, ← h]
theorem prtN_succ {R : List Nat} (h : R.length = 8) {k : Nat} (hk : k < 8) : (prtN R k).set k (R.getD k 0) = prtN R (k + 1) := by
  apply List.ext_getElem
  · rw [List.length_set, prtN_len h (by omega), prtN_len h (by omega)]
  · intro i h1 h2
    have hi : i < 8 := by rw [prtN_len h (by omega)] at h2; exact h2
    simp only [prtN, List.getElem_set, List.getElem_append, List.length_take, List.getElem_take, List.getElem_replicate, h]
    by_cases e : k = i
    · subst e
      have : k < min (k + 1) 8 := by omega
      simp [this, List.getD, h, hk]
    · rw [if_neg e]
      by_cases h3 : i < min k 8
      · have : i < min (k + 1) 8 := by omega
        simp [h3, this]
      · have h4 : ¬ i < min (k + 1) 8 := by omega
        simp [h3, h4]

set_option maxHeartbeats 1000000 in
theorem toRubbing_any (R : List Nat) (hR : rok R) (w : World) :
    Calls Try.prog 7 #[.agg (rwc R).toArray] w fun e w' => e = .returned (.agg (rwc R).toArray) ∧ Below w.heap.size w w' := by
  have HW := hide hR.1
  clear hR
  go_enter Try.func7, Try.ntmps7
  go_wp2
  go_loopw [4] (fun i wr => ∃ k : Nat, k ≤ 8 ∧ i = .int .i64 k ∧ Below w.heap.size w wr ∧ wr.rangeAt w.heap.size 0 (rwc R) ∧ wr.there (w.heap.size + 1) 0 8 ∧ wr.rangeAt (w.heap.size + 1 + 1) 0 (rwc (prtN R k)) ∧ wr.there (w.heap.size + 1 + 1) 0 8)
    (fun i _ => 8 - (intOf i).toNat)
  case atStart =>
    refine ⟨0, by omega, rfl, ?_, ?_, ?_, ?_, ?_⟩
    · exact (((Below.refl _ _).alloc (Nat.le_refl _) _).alloc (by simp) _).alloc (by simp only [World.size_alloc]; omega) _
    · exact World.rangeAt_alloc (World.rangeAt_alloc (rangeAt_new _ _ _) _) _
    · exact World.there_alloc (there_newg (by simp) rfl) _
    · exact rangeAt_newg (by simp) (by simp [prtN, rwc])
    · exact there_newg (by simp) rfl
  case round =>
    obtain ⟨k, hk, rfl, hB, hr, ht1, hr2, ht2⟩ := hrel
    by_cases hlt : k < 8
    · have hc := rangeAt_cell hr (rwc_get (by rw [HW.out]; exact hlt))
      have hc2 := rangeAt_cell hr2 (rwc_get (k := k) (by rw [prtN_len HW.out hk]; exact hlt))
      have hf2 := (ht2 k hlt).2
      simp only [Nat.zero_add] at hf2
      go_wp2
      refine ⟨⟨k + 1, by omega, by go_num, hB.setCell (p := ⟨w.heap.size + 1 + 1, k, none⟩) (by show w.heap.size ≤ w.heap.size + 1 + 1; omega) _, rangeAt_far hr (by show w.heap.size + 1 + 1 ≠ w.heap.size; omega) _, there_set ht1 _ _, ?_, there_set ht2 _ _⟩, by simp [intOf]; omega⟩
      rw [← prtN_succ HW.out hlt, ← rwc_set]
      exact rangeAt_set hr2 k _ (by rw [rwc_length, prtN_len HW.out hk]; exact hlt)
    · obtain rfl : k = 8 := by omega
      rw [prtN_all HW.out] at hr2
      have hi : (rwc R).length = 8 := by rw [rwc_length]; exact HW.out
      have HI := hide hi
      clear hi
      go_wp2_with (first
        | (refine wpList_load_mid rfl 26 (.tmp 3) rfl _ 0 rfl (rwc R) _ hr2 Try.underlying26 rfl (by rw [HI.out]; kernel_rfl) ?_)
        | (refine wpList_store_mid rfl 26 (.tmp 2) (.tmp 14) rfl _ 0 _ rfl rfl (by simpa [HI.out] using ht1) (by simp only [List.size_toArray]; rw [HI.out]; kernel_rfl) (rwc_one R) ?_))
      refine bodyPost_ret (results_mid rfl _ _ (w.heap.size + 1) 0 (rwc R) _ rfl (World.rangeAt_setCells_same _ _ _ _ (by rw [HI.out]; exact ht1)) Try.underlying26 rfl (by rw [HI.out]; kernel_rfl)) rfl ⟨rfl, ?_⟩
      exact below_setCells _ _ _ _ hB (by omega)

set_option maxHeartbeats 2000000 in
theorem eqRubbing_same (R : List Nat) (hR : R.length = 8) (w : World) :
    Calls Try.prog 13 #[.agg (rwc R).toArray, .agg (rwc R).toArray] w fun e w' => e = .returned (.bool true) ∧ Below w.heap.size w w' := by
  have HW := hide hR
  have hb0 : Below w.heap.size w ((w.alloc (.cells (rwc R).toArray 26)).alloc (.cells (rwc R).toArray 26)) := ((Below.refl _ _).alloc (Nat.le_refl _) _).alloc (by simp) _
  have r0 : ((w.alloc (.cells (rwc R).toArray 26)).alloc (.cells (rwc R).toArray 26)).rangeAt w.heap.size 0 (rwc R) := World.rangeAt_alloc (rangeAt_new _ _ _) _
  have r1 : ((w.alloc (.cells (rwc R).toArray 26)).alloc (.cells (rwc R).toArray 26)).rangeAt (w.heap.size + 1) 0 (rwc R) := rangeAt_newg (by simp) rfl
  have HB := hide hb0
  clear hR hb0
  go_enter Try.func13, Try.ntmps13
  go_wp2
  generalize ((w.alloc (.cells (rwc R).toArray 26)).alloc (.cells (rwc R).toArray 26)) = W0 at *
  go_loopw [5] (fun i wr => ∃ k : Nat, k ≤ 8 ∧ i = .int .i64 k ∧ Below W0.heap.size W0 wr)
    (fun i _ => 8 - (intOf i).toNat)
  case atStart => exact ⟨0, by omega, rfl, Below.refl _ _⟩
  case round =>
    obtain ⟨k, hk, rfl, hB⟩ := hrel
    by_cases hlt : k < 8
    · have c0 := rangeAt_cell r0 (rwc_get (k := k) (by rw [HW.out]; exact hlt))
      have c1 := rangeAt_cell r1 (rwc_get (k := k) (by rw [HW.out]; exact hlt))
      have d0 := (hB.cell (p := ⟨w.heap.size, k, none⟩) (World.block_lt_of_cell? W0 _ c0)).trans c0
      have d1 := (hB.cell (p := ⟨w.heap.size + 1, k, none⟩) (World.block_lt_of_cell? W0 _ c1)).trans c1
      have hi : (k : Int) < 8 := by omega
      have h0 : (0 : Int) ≤ k := by omega
      go_wp2
      go_region
      all_goals (go_wp2; exact ⟨⟨k + 1, by omega, by go_num, hB.drew⟩, by simp [intOf]; omega⟩)
    · obtain rfl : k = 8 := by omega
      go_wp2
      go_ret
      exact ⟨rfl, HB.out.trans (hB.mono HB.out.size)⟩

/-- A rubbing that has come back is laid in a variable. -/
theorem stored_rub (w : World) (R : List Nat) (hW : R.length = 8) : ∃ W5, W5 = (w.alloc (.cells #[.int .u16 0, .int .u16 0, .int .u16 0, .int .u16 0, .int .u16 0, .int .u16 0, .int .u16 0, .int .u16 0] 26)).setCells w.heap.size 0 (rwc R).toArray.toList ∧ W5.rangeAt w.heap.size 0 (rwc R) ∧
    Below w.heap.size w W5 ∧ w.heap.size < W5.heap.size ∧ (w.alloc (.cells #[.int .u16 0, .int .u16 0, .int .u16 0, .int .u16 0, .int .u16 0, .int .u16 0, .int .u16 0, .int .u16 0] 26)).there w.heap.size 0 (rwc R).toArray.size := by
  have t1 : (w.alloc (.cells #[.int .u16 0, .int .u16 0, .int .u16 0, .int .u16 0, .int .u16 0, .int .u16 0, .int .u16 0, .int .u16 0] 26)).there w.heap.size 0 8 := there_newg rfl rfl
  refine ⟨_, rfl, ?_, ?_, ?_, ?_⟩
  · exact World.rangeAt_setCells_same _ _ _ _ (by rw [rwc_length, hW]; exact t1)
  · exact below_setCells _ _ _ _ ((Below.refl _ _).alloc (Nat.le_refl _) _) (Nat.le_refl _)
  · rw [size_setCells]; simp
  · simp only [List.size_toArray]; rw [rwc_length, hW]; exact t1
theorem rub_info {R : List Nat} (h : R.length = 8) : (Try.prog.info? 26).map (·.size) = some (rwc R).toArray.size := by simp only [List.size_toArray]; rw [rwc_length, h]; kernel_rfl
theorem rub_info' {R : List Nat} (h : R.length = 8) : (Try.prog.info? 26).map (·.size) = some (rwc R).length := by rw [rwc_length, h]; kernel_rfl

/-! The model's dots. -/
set_option maxRecDepth 100000 in
set_option maxHeartbeats 4000000 in
theorem l07Dark_any (R : List Nat) (hR : rok R) (b : Nat) (x y : Int) (w : World) (hr : w.rangeAt b 0 (rwc R)) :
    Calls Try.prog 37 #[.pointer (some ⟨b, 0, none⟩), .int .i64 x, .int .i64 y] w fun e w' => e = .returned (.bool (dk R x y)) ∧ w = w' := by
  cases hx : inB x 0 15
  · have HD := hide (dk_offx (R := R) (y := y) hx)
    go_enter Try.func37, Try.ntmps37
    go_wp2_with (go_at_call 45; refine (l00In_any _ _ _ _).mono ?_; rintro e w' ⟨rfl, rfl⟩; simp only [hx])
    go_ret
    exact ⟨ret_bool HD.out.symm, rfl⟩
  · cases hy : inB y 0 7
    · have HD := hide (dk_offy (R := R) (x := x) hy)
      go_enter Try.func37, Try.ntmps37
      go_wp2_with (go_at_call 45; refine (l00In_any _ _ _ _).mono ?_; rintro e w' ⟨rfl, rfl⟩; simp only [hx, hy])
      go_ret
      exact ⟨ret_bool HD.out.symm, rfl⟩
    · have HD := hide (dk_at (R := R) hx hy)
      obtain ⟨x1, x2⟩ := inB_true.1 hx
      obtain ⟨y1, y2⟩ := inB_true.1 hy
      obtain ⟨X, rfl⟩ := Int.eq_ofNat_of_zero_le x1
      obtain ⟨Y, rfl⟩ := Int.eq_ofNat_of_zero_le y1
      have hc := rangeAt_cell hr (rwc_get (k := Y) (by rw [hR.1]; omega))
      rw [Int.toNat_natCast, Int.toNat_natCast] at HD
      generalize R.getD Y 0 = n at *
      have HB := hide (bit_tmod n X)
      have hm : min (X : Int).toNat 16 = X := u16_min (by omega)
      have hs := u16_shr n X
      clear hr hR
      go_enter Try.func37, Try.ntmps37
      go_wp2_with (go_at_call 45; refine (l00In_any _ _ _ _).mono ?_; rintro e w' ⟨rfl, rfl⟩; simp only [hx, hy])
      go_ret
      exact ⟨ret_bool (by rw [HD.out, HB.out]), rfl⟩

set_option maxRecDepth 100000 in
set_option maxHeartbeats 4000000 in
theorem l07Row_any (R : List Nat) (hR : rok R) (b : Nat) (y : Nat) (hy : y < 8) (w : World) (hr : w.rangeAt b 0 (rwc R)) :
    Calls Try.prog 49 #[.pointer (some ⟨b, 0, none⟩), .int .i64 y] w fun e w' => e = .returned (.int .i64 (bitN (R.getD y 0) 16)) ∧ w = w' := by
  have HDK := hide (fun x W h => l07Dark_any R hR b x (y : Int) W h)
  have HDI := hide (fun (x : Nat) (hx : x < 16) => dk_in (R := R) hx hy)
  clear hR
  generalize R.getD y 0 = n at *
  have HS := hide (fun k => show bitN n (k + 1) = bitN n k + (n.testBit k).toNat from rfl)
  have HL := hide (bitN_le n)
  go_enter Try.func49, Try.ntmps49
  go_wp2
  go_loop [5, 6] (fun v i => ∃ k : Nat, k ≤ 16 ∧ i = .int .i64 k ∧ v = .int .i64 (bitN n k)) (fun _ i => 16 - (intOf i).toNat)
  case atStart => exact ⟨0, by omega, rfl, rfl⟩
  case round =>
    obtain ⟨k, hk, rfl, rfl⟩ := hrel
    by_cases hlt : k < 16
    · have HD := hide (HDI.out k hlt)
      have HX := hide (HS.out k)
      have hl := HL.out k
      cases hb : n.testBit k
      · have HE := hide (HD.out.trans hb)
        have HV : Hid (bitN n (k + 1) = bitN n k) := hide (by rw [HX.out, hb]; rfl)
        go_wp2_with (go_at_call 37; refine (HDK.out _ _ hr).mono ?_; rintro e w' ⟨rfl, rfl⟩; rw [HE.out])
        exact ⟨⟨k + 1, by omega, by go_num, by rw [HV.out]⟩, by simp [intOf]; omega⟩
      · have HE := hide (HD.out.trans hb)
        have HV : Hid (bitN n (k + 1) = bitN n k + 1) := hide (by rw [HX.out, hb]; rfl)
        go_wp2_with (go_at_call 37; refine (HDK.out _ _ hr).mono ?_; rintro e w' ⟨rfl, rfl⟩; rw [HE.out])
        exact ⟨⟨k + 1, by omega, by go_num, by rw [HV.out]; rfl⟩, by simp [intOf]; omega⟩
    · obtain rfl : k = 16 := by omega
      go_wp2
      go_ret
      exact ⟨rfl, rfl⟩

set_option maxRecDepth 100000 in
set_option maxHeartbeats 4000000 in
theorem l07Count_any (R : List Nat) (hR : rok R) (b : Nat) (w : World) (hr : w.rangeAt b 0 (rwc R)) :
    Calls Try.prog 40 #[.pointer (some ⟨b, 0, none⟩)] w fun e w' => e = .returned (.int .i64 (cntN R 8)) ∧ w = w' := by
  have HRW := hide (fun y hy W h => l07Row_any R hR b y hy W h)
  have HS := hide (fun k => show cntN R (k + 1) = cntN R k + bitN (R.getD k 0) 16 from rfl)
  have HL := hide (cntN_le R)
  have HL2 := hide (fun k => bitN_le (R.getD k 0) 16)
  clear hR
  go_enter Try.func40, Try.ntmps40
  go_wp2
  go_loop [3, 4] (fun v i => ∃ k : Nat, k ≤ 8 ∧ i = .int .i64 k ∧ v = .int .i64 (cntN R k)) (fun _ i => 8 - (intOf i).toNat)
  case atStart => exact ⟨0, by omega, rfl, rfl⟩
  case round =>
    obtain ⟨k, hk, rfl, rfl⟩ := hrel
    by_cases hlt : k < 8
    · have HX := hide (HS.out k)
      have hl := HL.out k
      have hl2 := HL2.out k
      have HC := hide (HRW.out k hlt w hr)
      generalize bitN (R.getD k 0) 16 = q at *
      go_wp2_with (go_at_call 49; refine HC.out.mono ?_; rintro e w' ⟨rfl, rfl⟩)
      exact ⟨⟨k + 1, by omega, by go_num, by rw [HX.out]; rfl⟩, by simp [intOf]; omega⟩
    · obtain rfl : k = 8 := by omega
      go_wp2
      go_ret
      exact ⟨rfl, rfl⟩

theorem pop_bits : ∀ n : Fin 256, Lib.onesCount n.val = bitN n.val 8 := by decide +kernel
theorem bitN_split (n : Nat) : ∀ k, bitN n (8 + k) = bitN (n % 256) 8 + bitN (n / 256) k
  | 0 => by
    show bitN n 8 = bitN (n % 256) 8 + 0
    have h : ∀ j, j ≤ 8 → bitN n j = bitN (n % 256) j := by
      intro j hj
      induction j with
      | zero => rfl
      | succ j ih =>
        rw [bitN, bitN, ih (by omega)]
        have : (n % 256).testBit j = n.testBit j := by
          have := Nat.testBit_mod_two_pow n 8 j
          simp only [Nat.reducePow] at this
          rw [this]; simp; omega
        rw [this]
    exact h 8 (Nat.le_refl _)
  | k + 1 => by
    have ih := bitN_split n k
    rw [show 8 + (k + 1) = (8 + k) + 1 from rfl, show bitN n (8 + k + 1) = bitN n (8 + k) + (n.testBit (8 + k)).toNat from rfl, ih, show bitN (n / 256) (k + 1) = bitN (n / 256) k + ((n / 256).testBit k).toNat from rfl]
    have : (n / 256).testBit k = n.testBit (8 + k) := by
      have := Nat.testBit_shiftRight n (i := 8) (j := k)
      rw [Nat.shiftRight_eq_div_pow] at this
      simpa using this
    rw [this, Nat.add_assoc]
theorem bitN_ones {n : Nat} (h : n < 65536) : (bitN n 16 : Int) = (Lib.onesCount (n / 256) : Int) + (Lib.onesCount (n % 256) : Int) := by
  have e1 := pop_bits ⟨n / 256, by omega⟩
  have e2 := pop_bits ⟨n % 256, by omega⟩
  have e3 := bitN_split n 8
  simp only at e1 e2
  rw [e1, e2, e3]; omega

theorem pop_at {p : Nat} (hp : p < 256) : ∀ h, (Lib.pop8tab[p]'h).toNat = Lib.onesCount p := by
  intro h
  have e := Lib.pop8_eq ⟨p, hp⟩
  simp only [Lib.pop8, Int.toNat_natCast] at e
  rw [getElem?_pos Lib.pop8tab p h, Option.getD_some] at e
  exact_mod_cast e

set_option maxRecDepth 100000 in
set_option maxHeartbeats 4000000 in
theorem onesCount16_any (n : Nat) (hn : n < 65536) (w : World) :
    Calls Try.prog 50 #[.int .u16 n] w fun e w' => e = .returned (.int .i64 (bitN n 16)) ∧ Below w.heap.size w w' := by
  have hO := bitN_ones hn
  obtain ⟨p, hp⟩ : ∃ p, n / 256 = p := ⟨_, rfl⟩
  obtain ⟨q, hq⟩ : ∃ q, n % 256 = q := ⟨_, rfl⟩
  have hp1 : p < 256 := by omega
  have hq1 : q < 256 := by omega
  have h1 : (n : Int) / 256 = (p : Int) := by omega
  have h2 : bits .and .u16 (n : Int) 255 = (q : Int) := by
    have e := u16_and_nat n 255 hn (by decide)
    rw [show (255 : Int) = ((255 : Nat) : Int) from rfl, e, nat_mask8, hq]
  have hsz : Lib.pop8tab.size = 256 := Lib.pop8tab_size
  have hp2 : (p : Int) < 256 := by omega
  have hq2 : (q : Int) < 256 := by omega
  have hp0 : (0 : Int) ≤ p := by omega
  have hq0 : (0 : Int) ≤ q := by omega
  rw [hp, hq] at hO
  have HO := hide hO
  have HP := hide (pop_at hp1)
  have HQ := hide (pop_at hq1)
  have l1 := Lib.onesCount_le8 ⟨p, hp1⟩
  have l2 := Lib.onesCount_le8 ⟨q, hq1⟩
  have HL := hide (And.intro l1 l2)
  clear hO hp hq l1 l2
  go_enter Try.func50, Try.ntmps50
  go_wp2
  go_region
  go_wp2
  go_ret
  refine ⟨ret_int ?_, (Below.refl _ _).drew⟩
  have hl := HL.out
  rw [HP.out, HQ.out, HO.out]
  omega
end Go.Proofs.Ytjmkbdghenjlaaa
