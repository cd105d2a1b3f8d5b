/- Rubbings mirrored, of both. -/
import Derived.Test.YtngondeaeipcfaaDoorRbC
namespace Go.Proofs.YtngondeaeipcfaaDoor
open Go Go.RowKit

set_option maxRecDepth 100000 in
set_option maxHeartbeats 8000000 in
theorem specMirrorRubbing_any (R : List Nat) (hR : rok R) (w : World) :
    Calls Tryd.prog 19 #[.agg (rwc R).toArray] w fun e w' => e = .returned (.agg (rwc (mirR R)).toArray) ∧ Below w.heap.size w w' := by
  have HDK := hide (fun x y W h => l07Dark_any R hR w.heap.size x y W h)
  have HW := hide hR.1
  obtain ⟨f, hf⟩ : ∃ f : Nat → Nat → Bool, (fun (x y : Nat) => dk R (15 - (x : Int)) (y : Int)) = f := ⟨_, rfl⟩
  have HF : Hid (∀ x y : Nat, dk R (15 - (x : Int)) (y : Int) = f x y) := hide (fun x y => by rw [← hf])
  have HM : Hid (mirR R = rubF f) := hide (by rw [← hf]; rfl)
  rw [HM.out]
  clear hR hf HM
  go_enter Tryd.func19, Tryd.ntmps19
  go_wp2
  go_loopw [4] (fun i wr => ∃ y : Nat, y ≤ 8 ∧ i = .int .i64 y ∧ Below w.heap.size w wr ∧ wr.rangeAt w.heap.size 0 (rwc R) ∧ wr.there (w.heap.size + 1) 0 8 ∧ wr.rangeAt (w.heap.size + 1 + 1) 0 (rwc (rubT f y 0)) ∧ wr.there (w.heap.size + 1 + 1) 0 8)
    (fun i _ => 8 - (intOf i).toNat)
  case atStart =>
    refine ⟨0, by omega, rfl, ?_, ?_, ?_, ?_, ?_⟩
    · exact (((Below.refl _ _).alloc (Nat.le_refl _) _).alloc (by simp) _).alloc (by simp only [World.size_alloc]; omega) _
    · exact World.rangeAt_alloc (World.rangeAt_alloc (rangeAt_new _ _ _) _) _
    · exact World.there_alloc (there_newg (by simp) rfl) _
    · exact rangeAt_newg (by simp) (by simp [rubT_zero, rwc])
    · exact there_newg (by simp) rfl
  case round =>
    obtain ⟨y, hy, rfl, hB, hr, ht1, hr2, ht2⟩ := hrel
    obtain ⟨W1, hW1⟩ : ∃ W1, W1 = wr := ⟨_, rfl⟩
    subst hW1
    by_cases hlt : y < 8
    · have hiy : (y : Int) < 8 := by omega
      have h0y : (0 : Int) ≤ y := by omega
      go_wp2
      go_loopw [5] (fun i wr => ∃ x : Nat, x ≤ 16 ∧ i = .int .i64 x ∧ Below w.heap.size w wr ∧ wr.rangeAt w.heap.size 0 (rwc R) ∧ wr.there (w.heap.size + 1) 0 8 ∧ wr.rangeAt (w.heap.size + 1 + 1) 0 (rwc (rubT f y x)) ∧ wr.there (w.heap.size + 1 + 1) 0 8)
        (fun i _ => 16 - (intOf i).toNat)
      case atStart => exact ⟨0, by omega, rfl, hB, hr, ht1, hr2, ht2⟩
      case round =>
        clear hB hr ht1 hr2 ht2
        obtain ⟨x, hx, rfl, hB, hr, ht1, hr2, ht2⟩ := hrel
        by_cases hltx : x < 16
        · have hix : (x : Int) < 16 := by omega
          have h0x : (0 : Int) ≤ x := by omega
          have hc := rangeAt_cell hr2 (rwc_get (k := y) (by rw [rubT_len]; exact hlt))
          rw [rubT_get f hlt] at hc
          have hf2 := (ht2 y hlt).2
          simp only [Nat.zero_add] at hf2
          have HV := hide (HF.out x y)
          have hmin : min (x : Int).toNat 16 = x := u16_min (by omega)
          have HOR := hide (u16_orbit (rowF_lt16 (fun x => f x y) hx) hltx)
          cases hb : f x y
          · have HE := hide (HV.out.trans hb)
            have HO := hide (rubT_off (y := y) hb)
            go_wp2_with (go_at_call 70; refine (HDK.out _ _ _ hr).mono ?_; rintro e w' ⟨rfl, rfl⟩; rw [HE.out])
            exact ⟨⟨x + 1, by omega, by go_num, hB, hr, ht1, by rw [HO.out]; exact hr2, ht2⟩, by simp [intOf]; omega⟩
          · have HE := hide (HV.out.trans hb)
            have HS := hide (rubT_set hlt hb)
            generalize rowF (fun x => f x y) x = m at *
            go_wp2_with (go_at_call 70; refine (HDK.out _ _ _ hr).mono ?_; rintro e w' ⟨rfl, rfl⟩; rw [HE.out])
            refine ⟨⟨x + 1, by omega, by go_num, hB.setCell (p := ⟨w.heap.size + 1 + 1, y, none⟩) (by show w.heap.size ≤ w.heap.size + 1 + 1; omega) _, rangeAt_far hr (by show w.heap.size + 1 + 1 ≠ w.heap.size; omega) _, there_set ht1 _ _, ?_, there_set ht2 _ _⟩, by simp [intOf]; omega⟩
            rw [HOR.out, ← HS.out, ← rwc_set]
            exact rangeAt_set hr2 y _ (by rw [rwc_length, rubT_len]; exact hlt)
        · obtain rfl : x = 16 := by omega
          rw [rubT_next] at hr2
          go_wp2
          exact ⟨⟨y + 1, by omega, by go_num, hB, hr, ht1, hr2, ht2⟩, by simp [intOf]; omega⟩
    · obtain rfl : y = 8 := by omega
      rw [rubT_all] at hr2
      have hi : (rwc (rubF f)).length = 8 := by rw [rwc_length]; exact rubF_len f
      have HI := hide hi
      clear hi
      go_wp2_with (first
        | (refine wpList_load_mid rfl 26 (.tmp 3) rfl _ 0 rfl (rwc (rubF f)) _ hr2 Tryd.underlying26 rfl (by rw [HI.out]; kernel_rfl) ?_)
        | (refine wpList_store_mid rfl 26 (.tmp 2) (.tmp 28) rfl _ 0 _ rfl rfl (by simpa [HI.out] using ht1) (by simp only [List.size_toArray]; rw [HI.out]; kernel_rfl) (rwc_one _) ?_))
      refine bodyPost_ret (results_mid rfl _ _ (w.heap.size + 1) 0 (rwc (rubF f)) _ rfl (World.rangeAt_setCells_same _ _ _ _ (by rw [HI.out]; exact ht1)) Tryd.underlying26 rfl (by rw [HI.out]; kernel_rfl)) rfl ⟨rfl, ?_⟩
      exact below_setCells _ _ _ _ hB (by omega)

/-! the program's -/
noncomputable def rv8 (n : Nat) : Nat := ((Lib.rev8tab[n]?).getD 0).toNat
theorem rv8_bits : ∀ n : Fin 256, ∀ k : Fin 8, (((Lib.rev8tab[n.val]?).getD 0).toNat).testBit k.val = n.val.testBit (7 - k.val) := by decide +kernel
theorem rv8_lt : ∀ n : Fin 256, ((Lib.rev8tab[n.val]?).getD 0).toNat < 256 := by decide +kernel
theorem rv8_at {n : Nat} (h : n < 256) : ∀ hh, (Lib.rev8tab[n]'hh).toNat = rv8 n := by
  intro hh; unfold rv8; rw [getElem?_pos Lib.rev8tab n hh, Option.getD_some]
noncomputable def revN (n : Nat) : Nat := rv8 (n / 256) ||| rv8 (n % 256) * 256
theorem revN_lt {n : Nat} (hn : n < 65536) : revN n < 65536 := by
  have h1 := rv8_lt ⟨n / 256, by omega⟩
  have h2 := rv8_lt ⟨n % 256, by omega⟩
  simp only at h1 h2
  exact Nat.or_lt_two_pow (n := 16) (by unfold rv8; omega) (by unfold rv8; omega)
theorem revN_bit {n : Nat} (hn : n < 65536) {j : Nat} (hj : j < 16) : (revN n).testBit j = n.testBit (15 - j) := by
  unfold revN
  have hp : n / 256 < 256 := by omega
  have hq : n % 256 < 256 := by omega
  have e256 : rv8 (n % 256) * 256 = rv8 (n % 256) <<< 8 := by rw [Nat.shiftLeft_eq]
  rw [Nat.testBit_or, e256, Nat.testBit_shiftLeft]
  by_cases h : j < 8
  · have h1 := rv8_bits ⟨n / 256, hp⟩ ⟨j, h⟩
    simp only at h1
    have h2 : (n / 256).testBit (7 - j) = n.testBit (15 - j) := by
      have := Nat.testBit_shiftRight n (i := 8) (j := 7 - j)
      rw [Nat.shiftRight_eq_div_pow] at this
      rw [show 15 - j = 8 + (7 - j) by omega]
      simpa using this
    rw [← h2, ← h1]
    simp [rv8]; omega
  · have h1 := rv8_bits ⟨n % 256, hq⟩ ⟨j - 8, by omega⟩
    simp only at h1
    have h2 : (n % 256).testBit (7 - (j - 8)) = n.testBit (15 - j) := by
      have := Nat.testBit_mod_two_pow n 8 (7 - (j - 8))
      simp only [Nat.reducePow] at this
      rw [this, show 7 - (j - 8) = 15 - j by omega]
      simp; omega
    have h3 : (rv8 (n / 256)).testBit j = false := by
      have := rv8_lt ⟨n / 256, hp⟩
      simp only at this
      exact Nat.testBit_lt_two_pow (Nat.lt_of_lt_of_le (show rv8 (n / 256) < 2 ^ 8 from this) (Nat.pow_le_pow_right (by decide) (by omega)))
    rw [h3, ← h2, ← h1]
    simp [rv8]; omega

set_option maxRecDepth 100000 in
set_option maxHeartbeats 4000000 in
theorem reverse16_any (n : Nat) (hn : n < 65536) (w : World) :
    Calls Tryd.prog 67 #[.int .u16 n] w fun e w' => e = .returned (.int .u16 (revN n)) ∧ Below w.heap.size w w' := by
  obtain ⟨p, hp⟩ : ∃ p, n / 256 = p := ⟨_, rfl⟩
  obtain ⟨q, hq⟩ : ∃ q, n % 256 = q := ⟨_, rfl⟩
  have hp1 : p < 256 := by omega
  have hq1 : q < 256 := by omega
  have h1 : (n : Int) / 256 = (p : Int) := by omega
  have h2 : bits .and .u16 (n : Int) 255 = (q : Int) := by
    have e := u16_and_nat n 255 hn (by decide)
    rw [show (255 : Int) = ((255 : Nat) : Int) from rfl, e, nat_mask8, hq]
  have hsz : Lib.rev8tab.size = 256 := Lib.rev8tab_size
  have hp2 : (p : Int) < 256 := by omega
  have hq2 : (q : Int) < 256 := by omega
  have hp0 : (0 : Int) ≤ p := by omega
  have hq0 : (0 : Int) ≤ q := by omega
  have HO : Hid (revN n = rv8 p ||| rv8 q * 256) := hide (by unfold revN; rw [hp, hq])
  have HP := hide (rv8_at hp1)
  have HQ := hide (rv8_at hq1)
  have l1 := rv8_lt ⟨p, hp1⟩
  have l2 := rv8_lt ⟨q, hq1⟩
  have HL : Hid (rv8 p < 256 ∧ rv8 q < 256) := hide (And.intro l1 l2)
  clear hp hq l1 l2
  go_enter Tryd.func67, Tryd.ntmps67
  go_wp2
  go_region
  go_wp2
  go_ret
  refine ⟨ret_int ?_, (Below.refl _ _).drew⟩
  obtain ⟨l1, l2⟩ := HL.out
  have e0 : IntKind.u16.wrap ((rv8 q : Nat) : Int) = ((rv8 q : Nat) : Int) := by rw [IntKind.wrap_u16]; omega
  have e1 : IntKind.u16.wrap ((rv8 p : Nat) : Int) = ((rv8 p : Nat) : Int) := by rw [IntKind.wrap_u16]; omega
  have e2 : IntKind.u16.wrap (((rv8 q : Nat) : Int) * 256) = ((rv8 q * 256 : Nat) : Int) := by rw [IntKind.wrap_u16]; omega
  rw [HP.out, HQ.out, e0, e1, e2, HO.out]
  exact u16_or_nat _ _ (by omega) (by omega)

noncomputable def mitT (R : List Nat) (k : Nat) : List Nat := (List.range 8).map (fun y => if y < k then revN (R.getD y 0) else R.getD y 0)
theorem mitT_len (R : List Nat) (k : Nat) : (mitT R k).length = 8 := by simp [mitT]
theorem mitT_zero {R : List Nat} (h : R.length = 8) : mitT R 0 = R := by
  apply List.ext_getElem
  · simp [mitT, h]
  · intro i h1 h2; simp [mitT, List.getD, h2]
theorem mitT_set (R : List Nat) {y : Nat} (hy : y < 8) : (mitT R y).set y (revN (R.getD y 0)) = mitT R (y + 1) := by
  apply List.ext_getElem
  · simp [mitT]
  · intro i h1 h2
    rw [List.length_set, mitT_len] at h1
    simp only [mitT, List.getElem_set, List.getElem_map, List.getElem_range]
    by_cases e : y = i
    · subst e; simp
    · rw [if_neg e]
      by_cases h3 : i < y
      · rw [if_pos h3, if_pos (by omega)]
      · rw [if_neg h3, if_neg (by omega)]
theorem mitT_all {R : List Nat} (hR : rok R) : mitT R 8 = mirR R := by
  unfold mitT mirR rubF
  refine List.map_congr_left fun y hy => ?_
  have hy8 := List.mem_range.1 hy
  rw [if_pos hy8]
  refine rowF_eq (revN_lt (rok_at hR y)) fun j hj => ?_
  rw [revN_bit (rok_at hR y) hj]
  show _ = dk R (15 - (j : Int)) (y : Int)
  have e : (15 : Int) - (j : Int) = ((15 - j : Nat) : Int) := by omega
  rw [e, dk_in (by omega) hy8]

set_option maxRecDepth 100000 in
set_option maxHeartbeats 8000000 in
theorem implMirrorRubbing_any (R : List Nat) (hR : rok R) (w : World) :
    Calls Tryd.prog 16 #[.agg (rwc R).toArray] w fun e w' => e = .returned (.agg (rwc (mirR R)).toArray) ∧ Below w.heap.size w w' := by
  have HI := hide (rw_info hR.1)
  have HW := hide hR.1
  have HX := hide (rok_at hR)
  have HM := hide (mitT_all hR)
  have r0 : ((w.alloc (.cells (rwc R).toArray 26)).alloc (.cells #[.int .u16 0, .int .u16 0, .int .u16 0, .int .u16 0, .int .u16 0, .int .u16 0, .int .u16 0, .int .u16 0] 26)).rangeAt w.heap.size 0 (rwc R) := World.rangeAt_alloc (rangeAt_new _ _ _) _
  clear hR
  go_enter Tryd.func16, Tryd.ntmps16
  go_wp2_with (refine wpList_load_mid rfl 26 (.tmp 1) rfl _ 0 rfl (rwc R) _ r0 Tryd.underlying26 rfl HI.out ?_)
  go_loopw [6] (fun i wr => ∃ k : Nat, k ≤ 8 ∧ i = .int .i64 k ∧ Below w.heap.size w wr ∧ wr.rangeAt w.heap.size 0 (rwc (mitT R k)) ∧ wr.there w.heap.size 0 8 ∧ wr.there (w.heap.size + 1) 0 8 ∧ w.heap.size < wr.heap.size)
    (fun i _ => 8 - (intOf i).toNat)
  case atStart =>
    refine ⟨0, by omega, rfl, ?_, ?_, ?_, ?_, ?_⟩
    · exact ((Below.refl _ _).alloc (Nat.le_refl _) _).alloc (by simp) _
    · rw [mitT_zero HW.out]; exact World.rangeAt_alloc (rangeAt_new _ _ _) _
    · exact World.there_alloc (there_newg rfl (by simp [HW.out, rwc_length])) _
    · exact there_newg (by simp) rfl
    · simp; omega
  case round =>
    obtain ⟨k, hk, rfl, hB, hr, ht1, ht2, hsz⟩ := hrel
    by_cases hlt : k < 8
    · have hi : (k : Int) < 8 := by omega
      have h0 : (0 : Int) ≤ k := by omega
      have hix := run_index_agg (P := Tryd.prog) (t := 26) (k := k) (cs := (rwc R).toArray) Tryd.underlying26 (fun _ => by kernel_rfl) (fun _ => by kernel_rfl) hlt (by rw [List.getElem?_toArray]; exact rwc_get (k := k) (by rw [HW.out]; exact hlt))
      have HC := hide (fun W => reverse16_any (R.getD k 0) (HX.out k) W)
      have HS := hide (mitT_set R hlt)
      obtain ⟨ov, hov⟩ : ∃ ov, wr.cell? ⟨w.heap.size, k, none⟩ = some ov := ⟨_, rangeAt_cell hr (rwc_get (k := k) (by rw [mitT_len]; exact hlt))⟩
      generalize R.getD k 0 = n at *
      generalize revN n = v at *
      go_wp2_with fail
      refine (HC.out _).mono ?_
      rintro e w1 ⟨rfl, hb1⟩
      have hB1 := hB.trans (hb1.mono hB.size)
      have hr1 := rangeAt_below hr hb1 hsz
      have ht3 := there_below ht1 hb1 hsz
      have ht4 := there_below ht2 hb1 (by obtain ⟨v, hv, _⟩ := there_some ht2 (show 0 < 8 by omega); exact World.block_lt_of_cell? wr _ hv)
      have hc1 := (hb1.cell (p := ⟨w.heap.size, k, none⟩) hsz).trans hov
      have hf1 := (ht3 k hlt).2
      simp only [Nat.zero_add] at hf1
      have hs1 := hb1.size
      clear hr ht1 ht2 hov hb1
      go_wp2
      refine ⟨⟨k + 1, by omega, by go_num, hB1.setCell (p := ⟨w.heap.size, k, none⟩) (Nat.le_refl _) _, ?_, there_set ht3 _ _, there_set ht4 _ _, by simp; omega⟩, by simp [intOf]; omega⟩
      rw [← HS.out, ← rwc_set]
      exact rangeAt_set hr1 k _ (by rw [rwc_length, mitT_len]; exact hlt)
    · obtain rfl : k = 8 := by omega
      rw [HM.out] at hr
      have hi : (rwc (mirR R)).length = 8 := by rw [rwc_length]; exact rubF_len _
      have HI := hide hi
      clear hi
      go_wp2_with (first
        | (refine wpList_load_mid rfl 26 (.tmp 1) rfl _ 0 rfl (rwc (mirR R)) _ hr Tryd.underlying26 rfl (by rw [HI.out]; kernel_rfl) ?_)
        | (refine wpList_store_mid rfl 26 (.tmp 2) (.tmp 15) rfl _ 0 _ rfl rfl (by simpa [HI.out] using ht2) (by simp only [List.size_toArray]; rw [HI.out]; kernel_rfl) (rwc_one _) ?_))
      refine bodyPost_ret (results_mid rfl _ _ (w.heap.size + 1) 0 (rwc (mirR R)) _ rfl (World.rangeAt_setCells_same _ _ _ _ (by rw [HI.out]; exact ht2)) Tryd.underlying26 rfl (by rw [HI.out]; kernel_rfl)) rfl ⟨rfl, ?_⟩
      exact below_setCells _ _ _ _ hB (by omega)
end Go.Proofs.YtngondeaeipcfaaDoor
