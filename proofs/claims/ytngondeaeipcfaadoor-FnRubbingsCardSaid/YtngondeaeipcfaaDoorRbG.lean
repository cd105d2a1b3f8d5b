/- Rubbings that are made dot by dot out of a function, of the program: isDark, rubbingOf. -/
import Derived.Test.YtngondeaeipcfaaDoorRbC
import Derived.Shelf.Abstract
namespace Go.Proofs.YtngondeaeipcfaaDoor
open Go Go.RowKit

theorem bit_and1 (n X : Nat) (hn : n < 65536) : (bits .and .u16 ((n : Int) / 2 ^ X) 1 == 1) = n.testBit X := by
  have e : (n : Int) / 2 ^ X = ((n / 2 ^ X : Nat) : Int) := by simp
  have hl : n / 2 ^ X < 65536 := Nat.lt_of_le_of_lt (Nat.div_le_self _ _) hn
  have h := u16_and_nat (n / 2 ^ X) 1 hl (by decide)
  rw [e, show (1 : Int) = ((1 : Nat) : Int) from rfl, h, nat_mask1, n_bit, Bool.eq_iff_iff]
  simp; omega

set_option maxRecDepth 100000 in
set_option maxHeartbeats 4000000 in
theorem isDark_any (R : List Nat) (hR : rok R) (x y : Nat) (hx : x < 16) (hy : y < 8) (w : World) :
    Calls Tryd.prog 64 #[.agg (rwc R).toArray, .int .i64 x, .int .i64 y] w fun e w' => e = .returned (.bool ((R.getD y 0).testBit x)) ∧ Below w.heap.size w w' := by
  have hb0 : Below w.heap.size w (w.alloc (.cells (rwc R).toArray 26)) := (Below.refl _ _).alloc (Nat.le_refl _) _
  have hc := rangeAt_cell (rangeAt_new w (rwc R) 26) (rwc_get (k := y) (by rw [hR.1]; omega))
  have HB := hide (bit_and1 (R.getD y 0) x (rok_at hR y))
  have HB0 := hide hb0
  generalize R.getD y 0 = n at *
  have hm : min (x : Int).toNat 16 = x := u16_min (by omega)
  have hyi : (y : Int) < 8 := by omega
  have hy0 : (0 : Int) ≤ y := by omega
  have hx0 : (0 : Int) ≤ x := by omega
  clear hR hb0
  go_enter Tryd.func64, Tryd.ntmps64
  go_wp2
  go_ret
  exact ⟨ret_bool HB.out, HB0.out⟩

set_option maxRecDepth 100000 in
set_option maxHeartbeats 8000000 in
theorem rubbingOf_any (fid : FuncId) (he : Enters Tryd.prog fid) (caps : Array Value) (f : Nat → Nat → Bool) (w : World)
    (hf : ∀ x y : Nat, x < 16 → y < 8 → ∀ W, Below w.heap.size w W → Calls Tryd.prog fid (#[.int .i64 x, .int .i64 y] ++ caps) W fun e w' => e = .returned (.bool (f x y)) ∧ Below W.heap.size W w') :
    Calls Tryd.prog 179 #[.func (.func fid) #[] caps] w fun e w' => e = .returned (.agg (rwc (rubF f)).toArray) ∧ Below w.heap.size w w' := by
  have HF := hide hf
  clear hf
  unfold Enters at he
  go_enter Tryd.func179, Tryd.ntmps179
  go_wp2
  go_loopw [6] (fun i wr => ∃ y : Nat, y ≤ 8 ∧ i = .int .i64 y ∧ Below w.heap.size w wr ∧ w.heap.size + 1 < wr.heap.size ∧ wr.there w.heap.size 0 8 ∧ wr.rangeAt (w.heap.size + 1) 0 (rwc (rubT f y 0)) ∧ wr.there (w.heap.size + 1) 0 8)
    (fun i _ => 8 - (intOf i).toNat)
  case atStart =>
    refine ⟨0, by omega, rfl, ?_, ?_, ?_, ?_, ?_⟩
    · exact ((Below.refl _ _).alloc (Nat.le_refl _) _).alloc (by simp) _
    · simp
    · exact World.there_alloc (there_newg rfl rfl) _
    · exact rangeAt_newg (by simp) (by simp [rubT_zero, rwc])
    · exact there_newg (by simp) rfl
  case round =>
    obtain ⟨y, hy, rfl, hB, hsz, ht1, hr2, ht2⟩ := hrel
    obtain ⟨W1, hW1⟩ : ∃ W1, W1 = wr := ⟨_, rfl⟩
    subst hW1
    by_cases hlt : y < 8
    · have hiy : (y : Int) < 8 := by omega
      have h0y : (0 : Int) ≤ y := by omega
      go_wp2
      go_loopw [9] (fun i wr => ∃ x : Nat, x ≤ 16 ∧ i = .int .i64 x ∧ Below w.heap.size w wr ∧ w.heap.size + 1 < wr.heap.size ∧ wr.there w.heap.size 0 8 ∧ wr.rangeAt (w.heap.size + 1) 0 (rwc (rubT f y x)) ∧ wr.there (w.heap.size + 1) 0 8)
        (fun i _ => 16 - (intOf i).toNat)
      case atStart => exact ⟨0, by omega, rfl, hB, hsz, ht1, hr2, ht2⟩
      case round =>
        clear hB hsz ht1 hr2 ht2
        obtain ⟨x, hx, rfl, hB, hsz, ht1, hr2, ht2⟩ := hrel
        by_cases hltx : x < 16
        · have hix : (x : Int) < 16 := by omega
          have h0x : (0 : Int) ≤ x := by omega
          have HC := hide (HF.out x y hltx hlt wr hB)
          have hmin : min (x : Int).toNat 16 = x := u16_min (by omega)
          cases hb : f x y
          · have HO := hide (rubT_off (y := y) hb)
            rw [hb] at HC
            go_wp2_with (go_at_fn fid; refine HC.out.mono ?_; rintro e w1 ⟨rfl, hb1⟩)
            exact ⟨⟨x + 1, by omega, by go_num, hB.trans (hb1.mono hB.size), by have := hb1.size; omega, there_below ht1 hb1 (by omega), by rw [HO.out]; exact rangeAt_below hr2 hb1 hsz, there_below ht2 hb1 hsz⟩, by simp [intOf]; omega⟩
          · have HS := hide (rubT_set hlt hb)
            have HOR := hide (u16_orbit (rowF_lt16 (fun x => f x y) hx) hltx)
            rw [hb] at HC
            go_wp2_with fail
            go_at_fn fid
            refine HC.out.mono ?_
            rintro e w1 ⟨rfl, hb1⟩
            have hB1 := hB.trans (hb1.mono hB.size)
            have hs1 := hb1.size
            have hr3 := rangeAt_below hr2 hb1 hsz
            have ht3 := there_below ht1 hb1 (by omega)
            have ht4 := there_below ht2 hb1 hsz
            have hc := rangeAt_cell hr3 (rwc_get (k := y) (by rw [rubT_len]; exact hlt))
            rw [rubT_get f hlt] at hc
            have hf2 := (ht4 y hlt).2
            simp only [Nat.zero_add] at hf2
            generalize rowF (fun x => f x y) x = m at *
            clear hr2 ht1 ht2 hb1 HC
            go_wp2
            go_still_tail 7, (by kernel_rfl)
            go_wp2
            refine ⟨⟨x + 1, by omega, by go_num, (hB1.setCell (p := ⟨w.heap.size + 1, y, none⟩) (by show w.heap.size ≤ w.heap.size + 1; omega) _).drew, by simp [World.drew]; omega, there_set ht3 _ _, ?_, there_set ht4 _ _⟩, by simp [intOf]; omega⟩
            rw [HOR.out, ← HS.out, ← rwc_set]
            exact rangeAt_set hr3 y _ (by rw [rwc_length, rubT_len]; exact hlt)
        · obtain rfl : x = 16 := by omega
          rw [rubT_next] at hr2
          go_wp2
          exact ⟨⟨y + 1, by omega, by go_num, hB, hsz, ht1, hr2, ht2⟩, by simp [intOf]; omega⟩
    · obtain rfl : y = 8 := by omega
      rw [rubT_all] at hr2
      have hi : (rwc (rubF f)).length = 8 := by rw [rwc_length]; exact rubF_len f
      have HI := hide hi
      clear hi
      go_wp2_with (first
        | (refine wpList_load_mid rfl 26 (.tmp 3) rfl _ 0 rfl (rwc (rubF f)) _ hr2 Tryd.underlying26 rfl (by rw [HI.out]; kernel_rfl) ?_)
        | (refine wpList_store_mid rfl 26 (.tmp 2) (.tmp 25) rfl _ 0 _ rfl rfl (by simpa [HI.out] using ht1) (by simp only [List.size_toArray]; rw [HI.out]; kernel_rfl) (rwc_one _) ?_))
      refine bodyPost_ret (results_mid rfl _ _ w.heap.size 0 (rwc (rubF f)) _ rfl (World.rangeAt_setCells_same _ _ _ _ (by rw [HI.out]; exact ht1)) Tryd.underlying26 rfl (by rw [HI.out]; kernel_rfl)) rfl ⟨rfl, ?_⟩
      exact below_setCells _ _ _ _ hB (Nat.le_refl _)
end Go.Proofs.YtngondeaeipcfaaDoor
