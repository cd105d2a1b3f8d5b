/- Rubbings worn once, of the model. -/
import Derived.Test.YtjmkbdghenjlaaaDoorRbC
import Derived.Test.YtjmkbdghenjlaaaDoorCodeOf
namespace Go.Proofs.YtjmkbdghenjlaaaDoor
open Go Go.RowKit

/-- How many of the first t dots around a dot, and itself, are dark. -/
def nbN (R : List Nat) (x y : Int) : Nat → Nat
  | 0 => 0
  | t + 1 => nbN R x y t + (dk R (x + (((t % 3 : Nat) : Int) - 1)) (y + (((t / 3 : Nat) : Int) - 1))).toNat
theorem nbN_le (R : List Nat) (x y : Int) : ∀ t, nbN R x y t ≤ t
  | 0 => Nat.le_refl _
  | t + 1 => by have := nbN_le R x y t; have := Bool.toNat_le (dk R (x + (((t % 3 : Nat) : Int) - 1)) (y + (((t / 3 : Nat) : Int) - 1))); rw [nbN]; omega
theorem nbN_at {R : List Nat} {x y : Int} {j i : Nat} (hi : i < 3) {b : Bool} (h : dk R (x + ((i : Int) - 1)) (y + ((j : Int) - 1)) = b) : nbN R x y (j * 3 + i + 1) = nbN R x y (j * 3 + i) + b.toNat := by
  have e1 : (j * 3 + i) % 3 = i := by omega
  have e2 : (j * 3 + i) / 3 = j := by omega
  rw [nbN, e1, e2, h]
def wsF (R : List Nat) (need : Int) (x y : Nat) : Bool := dk R x y && decide (need ≤ ((nbN R x y 9 : Nat) : Int) - 1)
def wsR (R : List Nat) (need : Int) : List Nat := rubF (wsF R need)
theorem wsF_light {R : List Nat} {need : Int} {x y : Nat} (h : dk R x y = false) : wsF R need x y = false := by unfold wsF; rw [h]; rfl
theorem wsF_dark {R : List Nat} {need : Int} {x y : Nat} (h : dk R x y = true) : wsF R need x y = decide (need ≤ ((nbN R x y 9 : Nat) : Int) - 1) := by unfold wsF; rw [h]; rfl

set_option maxRecDepth 100000 in
set_option maxHeartbeats 16000000 in
theorem l07Wear_any (R : List Nat) (hR : rok R) (b : Nat) (need : Int) (w : World) (hr : w.rangeAt b 0 (rwc R)) :
    Calls Tryd.prog 46 #[.pointer (some ⟨b, 0, none⟩), .int .i64 need] w fun e w' => e = .returned (.agg (rwc (wsR R need)).toArray) ∧ Below w.heap.size w w' := by
  have HDK := hide (fun x y W h => l07Dark_any R hR b x y W h)
  have hb := rangeAt_block hr (by rw [rwc_length, hR.1]; decide)
  have HNL := hide (fun x y => nbN_le R x y)
  have HNA := hide (fun (x y : Int) (j i : Nat) (hi : i < 3) (v : Bool) h => @nbN_at R x y j i hi v h)
  have HFL := hide (fun x y h => @wsF_light R need x y h)
  have HFD := hide (fun x y h => @wsF_dark R need x y h)
  have HWS := hide (show wsR R need = rubF (wsF R need) from rfl)
  rw [HWS.out]
  generalize wsF R need = f at *
  clear hR HWS
  go_enter Tryd.func46, Tryd.ntmps46
  go_wp2
  go_loopw [6] (fun i wr => ∃ y : Nat, y ≤ 8 ∧ i = .int .i64 y ∧ Below w.heap.size w wr ∧ wr.rangeAt b 0 (rwc R) ∧ wr.there w.heap.size 0 8 ∧ wr.rangeAt (w.heap.size + 1) 0 (rwc (rubT f y 0)) ∧ wr.there (w.heap.size + 1) 0 8)
    (fun i _ => 8 - (intOf i).toNat)
  case atStart =>
    refine ⟨0, by omega, rfl, ?_, ?_, ?_, ?_, ?_⟩
    · exact ((Below.refl _ _).alloc (Nat.le_refl _) _).alloc (by simp) _
    · exact World.rangeAt_alloc (World.rangeAt_alloc hr _) _
    · exact World.there_alloc (there_newg rfl rfl) _
    · exact rangeAt_newg (by simp) (by simp [rubT_zero, rwc])
    · exact there_newg (by simp) rfl
  case round =>
    clear hr
    obtain ⟨y, hy, rfl, hB, hr, ht1, hr2, ht2⟩ := hrel
    obtain ⟨W1, hW1⟩ : ∃ W1, W1 = wr := ⟨_, rfl⟩
    subst hW1
    by_cases hlt : y < 8
    · have hiy : (y : Int) < 8 := by omega
      have h0y : (0 : Int) ≤ y := by omega
      go_wp2
      go_loopw [7] (fun i wr => ∃ x : Nat, x ≤ 16 ∧ i = .int .i64 x ∧ Below w.heap.size w wr ∧ wr.rangeAt b 0 (rwc R) ∧ wr.there w.heap.size 0 8 ∧ wr.rangeAt (w.heap.size + 1) 0 (rwc (rubT f y x)) ∧ wr.there (w.heap.size + 1) 0 8)
        (fun i _ => 16 - (intOf i).toNat)
      case atStart => exact ⟨0, by omega, rfl, hB, hr, ht1, hr2, ht2⟩
      case round =>
        clear hB hr ht1 hr2 ht2
        obtain ⟨x, hx, rfl, hB, hr, ht1, hr2, ht2⟩ := hrel
        obtain ⟨W2, hW2⟩ : ∃ W2, W2 = wr := ⟨_, rfl⟩
        subst hW2
        by_cases hltx : x < 16
        · have hix : (x : Int) < 16 := by omega
          have h0x : (0 : Int) ≤ x := by omega
          cases hd : dk R (x : Int) (y : Int)
          · have HO := hide (rubT_off (y := y) (HFL.out x y hd))
            go_wp2_with (go_at_call 77; refine (HDK.out _ _ _ hr).mono ?_; rintro e w' ⟨rfl, rfl⟩; simp only [hd])
            exact ⟨⟨x + 1, by omega, by go_num, hB, hr, ht1, by rw [HO.out]; exact hr2, ht2⟩, by simp [intOf]; omega⟩
          · have HFF := hide (HFD.out x y hd)
            go_wp2_with (go_at_call 77; refine (HDK.out _ _ _ hr).mono ?_; rintro e w' ⟨rfl, rfl⟩; simp only [hd])
            go_loop [8, 9] (fun n d => ∃ j : Nat, j ≤ 3 ∧ d = .int .i64 ((j : Int) - 1) ∧ n = .int .i64 (((nbN R x y (j * 3) : Nat) : Int) - 1)) (fun _ d => 3 - (intOf d + 1).toNat)
            case atStart => exact ⟨0, by omega, rfl, rfl⟩
            case round =>
              obtain ⟨j, hj, rfl, rfl⟩ := hrel
              have hnl := HNL.out x y (j * 3)
              by_cases hltj : j < 3
              · have e1 : decide ((j : Int) - 1 ≤ 1) = true := by simp; omega
                have e1' : (j : Int) - 1 ≤ 1 := by omega
                have hwy := IntWalk.i64_in ((y : Int) + ((j : Int) - 1)) ⟨by omega, by omega⟩
                have hwj := IntWalk.i64_in ((j : Int) - 1 + 1) ⟨by omega, by omega⟩
                go_wp2
                go_loop [8, 10] (fun n d => ∃ i : Nat, i ≤ 3 ∧ d = .int .i64 ((i : Int) - 1) ∧ n = .int .i64 (((nbN R x y (j * 3 + i) : Nat) : Int) - 1)) (fun _ d => 3 - (intOf d + 1).toNat)
                case atStart => exact ⟨0, by omega, rfl, rfl⟩
                case round =>
                  obtain ⟨i, hi, rfl, rfl⟩ := hrel
                  have hnl2 := HNL.out x y (j * 3 + i)
                  by_cases hlti : i < 3
                  · have e2 : decide ((i : Int) - 1 ≤ 1) = true := by simp; omega
                    have e2' : (i : Int) - 1 ≤ 1 := by omega
                    have hwx := IntWalk.i64_in ((x : Int) + ((i : Int) - 1)) ⟨by omega, by omega⟩
                    have hwi := IntWalk.i64_in ((i : Int) - 1 + 1) ⟨by omega, by omega⟩
                    cases hv : dk R ((x : Int) + ((i : Int) - 1)) ((y : Int) + ((j : Int) - 1))
                    · have HE := hide (HNA.out x y j i hlti false hv)
                      generalize nbN R (x : Int) (y : Int) (j * 3 + i) = q at *
                      go_wp2_with (go_at_call 77; refine (HDK.out _ _ _ hr).mono ?_; rintro e w' ⟨rfl, rfl⟩; simp only [hv])
                      refine ⟨⟨i + 1, by omega, ?_, ?_⟩, ?_⟩
                      · first | rfl | (congr 1; omega)
                      · rw [← Nat.add_assoc, HE.out]; rfl
                      · simp [intOf]; omega
                    · have HE := hide (HNA.out x y j i hlti true hv)
                      generalize nbN R (x : Int) (y : Int) (j * 3 + i) = q at *
                      have hwq := IntWalk.i64_in ((q : Int) - 1 + 1) ⟨by omega, by omega⟩
                      go_wp2_with (go_at_call 77; refine (HDK.out _ _ _ hr).mono ?_; rintro e w' ⟨rfl, rfl⟩; simp only [hv])
                      refine ⟨⟨i + 1, by omega, ?_, ?_⟩, ?_⟩
                      · first | rfl | (congr 1; omega)
                      · rw [← Nat.add_assoc, HE.out]
                        show Value.int .i64 _ = Value.int .i64 _
                        congr 1
                        simp [Bool.toNat]
                        try omega
                      · simp [intOf]; omega
                  · obtain rfl : i = 3 := by omega
                    go_wp2
                    refine ⟨⟨j + 1, by omega, ?_, ?_⟩, ?_⟩
                    · first | rfl | (congr 1; omega)
                    · rw [show (j + 1) * 3 = j * 3 + 3 by omega]
                    · simp [intOf]; omega
              · obtain rfl : j = 3 := by omega
                have HX9 := hide (HNL.out x y 9)
                have hc := rangeAt_cell hr2 (rwc_get (k := y) (by rw [rubT_len]; exact hlt))
                rw [rubT_get f hlt] at hc
                have hf2 := (ht2 y hlt).2
                simp only [Nat.zero_add] at hf2
                have hmin : min (x : Int).toNat 16 = x := u16_min (by omega)
                have HOR := hide (u16_orbit (rowF_lt16 (fun x => f x y) hx) hltx)
                have HSE := hide (fun h => @rubT_set f y x hlt h)
                have HOE := hide (fun h => @rubT_off f y x h)
                cases hg : decide (need ≤ ((nbN R (x : Int) (y : Int) 9 : Nat) : Int) - 1)
                · have HO := hide (HOE.out (HFF.out.trans hg))
                  change decide (need ≤ ((nbN R (x : Int) (y : Int) (3 * 3) : Nat) : Int) - 1) = false at hg
                  generalize nbN R (x : Int) (y : Int) (3 * 3) = q at *
                  go_wp2
                  exact ⟨⟨x + 1, by omega, by go_num, hB, hr, ht1, by rw [HO.out]; exact hr2, ht2⟩, by simp [intOf]; omega⟩
                · have HS := hide (HSE.out (HFF.out.trans hg))
                  change decide (need ≤ ((nbN R (x : Int) (y : Int) (3 * 3) : Nat) : Int) - 1) = true at hg
                  generalize nbN R (x : Int) (y : Int) (3 * 3) = q at *
                  generalize rowF (fun x => f x y) x = m at *
                  go_wp2
                  refine ⟨⟨x + 1, by omega, by go_num, hB.setCell (p := ⟨w.heap.size + 1, y, none⟩) (by show w.heap.size ≤ w.heap.size + 1; omega) _, rangeAt_far hr (by show w.heap.size + 1 ≠ b; omega) _, there_set ht1 _ _, ?_, there_set ht2 _ _⟩, by simp [intOf]; omega⟩
                  rw [HOR.out, ← HS.out, ← rwc_set]
                  exact rangeAt_set hr2 y _ (by rw [rwc_length, rubT_len]; exact hlt)
        · obtain rfl : x = 16 := by omega
          rw [rubT_next] at hr2
          go_wp2
          exact ⟨⟨y + 1, by omega, by go_num, hB, hr, ht1, hr2, ht2⟩, by simp [intOf]; omega⟩
    · obtain rfl : y = 8 := by omega
      rw [rubT_all] at hr2
      have hi : (rwc (rubF f)).length = 8 := by rw [rwc_length]; exact rubF_len f
      have HI := hide hi
      clear hi
      go_wp2_with (first
        | (refine wpList_load_mid rfl 26 (.tmp 5) rfl _ 0 rfl (rwc (rubF f)) _ hr2 Tryd.underlying26 rfl (by rw [HI.out]; kernel_rfl) ?_)
        | (refine wpList_store_mid rfl 26 (.tmp 4) (.tmp 55) rfl _ 0 _ rfl rfl (by simpa [HI.out] using ht1) (by simp only [List.size_toArray]; rw [HI.out]; kernel_rfl) (rwc_one _) ?_))
      refine bodyPost_ret (results_mid rfl _ _ w.heap.size 0 (rwc (rubF f)) _ rfl (World.rangeAt_setCells_same _ _ _ _ (by rw [HI.out]; exact ht1)) Tryd.underlying26 rfl (by rw [HI.out]; kernel_rfl)) rfl ⟨rfl, ?_⟩
      exact below_setCells _ _ _ _ hB (Nat.le_refl _)
end Go.Proofs.YtjmkbdghenjlaaaDoor
