/- Rubbings moved, of both. -/
import Derived.Test.YtngondeaeipcfaaDoorRbC
namespace Go.Proofs.YtngondeaeipcfaaDoor
open Go Go.RowKit

set_option maxRecDepth 100000 in
set_option maxHeartbeats 8000000 in
theorem l07Move_any (R : List Nat) (hR : rok R) (b : Nat) (dx dy : Int) (hdx : -5 ≤ dx ∧ dx ≤ 5) (hdy : -5 ≤ dy ∧ dy ≤ 5) (w : World) (hr : w.rangeAt b 0 (rwc R)) :
    Calls Tryd.prog 77 #[.pointer (some ⟨b, 0, none⟩), .int .i64 dx, .int .i64 dy] w fun e w' => e = .returned (.agg (rwc (mvR R dx dy)).toArray) ∧ Below w.heap.size w w' := by
  have HDK := hide (fun x y W h => l07Dark_any R hR b x y W h)
  have hb := rangeAt_block hr (by rw [rwc_length, hR.1]; decide)
  obtain ⟨dx1, dx2⟩ := hdx
  obtain ⟨dy1, dy2⟩ := hdy
  obtain ⟨f, hf⟩ : ∃ f : Nat → Nat → Bool, (fun (x y : Nat) => dk R ((x : Int) - dx) ((y : Int) - dy)) = f := ⟨_, rfl⟩
  have HF : Hid (∀ x y : Nat, dk R ((x : Int) - dx) ((y : Int) - dy) = f x y) := hide (fun x y => by rw [← hf])
  have HM : Hid (mvR R dx dy = rubF f) := hide (by rw [← hf]; rfl)
  rw [HM.out]
  clear hR hf HM
  go_enter Tryd.func77, Tryd.ntmps77
  go_wp2
  go_loopw [8] (fun i wr => ∃ y : Nat, y ≤ 8 ∧ i = .int .i64 y ∧ Below w.heap.size w wr ∧ wr.rangeAt b 0 (rwc R) ∧ wr.there w.heap.size 0 8 ∧ wr.rangeAt (w.heap.size + 1) 0 (rwc (rubT f y 0)) ∧ wr.there (w.heap.size + 1) 0 8)
    (fun i _ => 8 - (intOf i).toNat)
  case atStart =>
    refine ⟨0, by omega, rfl, ?_, ?_, ?_, ?_, ?_⟩
    · exact ((Below.refl _ _).alloc (Nat.le_refl _) _).alloc (by simp) _
    · exact World.rangeAt_alloc (World.rangeAt_alloc hr _) _
    · exact World.there_alloc (there_newg rfl rfl) _
    · exact rangeAt_newg (by simp) (by simp [rubT_zero, rwc])
    · exact there_newg (by simp) rfl
  case round =>
    clear hr
    obtain ⟨y, hy, rfl, hB, hr, ht1, hr2, ht2⟩ := hrel
    obtain ⟨W1, hW1⟩ : ∃ W1, W1 = wr := ⟨_, rfl⟩
    subst hW1
    by_cases hlt : y < 8
    · have hiy : (y : Int) < 8 := by omega
      have h0y : (0 : Int) ≤ y := by omega
      go_wp2
      go_loopw [9] (fun i wr => ∃ x : Nat, x ≤ 16 ∧ i = .int .i64 x ∧ Below w.heap.size w wr ∧ wr.rangeAt b 0 (rwc R) ∧ wr.there w.heap.size 0 8 ∧ wr.rangeAt (w.heap.size + 1) 0 (rwc (rubT f y x)) ∧ wr.there (w.heap.size + 1) 0 8)
        (fun i _ => 16 - (intOf i).toNat)
      case atStart => exact ⟨0, by omega, rfl, hB, hr, ht1, hr2, ht2⟩
      case round =>
        clear hB hr ht1 hr2 ht2
        obtain ⟨x, hx, rfl, hB, hr, ht1, hr2, ht2⟩ := hrel
        by_cases hltx : x < 16
        · have hix : (x : Int) < 16 := by omega
          have h0x : (0 : Int) ≤ x := by omega
          have hc := rangeAt_cell hr2 (rwc_get (k := y) (by rw [rubT_len]; exact hlt))
          rw [rubT_get f hlt] at hc
          have hf2 := (ht2 y hlt).2
          simp only [Nat.zero_add] at hf2
          have HV := hide (HF.out x y)
          have hmin : min (x : Int).toNat 16 = x := u16_min (by omega)
          have HOR := hide (u16_orbit (rowF_lt16 (fun x => f x y) hx) hltx)
          cases hbf : f x y
          · have HE := hide (HV.out.trans hbf)
            have HO := hide (rubT_off (y := y) hbf)
            go_wp2_with (go_at_call 70; refine (HDK.out _ _ _ hr).mono ?_; rintro e w' ⟨rfl, rfl⟩; rw [HE.out])
            exact ⟨⟨x + 1, by omega, by go_num, hB, hr, ht1, by rw [HO.out]; exact hr2, ht2⟩, by simp [intOf]; omega⟩
          · have HE := hide (HV.out.trans hbf)
            have HS := hide (rubT_set hlt hbf)
            generalize rowF (fun x => f x y) x = m at *
            go_wp2_with (go_at_call 70; refine (HDK.out _ _ _ hr).mono ?_; rintro e w' ⟨rfl, rfl⟩; rw [HE.out])
            refine ⟨⟨x + 1, by omega, by go_num, hB.setCell (p := ⟨w.heap.size + 1, y, none⟩) (by show w.heap.size ≤ w.heap.size + 1; omega) _, rangeAt_far hr (by show w.heap.size + 1 ≠ b; omega) _, there_set ht1 _ _, ?_, there_set ht2 _ _⟩, by simp [intOf]; omega⟩
            rw [HOR.out, ← HS.out, ← rwc_set]
            exact rangeAt_set hr2 y _ (by rw [rwc_length, rubT_len]; exact hlt)
        · obtain rfl : x = 16 := by omega
          rw [rubT_next] at hr2
          go_wp2
          exact ⟨⟨y + 1, by omega, by go_num, hB, hr, ht1, hr2, ht2⟩, by simp [intOf]; omega⟩
    · obtain rfl : y = 8 := by omega
      rw [rubT_all] at hr2
      have hi : (rwc (rubF f)).length = 8 := by rw [rwc_length]; exact rubF_len f
      have HI := hide hi
      clear hi
      go_wp2_with (first
        | (refine wpList_load_mid rfl 26 (.tmp 7) rfl _ 0 rfl (rwc (rubF f)) _ hr2 Tryd.underlying26 rfl (by rw [HI.out]; kernel_rfl) ?_)
        | (refine wpList_store_mid rfl 26 (.tmp 6) (.tmp 36) rfl _ 0 _ rfl rfl (by simpa [HI.out] using ht1) (by simp only [List.size_toArray]; rw [HI.out]; kernel_rfl) (rwc_one _) ?_))
      refine bodyPost_ret (results_mid rfl _ _ w.heap.size 0 (rwc (rubF f)) _ rfl (World.rangeAt_setCells_same _ _ _ _ (by rw [HI.out]; exact ht1)) Tryd.underlying26 rfl (by rw [HI.out]; kernel_rfl)) rfl ⟨rfl, ?_⟩
      exact below_setCells _ _ _ _ hB (Nat.le_refl _)


set_option maxRecDepth 100000 in
set_option maxHeartbeats 4000000 in
theorem l07At_any (R S : List Nat) (hR : rok R) (hS : rok S) (a b : Nat) (dx dy : Int) (hdx : -5 ≤ dx ∧ dx ≤ 5) (hdy : -5 ≤ dy ∧ dy ≤ 5) (w : World) (hr : w.rangeAt a 0 (rwc R)) (hr2 : w.rangeAt b 0 (rwc S)) :
    Calls Tryd.prog 61 #[.pointer (some ⟨a, 0, none⟩), .pointer (some ⟨b, 0, none⟩), .int .i64 dx, .int .i64 dy] w fun e w' => e = .returned (.int .i64 (mtN R (mvR S dx dy))) ∧ Below w.heap.size w w' := by
  have HM := hide (l07Move_any S hS b dx dy hdx hdy w hr2)
  have ha := rangeAt_block hr (by rw [rwc_length, hR.1]; decide)
  have HL := hide (rubF_len (fun (x y : Nat) => dk S ((x : Int) - dx) ((y : Int) - dy)))
  change Hid ((mvR S dx dy).length = 8) at HL
  have HC := hide (fun c W h1 h2 => l07Match_any R (mvR S dx dy) hR (rubF_ok _) a c W h1 h2)
  clear hR hS hr2 hdx hdy
  generalize mvR S dx dy = T at *
  go_enter Tryd.func61, Tryd.ntmps61
  go_wp2_with fail
  refine HM.out.mono ?_
  rintro e w1 ⟨rfl, hb1⟩
  obtain ⟨w2, hW2, r2, b2, s2, t20⟩ := stored_rub w1 T HL.out
  have HW2 := hide hW2
  clear hW2
  have hr1 := rangeAt_below hr hb1 ha
  have hr2 := rangeAt_below hr1 b2 (Nat.lt_of_lt_of_le ha hb1.size)
  have HCC := hide (HC.out _ _ hr2 r2)
  have hB2 := hb1.trans (b2.mono hb1.size)
  clear hb1 hr1 hr2 b2 hr
  go_wp2_with (refine wpList_store_mid rfl 26 (.tmp 9) (.tmp 13) rfl w1.heap.size 0 _ rfl rfl t20 (rub_info HL.out) (rwc_one _) ?_; rw [← HW2.out])
  refine HCC.out.mono ?_
  rintro e w3 ⟨rfl, hb3⟩
  go_wp2
  go_ret
  exact ⟨rfl, hB2.trans (hb3.mono hB2.size)⟩

/-! the program's moves -/
def shN (n a c : Nat) : Nat := (n * 2 ^ a % 65536) / 2 ^ c
theorem shN_lt (n a c : Nat) : shN n a c < 65536 := Nat.lt_of_le_of_lt (Nat.div_le_self _ _) (Nat.mod_lt _ (by decide))
theorem shN_bit (n a c j : Nat) : (shN n a c).testBit j = (decide (c + j < 16) && (decide (a ≤ c + j) && n.testBit (c + j - a))) := by
  unfold shN
  have h1 := Nat.testBit_shiftRight (n * 2 ^ a % 65536) (i := c) (j := j)
  rw [Nat.shiftRight_eq_div_pow] at h1
  rw [h1]
  have h2 := Nat.testBit_mod_two_pow (n * 2 ^ a) 16 (c + j)
  simp only [Nat.reducePow] at h2
  rw [h2, ← Nat.shiftLeft_eq, Nat.testBit_shiftLeft]
theorem mv_row {R : List Nat} (hR : rok R) {dx dy : Int} {a c y : Nat} (ha : max dx 0 = (a : Int)) (hc : max (-dx) 0 = (c : Int)) (hy : y < 8) {j : Nat} (hj : (j : Int) = y + dy) : rowF (fun x => dk R ((x : Int) - dx) ((j : Int) - dy)) 16 = shN (R.getD y 0) a c := by
  refine (rowF_eq (shN_lt _ _ _) fun x hx => ?_).symm
  rw [shN_bit, show (j : Int) - dy = ((y : Nat) : Int) by omega]
  by_cases h1 : a ≤ c + x
  · have e : (x : Int) - dx = ((c + x - a : Nat) : Int) := by omega
    by_cases h2 : c + x < 16
    · rw [e, dk_in (by omega) hy]
      simp [h1, h2]
    · rw [dk_offx (by rw [inB_false]; omega)]
      simp [h2]
  · rw [dk_offx (by rw [inB_false]; omega)]
    simp [h1]

theorem wrap_shl (n a : Nat) : IntKind.u16.wrap ((n : Int) * 2 ^ a) = ((n * 2 ^ a % 65536 : Nat) : Int) := by
  rw [IntKind.wrap_u16]; simp

/-- Moved as far as the first k rows go. -/
def mvT (R : List Nat) (dx dy : Int) (k : Nat) : List Nat := (List.range 8).map (fun j : Nat => if 0 ≤ (j : Int) - dy ∧ (j : Int) - dy < k then rowF (fun x => dk R ((x : Int) - dx) ((j : Int) - dy)) 16 else 0)
theorem mvT_len (R : List Nat) (dx dy : Int) (k : Nat) : (mvT R dx dy k).length = 8 := by simp [mvT]
theorem mvT_zero (R : List Nat) (dx dy : Int) : mvT R dx dy 0 = List.replicate 8 0 := by
  apply List.ext_getElem
  · simp [mvT]
  · intro i h1 h2
    simp only [mvT, List.getElem_map, List.getElem_range, List.getElem_replicate]
    rw [if_neg (by omega)]
theorem mvT_all (R : List Nat) (dx dy : Int) : mvT R dx dy 8 = mvR R dx dy := by
  unfold mvT mvR rubF
  refine List.map_congr_left fun j hj => ?_
  split
  · rfl
  · rename_i h
    refine Nat.eq_of_testBit_eq fun x => ?_
    rw [rowF_bit]
    have e := dk_offy (R := R) (x := (x : Int) - dx) (y := (j : Int) - dy) (by rw [inB_false]; omega)
    simp only [e]; simp
theorem mvT_off (R : List Nat) {dx dy : Int} {k : Nat} (h : inB ((k : Int) + dy) 0 7 = false) : mvT R dx dy (k + 1) = mvT R dx dy k := by
  rw [inB_false] at h
  unfold mvT
  refine List.map_congr_left fun j hj => ?_
  have := List.mem_range.1 hj
  by_cases h3 : 0 ≤ (j : Int) - dy ∧ (j : Int) - dy < k
  · rw [if_pos (by omega), if_pos h3]
  · rw [if_neg (by omega), if_neg h3]
theorem mvT_set {R : List Nat} (hR : rok R) {dx dy : Int} {a c k t : Nat} (ha : max dx 0 = (a : Int)) (hc : max (-dx) 0 = (c : Int)) (hk : k < 8) (ht : (t : Int) = k + dy) (ht8 : t < 8) : (mvT R dx dy k).set t (shN (R.getD k 0) a c) = mvT R dx dy (k + 1) := by
  apply List.ext_getElem
  · simp [mvT]
  · intro i h1 h2
    rw [List.length_set, mvT_len] at h1
    simp only [mvT, List.getElem_set, List.getElem_map, List.getElem_range]
    by_cases e : t = i
    · subst e
      rw [if_pos rfl, if_pos (by omega), mv_row hR ha hc hk ht]
    · rw [if_neg e]
      by_cases h3 : 0 ≤ (i : Int) - dy ∧ (i : Int) - dy < k
      · rw [if_pos h3, if_pos (by omega)]
      · rw [if_neg h3, if_neg (by omega)]

set_option maxRecDepth 100000 in
set_option maxHeartbeats 8000000 in
theorem mover1_any (R : List Nat) (hR : rok R) (P : Nat) (dx dy : Int) (hdx : -5 ≤ dx ∧ dx ≤ 5) (hdy : -5 ≤ dy ∧ dy ≤ 5) (w : World) (hp : w.rangeAt P 0 [.int .i64 dx, .int .i64 dy]) :
    Calls Tryd.prog 123 #[.agg (rwc R).toArray, .pointer (some ⟨P, 0, none⟩)] w fun e w' => e = .returned (.agg (rwc (mvR R dx dy)).toArray) ∧ Below w.heap.size w w' := by
  have HI := hide (rw_info hR.1)
  have HW := hide hR.1
  have hP := rangeAt_block hp (by simp)
  obtain ⟨dx1, dx2⟩ := hdx
  obtain ⟨dy1, dy2⟩ := hdy
  obtain ⟨a, ha⟩ : ∃ a : Nat, max dx 0 = (a : Int) := ⟨(max dx 0).toNat, by omega⟩
  obtain ⟨c, hc⟩ : ∃ c : Nat, max (-dx) 0 = (c : Int) := ⟨(max (-dx) 0).toNat, by omega⟩
  have HMS := hide (fun (k t : Nat) (hk : k < 8) (ht : (t : Int) = k + dy) (ht8 : t < 8) => mvT_set hR ha hc hk ht ht8)
  have HOF := hide (fun (k : Nat) h => mvT_off R (dx := dx) (dy := dy) (k := k) h)
  have hna : min (a : Int).toNat 16 = a := u16_min (by omega)
  have hnc : min (c : Int).toNat 16 = c := u16_min (by omega)
  have hneg : IntKind.i64.wrap (-dx) = -dx := IntWalk.i64_in (-dx) ⟨by omega, by omega⟩
  have r0 : (((w.alloc (.cells (rwc R).toArray 26)).alloc (.cells #[.int .u16 0, .int .u16 0, .int .u16 0, .int .u16 0, .int .u16 0, .int .u16 0, .int .u16 0, .int .u16 0] 26)).alloc (.cells #[.int .u16 0, .int .u16 0, .int .u16 0, .int .u16 0, .int .u16 0, .int .u16 0, .int .u16 0, .int .u16 0] 26)).rangeAt w.heap.size 0 (rwc R) := World.rangeAt_alloc (World.rangeAt_alloc (rangeAt_new _ _ _) _) _
  clear hR
  go_enter Tryd.func123, Tryd.ntmps123
  go_wp2_with (refine wpList_load_mid rfl 26 (.tmp 2) rfl _ 0 rfl (rwc R) _ r0 Tryd.underlying26 rfl HI.out ?_)
  go_loopw [9] (fun i wr => ∃ k : Nat, k ≤ 8 ∧ i = .int .i64 k ∧ Below w.heap.size w wr ∧ wr.rangeAt P 0 [.int .i64 dx, .int .i64 dy] ∧ wr.there (w.heap.size + 1) 0 8 ∧ wr.rangeAt (w.heap.size + 1 + 1) 0 (rwc (mvT R dx dy k)) ∧ wr.there (w.heap.size + 1 + 1) 0 8)
    (fun i _ => 8 - (intOf i).toNat)
  case atStart =>
    refine ⟨0, by omega, rfl, ?_, ?_, ?_, ?_, ?_⟩
    · exact (((Below.refl _ _).alloc (Nat.le_refl _) _).alloc (by simp) _).alloc (by simp only [World.size_alloc]; omega) _
    · exact World.rangeAt_alloc (World.rangeAt_alloc (World.rangeAt_alloc hp _) _) _
    · exact World.there_alloc (there_newg (by simp) rfl) _
    · exact rangeAt_newg (by simp) (by simp [mvT_zero, rwc])
    · exact there_newg (by simp) rfl
  case round =>
    clear hp r0
    obtain ⟨k, hk, rfl, hB, hp, ht1, hr2, ht2⟩ := hrel
    by_cases hlt : k < 8
    · have hi : (k : Int) < 8 := by omega
      have h0 : (0 : Int) ≤ k := by omega
      have hix := run_index_agg (P := Tryd.prog) (t := 26) (k := k) (cs := (rwc R).toArray) Tryd.underlying26 (fun _ => by kernel_rfl) (fun _ => by kernel_rfl) hlt (by rw [List.getElem?_toArray]; exact rwc_get (k := k) (by rw [HW.out]; exact hlt))
      have p0 := rangeAt_cell (k := 0) hp rfl
      have p1 := rangeAt_cell (k := 1) hp rfl
      cases hin : inB ((k : Int) + dy) 0 7
      · have HO := hide (HOF.out k hin)
        go_wp2_with (go_at_call 124; refine (between_any _ _ _ _).mono ?_; rintro e w' ⟨rfl, rfl⟩; simp only [hin])
        exact ⟨⟨k + 1, by omega, by go_num, hB, hp, ht1, by rw [HO.out]; exact hr2, ht2⟩, by simp [intOf]; omega⟩
      · obtain ⟨t1, t2⟩ := inB_true.1 hin
        obtain ⟨t, ht⟩ : ∃ t : Nat, (k : Int) + dy = (t : Int) := ⟨((k : Int) + dy).toNat, by omega⟩
        have HS := hide (HMS.out k t hlt ht.symm (by omega))
        obtain ⟨ov, hov⟩ : ∃ ov, wr.cell? ⟨w.heap.size + 1 + 1, t, none⟩ = some ov := ⟨_, rangeAt_cell hr2 (rwc_get (k := t) (by rw [mvT_len]; omega))⟩
        have hf2 := (ht2 t (by omega)).2
        simp only [Nat.zero_add] at hf2
        have hti : (t : Int) < 8 := by omega
        have ht0 : (0 : Int) ≤ t := by omega
        rw [ht] at hin t1 t2
        have HN := hide (show shN (R.getD k 0) a c = R.getD k 0 * 2 ^ a % 65536 / 2 ^ c from rfl)
        have hwa := wrap_shl (R.getD k 0) a
        generalize R.getD k 0 = n at *
        obtain ⟨m, hm⟩ : ∃ m, n * 2 ^ a % 65536 = m := ⟨_, rfl⟩
        rw [hm] at hwa HN
        rw [HN.out] at HS
        have hfd := u16_shr m c
        clear hm
        go_wp2_with (go_at_call 124; refine (between_any _ _ _ _).mono ?_; rintro e w' ⟨rfl, rfl⟩; simp only [hin])
        go_still_tail 12, (by kernel_rfl)
        go_wp2
        refine ⟨⟨k + 1, by omega, by go_num, (hB.setCell (p := ⟨w.heap.size + 1 + 1, t, none⟩) (by show w.heap.size ≤ w.heap.size + 1 + 1; omega) _).drew, rangeAt_far hp (by show w.heap.size + 1 + 1 ≠ P; omega) _, there_set ht1 _ _, ?_, there_set ht2 _ _⟩, by simp [intOf]; omega⟩
        rw [← HS.out, ← rwc_set]
        exact rangeAt_set hr2 t _ (by rw [rwc_length, mvT_len]; omega)
    · obtain rfl : k = 8 := by omega
      rw [mvT_all] at hr2
      have hi : (rwc (mvR R dx dy)).length = 8 := by rw [rwc_length]; exact rubF_len _
      have HI := hide hi
      clear hi
      go_wp2_with (first
        | (refine wpList_load_mid rfl 26 (.tmp 4) rfl _ 0 rfl (rwc (mvR R dx dy)) _ hr2 Tryd.underlying26 rfl (by rw [HI.out]; kernel_rfl) ?_)
        | (refine wpList_store_mid rfl 26 (.tmp 3) (.tmp 32) rfl _ 0 _ rfl rfl (by simpa [HI.out] using ht1) (by simp only [List.size_toArray]; rw [HI.out]; kernel_rfl) (rwc_one _) ?_))
      refine bodyPost_ret (results_mid rfl _ _ (w.heap.size + 1) 0 (rwc (mvR R dx dy)) _ rfl (World.rangeAt_setCells_same _ _ _ _ (by rw [HI.out]; exact ht1)) Tryd.underlying26 rfl (by rw [HI.out]; kernel_rfl)) rfl ⟨rfl, ?_⟩
      exact below_setCells _ _ _ _ hB (by omega)
end Go.Proofs.YtngondeaeipcfaaDoor
