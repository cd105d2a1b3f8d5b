/- TimeFor and SharpensFor of the program. -/
import Derived.Test.YtkbemhjeflmppaaDoorChQ
import Derived.Test.YtkbemhjeflmppaaDoorInd
namespace Go.Proofs.YtkbemhjeflmppaaDoor
open Go Go.RowKit

set_option maxHeartbeats 4000000 in
theorem timeFor_nil (h p : Int) (A : Option Addr) (c : Nat) (w : World) :
    Calls Tryd.prog 55 #[.agg #[.int .i16 h, .int .i8 p], .slice A 0 c] w fun e w' => e = .returned (.int .i64 0) ∧ Below w.heap.size w w' := by
  obtain ⟨r0, b0, s0⟩ := chRow h p w 35
  go_enter Tryd.func55, Tryd.ntmps55
  go_wp2
  go_ret
  exact ⟨rfl, b0⟩

set_option maxRecDepth 100000 in
set_option maxHeartbeats 8000000 in
theorem implTimeFor_any (S : List Int) (hS : S.length = 26) (hSx : ∀ x ∈ S, i8ok x) (h : Int) (hh : -32768 ≤ h ∧ h ≤ 32767) (p : Int) (hp : i8ok p) (s : ByteArray) (hs : s.size ≤ maxLen) (w : World) (hG : Glob w) :
    Calls Tryd.prog 22 #[.agg (wc S).toArray, .agg #[.int .i16 h, .int .i8 p], .string s] w fun e w' => e = .returned (.tuple #[.int .i64 (tfV S h p s.data.toList), .int .i64 (tfC S h p s.data.toList)]) ∧ Below w.heap.size w w' := by
  obtain ⟨r0, r1, b0, s0⟩ := boxed2 S h p w 26 35
  have HI := hide (show (Tryd.prog.info? 26).map (·.size) = some (wc S).length by rw [wc_length, hS]; kernel_rfl)
  have HSF := hide (fun W hG => strokesFor_any S hS hSx h hh p hp s hs W hG)
  have HG := hide (hG.below b0)
  have HB := hide b0
  have c0 := rangeAt_cell (k := 0) r1 rfl
  have c1 := rangeAt_cell (k := 1) r1 rfl
  have HR1 := hide r1
  unfold maxLen at hs
  cases hb : tfB S h p s.data.toList
  · obtain ⟨e1, e2, _⟩ := tf_no hb
    have e3 : sxR S h p s.data.toList = [] := by unfold sxR; rw [hb]; rfl
    rw [e1, e3] at HSF
    rw [e1, e2]
    clear hS hSx hh hp hG e1 e2 e3 r1 hb
    go_enter Tryd.func22, Tryd.ntmps22
    go_wp2_with (refine wpList_load_mid rfl 26 (.tmp 3) rfl _ 0 rfl (wc S) _ r0 Tryd.underlying26 rfl HI.out ?_)
    generalize ((w.alloc (.cells (wc S).toArray 26)).alloc (.cells #[.int .i16 h, .int .i8 p] 35)) = W0 at *
    refine (HSF.out W0 HG.out).mono ?_
    rintro e w1 ⟨Q1, k1, rfl, hI1, hb1⟩
    have r1 := rangeAt_below HR1.out hb1 (by omega)
    have d0 := rangeAt_cell (k := 0) r1 rfl
    have d1 := rangeAt_cell (k := 1) r1 rfl
    clear c0 c1
    dsimp only [List.length_nil]
    go_wp2_with (go_at_call 55; refine (timeFor_nil _ _ _ _ _).mono ?_; rintro e w2 ⟨rfl, hb2⟩)
    go_ret2
    exact ⟨rfl, HB.out.trans ((hb1.trans (hb2.mono hb1.size)).mono HB.out.size)⟩
  · obtain ⟨e1, e2, _⟩ := tf_ok hb
    obtain ⟨h1, ⟨h2, h3⟩, h4⟩ := tf_parts hb
    have e3 : sxR S h p s.data.toList = stkL S s.data.toList := by unfold sxR; rw [if_pos hb]
    rw [e1, e3] at HSF
    rw [e1, e2]
    have HT := hide (fun A c W hI => timeFor_any h p h2 h3 A (stkL S s.data.toList) c W (stk_n h4) (stk_b30 hS h1 h4) hI)
    generalize stkL S s.data.toList = xs at *
    clear hS hSx hh hp hG e1 e2 e3 r1 h1 h2 h3 h4 hb
    go_enter Tryd.func22, Tryd.ntmps22
    go_wp2_with (refine wpList_load_mid rfl 26 (.tmp 3) rfl _ 0 rfl (wc S) _ r0 Tryd.underlying26 rfl HI.out ?_)
    generalize ((w.alloc (.cells (wc S).toArray 26)).alloc (.cells #[.int .i16 h, .int .i8 p] 35)) = W0 at *
    refine (HSF.out W0 HG.out).mono ?_
    rintro e w1 ⟨Q1, k1, rfl, hI1, hb1⟩
    have r1 := rangeAt_below HR1.out hb1 (by omega)
    have d0 := rangeAt_cell (k := 0) r1 rfl
    have d1 := rangeAt_cell (k := 1) r1 rfl
    clear c0 c1
    go_wp2_with (go_at_call 55; refine (HT.out _ _ _ hI1.at_).mono ?_; rintro e w2 ⟨rfl, hb2⟩)
    go_ret2
    exact ⟨rfl, HB.out.trans ((hb1.trans (hb2.mono hb1.size)).mono HB.out.size)⟩

/-! SharpensFor -/
theorem shpB_first {h : Int} {xs : List Int} (hx : ∀ x ∈ xs, 0 ≤ x ∧ x ≤ 30) (hh : 30 ≤ h) : shpB h xs ((0 : Nat) : Int) = false := by
  unfold shpB
  simp only [Int.toNat_natCast]
  have : ¬ (stS h xs 0).2 < xs.getD 0 0 := by
    show ¬ h < xs.getD 0 0
    cases xs with
    | nil => simp; omega
    | cons a t => have := hx a (by simp); simp; omega
  simpa using this
theorem shpB_later {h : Int} {xs : List Int} {k : Nat} (hk : k < xs.length) : decide ((stS h xs k).1 < (stS h xs (k + 1)).1) = shpB h xs (k : Int) := by
  have hx := List.getElem?_eq_getElem hk
  rw [shpB_at hx, stS_succ hx, decide_eq_decide]
  unfold stN
  split
  · rename_i e; simp only []; exact ⟨fun _ => e, fun _ => by omega⟩
  · rename_i e; simp only []; exact ⟨fun h => by omega, fun h => absurd h e⟩

set_option maxRecDepth 100000 in
set_option maxHeartbeats 4000000 in
theorem sharp1_any (h : Int) (hh : 30 ≤ h) (xs : List Int) (hx : ∀ x ∈ xs, 0 ≤ x ∧ x ≤ 30) (Q b o n c k : Nat) (w : World) (hn : xs.length = n) (hn60 : n ≤ 60) (hk : k < n)
    (hQ : w.cell? ⟨Q, 0, none⟩ = some (.slice (some ⟨b, o, none⟩) n c)) (hc : ∀ j v, (stnL h xs)[j]? = some v → w.cell? ⟨b, o + j, none⟩ = some (.int .i64 v)) :
    Calls Tryd.prog 53 #[.int .i64 (k : Int), .pointer (some ⟨Q, 0, none⟩)] w fun e w' => e = .returned (.bool (shpB h xs (k : Int))) ∧ Below w.heap.size w w' := by
  cases k with
  | zero =>
    have HF := hide (shpB_first hx hh)
    clear hc hx
    go_enter Tryd.func53, Tryd.ntmps53
    go_wp2
    go_quiet (fail)
    go_wp2
    go_ret
    exact ⟨ret_bool HF.out.symm, below_drewN (Below.refl _ _) _⟩
  | succ m =>
    have HF := hide (shpB_later (h := h) (xs := xs) (k := m + 1) (by omega))
    have d0 := hc m _ (stnL_get (by omega))
    have d1 := hc (m + 1) _ (stnL_get (by omega))
    rw [← Nat.add_assoc] at d1
    generalize (stS h xs (m + 1)).1 = x at *
    generalize (stS h xs (m + 1 + 1)).1 = y at *
    have i1 : (m : Int) < n := by omega
    have i2 : (m : Int) + 1 < n := by omega
    have i3 : (0 : Int) ≤ m := by omega
    have i4 : (0 : Int) ≤ (m : Int) + 1 := by omega
    have i5 : (0 : Int) < (m : Int) + 1 := by omega
    have e1 : IntKind.i64.wrap ((m : Int) + 1 - 1) = m := by rw [show (m : Int) + 1 - 1 = m by omega]; exact IntWalk.i64_in m ⟨by omega, by omega⟩
    have e2 : ((m : Int) + 1).toNat = m + 1 := by omega
    have d1' : w.cell? ⟨b, o + (m + 1), none⟩ = some (.int .i64 y) := by rw [← Nat.add_assoc]; exact d1
    rw [show ((m + 1 : Nat) : Int) = (m : Int) + 1 by omega] at HF ⊢
    have cQ := Over.get hQ
    have dd0 := Over.get d0
    have dd1 := Over.get d1'
    have dd1' := Over.get d1
    clear hc hx hQ d0 d1 d1'
    go_enter Tryd.func53, Tryd.ntmps53
    go_wp2
    refine wp_region_over (by kernel_rfl) (by kernel_rfl) ?_
    repeat (go_big_quiet_step (fail))
    refine wpQuiet_nil ?_
    intro w1 hb1
    go_wp2
    go_ret
    exact ⟨ret_bool HF.out, hb1⟩

set_option maxRecDepth 100000 in
set_option maxHeartbeats 8000000 in
theorem implSharpensFor_any (S : List Int) (hS : S.length = 26) (hSx : ∀ x ∈ S, i8ok x) (h : Int) (hh : -32768 ≤ h ∧ h ≤ 32767) (p : Int) (hp : i8ok p) (s : ByteArray) (hs : s.size ≤ maxLen) (w : World) (hG : Glob w) :
    Calls Tryd.prog 17 #[.agg (wc S).toArray, .agg #[.int .i16 h, .int .i8 p], .string s] w (IntsBack (sfR S h p s.data.toList) (tfC S h p s.data.toList) w) := by
  obtain ⟨r0, r1, b0, s0⟩ := boxed2 S h p w 26 35
  have HI := hide (show (Tryd.prog.info? 26).map (·.size) = some (wc S).length by rw [wc_length, hS]; kernel_rfl)
  have HSF := hide (fun W hG => strokesFor_any S hS hSx h hh p hp s hs W hG)
  have HG := hide (hG.below b0)
  have HB := hide b0
  have c0 := rangeAt_cell (k := 0) r1 rfl
  have c1 := rangeAt_cell (k := 1) r1 rfl
  have HR1 := hide r1
  unfold maxLen at hs
  cases hb : tfB S h p s.data.toList
  · obtain ⟨e1, _, e2⟩ := tf_no hb
    have e3 : sxR S h p s.data.toList = [] := by unfold sxR; rw [hb]; rfl
    rw [e1, e3] at HSF
    rw [e1, e2]
    clear hS hSx hh hp hG e1 e2 e3 r1 hb
    go_enter Tryd.func17, Tryd.ntmps17
    go_wp2_with (refine wpList_load_mid rfl 26 (.tmp 3) rfl _ 0 rfl (wc S) _ r0 Tryd.underlying26 rfl HI.out ?_)
    generalize ((w.alloc (.cells (wc S).toArray 26)).alloc (.cells #[.int .i16 h, .int .i8 p] 35)) = W0 at *
    refine (HSF.out W0 HG.out).mono ?_
    rintro e w1 ⟨Q1, k1, rfl, hI1, hb1⟩
    go_wp2
    go_ret2
    exact ⟨none, 0, rfl, IntsIn.empty _ _ _, HB.out.trans (hb1.mono HB.out.size)⟩
  · obtain ⟨e1, _, e2⟩ := tf_ok hb
    obtain ⟨h1, ⟨h2, h3⟩, h4⟩ := tf_parts hb
    have e3 : sxR S h p s.data.toList = stkL S s.data.toList := by unfold sxR; rw [if_pos hb]
    rw [e1, e3] at HSF
    rw [e1, e2]
    have HXB := hide (stk_b30 hS h1 h4)
    have hn := stk_n (W := S) h4
    have HST := hide (fun A c W hI => stints_any h p h2 A (stkL S s.data.toList) c W (stk_n h4) (stk_b30 hS h1 h4) hI)
    have HID := hide (fun A c W => indicesI_any A (stkL S s.data.toList).length c W (by omega))
    have HSL := hide (stnL_len h (stkL S s.data.toList))
    have HH := hide h2.1
    generalize stkL S s.data.toList = xs at *
    obtain ⟨n, hN⟩ : ∃ n, xs.length = n := ⟨_, rfl⟩
    have HN := hide hN
    rw [hN] at hn HSL HID HST
    rw [hN]
    clear hS hSx hh hp hG e1 e2 e3 r1 h1 h2 h3 h4 hb hN
    go_enter Tryd.func17, Tryd.ntmps17
    go_wp2_with (refine wpList_load_mid rfl 26 (.tmp 3) rfl _ 0 rfl (wc S) _ r0 Tryd.underlying26 rfl HI.out ?_)
    generalize ((w.alloc (.cells (wc S).toArray 26)).alloc (.cells #[.int .i16 h, .int .i8 p] 35)) = W0 at *
    refine (HSF.out W0 HG.out).mono ?_
    rintro e w1 ⟨Q1, k1, rfl, hI1, hb1⟩
    have r1 := rangeAt_below HR1.out hb1 (by omega)
    have d0 := rangeAt_cell (k := 0) r1 rfl
    have d1 := rangeAt_cell (k := 1) r1 rfl
    rw [HN.out]
    clear c0 c1
    go_wp2_with fail
    refine (HST.out _ _ _ hI1.at_).mono ?_
    rintro e w2 ⟨Q2, k2, rfl, hk2, hI2, hb2⟩
    rw [HSL.out]
    have hB2 := HB.out.trans ((hb1.trans (hb2.mono hb1.size)).mono HB.out.size)
    have hz2 := hB2.size
    have HI2 := hide hI2
    have hb3 : Below w2.heap.size w2 (w2.alloc (.cells #[.slice Q2 n k2] 32)) := (Below.refl _ _).alloc (Nat.le_refl _) _
    have hq3 := rangeAt_cell (k := 0) (rangeAt_new' w2 #[.slice Q2 n k2] 32) rfl
    have hs3 : w2.heap.size < (w2.alloc (.cells #[.slice Q2 n k2] 32)).heap.size := by simp
    clear r1 d0 d1 hI1 hb1 hb2 hI2
    go_wp2_with fail
    generalize (w2.alloc (.cells #[.slice Q2 n k2] 32)) = W3 at *
    refine (HID.out _ _ W3).mono ?_
    rintro e w4 ⟨Q4, k4, rfl, hk4, hI4, hb4⟩
    have hB4 := hb3.trans (hb4.mono hb3.size)
    have hq4 := (hb4.cell (p := ⟨w2.heap.size, 0, none⟩) hs3).trans hq3
    have HTH := hide (those1_any 53 (enters_of Tryd.func53 (by kernel_rfl) rfl) w2.heap.size (shpB h xs) Q4 (idxL n) k4 w4 (by rw [idxL_len]; omega) hI4.at_ (fun x hxm V hV => by
      obtain ⟨k, hk, rfl⟩ := idxL_mem hxm
      have hne : stnL h xs ≠ [] := by intro e; rw [e] at HSL; have := HSL.out; simp at this; omega
      obtain ⟨b, o, rfl, hbl, hbl2, hcell, _⟩ := HI2.out hne
      exact sharp1_any h HH.out xs HXB.out w2.heap.size b o n k2 k V HN.out hn hk ((hV.cell (p := ⟨w2.heap.size, 0, none⟩) (show w2.heap.size < w4.heap.size by have := hb4.size; omega)).trans hq4)
        (fun j v hj => ((hB4.trans (hV.mono hB4.size)).cell (p := ⟨b, o + j, none⟩) hbl2).trans (hcell j v hj))))
    have HIL := hide (idxL_len n)
    rw [HIL.out] at HTH
    rw [HIL.out]
    have HBB := hide (hB2.trans (hB4.mono hB2.size))
    have hz4 := HBB.out.size
    clear hI4 hb3 hb4 hB4 hq3 hq4 hB2
    go_wp2_with fail
    refine HTH.out.mono ?_
    rintro e w5 ⟨Q5, k5, rfl, hk5, hI5, hb5⟩
    go_wp2
    go_ret2
    exact ⟨Q5, k5, rfl, hI5.wider hz4, HBB.out.trans (hb5.mono hz4)⟩
end Go.Proofs.YtkbemhjeflmppaaDoor
