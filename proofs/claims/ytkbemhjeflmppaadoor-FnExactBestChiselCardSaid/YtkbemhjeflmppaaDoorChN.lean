/- The model: when a chisel is sharpened, how long a text takes; TimeFor, SharpensFor. -/
import Derived.Test.YtkbemhjeflmppaaDoorChM
import Derived.Deep.RegionHeld3
namespace Go.Proofs.YtkbemhjeflmppaaDoor
open Go Go.RowKit

theorem shpT_bd (room : Int) (xs : List Int) (k : Nat) : (shpT room xs k).length ≤ k := by
  unfold shpT; exact Nat.le_trans (List.length_filter_le _ _) (by rw [idxL_len]; exact Nat.le_refl _)
theorem shpT_new {room : Int} {xs : List Int} {k : Nat} {x : Int} (hx : xs[k]? = some x) (h : (stS room xs k).2 < x) : shpT room xs (k + 1) = shpT room xs k ++ [(k : Int)] := by
  rw [shpT_succ, shpB_at hx, if_pos (by simpa using h)]
theorem shpT_old {room : Int} {xs : List Int} {k : Nat} {x : Int} (hx : xs[k]? = some x) (h : ¬ (stS room xs k).2 < x) : shpT room xs (k + 1) = shpT room xs k := by
  rw [shpT_succ, shpB_at hx, if_neg (by simpa using h)]

set_option maxRecDepth 100000 in
set_option maxHeartbeats 8000000 in
theorem l05Sharpens_any (h p : Int) (hh : 30 ≤ h ∧ h ≤ 1000) (bc : Nat) (A : Option Addr) (xs : List Int) (c : Nat) (w : World) (hn : xs.length ≤ 60) (hx : ∀ x ∈ xs, 0 ≤ x ∧ x ≤ 30) (hb : bc < w.heap.size) (hr : w.rangeAt bc 0 [.int .i16 h, .int .i8 p]) (hA : IntsAt w w.heap.size A xs) :
    Calls Tryd.prog 48 #[.pointer (some ⟨bc, 0, none⟩), .slice A xs.length c] w (IntsB (shpT h xs xs.length) w) := by
  obtain ⟨i0, hi0, hz0, hz1, hz2⟩ := info_parts Tryd.infoI64
  obtain ⟨h1, h2⟩ := hh
  have HX := hide hx
  have HA := hide hA
  have HC0 := hide (rangeAt_cell (k := 0) hr rfl)
  have HSB := hide (stS_bd hx h1 (by omega))
  have HLB := hide (shpT_bd h xs)
  obtain ⟨n, hN⟩ : ∃ n, xs.length = n := ⟨_, rfl⟩
  have HN := hide hN
  rw [hN] at hn HSB ⊢
  clear hN hx hA hr
  go_enter Tryd.func48, Tryd.ntmps48
  go_wp2
  go_loopw [5, 6, 7] (fun br us i wr => ∃ k : Nat, k ≤ n ∧ i = .int .i64 k ∧ us = .int .i64 (h - (stS h xs k).2) ∧ wr.ownsRow w.heap.size 2 1 br (shpT h xs k).length ((shpT h xs k).map (.int .i64)) ∧ Below w.heap.size w wr)
    (fun _ _ i _ => n - (intOf i).toNat)
  case atStart => exact ⟨0, Nat.zero_le _, rfl, by simp [stS], World.ownsRow_made w _ 0 (Nat.le_refl _) (by unfold maxLen; omega) rfl, (Below.refl _ _).alloc (Nat.le_refl _) _⟩
  case round =>
    obtain ⟨k, hk, rfl, rfl, hown, hB⟩ := hrel
    obtain ⟨Ab, cbb, rfl, hcap, _⟩ := cellsIn_of_own hown (by omega)
    have hbs := hB.size
    have HOWN := hide hown
    obtain ⟨hs1, hs2⟩ := HSB.out k hk
    have hll := HLB.out k
    clear hown
    by_cases hlt : k < n
    · obtain ⟨b, o, rfl, hb2, hxs⟩ := HA.out (by intro e; rw [e] at HN; have := HN.out; simp at this; omega)
      obtain ⟨x, hxk⟩ : ∃ x, xs[k]? = some x := ⟨xs[k]'(by rw [HN.out]; exact hlt), List.getElem?_eq_getElem _⟩
      have c0 : wr.cell? ⟨b, o + k, none⟩ = some (.int .i64 x) := (hB.cell (p := ⟨b, o + k, none⟩) hb2).trans (hxs k x hxk)
      have cc := (hB.cell (p := ⟨bc, 0, none⟩) hb).trans HC0.out
      obtain ⟨x1, x2⟩ := HX.out x (List.mem_of_getElem? hxk)
      have hi : (k : Int) < n := by omega
      have hk0 : (0 : Int) ≤ k := by omega
      have HSU := hide (stS_succ (room := h) hxk)
      have HNE := hide (fun hq => shpT_new (room := h) hxk hq)
      have HOL := hide (fun hq => shpT_old (room := h) hxk hq)
      have HXC := hide (hxs k x hxk)
      clear hxs hxk
      generalize hst : stS h xs k = q at hs1 hs2 HSU HNE HOL ⊢
      clear hst
      obtain ⟨st, le⟩ := q
      cases hgt : decide (h < h - le + x)
      · have hnl : ¬ le < x := by simp at hgt; omega
        have HT := hide (HOL.out hnl)
        have HS2 : Hid (h - le + x = h - (stS h xs (k + 1)).2) := hide (by rw [HSU.out, stN_old (p := (st, le)) hnl]; simp only []; omega)
        clear hnl
        go_wp2
        go_quiet (fail)
        go_wp2
        refine ⟨⟨k + 1, by omega, by go_num, by rw [HS2.out], ?_, below_drewN hB _⟩, by simp [intOf]; omega⟩
        rw [HT.out]
        exact own_go HOWN.out (below_drewN (Below.refl _ _) _)
      · have hnl : le < x := by simp at hgt; omega
        have HT := hide (HNE.out hnl)
        have HS2 : Hid (x = h - (stS h xs (k + 1)).2) := hide (by rw [HSU.out, stN_new (p := (st, le)) hnl]; simp only []; omega)
        clear hnl
        go_wp2
        go_quiet (fail)
        have hBq := below_drewN hB nq
        have HOWQ := hide (own_go HOWN.out (below_drewN (Below.refl _ _) nq))
        have c0q : (wr.drewN nq).cell? ⟨b, o + k, none⟩ = some (.int .i64 x) := c0
        have hbq := hBq.size
        clear c0 cc
        generalize wr.drewN nq = W at *
        go_wp2_with (at_builtin; refine wpList_append_own _ rfl (.tmp 27) (.tmp 29) 32 rfl w.heap.size 2 i0 (.int .i64 0) 1 8 Tryd.underlying32 hi0 hz0 hz1 hz2 rfl (by decide) _ (shpT h xs k).length _ rfl (HOWQ.out.alloc _) ⟨W.heap.size, 0, none⟩ 1 1 [.int .i64 (k : Int)] rfl rfl (one_cell _) (one_one rfl) ?h1 ?h2 ?h3 ?_)
        case h1 => unfold maxLen; omega
        case h2 => omega
        case h3 => first | omega | (simp; omega) | simp
        intro v' w4 hown4 hg4 _
        obtain ⟨A4, c4, rfl, _, _⟩ := cellsIn_of_own hown4 (by omega)
        have H4 := hide hown4
        have hg34 : W.grownBy w4 _ := grown_trans (World.grownBy_alloc W _ _) hg4
        have hB4 := hBq.trans (grown_toBelow hg34 (by omega) (fun k hk => (HOWQ.out.lt k hk).1))
        have c4q : w4.cell? ⟨b, o + k, none⟩ = some (.int .i64 x) := (hB4.cell (p := ⟨b, o + k, none⟩) hb2).trans HXC.out
        clear hown4 hg4 hg34 c0q
        go_wp2
        refine ⟨⟨k + 1, by omega, by go_num, by rw [← HS2.out], ?_, hB4⟩, by simp [intOf]; omega⟩
        rw [HT.out, List.map_append, List.length_append]
        exact H4.out
    · obtain rfl : k = n := by omega
      obtain ⟨Ag, cg, e, _, hI⟩ := intsIn_of_own HOWN.out
      injection e with e1 e2 e3
      subst e1 e3
      have HI := hide hI
      clear hI
      go_wp2
      go_ret
      exact ⟨Ab, cbb, rfl, hcap, HI.out, hB⟩

set_option maxRecDepth 100000 in
set_option maxHeartbeats 8000000 in
theorem l05Time_any (h p : Int) (hh : 30 ≤ h ∧ h ≤ 1000) (hp : 0 ≤ p ∧ p ≤ 100) (bc : Nat) (A : Option Addr) (xs : List Int) (c : Nat) (w : World) (hn : xs.length ≤ 60) (hx : ∀ x ∈ xs, 0 ≤ x ∧ x ≤ 30) (hb : bc < w.heap.size) (hr : w.rangeAt bc 0 [.int .i16 h, .int .i8 p]) (hA : IntsAt w w.heap.size A xs) :
    Calls Tryd.prog 54 #[.pointer (some ⟨bc, 0, none⟩), .slice A xs.length c] w fun e w' => e = .returned (.int .i64 (timeT h p xs xs.length)) ∧ Below w.heap.size w w' := by
  have HSU := hide (fun W (hW : Below w.heap.size w W) => l05Sum_any A xs c W hn hx (hA.go hW))
  have HSH := hide (fun W (hW : Below w.heap.size w W) => l05Sharpens_any h p hh bc A xs c W hn hx (Nat.lt_of_lt_of_le hb hW.size) (rangeAt_below hr hW hb) (hA.go hW))
  have cc : ∀ w', Below w.heap.size w w' → w'.cell? ⟨bc, 1, none⟩ = some (.int .i8 p) := fun w' hw => rangeAt_cell (k := 1) (rangeAt_below hr hw hb) rfl
  obtain ⟨p1, p2⟩ := hp
  obtain ⟨t1, t2, t3, t4⟩ := timeT_bd hx hh.1 p1 p2 (Nat.le_refl xs.length)
  have hsl := shpT_len (room := h) (xs := xs) xs.length (Nat.le_refl _)
  have HT := hide (show timeT h p xs xs.length = sumT xs xs.length + (stS h xs xs.length).1 * p from rfl)
  have hsb := sumT_bd hx xs.length (Nat.le_refl _)
  have HSL := hide hsl
  have hlb := shpT_bd h xs xs.length
  rw [← hsl] at HT t3 t4
  obtain ⟨s1, s2⟩ := hsb
  unfold IntsB at HSH
  obtain ⟨R, hR⟩ : ∃ R, shpT h xs xs.length = R := ⟨_, rfl⟩
  rw [hR] at HSH HT t3 t4 hlb
  generalize timeT h p xs xs.length = T at *
  generalize sumT xs xs.length = q at *
  generalize xs.length = n at *
  clear hR hsl HSL hx hr hA hh
  have hw1 := IntWalk.i64_in p ⟨by omega, by omega⟩
  have hw2 := IntWalk.i64_in ((R.length : Int) * p) ⟨by omega, by omega⟩
  have hw3 := IntWalk.i64_in (q + (R.length : Int) * p) ⟨by omega, by omega⟩
  go_enter Tryd.func54, Tryd.ntmps54
  go_wp2
  go_region_held3 (fun w' => Below w.heap.size w w') (first | exact (Below.refl _ _).drew | (refine Below.trans (by assumption) (Below.mono (by assumption) ?_); exact Below.size (by assumption))) (first | (go_at_call 41; refine (HSU.out _ (by assumption)).mono ?_; rintro e w1 ⟨rfl, rfl⟩) | (go_at_call 48; refine (HSH.out _ (by assumption)).mono ?_; rintro e w2 ⟨Q2, k2, rfl, hk2, hI2, hb2⟩))
  have hBw : Below w.heap.size w w2 := by assumption
  go_wp2
  go_ret
  exact ⟨ret_int HT.out.symm, hBw⟩

/-! The code of strokes, a chisel and a text -/
noncomputable def tfB (S : List Int) (h p : Int) (L : List UInt8) : Bool := vstr S && (vchi h p && vtext L)
noncomputable def tfC (S : List Int) (h p : Int) (L : List UInt8) : Int := if tfB S h p L = true then 0 else 1
noncomputable def tfV (S : List Int) (h p : Int) (L : List UInt8) : Int := if tfB S h p L = true then timeT h p (stkL S L) (stkL S L).length else 0
noncomputable def sfR (S : List Int) (h p : Int) (L : List UInt8) : List Int := if tfB S h p L = true then shpT h (stkL S L) (stkL S L).length else []
theorem tf_no {S : List Int} {h p : Int} {L : List UInt8} (e : tfB S h p L = false) : tfC S h p L = 1 ∧ tfV S h p L = 0 ∧ sfR S h p L = [] := by unfold tfC tfV sfR; rw [e]; exact ⟨rfl, rfl, rfl⟩
theorem tf_ok {S : List Int} {h p : Int} {L : List UInt8} (e : tfB S h p L = true) : tfC S h p L = 0 ∧ tfV S h p L = timeT h p (stkL S L) (stkL S L).length ∧ sfR S h p L = shpT h (stkL S L) (stkL S L).length := by unfold tfC tfV sfR; rw [e]; exact ⟨rfl, rfl, rfl⟩
theorem tf_parts {S : List Int} {h p : Int} {L : List UInt8} (e : tfB S h p L = true) : vstr S = true ∧ ((30 ≤ h ∧ h ≤ 1000) ∧ 0 ≤ p ∧ p ≤ 100) ∧ vtext L = true := by
  unfold tfB at e
  simp only [Bool.and_eq_true] at e
  exact ⟨e.1, vchi_true.1 e.2.1, e.2.2⟩
theorem sfR_len (S : List Int) (h p : Int) (L : List UInt8) : (sfR S h p L).length ≤ 1048577 := by
  unfold sfR
  split
  · rename_i e
    have := shpT_bd h (stkL S L) (stkL S L).length
    have := stk_n (W := S) (tf_parts e).2.2
    omega
  · simp

set_option maxHeartbeats 4000000 in
theorem l05Asked_any (S : List Int) (hS : S.length = 26) (hSx : ∀ x ∈ S, i8ok x) (h p : Int) (hh : -32768 ≤ h ∧ h ≤ 32767) (hp : i8ok p) (bs bc : Nat) (s : ByteArray) (hs : s.size ≤ maxLen) (w : World) (hr : w.rangeAt bs 0 (wc S)) (hc : w.rangeAt bc 0 [.int .i16 h, .int .i8 p]) :
    Calls Tryd.prog 47 #[.pointer (some ⟨bs, 0, none⟩), .pointer (some ⟨bc, 0, none⟩), .string s] w fun e w' => e = .returned (.int .i64 (tfC S h p s.data.toList)) ∧ w = w' := by
  have HA := hide (l05Strokes_any S hS hSx bs w hr)
  have HB := hide (l05Chisel_any h p hh hp bc w hc)
  have HT := hide (l01Text_any s w hs)
  have HE := hide (show tfB S h p s.data.toList = (vstr S && (vchi h p && vtext s.data.toList)) from rfl)
  obtain ⟨C, hC⟩ : ∃ C, tfC S h p s.data.toList = C := ⟨_, rfl⟩
  have HC := hide hC
  rw [hC]
  unfold maxLen at hs
  clear hC hr hc hS hSx hh hp
  cases h1 : vstr S
  · have HF := hide (HC.out.symm.trans (tf_no (by rw [HE.out, h1]; rfl)).1)
    rw [h1] at HA
    go_enter Tryd.func47, Tryd.ntmps47
    go_wp2_with (go_at_call 39; refine HA.out.mono ?_; rintro e w1 ⟨rfl, rfl⟩)
    go_ret
    exact ⟨ret_int HF.out.symm, rfl⟩
  · rw [h1] at HA
    cases h2 : vchi h p
    · have HF := hide (HC.out.symm.trans (tf_no (by rw [HE.out, h1, h2]; rfl)).1)
      rw [h2] at HB
      go_enter Tryd.func47, Tryd.ntmps47
      go_wp2_with (first | (go_at_call 39; refine HA.out.mono ?_; rintro e w1 ⟨rfl, rfl⟩) | (go_at_call 70; refine HB.out.mono ?_; rintro e w1 ⟨rfl, rfl⟩))
      go_ret
      exact ⟨ret_int HF.out.symm, rfl⟩
    · rw [h2] at HB
      cases h3 : vtext s.data.toList
      · have HF := hide (HC.out.symm.trans (tf_no (by rw [HE.out, h1, h2, h3]; rfl)).1)
        rw [h3] at HT
        go_enter Tryd.func47, Tryd.ntmps47
        go_wp2_with (first | (go_at_call 39; refine HA.out.mono ?_; rintro e w1 ⟨rfl, rfl⟩) | (go_at_call 70; refine HB.out.mono ?_; rintro e w1 ⟨rfl, rfl⟩) | (go_at_call 40; refine HT.out.mono ?_; rintro e w1 ⟨rfl, rfl⟩))
        go_ret
        exact ⟨ret_int HF.out.symm, rfl⟩
      · have HF := hide (HC.out.symm.trans (tf_ok (by rw [HE.out, h1, h2, h3]; rfl)).1)
        rw [h3] at HT
        go_enter Tryd.func47, Tryd.ntmps47
        go_wp2_with (first | (go_at_call 39; refine HA.out.mono ?_; rintro e w1 ⟨rfl, rfl⟩) | (go_at_call 70; refine HB.out.mono ?_; rintro e w1 ⟨rfl, rfl⟩) | (go_at_call 40; refine HT.out.mono ?_; rintro e w1 ⟨rfl, rfl⟩))
        go_ret
        exact ⟨ret_int HF.out.symm, rfl⟩

/-- Strokes and a chisel in boxes. -/
theorem boxed2 (S : List Int) (h p : Int) (w : World) (t u : TypeId) : ((w.alloc (.cells (wc S).toArray t)).alloc (.cells #[.int .i16 h, .int .i8 p] u)).rangeAt w.heap.size 0 (wc S) ∧ ((w.alloc (.cells (wc S).toArray t)).alloc (.cells #[.int .i16 h, .int .i8 p] u)).rangeAt (w.heap.size + 1) 0 [.int .i16 h, .int .i8 p] ∧
    Below w.heap.size w ((w.alloc (.cells (wc S).toArray t)).alloc (.cells #[.int .i16 h, .int .i8 p] u)) ∧ w.heap.size + 2 ≤ ((w.alloc (.cells (wc S).toArray t)).alloc (.cells #[.int .i16 h, .int .i8 p] u)).heap.size :=
  ⟨World.rangeAt_alloc (rangeAt_new _ _ _) _, rangeAt_newg (by simp) rfl, ((Below.refl _ _).alloc (Nat.le_refl _) _).alloc (by simp) _, by simp⟩

set_option maxRecDepth 100000 in
set_option maxHeartbeats 4000000 in
theorem specTimeFor_any (S : List Int) (hS : S.length = 26) (hSx : ∀ x ∈ S, i8ok x) (h : Int) (hh : -32768 ≤ h ∧ h ≤ 32767) (p : Int) (hp : i8ok p) (s : ByteArray) (hs : s.size ≤ maxLen) (w : World) :
    Calls Tryd.prog 21 #[.agg (wc S).toArray, .agg #[.int .i16 h, .int .i8 p], .string s] w fun e w' => e = .returned (.tuple #[.int .i64 (tfV S h p s.data.toList), .int .i64 (tfC S h p s.data.toList)]) ∧ Below w.heap.size w w' := by
  obtain ⟨r0, r1, b0, s0⟩ := boxed2 S h p w 26 35
  have HA := hide (l05Asked_any S hS hSx h p hh hp _ _ s hs _ r0 r1)
  have HB := hide b0
  unfold maxLen at hs
  cases hb : tfB S h p s.data.toList
  · obtain ⟨e1, e2, _⟩ := tf_no hb
    rw [e1, e2]
    rw [e1] at HA
    clear r0 r1 s0 hS hSx e1 e2 hh hp b0
    go_enter Tryd.func21, Tryd.ntmps21
    go_wp2_with (go_at_call 47; refine HA.out.mono ?_; rintro e w1 ⟨rfl, rfl⟩)
    go_ret2
    exact ⟨rfl, HB.out⟩
  · obtain ⟨e1, e2, _⟩ := tf_ok hb
    obtain ⟨h1, ⟨h2, h3⟩, h4⟩ := tf_parts hb
    rw [e1, e2]
    rw [e1] at HA
    have HLI := hide (l05List_any S hS hSx s _ _ h4 r0 (by omega))
    have HTI := hide (fun A c W (hW : Below ((w.alloc (.cells (wc S).toArray 26)).alloc (.cells #[.int .i16 h, .int .i8 p] 35)).heap.size ((w.alloc (.cells (wc S).toArray 26)).alloc (.cells #[.int .i16 h, .int .i8 p] 35)) W) hI => l05Time_any h p h2 h3 (w.heap.size + 1) A (stkL S s.data.toList) c W (stk_n h4) (stk_b30 hS h1 h4) (by have := hW.size; omega) (rangeAt_below r1 hW (by omega)) hI)
    generalize stkL S s.data.toList = xs at *
    clear r0 r1 hS hSx e1 e2 hh hp h1 h2 h3 h4 hb
    go_enter Tryd.func21, Tryd.ntmps21
    go_wp2_with fail
    generalize ((w.alloc (.cells (wc S).toArray 26)).alloc (.cells #[.int .i16 h, .int .i8 p] 35)) = W0 at *
    refine HA.out.mono ?_
    rintro e w1 ⟨rfl, rfl⟩
    go_wp2_with (first | (go_at_call 42; refine HLI.out.mono ?_; rintro e w2 ⟨Q1, k1, rfl, _, hI1, hb1⟩) | (go_at_call 54; refine (HTI.out _ _ _ hb1 hI1.at_).mono ?_; rintro e w3 ⟨rfl, hb3⟩))
    go_ret2
    exact ⟨rfl, HB.out.trans ((hb1.trans (hb3.mono hb1.size)).mono HB.out.size)⟩

set_option maxRecDepth 100000 in
set_option maxHeartbeats 4000000 in
theorem specSharpensFor_any (S : List Int) (hS : S.length = 26) (hSx : ∀ x ∈ S, i8ok x) (h : Int) (hh : -32768 ≤ h ∧ h ≤ 32767) (p : Int) (hp : i8ok p) (s : ByteArray) (hs : s.size ≤ maxLen) (w : World) :
    Calls Tryd.prog 15 #[.agg (wc S).toArray, .agg #[.int .i16 h, .int .i8 p], .string s] w (IntsBack (sfR S h p s.data.toList) (tfC S h p s.data.toList) w) := by
  obtain ⟨r0, r1, b0, s0⟩ := boxed2 S h p w 26 35
  have HA := hide (l05Asked_any S hS hSx h p hh hp _ _ s hs _ r0 r1)
  have HB := hide b0
  unfold maxLen at hs
  cases hb : tfB S h p s.data.toList
  · obtain ⟨e1, _, e2⟩ := tf_no hb
    rw [e1, e2]
    rw [e1] at HA
    clear r0 r1 s0 hS hSx e1 e2 hh hp b0
    go_enter Tryd.func15, Tryd.ntmps15
    go_wp2_with (go_at_call 47; refine HA.out.mono ?_; rintro e w1 ⟨rfl, rfl⟩)
    go_ret2
    exact ⟨_, _, rfl, IntsIn.empty _ _ _, HB.out.alloc HB.out.size _⟩
  · obtain ⟨e1, _, e2⟩ := tf_ok hb
    obtain ⟨h1, ⟨h2, h3⟩, h4⟩ := tf_parts hb
    rw [e1, e2]
    rw [e1] at HA
    have HLI := hide (l05List_any S hS hSx s _ _ h4 r0 (by omega))
    have HTI := hide (fun A c W (hW : Below ((w.alloc (.cells (wc S).toArray 26)).alloc (.cells #[.int .i16 h, .int .i8 p] 35)).heap.size ((w.alloc (.cells (wc S).toArray 26)).alloc (.cells #[.int .i16 h, .int .i8 p] 35)) W) hI => l05Sharpens_any h p h2 (w.heap.size + 1) A (stkL S s.data.toList) c W (stk_n h4) (stk_b30 hS h1 h4) (by have := hW.size; omega) (rangeAt_below r1 hW (by omega)) hI)
    generalize stkL S s.data.toList = xs at *
    clear r0 r1 hS hSx e1 e2 hh hp h1 h2 h3 h4 hb
    go_enter Tryd.func15, Tryd.ntmps15
    go_wp2_with fail
    generalize ((w.alloc (.cells (wc S).toArray 26)).alloc (.cells #[.int .i16 h, .int .i8 p] 35)) = W0 at *
    refine HA.out.mono ?_
    rintro e w1 ⟨rfl, rfl⟩
    go_wp2_with (first | (go_at_call 42; refine HLI.out.mono ?_; rintro e w2 ⟨Q1, k1, rfl, _, hI1, hb1⟩) | (go_at_call 48; refine (HTI.out _ _ _ hb1 hI1.at_).mono ?_; rintro e w3 ⟨Q3, k3, rfl, _, hI3, hb3⟩))
    go_ret2
    exact ⟨Q3, k3, rfl, hI3.wider (Nat.le_trans HB.out.size hb1.size), HB.out.trans ((hb1.trans (hb3.mono hb1.size)).mono HB.out.size)⟩
end Go.Proofs.YtkbemhjeflmppaaDoor
