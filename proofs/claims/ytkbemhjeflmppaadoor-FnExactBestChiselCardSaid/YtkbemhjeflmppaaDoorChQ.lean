/- TimeFor and SharpensFor of the program. -/
import Derived.Test.YtkbemhjeflmppaaDoorChO
namespace Go.Proofs.YtkbemhjeflmppaaDoor
open Go Go.RowKit

set_option maxRecDepth 100000 in
set_option maxHeartbeats 4000000 in
theorem timeFor_any (h p : Int) (hh : 30 ≤ h ∧ h ≤ 1000) (hp : 0 ≤ p ∧ p ≤ 100) (A : Option Addr) (xs : List Int) (c : Nat) (w : World) (hn : xs.length ≤ 60) (hx : ∀ x ∈ xs, 0 ≤ x ∧ x ≤ 30) (hA : IntsAt w w.heap.size A xs) :
    Calls Tryd.prog 55 #[.agg #[.int .i16 h, .int .i8 p], .slice A xs.length c] w fun e w' => e = .returned (.int .i64 (timeT h p xs xs.length)) ∧ Below w.heap.size w w' := by
  obtain ⟨r0, b0, s0⟩ := chRow h p w 35
  have c0 := rangeAt_cell (k := 0) r0 rfl
  have c1 := rangeAt_cell (k := 1) r0 rfl
  have HS := hide (fun W (hW : Below w.heap.size w W) => doneAt_any h p hh hp A xs c W hn hx (hA.go hW))
  have HB := hide b0
  have HL := hide (doneL_len h p xs)
  cases hz : xs.length with
  | zero =>
    have HT : Hid (timeT h p xs 0 = 0) := hide (by unfold timeT sumT stS; simp)
    rw [hz] at HS
    clear hA hx r0 hn
    go_enter Tryd.func55, Tryd.ntmps55
    go_wp2
    go_ret
    exact ⟨ret_int HT.out.symm, b0⟩
  | succ m =>
    have HG := hide (doneL_get (room := h) (sh := p) (xs := xs) (k := m) (by omega))
    rw [hz] at HS HL
    generalize timeT h p xs (m + 1) = T at *
    have hmi : (m : Int) < (m : Int) + 1 := by omega
    have hmi2 : (m : Int) < ((m + 1 : Nat) : Int) := by omega
    have hm0 : (0 : Int) ≤ m := by omega
    have hnz : ((m : Int) + 1 == 0) = false := by simp; omega
    have hnz2 : (((m + 1 : Nat) : Int) == 0) = false := by simp; omega
    have hm60 : m ≤ 60 := by omega
    clear hA hx r0 hn hz
    go_enter Tryd.func55, Tryd.ntmps55
    go_wp2_with fail
    generalize (w.alloc (.cells #[.int .i16 h, .int .i8 p] 35)) = W0 at *
    refine (HS.out W0 HB.out).mono ?_
    rintro e w1 ⟨Q1, k1, rfl, hk1, hI, hb1⟩
    obtain ⟨b, o, rfl, hb, hb2, hc, ht⟩ := hI (by intro e; rw [e] at HL; have := HL.out; simp at this)
    have d0 := hc m _ HG.out
    rw [HL.out]
    clear hc ht hI hk1
    go_wp2
    go_ret
    exact ⟨rfl, HB.out.trans (hb1.mono HB.out.size)⟩

/-! strokesFor -/
noncomputable def sxR (S : List Int) (h p : Int) (L : List UInt8) : List Int := if tfB S h p L = true then stkL S L else []
set_option maxRecDepth 100000 in
set_option maxHeartbeats 8000000 in
theorem strokesFor_any (S : List Int) (hS : S.length = 26) (hSx : ∀ x ∈ S, i8ok x) (h : Int) (hh : -32768 ≤ h ∧ h ≤ 32767) (p : Int) (hp : i8ok p) (s : ByteArray) (hs : s.size ≤ maxLen) (w : World) (hG : Glob w) :
    Calls Tryd.prog 49 #[.agg (wc S).toArray, .agg #[.int .i16 h, .int .i8 p], .string s] w (IntsBack (sxR S h p s.data.toList) (tfC S h p s.data.toList) w) := by
  obtain ⟨r0, r1, b0, s0⟩ := boxed2 S h p w 26 35
  have HI := hide (show (Tryd.prog.info? 26).map (·.size) = some (wc S).length by rw [wc_length, hS]; kernel_rfl)
  have HA := hide (fun W => implValidStrokes_any S hS hSx W)
  have HB := hide (fun W => implValidChisel_any h hh p hp W)
  have HT := hide (fun W => implValidText_any s W hs)
  have HE := hide (show tfB S h p s.data.toList = (vstr S && (vchi h p && vtext s.data.toList)) from rfl)
  have HL := hide (fun W hv hG => strokesIn_any S hS hSx s W hv hG)
  have HNO := hide (fun hq : tfB S h p s.data.toList = false => (⟨(tf_no hq).1, by unfold sxR; rw [hq]; rfl⟩ : tfC S h p s.data.toList = 1 ∧ sxR S h p s.data.toList = []))
  have HOK := hide (fun hq : tfB S h p s.data.toList = true => (⟨(tf_ok hq).1, by unfold sxR; rw [if_pos hq]⟩ : tfC S h p s.data.toList = 0 ∧ sxR S h p s.data.toList = stkL S s.data.toList))
  have HG := hide (hG.below b0)
  have HBW := hide b0
  unfold maxLen at hs
  have HR0 := hide r0
  have HR1 := hide r1
  generalize hC : tfC S h p s.data.toList = C at *
  generalize hRr : sxR S h p s.data.toList = R at *
  clear hS hSx hh hp hG r1 hC hRr
  cases h1 : vstr S
  · obtain ⟨rfl, rfl⟩ := HNO.out (by rw [HE.out, h1]; rfl)
    rw [h1] at HA
    go_enter Tryd.func49, Tryd.ntmps49
    go_wp2_with (refine wpList_load_mid rfl 26 (.tmp 3) rfl _ 0 rfl (wc S) _ r0 Tryd.underlying26 rfl HI.out ?_)
    generalize ((w.alloc (.cells (wc S).toArray 26)).alloc (.cells #[.int .i16 h, .int .i8 p] 35)) = W0 at *
    refine (HA.out _).mono ?_
    rintro e w1 ⟨rfl, hb1⟩
    go_wp2
    go_ret2
    exact ⟨none, 0, rfl, IntsIn.empty _ _ _, HBW.out.trans (hb1.mono HBW.out.size)⟩
  · rw [h1] at HA
    go_enter Tryd.func49, Tryd.ntmps49
    go_wp2_with (refine wpList_load_mid rfl 26 (.tmp 3) rfl _ 0 rfl (wc S) _ r0 Tryd.underlying26 rfl HI.out ?_)
    generalize ((w.alloc (.cells (wc S).toArray 26)).alloc (.cells #[.int .i16 h, .int .i8 p] 35)) = W0 at *
    refine (HA.out _).mono ?_
    rintro e w1 ⟨rfl, hb1⟩
    have r1 := rangeAt_below HR1.out hb1 (by omega)
    have c0 := rangeAt_cell (k := 0) r1 rfl
    have c1 := rangeAt_cell (k := 1) r1 rfl
    cases h2 : vchi h p
    · obtain ⟨rfl, rfl⟩ := HNO.out (by rw [HE.out, h1, h2]; rfl)
      rw [h2] at HB
      go_wp2_with (go_at_call 72; refine (HB.out _).mono ?_; rintro e w2 ⟨rfl, hb2⟩)
      go_ret2
      exact ⟨none, 0, rfl, IntsIn.empty _ _ _, HBW.out.trans ((hb1.trans (hb2.mono hb1.size)).mono HBW.out.size)⟩
    · rw [h2] at HB
      go_wp2_with fail
      refine (HB.out _).mono ?_
      rintro e w2 ⟨rfl, hb2⟩
      have hB2 := hb1.trans (hb2.mono hb1.size)
      clear c0 c1 r1 hb1 hb2
      cases h3 : vtext s.data.toList
      · obtain ⟨rfl, rfl⟩ := HNO.out (by rw [HE.out, h1, h2, h3]; rfl)
        rw [h3] at HT
        go_wp2_with (go_at_call 44; refine (HT.out _).mono ?_; rintro e w3 ⟨rfl, hb3⟩)
        go_ret2
        exact ⟨none, 0, rfl, IntsIn.empty _ _ _, HBW.out.trans ((hB2.trans (hb3.mono hB2.size)).mono HBW.out.size)⟩
      · obtain ⟨rfl, rfl⟩ := HOK.out (by rw [HE.out, h1, h2, h3]; rfl)
        rw [h3] at HT
        have HL2 := hide (fun W hG => HL.out W h3 hG)
        unfold IntsB at HL2
        generalize stkL S s.data.toList = xs at *
        go_wp2_with fail
        refine (HT.out _).mono ?_
        rintro e w3 ⟨rfl, hb3⟩
        have hB3 := hB2.trans (hb3.mono hB2.size)
        have r3 := rangeAt_below HR0.out hB3 (by omega)
        go_wp2_with (first | (refine wpList_load_mid rfl 26 (.tmp 3) rfl _ 0 rfl (wc S) _ r3 Tryd.underlying26 rfl HI.out ?_) | (go_at_call 46; refine (HL2.out _ (HG.out.below hB3)).mono ?_; rintro e w4 ⟨Q4, k4, rfl, _, hI4, hb4⟩))
        go_ret2
        exact ⟨Q4, k4, rfl, hI4.wider (Nat.le_trans HBW.out.size hB3.size), HBW.out.trans ((hB3.trans (hb4.mono hB3.size)).mono HBW.out.size)⟩
end Go.Proofs.YtkbemhjeflmppaaDoor
