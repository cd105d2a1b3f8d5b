/- CutUntil, of both. -/
import Derived.Test.YtkbemhjeflmppaaDoorChR
namespace Go.Proofs.YtkbemhjeflmppaaDoor
open Go Go.RowKit

noncomputable def cuB (S : List Int) (h p : Int) (L : List UInt8) (t : Int) : Bool := tfB S h p L && inB t 0 100000
noncomputable def cuC (S : List Int) (h p : Int) (L : List UInt8) (t : Int) : Int := if tfB S h p L = true then (if inB t 0 100000 = true then 0 else 2) else 1
noncomputable def cuV (S : List Int) (h p : Int) (L : List UInt8) (t : Int) : Int := if cuB S h p L t = true then (cutN h p (stkL S L) t : Int) else 0
theorem cu_no {S : List Int} {h p : Int} {L : List UInt8} {t : Int} (e : tfB S h p L = false) : cuC S h p L t = 1 ∧ cuV S h p L t = 0 := by unfold cuC cuV cuB; rw [e]; exact ⟨rfl, rfl⟩
theorem cu_out {S : List Int} {h p : Int} {L : List UInt8} {t : Int} (e : tfB S h p L = true) (f : inB t 0 100000 = false) : cuC S h p L t = 2 ∧ cuV S h p L t = 0 := by unfold cuC cuV cuB; rw [e, f]; exact ⟨rfl, rfl⟩
theorem cu_ok {S : List Int} {h p : Int} {L : List UInt8} {t : Int} (e : tfB S h p L = true) (f : inB t 0 100000 = true) : cuC S h p L t = 0 ∧ cuV S h p L t = (cutN h p (stkL S L) t : Int) := by unfold cuC cuV cuB; rw [e, f]; exact ⟨rfl, rfl⟩

set_option maxRecDepth 100000 in
set_option maxHeartbeats 8000000 in
theorem specCutUntil_any (S : List Int) (hS : S.length = 26) (hSx : ∀ x ∈ S, i8ok x) (h : Int) (hh : -32768 ≤ h ∧ h ≤ 32767) (p : Int) (hp : i8ok p) (s : ByteArray) (hs : s.size ≤ maxLen) (t : Int) (w : World) :
    Calls Tryd.prog 23 #[.agg (wc S).toArray, .agg #[.int .i16 h, .int .i8 p], .string s, .int .i64 t] w fun e w' => e = .returned (.tuple #[.int .i64 (cuV S h p s.data.toList t), .int .i64 (cuC S h p s.data.toList t)]) ∧ Below w.heap.size w w' := by
  obtain ⟨r0, r1, b0, s0⟩ := boxed2 S h p w 26 35
  have HA := hide (l05Asked_any S hS hSx h p hh hp _ _ s hs _ r0 r1)
  have HB := hide b0
  unfold maxLen at hs
  cases hb : tfB S h p s.data.toList
  · obtain ⟨e1, e2⟩ := cu_no (t := t) hb
    obtain ⟨e3, _⟩ := tf_no hb
    rw [e1, e2]
    rw [e3] at HA
    clear r0 r1 s0 hS hSx e1 e2 e3 hh hp b0 hb
    go_enter Tryd.func23, Tryd.ntmps23
    go_wp2_with (go_at_call 47; refine HA.out.mono ?_; rintro e w1 ⟨rfl, rfl⟩)
    go_ret2
    exact ⟨rfl, HB.out⟩
  · obtain ⟨e3, _⟩ := tf_ok hb
    rw [e3] at HA
    cases hi : inB t 0 100000
    · obtain ⟨e1, e2⟩ := cu_out hb hi
      rw [e1, e2]
      clear r0 r1 s0 hS hSx e1 e2 e3 hh hp b0 hb
      go_enter Tryd.func23, Tryd.ntmps23
      go_wp2_with (first | (go_at_call 47; refine HA.out.mono ?_; rintro e w1 ⟨rfl, rfl⟩) | (go_at_call 56; refine (l00In_any _ _ _ _).mono ?_; rintro e w' ⟨rfl, rfl⟩; simp only [hi]))
      go_ret2
      exact ⟨rfl, HB.out⟩
    · obtain ⟨e1, e2⟩ := cu_ok hb hi
      obtain ⟨h1, ⟨h2, h3⟩, h4⟩ := tf_parts hb
      rw [e1, e2]
      have HLI := hide (l05List_any S hS hSx s _ _ h4 r0 (by omega))
      have hxb := stk_b30 hS h1 h4
      have hn60 := stk_n (W := S) h4
      have HTI := hide (fun A m c W (hm : m ≤ (stkL S s.data.toList).length) (hW : Below ((w.alloc (.cells (wc S).toArray 26)).alloc (.cells #[.int .i16 h, .int .i8 p] 35)).heap.size ((w.alloc (.cells (wc S).toArray 26)).alloc (.cells #[.int .i16 h, .int .i8 p] 35)) W) (hI : IntsAt W W.heap.size A ((stkL S s.data.toList).take m)) => (show Calls Tryd.prog 54 #[.pointer (some ⟨w.heap.size + 1, 0, none⟩), .slice A m c] W fun e w' => e = .returned (.int .i64 (timeT h p (stkL S s.data.toList) m)) ∧ Below W.heap.size W w' from by
        have hl : ((stkL S s.data.toList).take m).length = m := by rw [List.length_take]; omega
        have := l05Time_any h p h2 h3 (w.heap.size + 1) A ((stkL S s.data.toList).take m) c W (by omega) (fun x hx => hxb x (List.mem_of_mem_take hx)) (by have := hW.size; omega) (rangeAt_below r1 hW (by omega)) hI
        rwa [hl, timeT_take h p _ m (Nat.le_refl m)] at this))
      have HCUT := hide (fun m hm => cutN_of (room := h) (sh := p) (t := t) (xs := stkL S s.data.toList) (m := m) hxb h3.1 hm)
      generalize stkL S s.data.toList = xs at *
      obtain ⟨n, hN⟩ : ∃ n, xs.length = n := ⟨_, rfl⟩
      have HN := hide hN
      rw [hN] at hn60 HTI HCUT
      clear r0 r1 hS hSx e1 e2 e3 hh hp h1 h2 h3 h4 hb hxb hN
      go_enter Tryd.func23, Tryd.ntmps23
      go_wp2_with fail
      generalize ((w.alloc (.cells (wc S).toArray 26)).alloc (.cells #[.int .i16 h, .int .i8 p] 35)) = W0 at *
      refine HA.out.mono ?_
      rintro e w1 ⟨rfl, rfl⟩
      go_wp2_with (go_at_call 56; refine (l00In_any _ _ _ _).mono ?_; rintro e w' ⟨rfl, rfl⟩; simp only [hi])
      refine HLI.out.mono ?_
      rintro e w2 ⟨Q1, k1, rfl, hk1, hI1, hb1⟩
      have HI1 := hide hI1.at_
      have HBW := hide hb1
      rw [HN.out] at hk1
      rw [HN.out]
      clear hI1 hb1
      go_wp2
      go_loopw [12] (fun i wr => ∃ k : Nat, k ≤ n ∧ i = .int .i64 k ∧ Hid (0 < k → timeT h p xs k ≤ t) ∧ Below w2.heap.size w2 wr) (fun i _ => n - (intOf i).toNat)
      case atStart => exact ⟨0, Nat.zero_le _, rfl, hide (fun h => by omega), Below.refl _ _⟩
      case round =>
        obtain ⟨k, hk, rfl, hle, hB⟩ := hrel
        have hBx := HBW.out.trans (hB.mono HBW.out.size)
        by_cases hlt : k < n
        · have hi' : (k : Int) < n := by omega
          have hk0 : (0 : Int) ≤ k := by omega
          have hkc : k + 1 ≤ k1 := by omega
          have hki : (k : Int) + 1 ≤ k1 := by omega
          have HC := hide (HTI.out Q1 (k + 1) k1 wr (by omega) hBx (by
            intro hne
            obtain ⟨b, o, e1, e2, e3⟩ := (HI1.out.go hB) (by intro e; rw [e] at HN; have := HN.out; simp at this; omega)
            refine ⟨b, o, e1, e2, fun j x hj => ?_⟩
            rw [List.getElem?_take] at hj
            split at hj
            · exact e3 j x hj
            · cases hj))
          generalize hT : timeT h p xs (k + 1) = T at HC
          have HT := hide hT
          clear hT
          cases hgt : decide (T ≤ t)
          · have HE := hide (HCUT.out k hk hle.out (fun _ => by rw [HT.out]; simpa using hgt))
            clear hle
            go_wp2_with (go_at_call 54; refine HC.out.mono ?_; rintro e w3 ⟨rfl, hb3⟩)
            go_ret2
            exact ⟨by rw [HE.out]; rfl, HB.out.trans ((hBx.trans (hb3.mono hBx.size)).mono HB.out.size)⟩
          · have HLE := hide (show 0 < k + 1 → timeT h p xs (k + 1) ≤ t from fun _ => by rw [HT.out]; simpa using hgt)
            clear hle
            go_wp2_with (go_at_call 54; refine HC.out.mono ?_; rintro e w3 ⟨rfl, hb3⟩)
            exact ⟨⟨k + 1, by omega, by go_num, HLE, hB.trans (hb3.mono hB.size)⟩, by simp [intOf]; omega⟩
        · obtain rfl : k = n := by omega
          have HE := hide (HCUT.out k (Nat.le_refl _) hle.out (fun h => by omega))
          clear hle
          go_wp2
          go_ret2
          exact ⟨by rw [HE.out]; rfl, HB.out.trans (hBx.mono HB.out.size)⟩

set_option maxHeartbeats 2000000 in
theorem cut1_any (x t : Int) (Q : Nat) (w : World) (hQ : w.cell? ⟨Q, 0, none⟩ = some (.int .i64 t)) :
    Calls Tryd.prog 59 #[.int .i64 x, .pointer (some ⟨Q, 0, none⟩)] w fun e w' => e = .returned (.bool (decide (x ≤ t))) ∧ Below w.heap.size w w' := by
  go_enter Tryd.func59, Tryd.ntmps59
  go_wp2
  go_ret
  exact ⟨rfl, Below.refl _ _⟩

set_option maxRecDepth 100000 in
set_option maxHeartbeats 8000000 in
theorem implCutUntil_any (S : List Int) (hS : S.length = 26) (hSx : ∀ x ∈ S, i8ok x) (h : Int) (hh : -32768 ≤ h ∧ h ≤ 32767) (p : Int) (hp : i8ok p) (s : ByteArray) (hs : s.size ≤ maxLen) (t : Int) (w : World) (hG : Glob w) :
    Calls Tryd.prog 24 #[.agg (wc S).toArray, .agg #[.int .i16 h, .int .i8 p], .string s, .int .i64 t] w fun e w' => e = .returned (.tuple #[.int .i64 (cuV S h p s.data.toList t), .int .i64 (cuC S h p s.data.toList t)]) ∧ Below w.heap.size w w' := by
  obtain ⟨r0', r1', b0', s0'⟩ := boxed2 S h p w 26 35
  have hsz' : ((w.alloc (.cells (wc S).toArray 26)).alloc (.cells #[.int .i16 h, .int .i8 p] 35)).heap.size = w.heap.size + 1 + 1 := by simp
  have r0 := World.rangeAt_alloc r0' (.cells #[.int .i64 t] 2)
  have r1 := World.rangeAt_alloc r1' (.cells #[.int .i64 t] 2)
  have b0 := b0'.alloc (o := (.cells #[.int .i64 t] 2)) (by rw [hsz']; omega)
  have s0 : w.heap.size + 3 ≤ (((w.alloc (.cells (wc S).toArray 26)).alloc (.cells #[.int .i16 h, .int .i8 p] 35)).alloc (.cells #[.int .i64 t] 2)).heap.size := by simp
  have ct : (((w.alloc (.cells (wc S).toArray 26)).alloc (.cells #[.int .i16 h, .int .i8 p] 35)).alloc (.cells #[.int .i64 t] 2)).cell? ⟨w.heap.size + 1 + 1, 0, none⟩ = some (.int .i64 t) := by
    have := rangeAt_cell (k := 0) (rangeAt_new' ((w.alloc (.cells (wc S).toArray 26)).alloc (.cells #[.int .i16 h, .int .i8 p] 35)) #[.int .i64 t] 2) rfl
    rwa [hsz'] at this
  have HI := hide (show (Tryd.prog.info? 26).map (·.size) = some (wc S).length by rw [wc_length, hS]; kernel_rfl)
  have HSF := hide (fun W hG => strokesFor_any S hS hSx h hh p hp s hs W hG)
  have HG := hide (hG.below b0)
  have HB := hide b0
  have c0 := rangeAt_cell (k := 0) r1 rfl
  have c1 := rangeAt_cell (k := 1) r1 rfl
  have HR1 := hide r1
  have HCT := hide ct
  unfold maxLen at hs
  clear r0' r1' b0' s0' hsz'
  cases hb : tfB S h p s.data.toList
  · obtain ⟨e1, e2⟩ := cu_no (t := t) hb
    obtain ⟨e4, _⟩ := tf_no hb
    have e3 : sxR S h p s.data.toList = [] := by unfold sxR; rw [hb]; rfl
    rw [e4, e3] at HSF
    rw [e1, e2]
    clear hS hSx hh hp hG e1 e2 e3 e4 r1 hb
    go_enter Tryd.func24, Tryd.ntmps24
    go_wp2_with (refine wpList_load_mid rfl 26 (.tmp 4) rfl _ 0 rfl (wc S) _ r0 Tryd.underlying26 rfl HI.out ?_)
    generalize (((w.alloc (.cells (wc S).toArray 26)).alloc (.cells #[.int .i16 h, .int .i8 p] 35)).alloc (.cells #[.int .i64 t] 2)) = W0 at *
    refine (HSF.out W0 HG.out).mono ?_
    rintro e w1 ⟨Q1, k1, rfl, hI1, hb1⟩
    clear c0 c1 ct
    go_wp2
    go_ret2
    exact ⟨rfl, HB.out.trans (hb1.mono HB.out.size)⟩
  · obtain ⟨e4, _⟩ := tf_ok hb
    obtain ⟨h1, ⟨h2, h3⟩, h4⟩ := tf_parts hb
    have e3 : sxR S h p s.data.toList = stkL S s.data.toList := by unfold sxR; rw [if_pos hb]
    rw [e4, e3] at HSF
    have HD := hide (fun A c W hI => doneAt_any h p h2 h3 A (stkL S s.data.toList) c W (stk_n h4) (stk_b30 hS h1 h4) hI)
    have HDL := hide (show (doneL h p (stkL S s.data.toList)).length ≤ 60 by rw [doneL_len]; exact stk_n h4)
    cases hi : inB t 0 100000
    · obtain ⟨e1, e2⟩ := cu_out hb hi
      rw [e1, e2]
      clear hS hSx hh hp hG e1 e2 e3 e4 r1 h1 h2 h3 h4 hb
      generalize stkL S s.data.toList = xs at *
      go_enter Tryd.func24, Tryd.ntmps24
      go_wp2_with (refine wpList_load_mid rfl 26 (.tmp 4) rfl _ 0 rfl (wc S) _ r0 Tryd.underlying26 rfl HI.out ?_)
      generalize (((w.alloc (.cells (wc S).toArray 26)).alloc (.cells #[.int .i16 h, .int .i8 p] 35)).alloc (.cells #[.int .i64 t] 2)) = W0 at *
      refine (HSF.out W0 HG.out).mono ?_
      rintro e w1 ⟨Q1, k1, rfl, hI1, hb1⟩
      have ct1 := (hb1.cell (p := ⟨w.heap.size + 1 + 1, 0, none⟩) (show w.heap.size + 1 + 1 < W0.heap.size by omega)).trans HCT.out
      clear c0 c1 ct
      go_wp2_with (go_at_call 57; refine (between_any _ _ _ _).mono ?_; rintro e w' ⟨rfl, rfl⟩; simp only [hi])
      go_ret2
      exact ⟨rfl, HB.out.trans (hb1.mono HB.out.size)⟩
    · obtain ⟨e1, e2⟩ := cu_ok hb hi
      rw [e1, e2]
      have HCN := hide (show ((doneL h p (stkL S s.data.toList)).filter (fun x => decide (x ≤ t))).length = cutN h p (stkL S s.data.toList) t from rfl)
      clear hS hSx hh hp hG e1 e2 e3 e4 r1 h1 h2 h3 h4 hb
      generalize stkL S s.data.toList = xs at *
      generalize cutN h p xs t = N at *
      generalize doneL h p xs = dl at *
      go_enter Tryd.func24, Tryd.ntmps24
      go_wp2_with (refine wpList_load_mid rfl 26 (.tmp 4) rfl _ 0 rfl (wc S) _ r0 Tryd.underlying26 rfl HI.out ?_)
      generalize (((w.alloc (.cells (wc S).toArray 26)).alloc (.cells #[.int .i16 h, .int .i8 p] 35)).alloc (.cells #[.int .i64 t] 2)) = W0 at *
      refine (HSF.out W0 HG.out).mono ?_
      rintro e w1 ⟨Q1, k1, rfl, hI1, hb1⟩
      have ct1 := (hb1.cell (p := ⟨w.heap.size + 1 + 1, 0, none⟩) (show w.heap.size + 1 + 1 < W0.heap.size by omega)).trans HCT.out
      have r1 := rangeAt_below HR1.out hb1 (by omega)
      have d0 := rangeAt_cell (k := 0) r1 rfl
      have d1 := rangeAt_cell (k := 1) r1 rfl
      clear c0 c1 ct
      go_wp2_with (go_at_call 57; refine (between_any _ _ _ _).mono ?_; rintro e w' ⟨rfl, rfl⟩; simp only [hi])
      refine (HD.out _ _ _ hI1.at_).mono ?_
      rintro e w2 ⟨Q2, k2, rfl, hk2, hI2, hb2⟩
      have hB2 := hb1.trans (hb2.mono hb1.size)
      have HBB := hide (HB.out.trans (hB2.mono HB.out.size))
      have hz2 := hB2.size
      have ct2 := (hB2.cell (p := ⟨w.heap.size + 1 + 1, 0, none⟩) (show w.heap.size + 1 + 1 < W0.heap.size by omega)).trans HCT.out
      have HTH := hide (those1_any 59 (enters_of Tryd.func59 (by kernel_rfl) rfl) (w.heap.size + 1 + 1) (fun x => decide (x ≤ t)) Q2 dl k2 w2 (by have := HDL.out; omega) hI2.at_ (fun x _ V hV =>
        cut1_any x t (w.heap.size + 1 + 1) V ((hV.cell (p := ⟨w.heap.size + 1 + 1, 0, none⟩) (show w.heap.size + 1 + 1 < w2.heap.size by omega)).trans ct2)))
      unfold IntsB at HTH
      rw [HCN.out] at HTH
      clear ct1 ct2 d0 d1 r1 hI1 hI2 hb1 hb2 hB2
      go_wp2_with fail
      refine HTH.out.mono ?_
      rintro e w3 ⟨Q3, k3, rfl, hk3, hI3, hb3⟩
      go_wp2
      go_ret2
      exact ⟨rfl, HBB.out.trans (hb3.mono HBB.out.size)⟩
end Go.Proofs.YtkbemhjeflmppaaDoor
