/- KeptAt, of both. -/
import Derived.Test.YtjgcadohjccfaaaDoorKpM
namespace Go.Proofs.YtjgcadohjccfaaaDoor
open Go Go.RowKit

noncomputable def ktB (F : Fc) (L M : List UInt8) : Bool := vface F && (vtext L && vtext M)
noncomputable def ktC (F : Fc) (L M : List UInt8) (sh : Int) : Int := if ktB F L M = true then (if inB sh (-400) 400 = true then 0 else 2) else 1
noncomputable def ktR (F : Fc) (L M : List UInt8) (sh : Int) : List Int := if ktB F L M = true ∧ inB sh (-400) 400 = true then kpL (psL F L) (psL F M) sh else []
theorem kt_no {F : Fc} {L M : List UInt8} {sh : Int} (h : ktB F L M = false) : ktC F L M sh = 1 ∧ ktR F L M sh = [] := by unfold ktC ktR; rw [h]; simp
theorem kt_far {F : Fc} {L M : List UInt8} {sh : Int} (h : ktB F L M = true) (h2 : inB sh (-400) 400 = false) : ktC F L M sh = 2 ∧ ktR F L M sh = [] := by unfold ktC ktR; rw [h, h2]; simp
theorem kt_ok {F : Fc} {L M : List UInt8} {sh : Int} (h : ktB F L M = true) (h2 : inB sh (-400) 400 = true) : ktC F L M sh = 0 ∧ ktR F L M sh = kpL (psL F L) (psL F M) sh := by unfold ktC ktR; rw [h, h2]; simp
theorem kt_parts {F : Fc} {L M : List UInt8} (h : ktB F L M = true) : vface F = true ∧ vtext L = true ∧ vtext M = true := by
  unfold ktB at h; simp only [Bool.and_eq_true] at h; exact ⟨h.1, h.2.1, h.2.2⟩
theorem ktR_len (F : Fc) (L M : List UInt8) (sh : Int) : (ktR F L M sh).length ≤ 1048577 := by
  unfold ktR
  split
  · rename_i h
    obtain ⟨_, _, h3⟩ := kt_parts h.1
    unfold kpL
    refine Nat.le_trans (List.length_filter_le _ _) ?_
    rw [idxL_len]
    unfold psL
    rw [psT_len]
    have := lettL_len M
    have := (vtext_true.1 h3).1
    omega
  · simp

set_option maxRecDepth 100000 in
set_option maxHeartbeats 4000000 in
theorem l06Lines_any (F : Fc) (hF : F.ok) (b : Nat) (A : Option Addr) (c : Nat) (s t : ByteArray) (hs : s.size ≤ maxLen) (ht : t.size ≤ maxLen) (fine : Bool) (w : World)
    (hr : w.rangeAt b 0 (fc F (.slice A F.ps.length c))) (hA : PairsAt w w.heap.size A F.ps) :
    Calls Tryd.prog 58 #[.pointer (some ⟨b, 0, none⟩), .string s, .string t, .bool fine] w fun e w' => e = .returned (.int .i64 (if ktB F s.data.toList t.data.toList = true then (if fine = true then 0 else 2) else 1)) ∧ Below w.heap.size w w' := by
  have HF := hide (l01Face_any F hF b A c w hr hA)
  have HS := hide (fun W => l01Text_any s W hs)
  have HT := hide (fun W => l01Text_any t W ht)
  have HG := hide (show ktB F s.data.toList t.data.toList = (vface F && (vtext s.data.toList && vtext t.data.toList)) from rfl)
  unfold maxLen at hs ht
  obtain ⟨C, hC⟩ : ∃ C : Int, (if ktB F s.data.toList t.data.toList = true then (if fine = true then 0 else 2) else 1) = C := ⟨_, rfl⟩
  have HC := hide hC
  rw [hC]
  clear hr hA hC
  cases h1 : vface F
  · rw [h1] at HF
    have HE : Hid (C = 1) := hide (by rw [← HC.out, HG.out, h1]; rfl)
    go_enter Tryd.func58, Tryd.ntmps58
    go_wp2_with (go_at_call 50; refine HF.out.mono ?_; rintro e w1 ⟨rfl, hb1⟩)
    go_ret
    exact ⟨ret_int HE.out.symm, hb1⟩
  rw [h1] at HF
  cases h2 : vtext s.data.toList
  · rw [h2] at HS
    have HE : Hid (C = 1) := hide (by rw [← HC.out, HG.out, h1, h2]; rfl)
    go_enter Tryd.func58, Tryd.ntmps58
    go_wp2_with fail
    refine HF.out.mono ?_
    rintro e w1 ⟨rfl, hb1⟩
    go_wp2_with (go_at_call 52; refine (HS.out _).mono ?_; rintro e w2 ⟨rfl, rfl⟩)
    go_ret
    exact ⟨ret_int HE.out.symm, hb1⟩
  rw [h2] at HS
  cases h3 : vtext t.data.toList
  · rw [h3] at HT
    have HE : Hid (C = 1) := hide (by rw [← HC.out, HG.out, h1, h2, h3]; rfl)
    go_enter Tryd.func58, Tryd.ntmps58
    go_wp2_with fail
    refine HF.out.mono ?_
    rintro e w1 ⟨rfl, hb1⟩
    go_wp2_with fail
    refine (HS.out _).mono ?_
    rintro e w2 ⟨rfl, rfl⟩
    go_wp2_with fail
    refine (HT.out _).mono ?_
    rintro e w2 ⟨rfl, rfl⟩
    go_wp2
    go_ret
    exact ⟨ret_int HE.out.symm, hb1⟩
  rw [h3] at HT
  cases fine
  · have HE : Hid (C = 2) := hide (by rw [← HC.out, HG.out, h1, h2, h3]; rfl)
    go_enter Tryd.func58, Tryd.ntmps58
    go_wp2_with fail
    refine HF.out.mono ?_
    rintro e w1 ⟨rfl, hb1⟩
    go_wp2_with fail
    refine (HS.out _).mono ?_
    rintro e w2 ⟨rfl, rfl⟩
    go_wp2_with fail
    refine (HT.out _).mono ?_
    rintro e w2 ⟨rfl, rfl⟩
    go_wp2
    go_ret
    exact ⟨ret_int HE.out.symm, hb1⟩
  · have HE : Hid (C = 0) := hide (by rw [← HC.out, HG.out, h1, h2, h3]; rfl)
    go_enter Tryd.func58, Tryd.ntmps58
    go_wp2_with fail
    refine HF.out.mono ?_
    rintro e w1 ⟨rfl, hb1⟩
    go_wp2_with fail
    refine (HS.out _).mono ?_
    rintro e w2 ⟨rfl, rfl⟩
    go_wp2_with fail
    refine (HT.out _).mono ?_
    rintro e w2 ⟨rfl, rfl⟩
    go_wp2
    go_ret
    exact ⟨ret_int HE.out.symm, hb1⟩

set_option maxRecDepth 100000 in
set_option maxHeartbeats 4000000 in
theorem specKeptAt_any (F : Fc) (hF : F.ok) (A : Option Addr) (c : Nat) (s : ByteArray) (hs : s.size ≤ maxLen) (t : ByteArray) (ht : t.size ≤ maxLen) (sh : Int) (hsh : (Lit.int .i64 sh).wf = true) (w : World) (hA : PairsAt w w.heap.size A F.ps) :
    Calls Tryd.prog 23 #[.agg (fc F (.slice A F.ps.length c)).toArray, .string s, .string t, .int .i64 sh] w (IntsBack (ktR F s.data.toList t.data.toList sh) (ktC F s.data.toList t.data.toList sh) w) := by
  have b0 : Below w.heap.size w (w.alloc (.cells (fc F (.slice A F.ps.length c)).toArray 36)) := (Below.refl _ _).alloc (Nat.le_refl _) _
  have r0 := rangeAt_new w (fc F (.slice A F.ps.length c)) 36
  have s0 : w.heap.size < (w.alloc (.cells (fc F (.slice A F.ps.length c)).toArray 36)).heap.size := by simp
  have hA0 := (hA.below b0).mono b0.size
  have HLI := hide (fun fine => l06Lines_any F hF w.heap.size A c s t hs ht fine _ r0 hA0)
  have HIN := hide (fun W => l00In_any sh (-400) 400 W)
  cases hb : ktB F s.data.toList t.data.toList
  · obtain ⟨e1, e2⟩ := kt_no (sh := sh) hb
    rw [e1, e2]
    rw [hb] at HLI
    clear hA hA0 r0 hb e1 e2
    generalize inB sh (-400) 400 = I at *
    go_enter Tryd.func23, Tryd.ntmps23
    go_wp2_with (go_at_call 59; refine (HIN.out _).mono ?_; rintro e w1 ⟨rfl, rfl⟩)
    refine (HLI.out _).mono ?_
    rintro e w1 ⟨rfl, hb1⟩
    have hB1 := b0.trans (hb1.mono b0.size)
    go_wp2
    go_ret2
    exact ⟨_, 0, rfl, IntsIn.empty _ _ _, hB1.alloc hB1.size _⟩
  rw [hb] at HLI
  cases hi : inB sh (-400) 400
  · obtain ⟨e1, e2⟩ := kt_far hb hi
    rw [e1, e2]
    rw [hi] at HIN
    have HL2 := hide (HLI.out false)
    clear hA hA0 r0 hb e1 e2 HLI
    go_enter Tryd.func23, Tryd.ntmps23
    go_wp2_with (go_at_call 59; refine (HIN.out _).mono ?_; rintro e w1 ⟨rfl, rfl⟩)
    refine HL2.out.mono ?_
    rintro e w1 ⟨rfl, hb1⟩
    have hB1 := b0.trans (hb1.mono b0.size)
    go_wp2
    go_ret2
    exact ⟨_, 0, rfl, IntsIn.empty _ _ _, hB1.alloc hB1.size _⟩
  obtain ⟨e1, e2⟩ := kt_ok hb hi
  obtain ⟨hv, ht1, ht2⟩ := kt_parts hb
  rw [e1, e2]
  rw [hi] at HIN
  have HL2 := hide (HLI.out true)
  have hr := inB_true.1 hi
  have HK := hide (fun W (hW : Below (w.alloc (.cells (fc F (.slice A F.ps.length c)).toArray 36)).heap.size (w.alloc (.cells (fc F (.slice A F.ps.length c)).toArray 36)) W) => l06Kept_any F hF w.heap.size A c s t sh W hv ht1 ht2 ⟨hr.1, hr.2⟩ (rangeAt_below r0 hW s0) (Nat.lt_of_lt_of_le s0 hW.size) (hA0.go hW (Nat.le_refl _)))
  clear hA hA0 r0 hb e1 e2 HLI hv ht1 ht2 hr hi
  generalize kpL (psL F s.data.toList) (psL F t.data.toList) sh = R at *
  unfold IntsB at HK
  go_enter Tryd.func23, Tryd.ntmps23
  go_wp2_with (go_at_call 59; refine (HIN.out _).mono ?_; rintro e w1 ⟨rfl, rfl⟩)
  refine HL2.out.mono ?_
  rintro e w1 ⟨rfl, hb1⟩
  have hB1 := b0.trans (hb1.mono b0.size)
  go_wp2_with fail
  refine (HK.out _ hb1).mono ?_
  rintro e w2 ⟨A2, c2, rfl, hc2, hI2, hb2⟩
  go_wp2
  go_ret2
  exact ⟨A2, c2, rfl, hI2.wider hB1.size, hB1.trans (hb2.mono hB1.size)⟩

set_option maxRecDepth 100000 in
set_option maxHeartbeats 8000000 in
theorem implKeptAt_any (F : Fc) (hF : F.ok) (A : Option Addr) (c : Nat) (s : ByteArray) (hs : s.size ≤ maxLen) (t : ByteArray) (ht : t.size ≤ maxLen) (sh : Int) (hsh : (Lit.int .i64 sh).wf = true) (w : World) (hG : Glob w) (hA : PairsAt w w.heap.size A F.ps) :
    Calls Tryd.prog 24 #[.agg (fc F (.slice A F.ps.length c)).toArray, .string s, .string t, .int .i64 sh] w (IntsBack (ktR F s.data.toList t.data.toList sh) (ktC F s.data.toList t.data.toList sh) w) := by
  obtain ⟨W0, hW0⟩ : ∃ W0, W0 = (w.alloc (.cells (fc F (.slice A F.ps.length c)).toArray 36)) := ⟨_, rfl⟩
  have b0 : Below w.heap.size w W0 := by rw [hW0]; exact (Below.refl _ _).alloc (Nat.le_refl _) _
  have r0 : W0.rangeAt w.heap.size 0 (fc F (.slice A F.ps.length c)) := by rw [hW0]; exact rangeAt_new w (fc F (.slice A F.ps.length c)) 36
  have s0 : w.heap.size < W0.heap.size := by rw [hW0]; simp
  have HI29 := hide (show (Tryd.prog.info? 36).map (·.size) = some (fc F (.slice A F.ps.length c)).length from by rw [fc_length hF.len]; kernel_rfl)
  have hA0 := (hA.below b0).mono b0.size
  have hG0 := hG.below b0
  have HF := hide (implValidFace_any F hF A c W0 hA0)
  have HS := hide (fun W => implValidText_any s W hs)
  have HT := hide (fun W => implValidText_any t W ht)
  have HB := hide (fun W => between_any sh (-400) 400 W)
  have HW0 := hide hW0
  have HG := hide (show ktB F s.data.toList t.data.toList = (vface F && (vtext s.data.toList && vtext t.data.toList)) from rfl)
  have HNO := hide (@kt_no F s.data.toList t.data.toList sh)
  have HFR := hide (@kt_far F s.data.toList t.data.toList sh)
  have HOK := hide (@kt_ok F s.data.toList t.data.toList sh)
  have HPL := hide (fun (hv : vface F = true) (x : ByteArray) (hx : vtext x.data.toList = true) W (hW : Below W0.heap.size W0 W) => placedIn_any F hF A c x W hv hx (hG0.below hW) (hA0.go hW (Nat.le_refl _)))
  have HKA := hide (fun (hv : vface F = true) (h1 : vtext s.data.toList = true) (h2 : vtext t.data.toList = true) (h3 : -400 ≤ sh ∧ sh ≤ 400) A1 c1 A2 c2 W hA hY =>
    keptAt_any A1 (psL F s.data.toList) c1 A2 (psL F t.data.toList) c2 sh W (by unfold psL; rw [psT_len]; exact Nat.le_trans (lettL_len _) (vtext_true.1 h1).1) (by unfold psL; rw [psT_len]; exact Nat.le_trans (lettL_len _) (vtext_true.1 h2).1)
      (fun p hp => by
        unfold psL at hp
        obtain ⟨i, hi⟩ := List.getElem?_of_mem hp
        have hil := (List.getElem?_eq_some_iff.1 hi).1
        rw [psT_len] at hil
        rw [psT_get hil] at hi
        injection hi with hi
        rw [← hi]
        exact getD_bd (plL_bd hF hv h2) (by rw [plL_lett]; exact hil)) h3 hA hY)
  have hsm := hs
  have htm := ht
  unfold maxLen at hsm htm
  clear hW0 hA hG hA0 hG0 hs ht
  generalize fc F (.slice A F.ps.length c) = fcs at *
  cases h1 : vface F
  · rw [h1] at HF
    obtain ⟨e1, e2⟩ := HNO.out (by rw [HG.out, h1]; rfl)
    rw [e1, e2]
    clear e1 e2 HPL HKA
    go_enter Tryd.func24, Tryd.ntmps24
    repeat (first | (rw [← HW0.out]) | (refine wpList_load_mid rfl 36 (.tmp 4) rfl _ 0 rfl fcs _ r0 Tryd.underlying36 rfl HI29.out ?_) | go_step)
    refine HF.out.mono ?_
    rintro e w1 ⟨rfl, hb1⟩
    go_wp2
    go_ret2
    exact ⟨_, 0, rfl, IntsIn.empty _ _ _, b0.trans (hb1.mono b0.size)⟩
  rw [h1] at HF
  cases h2 : vtext s.data.toList
  · rw [h2] at HS
    obtain ⟨e1, e2⟩ := HNO.out (by rw [HG.out, h1, h2]; rfl)
    rw [e1, e2]
    clear e1 e2 HPL HKA
    go_enter Tryd.func24, Tryd.ntmps24
    repeat (first | (rw [← HW0.out]) | (refine wpList_load_mid rfl 36 (.tmp 4) rfl _ 0 rfl fcs _ r0 Tryd.underlying36 rfl HI29.out ?_) | go_step)
    refine HF.out.mono ?_
    rintro e w1 ⟨rfl, hb1⟩
    have hB1 := b0.trans (hb1.mono b0.size)
    go_wp2_with fail
    refine (HS.out _).mono ?_
    rintro e w2 ⟨rfl, hb2⟩
    go_wp2
    go_ret2
    exact ⟨_, 0, rfl, IntsIn.empty _ _ _, hB1.trans (hb2.mono hB1.size)⟩
  rw [h2] at HS
  cases h3 : vtext t.data.toList
  · rw [h3] at HT
    obtain ⟨e1, e2⟩ := HNO.out (by rw [HG.out, h1, h2, h3]; rfl)
    rw [e1, e2]
    clear e1 e2 HPL HKA
    go_enter Tryd.func24, Tryd.ntmps24
    repeat (first | (rw [← HW0.out]) | (refine wpList_load_mid rfl 36 (.tmp 4) rfl _ 0 rfl fcs _ r0 Tryd.underlying36 rfl HI29.out ?_) | go_step)
    refine HF.out.mono ?_
    rintro e w1 ⟨rfl, hb1⟩
    have hB1 := b0.trans (hb1.mono b0.size)
    go_wp2_with fail
    refine (HS.out _).mono ?_
    rintro e w2 ⟨rfl, hb2⟩
    have hB2 := hB1.trans (hb2.mono hB1.size)
    go_wp2_with fail
    refine (HT.out _).mono ?_
    rintro e w3 ⟨rfl, hb3⟩
    go_wp2
    go_ret2
    exact ⟨_, 0, rfl, IntsIn.empty _ _ _, hB2.trans (hb3.mono hB2.size)⟩
  rw [h3] at HT
  have hkb : ktB F s.data.toList t.data.toList = true := by rw [HG.out, h1, h2, h3]; rfl
  cases h4 : inB sh (-400) 400
  · rw [h4] at HB
    obtain ⟨e1, e2⟩ := HFR.out hkb h4
    rw [e1, e2]
    clear e1 e2 HPL HKA
    go_enter Tryd.func24, Tryd.ntmps24
    repeat (first | (rw [← HW0.out]) | (refine wpList_load_mid rfl 36 (.tmp 4) rfl _ 0 rfl fcs _ r0 Tryd.underlying36 rfl HI29.out ?_) | go_step)
    refine HF.out.mono ?_
    rintro e w1 ⟨rfl, hb1⟩
    have hB1 := b0.trans (hb1.mono b0.size)
    go_wp2_with fail
    refine (HS.out _).mono ?_
    rintro e w2 ⟨rfl, hb2⟩
    have hB2 := hB1.trans (hb2.mono hB1.size)
    go_wp2_with fail
    refine (HT.out _).mono ?_
    rintro e w3 ⟨rfl, hb3⟩
    go_wp2_with (go_at_call 61; refine (HB.out _).mono ?_; rintro e w4 ⟨rfl, rfl⟩)
    go_ret2
    exact ⟨_, 0, rfl, IntsIn.empty _ _ _, hB2.trans (hb3.mono hB2.size)⟩
  rw [h4] at HB
  obtain ⟨e1, e2⟩ := HOK.out hkb h4
  rw [e1, e2]
  have hr := inB_true.1 h4
  have HP := hide (HPL.out h1)
  have HP1 := hide (HP.out s h2)
  have HP2 := hide (HP.out t h3)
  have HKK := hide (HKA.out h1 h2 h3 ⟨hr.1, hr.2⟩)
  unfold PlB at HP1 HP2
  unfold IntsB at HKK
  clear e1 e2 HPL HKA HNO HFR HOK HG hkb h1 h2 h3 h4 hr HP
  generalize kpL (psL F s.data.toList) (psL F t.data.toList) sh = R at *
  generalize psL F s.data.toList = xs at *
  generalize psL F t.data.toList = ys at *
  go_enter Tryd.func24, Tryd.ntmps24
  repeat (first | (rw [← HW0.out]) | (refine wpList_load_mid rfl 36 (.tmp 4) rfl _ 0 rfl fcs _ r0 Tryd.underlying36 rfl HI29.out ?_) | go_step)
  refine HF.out.mono ?_
  rintro e w1 ⟨rfl, hb1⟩
  go_wp2_with fail
  refine (HS.out _).mono ?_
  rintro e w2 ⟨rfl, hb2⟩
  have hB2 := hb1.trans (hb2.mono hb1.size)
  go_wp2_with fail
  refine (HT.out _).mono ?_
  rintro e w3 ⟨rfl, hb3⟩
  have hB3 := hB2.trans (hb3.mono hB2.size)
  go_wp2_with (go_at_call 61; refine (HB.out _).mono ?_; rintro e w4 ⟨rfl, rfl⟩)
  have r3 := rangeAt_below r0 hB3 s0
  have hz3 := hB3.size
  have hfin := b0.trans (hB3.mono b0.size)
  have HR3 := hide (fun w' (hb : Below w3.heap.size w3 w') => rangeAt_below r3 hb (by omega))
  clear hb1 hb2 hB2 hb3 r0 r3
  refine wp_region_script [(0, true), (1, true), (3, true), (4, true), (6, true), (2, false), (5, false), (7, false), (8, false), (9, false)]
    (fun w' => Below w3.heap.size w3 w') (by kernel_rfl) (by kernel_rfl) (of_decide_eq_true (by kernel_rfl)) (by kernel_rfl) (fun _ _ d _ _ h => by cases d <;> exact h) ((Below.refl _ _).drew) ?_
  refine sc_take (.agg fcs.toArray) rfl (yieldsIf_load_mid (by rfl) _ (.tmp 4) rfl _ 0 rfl _ _ (fun w h => HR3.out w h) Tryd.underlying36 rfl HI29.out) ?_
  refine sc_take (.string s) rfl (.inl ⟨rfl, fun w _ => by kernel_rfl⟩) ?_
  refine sc_take (.agg fcs.toArray) rfl (yieldsIf_load_mid (by rfl) _ (.tmp 4) rfl _ 0 rfl _ _ (fun w h => HR3.out w h) Tryd.underlying36 rfl HI29.out) ?_
  refine sc_take (.string t) rfl (.inl ⟨rfl, fun w _ => by kernel_rfl⟩) ?_
  refine sc_take (.int .i64 sh) rfl (.inl ⟨rfl, fun w _ => by kernel_rfl⟩) ?_
  simp only [Act.put, List.setIfInBounds_toArray, List.set_cons_zero, List.set_cons_succ]
  refine sc_step rfl ?_
  go_wp2_with fail
  refine (HP1.out _ (hB3.trans (((Below.refl _ _).drew).mono hz3))).mono ?_
  rintro e w5 ⟨A1, c1, rfl, hc1, hI1, hb5⟩
  replace hb5 := (Below.refl _ _).drew.trans hb5
  change Below w3.heap.size w3 w5 at hb5
  go_wp2_with fail
  refine ⟨hb5, sc_step rfl ?_⟩
  go_wp2_with fail
  refine (HP2.out _ (hB3.trans (hb5.mono hz3))).mono ?_
  rintro e w6 ⟨A2, c2, rfl, hc2, hI2, hb6⟩
  have hB6 := hb5.trans (hb6.mono hb5.size)
  go_wp2_with fail
  refine ⟨hB6, sc_step rfl ?_⟩
  go_wp2_with fail
  refine (HKK.out A1 c1 A2 c2 _ (hI1.go hb6).at_ hI2.at_).mono ?_
  rintro e w7 ⟨A3, c3, rfl, hc3, hI3, hb7⟩
  have hB7 := hB6.trans (hb7.mono hB6.size)
  go_wp2_with fail
  refine ⟨hB7, sc_step rfl ?_⟩
  go_wp2_with fail
  refine ⟨hB7, sc_step rfl ?_⟩
  go_wp2_with fail
  refine ⟨hB7, sc_nil ?_⟩
  go_wp2
  go_ret2
  exact ⟨A3, c3, rfl, hI3.wider (Nat.le_trans hfin.size hB6.size), hfin.trans (hB7.mono hfin.size)⟩
end Go.Proofs.YtjgcadohjccfaaaDoor
