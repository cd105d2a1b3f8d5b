/- CheckBreaks, RightRoom and UnevenOf of the model. -/
import Derived.Test.YtikmmeohmkjbeaaLeftS
namespace Go.Proofs.Ytikmmeohmkjbeaa
open Go Go.RowKit

theorem cb_ok {F : Fc} {L : List UInt8} {x : Int} {bs : List Int} (h : askC F L (inB x 0 4000) = 0) : cbB F L x bs = rightB F (wordsL L) x bs ∧ cbC F L x bs = 0 := by
  cases hr : rightB F (wordsL L) x bs
  · have := (rb_bad h hr).1; unfold cbB cbC; rw [this]; exact ⟨rfl, rfl⟩
  · have := (rb_ok h hr).1; unfold cbB cbC; rw [this]; exact ⟨rfl, rfl⟩
theorem cb_no {F : Fc} {L : List UInt8} {x : Int} {bs : List Int} (h : askC F L (inB x 0 4000) ≠ 0) : cbB F L x bs = false ∧ cbC F L x bs = askC F L (inB x 0 4000) := by
  unfold cbB cbC
  rw [(rb_no bs h).1]
  refine ⟨by simpa using h, ?_⟩
  rcases ask_cases F L x with ⟨_, _, _, h4⟩ | ⟨h4, _⟩ | ⟨h4, _⟩ <;> rw [h4] <;> rfl

set_option maxRecDepth 100000 in
set_option maxHeartbeats 4000000 in
theorem specCheckBreaks_any (F : Fc) (hF : F.ok) (A : Option Addr) (c : Nat) (s : ByteArray) (hs : s.size ≤ maxLen) (x : Int) (hx : (Lit.int .i64 x).wf = true) (B : Option Addr) (bs : List Int) (cb : Nat) (hbn : bs.length ≤ maxLen) (w : World) (hA : PairsAt w w.heap.size A F.ps) (hB : IntsAt w w.heap.size B bs) :
    Calls Try.prog 18 #[.agg (fc F (.slice A F.ps.length c)).toArray, .string s, .int .i64 x, .slice B bs.length cb] w fun e w' => e = .returned (.tuple #[.bool (cbB F s.data.toList x bs), .int .i64 (cbC F s.data.toList x bs)]) ∧ Below w.heap.size w w' := by
  have hr := rangeAt_new w (fc F (.slice A F.ps.length c)) 33
  have hb : Below w.heap.size w (w.alloc (.cells (fc F (.slice A F.ps.length c)).toArray 33)) := (Below.refl _ _).alloc (Nat.le_refl _) _
  have hs0 : w.heap.size < (w.alloc (.cells (fc F (.slice A F.ps.length c)).toArray 33)).heap.size := by simp
  have BA := (hA.below hb).mono hb.size
  have BB := (hB.below hb).mono hb.size
  have HC := hide (l02Wide_any F hF _ A c s x _ hs hr BA)
  by_cases h0 : askC F s.data.toList (inB x 0 4000) = 0
  · obtain ⟨e1, e2⟩ := cb_ok (bs := bs) h0
    rcases ask_cases F s.data.toList x with ⟨hv, ht, hi, _⟩ | ⟨h1, _⟩ | ⟨h1, _⟩
    · obtain ⟨x0, x1⟩ := inB_true.1 hi
      have hwl := words_len ht
      have hs60 : s.size ≤ 1048576 := by have := (vtext_true.1 ht).1; simp at this; omega
      have HW := hide (fun w => l01WordsC_any s w hs60)
      have HBL := hide (show (bas (wordsL s.data.toList)).length = (wordsL s.data.toList).length from List.length_map _)
      have HL := hide (fun A2 c2 W hc2 (hB : Below (w.alloc (.cells (fc F (.slice A F.ps.length c)).toArray 33)).heap.size (w.alloc (.cells (fc F (.slice A F.ps.length c)).toArray 33)) W) hS => l02Left_any F hF w.heap.size A c (wordsL s.data.toList) A2 c2 x x0 x1 B bs cb hbn W hv (fun x hx => words_mem ht hx) hwl hc2 (rangeAt_below hr hB hs0) (Nat.lt_of_lt_of_le hs0 hB.size) ((BA.below hB).mono hB.size) hS ((BB.below hB).mono hB.size))
      rw [e1, e2]
      rw [h0] at HC
      generalize rightB F (wordsL s.data.toList) x bs = R at *
      clear hA BA hB BB hv ht hi h0 e1 e2 hs60 hwl hr hx x0 x1
      go_enter Try.func18, Try.ntmps18
      go_wp2_with (go_at_call 63; refine HC.out.mono ?_; rintro e w1 ⟨rfl, hb1⟩)
      refine (HW.out w1).mono ?_
      rintro e w2 ⟨A2, c2, rfl, hc2, hP2, hb2⟩
      rw [HBL.out]
      have hB2 := hb1.trans (hb2.mono hb1.size)
      have hB3 := hb.trans (hB2.mono hb.size)
      go_wp2_with (go_at_call 64; refine (HL.out A2 c2 _ hc2 hB2 hP2.at_).mono ?_; rintro e w3 ⟨Ag, cg, rfl, _, hI, hb3⟩)
      go_ret2
      exact ⟨rfl, hB3.trans (hb3.mono hB3.size)⟩
    · rw [h1] at h0; cases h0
    · rw [h1] at h0; cases h0
  · obtain ⟨e1, e2⟩ := cb_no (bs := bs) h0
    rw [e1, e2]
    generalize askC F s.data.toList (inB x 0 4000) = C at *
    have hd : ((C : Int) != 0) = true := by simpa using h0
    clear hA BA hB BB hr hx e1 e2
    go_enter Try.func18, Try.ntmps18
    go_wp2_with (go_at_call 63; refine HC.out.mono ?_; rintro e w1 ⟨rfl, hb1⟩)
    go_ret2
    exact ⟨rfl, hb.trans (hb1.mono hb.size)⟩

set_option maxRecDepth 100000 in
set_option maxHeartbeats 4000000 in
theorem specRightRoom_any (F : Fc) (hF : F.ok) (A : Option Addr) (c : Nat) (s : ByteArray) (hs : s.size ≤ maxLen) (x : Int) (hx : (Lit.int .i64 x).wf = true) (B : Option Addr) (bs : List Int) (cb : Nat) (hbn : bs.length ≤ maxLen) (w : World) (hA : PairsAt w w.heap.size A F.ps) (hB : IntsAt w w.heap.size B bs) :
    Calls Try.prog 24 #[.agg (fc F (.slice A F.ps.length c)).toArray, .string s, .int .i64 x, .slice B bs.length cb] w (IntsBack (rbX F s.data.toList x bs) (rbC F s.data.toList x bs) w) := by
  have hr := rangeAt_new w (fc F (.slice A F.ps.length c)) 33
  have hb : Below w.heap.size w (w.alloc (.cells (fc F (.slice A F.ps.length c)).toArray 33)) := (Below.refl _ _).alloc (Nat.le_refl _) _
  have hs0 : w.heap.size < (w.alloc (.cells (fc F (.slice A F.ps.length c)).toArray 33)).heap.size := by simp
  have BA := (hA.below hb).mono hb.size
  have BB := (hB.below hb).mono hb.size
  have HC := hide (l02Wide_any F hF _ A c s x _ hs hr BA)
  by_cases h0 : askC F s.data.toList (inB x 0 4000) = 0
  · rcases ask_cases F s.data.toList x with ⟨hv, ht, hi, _⟩ | ⟨h1, _⟩ | ⟨h1, _⟩
    · obtain ⟨x0, x1⟩ := inB_true.1 hi
      have hwl := words_len ht
      have hs60 : s.size ≤ 1048576 := by have := (vtext_true.1 ht).1; simp at this; omega
      have HW := hide (fun w => l01WordsC_any s w hs60)
      have HBL := hide (show (bas (wordsL s.data.toList)).length = (wordsL s.data.toList).length from List.length_map _)
      have HL := hide (fun A2 c2 W hc2 (hB : Below (w.alloc (.cells (fc F (.slice A F.ps.length c)).toArray 33)).heap.size (w.alloc (.cells (fc F (.slice A F.ps.length c)).toArray 33)) W) hS => l02Left_any F hF w.heap.size A c (wordsL s.data.toList) A2 c2 x x0 x1 B bs cb hbn W hv (fun x hx => words_mem ht hx) hwl hc2 (rangeAt_below hr hB hs0) (Nat.lt_of_lt_of_le hs0 hB.size) ((BA.below hB).mono hB.size) hS ((BB.below hB).mono hB.size))
      rw [h0] at HC
      cases hrb : rightB F (wordsL s.data.toList) x bs
      · obtain ⟨e1, e2⟩ := rb_bad h0 hrb
        rw [e1, e2]
        rw [hrb] at HL
        generalize lfX F (wordsL s.data.toList) x bs = R at *
        clear hA BA hB BB hv ht hi h0 e1 e2 hs60 hwl hr hx x0 x1 hrb
        go_enter Try.func24, Try.ntmps24
        go_wp2_with (go_at_call 63; refine HC.out.mono ?_; rintro e w1 ⟨rfl, hb1⟩)
        refine (HW.out w1).mono ?_
        rintro e w2 ⟨A2, c2, rfl, hc2, hP2, hb2⟩
        rw [HBL.out]
        have hB2 := hb1.trans (hb2.mono hb1.size)
        have hB3 := hb.trans (hB2.mono hb.size)
        go_wp2_with (go_at_call 64; refine (HL.out A2 c2 _ hc2 hB2 hP2.at_).mono ?_; rintro e w3 ⟨Ag, cg, rfl, _, hI, hb3⟩)
        go_ret2
        have hBf := hB3.trans (hb3.mono hB3.size)
        exact ⟨_, 0, rfl, IntsIn.empty _ _ _, by first | exact hBf | exact hBf.alloc hBf.size _⟩
      · obtain ⟨e1, e2⟩ := rb_ok h0 hrb
        rw [e1, e2]
        rw [hrb, lfX_ok hrb] at HL
        generalize roomsL F (wordsL s.data.toList) x bs = R at *
        clear hA BA hB BB hv ht hi h0 e1 e2 hs60 hwl hr hx x0 x1 hrb
        go_enter Try.func24, Try.ntmps24
        go_wp2_with (go_at_call 63; refine HC.out.mono ?_; rintro e w1 ⟨rfl, hb1⟩)
        refine (HW.out w1).mono ?_
        rintro e w2 ⟨A2, c2, rfl, hc2, hP2, hb2⟩
        rw [HBL.out]
        have hB2 := hb1.trans (hb2.mono hb1.size)
        have hB3 := hb.trans (hB2.mono hb.size)
        go_wp2_with (go_at_call 64; refine (HL.out A2 c2 _ hc2 hB2 hP2.at_).mono ?_; rintro e w3 ⟨Ag, cg, rfl, _, hI, hb3⟩)
        go_ret2
        exact ⟨Ag, cg, rfl, hI.wider hB3.size, hB3.trans (hb3.mono hB3.size)⟩
    · rw [h1] at h0; cases h0
    · rw [h1] at h0; cases h0
  · obtain ⟨e1, e2⟩ := rb_no bs h0
    rw [e1, e2]
    generalize askC F s.data.toList (inB x 0 4000) = C at *
    have hd : ((C : Int) != 0) = true := by simpa using h0
    clear hA BA hB BB hr hx e1 e2
    go_enter Try.func24, Try.ntmps24
    go_wp2_with (go_at_call 63; refine HC.out.mono ?_; rintro e w1 ⟨rfl, hb1⟩)
    go_ret2
    exact ⟨_, 0, rfl, IntsIn.empty _ _ _, by first | exact hb.trans (hb1.mono hb.size) | exact hb.trans ((hb1.alloc hb1.size _).mono hb.size)⟩

set_option maxRecDepth 100000 in
set_option maxHeartbeats 4000000 in
theorem specUnevenOf_any (F : Fc) (hF : F.ok) (A : Option Addr) (c : Nat) (s : ByteArray) (hs : s.size ≤ maxLen) (x : Int) (hx : (Lit.int .i64 x).wf = true) (B : Option Addr) (bs : List Int) (cb : Nat) (hbn : bs.length ≤ maxLen) (w : World) (hA : PairsAt w w.heap.size A F.ps) (hB : IntsAt w w.heap.size B bs) :
    Calls Try.prog 29 #[.agg (fc F (.slice A F.ps.length c)).toArray, .string s, .int .i64 x, .slice B bs.length cb] w fun e w' => e = .returned (.tuple #[.int .i64 (unV F s.data.toList x bs), .int .i64 (rbC F s.data.toList x bs)]) ∧ Below w.heap.size w w' := by
  have hr := rangeAt_new w (fc F (.slice A F.ps.length c)) 33
  have hb : Below w.heap.size w (w.alloc (.cells (fc F (.slice A F.ps.length c)).toArray 33)) := (Below.refl _ _).alloc (Nat.le_refl _) _
  have hs0 : w.heap.size < (w.alloc (.cells (fc F (.slice A F.ps.length c)).toArray 33)).heap.size := by simp
  have BA := (hA.below hb).mono hb.size
  have BB := (hB.below hb).mono hb.size
  have HC := hide (l02Wide_any F hF _ A c s x _ hs hr BA)
  by_cases h0 : askC F s.data.toList (inB x 0 4000) = 0
  · rcases ask_cases F s.data.toList x with ⟨hv, ht, hi, _⟩ | ⟨h1, _⟩ | ⟨h1, _⟩
    · obtain ⟨x0, x1⟩ := inB_true.1 hi
      have hwl := words_len ht
      have hs60 : s.size ≤ 1048576 := by have := (vtext_true.1 ht).1; simp at this; omega
      have HW := hide (fun w => l01WordsC_any s w hs60)
      have HBL := hide (show (bas (wordsL s.data.toList)).length = (wordsL s.data.toList).length from List.length_map _)
      have HL := hide (fun A2 c2 W hc2 (hB : Below (w.alloc (.cells (fc F (.slice A F.ps.length c)).toArray 33)).heap.size (w.alloc (.cells (fc F (.slice A F.ps.length c)).toArray 33)) W) hS => l02Left_any F hF w.heap.size A c (wordsL s.data.toList) A2 c2 x x0 x1 B bs cb hbn W hv (fun x hx => words_mem ht hx) hwl hc2 (rangeAt_below hr hB hs0) (Nat.lt_of_lt_of_le hs0 hB.size) ((BA.below hB).mono hB.size) hS ((BB.below hB).mono hB.size))
      rw [h0] at HC
      cases hrb : rightB F (wordsL s.data.toList) x bs
      · obtain ⟨e1, _⟩ := rb_bad h0 hrb
        have e2 : unV F s.data.toList x bs = 0 := by unfold unV; rw [e1]; rfl
        rw [e1, e2]
        rw [hrb] at HL
        generalize lfX F (wordsL s.data.toList) x bs = R at *
        clear hA BA hB BB hv ht hi h0 e1 e2 hs60 hwl hr hx x0 x1 hrb
        go_enter Try.func29, Try.ntmps29
        go_wp2_with (go_at_call 63; refine HC.out.mono ?_; rintro e w1 ⟨rfl, hb1⟩)
        refine (HW.out w1).mono ?_
        rintro e w2 ⟨A2, c2, rfl, hc2, hP2, hb2⟩
        rw [HBL.out]
        have hB2 := hb1.trans (hb2.mono hb1.size)
        have hB3 := hb.trans (hB2.mono hb.size)
        go_wp2_with (go_at_call 64; refine (HL.out A2 c2 _ hc2 hB2 hP2.at_).mono ?_; rintro e w3 ⟨Ag, cg, rfl, _, hI, hb3⟩)
        go_ret2
        exact ⟨rfl, hB3.trans (hb3.mono hB3.size)⟩
      · obtain ⟨e1, _⟩ := rb_ok h0 hrb
        have e2 : unV F s.data.toList x bs = sqSum ((roomsL F (wordsL s.data.toList) x bs).take bs.length) := by unfold unV; rw [if_pos e1]; rfl
        rw [e1, e2]
        rw [hrb, lfX_ok hrb] at HL
        have hRL : (roomsL F (wordsL s.data.toList) x bs).length = bs.length + 1 := roomsL_len _ _ _ _
        have hRB := room_bds4 hF hv ht x0 x1 hrb
        have hbl := told_len (rightB_true.1 hrb).1
        generalize roomsL F (wordsL s.data.toList) x bs = R at *
        have HGET := hide (fun k hk => ints_get (bs := R) (k := k) hk)
        have HT := hide (fun k hk => sqSum_take R (k := k) hk)
        have HSB := hide (fun k => sqSum_bd (R.take k) (fun y hy => hRB y (List.mem_of_mem_take hy)))
        have HXB := hide (fun k (hk : k < R.length) => hRB (R.getD k 0) (by rw [List.getD_eq_getElem?_getD, List.getElem?_eq_getElem hk]; exact List.getElem_mem _))
        have HLT := hide (fun k => (List.length_take_le k R : (R.take k).length ≤ k))
        obtain ⟨m, hm⟩ : ∃ m, bs.length = m := ⟨_, rfl⟩
        have hne : R ≠ [] := by intro e; rw [e] at hRL; simp at hRL
        have HNE := hide hne
        rw [hRL] at HGET HT HXB
        rw [hm] at hRL hbl HGET HT HXB ⊢
        have HRL := hide hRL
        rw [hm] at HL
        clear hA BA hB BB hv ht hi h0 e1 e2 hs60 hr hx x0 x1 hrb hne hRB hRL hm
        have j1 : ((m + 1 : Nat) : Int) - 1 = m := by omega
        have e9 := IntWalk.i64_in (m : Int) ⟨by omega, by omega⟩
        go_enter Try.func29, Try.ntmps29
        go_wp2_with (go_at_call 63; refine HC.out.mono ?_; rintro e w1 ⟨rfl, hb1⟩)
        refine (HW.out w1).mono ?_
        rintro e w2 ⟨A2, c2, rfl, hc2, hP2, hb2⟩
        rw [HBL.out]
        have hB2 := hb1.trans (hb2.mono hb1.size)
        have hB3 := hb.trans (hB2.mono hb.size)
        go_wp2_with fail
        refine (HL.out A2 c2 _ hc2 hB2 hP2.at_).mono ?_
        rintro e w3 ⟨Ag, cg, rfl, hcg, hI, hb3⟩
        rw [HRL.out] at hcg ⊢
        have hB4 := hB3.trans (hb3.mono hB3.size)
        obtain ⟨bb, oo, rfl, hbb, hcc⟩ := hI.at_ HNE.out
        have HCC := hide hcc
        clear hI hcc hP2 hb1 hb2 hb3
        go_wp2
        go_loopw [13, 14] (fun v i wr => ∃ k : Nat, k ≤ m ∧ i = .int .i64 k ∧ v = .int .i64 (sqSum (R.take k)) ∧ Below w3.heap.size w3 wr)
          (fun _ i _ => m - (intOf i).toNat)
        case atStart => exact ⟨0, by omega, rfl, rfl, Below.refl _ _⟩
        case round =>
          obtain ⟨k, hk, rfl, rfl, hW⟩ := hrel
          by_cases hlt : k < m
          · have hi : (k : Int) < m := by omega
            have hi2 : (k : Int) < ((m + 1 : Nat) : Int) := by omega
            have hi0 : (0 : Int) ≤ k := by omega
            have ck := (hW.cell (p := ⟨bb, oo + k, none⟩) hbb).trans (HCC.out k _ (HGET.out k (by omega)))
            have HS := hide (HT.out k (by omega))
            obtain ⟨y0, y1⟩ := HXB.out k (by omega)
            obtain ⟨s0, s1⟩ := HSB.out k
            have hl := HLT.out k
            have hsq := sq_bd y0 y1
            generalize R.getD k 0 = y at *
            generalize sqSum (R.take k) = v at *
            have e2 := IntWalk.i64_in (y * y) ⟨by omega, by omega⟩
            have e3 := IntWalk.i64_in (v + y * y) ⟨by omega, by omega⟩
            go_wp2
            go_quiet ((fail))
            go_wp2
            exact ⟨⟨k + 1, by omega, by go_num, by rw [HS.out], below_drewN hW _⟩, by simp [intOf]; omega⟩
          · obtain rfl : k = m := by omega
            go_wp2
            go_ret2
            exact ⟨rfl, hB4.trans (hW.mono hB4.size)⟩
    · rw [h1] at h0; cases h0
    · rw [h1] at h0; cases h0
  · obtain ⟨e1, _⟩ := rb_no bs h0
    have e2 : unV F s.data.toList x bs = 0 := by unfold unV; rw [if_neg (by rw [e1]; exact h0)]
    rw [e1, e2]
    generalize askC F s.data.toList (inB x 0 4000) = C at *
    have hd : ((C : Int) != 0) = true := by simpa using h0
    clear hA BA hB BB hr hx e1 e2
    go_enter Try.func29, Try.ntmps29
    go_wp2_with (go_at_call 63; refine HC.out.mono ?_; rintro e w1 ⟨rfl, hb1⟩)
    go_ret2
    exact ⟨rfl, hb.trans (hb1.mono hb.size)⟩
end Go.Proofs.Ytikmmeohmkjbeaa
