/- A line in which something is missing: the program's tests of it. -/
import Derived.Test.YtajlbfbpkafjfaaFlP
import Derived.Test.YtajlbfbpkafjfaaIvIB
import Derived.Test.YtajlbfbpkafjfaaIvTh
import Derived.Test.YtajlbfbpkafjfaaCentreW
namespace Go.Proofs.Ytajlbfbpkafjfaa
open Go.RowKit

/-- internal/bytealg.MaxLen holds some number. -/
def Glob (w : World) : Prop := ∃ m, w.cell? ⟨0, 0, none⟩ = some (.int .i64 m)
theorem Glob.lt {w : World} (h : Glob w) : 0 < w.heap.size := by obtain ⟨m, hm⟩ := h; exact World.block_lt_of_cell? w _ hm
theorem Glob.below {w w' : World} (h : Glob w) (hb : Below w.heap.size w w') : Glob w' := by
  have hl := h.lt
  obtain ⟨m, hm⟩ := h
  exact ⟨m, (hb.cell (p := ⟨0, 0, none⟩) hl).trans hm⟩

theorem line_kind (b : Int) : (kindN b != 2) = lineC b := by
  unfold kindN lineC
  cases h : cap b
  · by_cases e : b = 32
    · subst e; rfl
    · have : (b == 32) = false := by simpa using e
      rw [this]; simp [e]
  · rfl
set_option maxHeartbeats 1000000 in
theorem isOfLine_any (b : Int) (w : World) :
    Calls Try.prog 160 #[.int .u8 b] w fun e w' => e = .returned (.bool (lineC b)) ∧ Below w.heap.size w w' := by
  have HK := hide (kindOf_any b w)
  have HL := hide (line_kind b)
  generalize kindN b = k at *
  generalize lineC b = R at *
  go_enter Try.func160, Try.ntmps160
  go_wp2_with (go_at_call 146; refine HK.out.mono ?_; rintro e w1 ⟨rfl, hb1⟩)
  go_ret
  exact ⟨ret_bool HL.out, hb1⟩

set_option maxRecDepth 100000 in
set_option maxHeartbeats 2000000 in
theorem isSideOfGap_any (s : ByteArray) (w : World) (hs : s.size ≤ 1048576) (hG : Glob w) :
    Calls Try.prog 137 #[.string s] w fun e w' => e = .returned (.bool (partB s.data.toList)) ∧ Below w.heap.size w w' := by
  have HO := hide (hasOnly_any 160 (enters_of Try.func160 (by kernel_rfl) rfl) lineC s w (by unfold maxLen; omega) (fun j _ W _ => isOfLine_any _ W))
  have HC := hide (fun m W (h : W.cell? ⟨0, 0, none⟩ = some (.int .i64 m)) => (Try.strings_Contains s ⟨#[32, 32]⟩ m W (by omega) h).mono fun _ _ ⟨a, b⟩ => (⟨a, b.symm⟩ : _ ∧ _))
  have HP : Hid (partB s.data.toList = (allOn lineC s.data.toList && !(Lib.contains s.data.toList [32, 32]))) := hide rfl
  have HGB := hide (fun W => hG.below (w' := W))
  generalize partB s.data.toList = R at *
  have h2 : (⟨#[32, 32]⟩ : ByteArray).data.toList = [32, 32] := rfl
  rw [h2] at HC
  clear h2
  cases ha : allOn lineC s.data.toList
  · rw [ha] at HO
    go_enter Try.func137, Try.ntmps137
    go_wp2_with (go_at_call 104; refine HO.out.mono ?_; rintro e w1 ⟨rfl, hb1⟩)
    go_ret
    exact ⟨ret_bool (by rw [HP.out, ha]; rfl), hb1⟩
  · rw [ha] at HO
    go_enter Try.func137, Try.ntmps137
    go_wp2_with fail
    refine HO.out.mono ?_
    rintro e w1 ⟨rfl, hb1⟩
    obtain ⟨m, hm⟩ := HGB.out w1 hb1
    have HC1 := hide (HC.out m w1 hm)
    clear hm
    go_wp2_with (go_at_call 157; refine HC1.out.mono ?_; rintro e w' ⟨rfl, rfl⟩)
    go_ret
    exact ⟨ret_bool (by rw [HP.out, ha]; rfl), hb1⟩

/-- The cells of a broken line. -/
def blc (F : Fc) (sl : Value) (l r : ByteArray) (x y : Int) : List Value := fc F sl ++ [.string l, .string r, .int .i64 x, .int .i64 y]
theorem blc_len {F : Fc} (h : F.W.length = 26) (sl : Value) (l r : ByteArray) (x y : Int) : (blc F sl l r x y).length = 33 := by simp [blc, fc_length h]
theorem blc_at {F : Fc} (h : F.W.length = 26) (sl : Value) (l r : ByteArray) (x y : Int) : (blc F sl l r x y)[29]? = some (.string l) ∧ (blc F sl l r x y)[30]? = some (.string r) ∧ (blc F sl l r x y)[31]? = some (.int .i64 x) ∧ (blc F sl l r x y)[32]? = some (.int .i64 y) := by
  have hf := fc_length h sl
  unfold blc
  refine ⟨?_, ?_, ?_, ?_⟩ <;> (rw [List.getElem?_append_right (by rw [hf]; omega), hf]; rfl)

set_option maxRecDepth 100000 in
set_option maxHeartbeats 8000000 in
theorem offBy_any (F : Fc) (hF : F.ok) (A : Option Addr) (c : Nat) (l r m : ByteArray) (x y : Int) (w : World) (hl : l.size ≤ 1048576) (hr : r.size ≤ 1048576) (hm : m.size ≤ 1048576) (hv : vface F = true) (hx : inB x 0 4000 = true) (hA : PairsAt w w.heap.size A F.ps) :
    Calls Try.prog 87 #[.agg (blc F (.slice A F.ps.length c) l r x y).toArray, .string m] w fun e w' => e = .returned (.tuple #[.int .i64 (offV F (l ++ m ++ r).data.toList x), .bool (vtext (l ++ m ++ r).data.toList)]) ∧ Below w.heap.size w w' := by
  have hW := hide hF.len
  have hr0 := rangeAt_new w (blc F (.slice A F.ps.length c) l r x y) 93
  obtain ⟨a29, a30, a31, a32⟩ := blc_at hF.len (.slice A F.ps.length c) l r x y
  have c29 := rangeAt_cell hr0 a29
  have c30 := rangeAt_cell hr0 a30
  have c31 := rangeAt_cell hr0 a31
  have hlm : (l ++ m).size ≤ maxLen := by rw [append_size]; unfold maxLen; omega
  have hlmr : (l ++ m ++ r).size ≤ maxLen := by rw [append_size, append_size]; unfold maxLen; omega
  have hb0 : Below w.heap.size w (w.alloc (.cells (blc F (.slice A F.ps.length c) l r x y).toArray 93)) := (Below.refl _ _).alloc (Nat.le_refl _) _
  have hs0 : w.heap.size < (w.alloc (.cells (blc F (.slice A F.ps.length c) l r x y).toArray 93)).heap.size := by simp
  have hAW := hA.below hb0
  have HT := hide (fun W => implValidText_any (l ++ m ++ r) W hlmr)
  have HI29 := hide (show (Try.prog.info? 38).map (·.size) = some (fc F (.slice A F.ps.length c)).length from by rw [fc_length hW.out]; kernel_rfl)
  have HLW := hide (fun (ht : vtext (l ++ m ++ r).data.toList = true) W h => lineWide_any F hF A c (l ++ m ++ r) W hv ht h)
  have HOB := hide (fun (ht : vtext (l ++ m ++ r).data.toList = true) => offI_bd hF hv ht hx)
  have HOV : Hid (∀ b, vtext (l ++ m ++ r).data.toList = b → offV F (l ++ m ++ r).data.toList x = if b = true then max (lineL F (wordsL (l ++ m ++ r).data.toList) - x) (-(lineL F (wordsL (l ++ m ++ r).data.toList) - x)) else 0) := hide (fun b h => by unfold offV offI; rw [h])
  have rl : (w.alloc (.cells (blc F (.slice A F.ps.length c) l r x y).toArray 93)).rangeAt w.heap.size 0 (fc F (.slice A F.ps.length c)) := rangeAt_left hr0
  generalize hV : offV F (l ++ m ++ r).data.toList x = V at *
  clear hA hr0 a29 a30 a31 a32 hx
  cases ht : vtext (l ++ m ++ r).data.toList
  · rw [ht] at HT
    have HV := hide (HOV.out _ ht)
    clear HLW HOB
    generalize blc F (.slice A F.ps.length c) l r x y = cs at *
    go_enter Try.func87, Try.ntmps87
    go_wp2_with (go_at_call 103; refine (HT.out _).mono ?_; rintro e w1 ⟨rfl, hb1⟩)
    go_ret2
    exact ⟨ret_ib (by rw [HV.out]; rfl) rfl, hb0.trans (hb1.mono hb0.size)⟩
  · rw [ht] at HT
    have HV := hide (HOV.out _ ht)
    obtain ⟨b1, b2, b3, b4, _⟩ := HOB.out ht
    have HL2 := hide (HLW.out ht)
    clear HLW HOB hV HOV
    generalize lineL F (wordsL (l ++ m ++ r).data.toList) = L at *
    have e1 := IntWalk.i64_in (L - x) ⟨by omega, by omega⟩
    have e2 := IntWalk.i64_in (x - L) ⟨by omega, by omega⟩
    generalize hcs : blc F (.slice A F.ps.length c) l r x y = cs at *
    go_enter Try.func87, Try.ntmps87
    go_wp2_with fail
    generalize (w.alloc (.cells cs.toArray 93)) = W0 at *
    refine (HT.out _).mono ?_
    rintro e w1 ⟨rfl, hb1⟩
    have rr := rangeAt_below rl hb1 hs0
    have d31 : w1.cell? ⟨w.heap.size, 31, none⟩ = some (.int .i64 x) := (hb1.cell (p := ⟨w.heap.size, 31, none⟩) hs0).trans c31
    have HA1 := hide ((hAW.mono hb0.size).go hb1 (Nat.le_refl _))
    clear c29 c30 c31 rl hAW
    go_wp2_with (refine wpList_load_mid rfl 38 (.tmp 18) rfl _ 0 rfl (fc F (.slice A F.ps.length c)) _ rr Try.underlying38 rfl HI29.out ?_)
    refine (HL2.out _ HA1.out).mono ?_
    rintro e w2 ⟨rfl, hb2⟩
    have d31' : w2.cell? ⟨w.heap.size, 31, none⟩ = some (.int .i64 x) := (hb2.cell (p := ⟨w.heap.size, 31, none⟩) (Nat.lt_of_lt_of_le hs0 hb1.size)).trans d31
    clear d31 rr
    go_wp2
    go_ret2
    exact ⟨ret_ib (by rw [HV.out]; simp only [↓reduceIte]; omega) rfl, hb0.trans ((hb1.trans (hb2.mono hb1.size)).mono hb0.size)⟩

set_option maxRecDepth 100000 in
set_option maxHeartbeats 8000000 in
theorem fits_any (F : Fc) (hF : F.ok) (A : Option Addr) (c : Nat) (l r m : ByteArray) (x y : Int) (w : World) (hl : l.size ≤ 1048576) (hr : r.size ≤ 1048576) (hm : m.size ≤ 1048576) (hv : vface F = true) (hx : inB x 0 4000 = true) (hA : PairsAt w w.heap.size A F.ps) :
    Calls Try.prog 82 #[.agg (blc F (.slice A F.ps.length c) l r x y).toArray, .string m] w fun e w' => e = .returned (.bool (filB F (l ++ m ++ r).data.toList x y)) ∧ Below w.heap.size w w' := by
  have hr0 := rangeAt_new w (blc F (.slice A F.ps.length c) l r x y) 93
  obtain ⟨a29, a30, a31, a32⟩ := blc_at hF.len (.slice A F.ps.length c) l r x y
  have c32 := rangeAt_cell hr0 a32
  have hb0 : Below w.heap.size w (w.alloc (.cells (blc F (.slice A F.ps.length c) l r x y).toArray 93)) := (Below.refl _ _).alloc (Nat.le_refl _) _
  have hs0 : w.heap.size < (w.alloc (.cells (blc F (.slice A F.ps.length c) l r x y).toArray 93)).heap.size := by simp
  have hAW := hA.below hb0
  have HO := hide (fun W h => offBy_any F hF A c l r m x y W hl hr hm hv hx h)
  have HI33 := hide (show (Try.prog.info? 93).map (·.size) = some (blc F (.slice A F.ps.length c) l r x y).length from by rw [blc_len hF.len]; kernel_rfl)
  have HFB : Hid (∀ b, vtext (l ++ m ++ r).data.toList = b → filB F (l ++ m ++ r).data.toList x y = (b && decide (offV F (l ++ m ++ r).data.toList x ≤ y))) := hide (fun b h => by
    subst h; unfold filB offV
    cases h : vtext (l ++ m ++ r).data.toList
    · rfl
    · simp)
  generalize filB F (l ++ m ++ r).data.toList x y = R at *
  generalize offV F (l ++ m ++ r).data.toList x = V at *
  clear hA a29 a30 a31 a32
  cases ht : vtext (l ++ m ++ r).data.toList
  · have HR := hide (HFB.out _ ht)
    rw [ht] at HO
    generalize hcs : blc F (.slice A F.ps.length c) l r x y = cs at *
    go_enter Try.func82, Try.ntmps82
    go_wp2_with (refine wpList_load_mid rfl 93 (.tmp 2) rfl _ 0 rfl cs _ hr0 Try.underlying93 rfl HI33.out ?_)
    generalize (w.alloc (.cells cs.toArray 93)) = W0 at *
    refine (HO.out _ (hAW.mono hb0.size)).mono ?_
    rintro e w1 ⟨rfl, hb1⟩
    clear hr0
    go_wp2
    go_ret
    exact ⟨ret_bool (by rw [HR.out]; rfl), hb0.trans (hb1.mono hb0.size)⟩
  · have HR := hide (HFB.out _ ht)
    rw [ht] at HO
    generalize hcs : blc F (.slice A F.ps.length c) l r x y = cs at *
    go_enter Try.func82, Try.ntmps82
    go_wp2_with (refine wpList_load_mid rfl 93 (.tmp 2) rfl _ 0 rfl cs _ hr0 Try.underlying93 rfl HI33.out ?_)
    generalize (w.alloc (.cells cs.toArray 93)) = W0 at *
    refine (HO.out _ (hAW.mono hb0.size)).mono ?_
    rintro e w1 ⟨rfl, hb1⟩
    have d32 : w1.cell? ⟨w.heap.size, 32, none⟩ = some (.int .i64 y) := (hb1.cell (p := ⟨w.heap.size, 32, none⟩) hs0).trans c32
    clear hr0 c32
    go_wp2
    go_ret
    exact ⟨ret_bool (by rw [HR.out]; rfl), hb0.trans (hb1.mono hb0.size)⟩

set_option maxRecDepth 100000 in
set_option maxHeartbeats 8000000 in
theorem checkB_any (F : Fc) (hF : F.ok) (A : Option Addr) (c : Nat) (l r : ByteArray) (x y : Int) (T : Option Addr) (ts : List ByteArray) (ct : Nat) (w : World) (hl : l.size ≤ 1048576) (hr : r.size ≤ 1048576) (htn : ts.length ≤ maxLen) (htx : ∀ x ∈ ts, x.size ≤ maxLen) (hG : Glob w) (hA : PairsAt w w.heap.size A F.ps) (hT : StrsAt w w.heap.size T ts) :
    Calls Try.prog 78 #[.agg (blc F (.slice A F.ps.length c) l r x y).toArray, .slice T ts.length ct] w fun e w' => e = .returned (.int .i64 (flC F l.data.toList r.data.toList ts x y)) ∧ Below w.heap.size w w' := by
  have hW := hide hF.len
  have hr0 := rangeAt_new w (blc F (.slice A F.ps.length c) l r x y) 93
  obtain ⟨a29, a30, a31, a32⟩ := blc_at hF.len (.slice A F.ps.length c) l r x y
  have c29 := rangeAt_cell hr0 a29
  have c30 := rangeAt_cell hr0 a30
  have c31 := rangeAt_cell hr0 a31
  have c32 := rangeAt_cell hr0 a32
  have rl : (w.alloc (.cells (blc F (.slice A F.ps.length c) l r x y).toArray 93)).rangeAt w.heap.size 0 (fc F (.slice A F.ps.length c)) := rangeAt_left hr0
  have hb0 : Below w.heap.size w (w.alloc (.cells (blc F (.slice A F.ps.length c) l r x y).toArray 93)) := (Below.refl _ _).alloc (Nat.le_refl _) _
  have hs0 : w.heap.size < (w.alloc (.cells (blc F (.slice A F.ps.length c) l r x y).toArray 93)).heap.size := by simp
  have HAW := hide (hA.below hb0)
  have HTW := hide (hT.below hb0)
  have HGW := hide (hG.below hb0)
  have HI29 := hide (show (Try.prog.info? 38).map (·.size) = some (fc F (.slice A F.ps.length c)).length from by rw [fc_length hW.out]; kernel_rfl)
  have HF := hide (fun W h => implValidFace_any F hF A c W h)
  have HT := hide (fun W h => implValidList_any T ts ct htn htx W h)
  have HPl := hide (fun W h => isSideOfGap_any l W hl h)
  have HPr := hide (fun W h => isSideOfGap_any r W hr h)
  generalize hR : flC F l.data.toList r.data.toList ts x y = R
  have HR := hide hR
  clear hR hr0 a29 a30 a31 a32 hA hT hG htn htx
  generalize blc F (.slice A F.ps.length c) l r x y = cs at *
  generalize ts.length = n at *
  go_enter Try.func78, Try.ntmps78
  go_wp2_with (refine wpList_load_mid rfl 38 (.tmp 5) rfl _ 0 rfl (fc F (.slice A F.ps.length c)) _ rl Try.underlying38 rfl HI29.out ?_)
  generalize (w.alloc (.cells cs.toArray 93)) = W0 at *
  refine (HF.out _ (HAW.out.mono hb0.size)).mono ?_
  rintro e w1 ⟨rfl, hb1⟩
  clear rl
  cases h1 : vface F
  · go_wp2
    go_ret
    exact ⟨ret_int ((fl_face h1).symm.trans HR.out), hb0.trans (hb1.mono hb0.size)⟩
  · go_wp2_with fail
    refine (HT.out _ ((HTW.out.mono hb0.size).go hb1)).mono ?_
    rintro e w2 ⟨rfl, hb2⟩
    have hb12 := hb1.trans (hb2.mono hb1.size)
    have d29 : w2.cell? ⟨w.heap.size, 29, none⟩ = some (.string l) := (hb12.cell (p := ⟨w.heap.size, 29, none⟩) hs0).trans c29
    have d31 : w2.cell? ⟨w.heap.size, 31, none⟩ = some (.int .i64 x) := (hb12.cell (p := ⟨w.heap.size, 31, none⟩) hs0).trans c31
    have d32 : w2.cell? ⟨w.heap.size, 32, none⟩ = some (.int .i64 y) := (hb12.cell (p := ⟨w.heap.size, 32, none⟩) hs0).trans c32
    have HB2 := hide (hb0.trans (hb12.mono hb0.size))
    clear hb1 hb2
    cases h2 : vlist ts
    · go_wp2
      go_ret
      exact ⟨ret_int ((fl_list h2).symm.trans HR.out), HB2.out⟩
    · cases h3 : inB x 0 4000
      · go_wp2_with (go_at_call 136; refine (validWide_any _ _).mono ?_; rintro e w' ⟨rfl, rfl⟩; simp only [h3])
        go_ret
        exact ⟨ret_int ((fl_wide h1 h2 h3).symm.trans HR.out), HB2.out⟩
      · cases h4 : inB y 0 100
        · go_wp2_with (first | (go_at_call 136; refine (validWide_any _ _).mono ?_; rintro e w' ⟨rfl, rfl⟩; simp only [h3]) | (go_at_call 100; refine (between_any _ _ _ _).mono ?_; rintro e w' ⟨rfl, rfl⟩; simp only [h4]))
          go_ret
          exact ⟨ret_int ((fl_slack h1 h2 h4).symm.trans HR.out), HB2.out⟩
        · have HG2 := hide (HGW.out.below hb12)
          go_wp2_with (first | (go_at_call 136; refine (validWide_any _ _).mono ?_; rintro e w' ⟨rfl, rfl⟩; simp only [h3]) | (go_at_call 100; refine (between_any _ _ _ _).mono ?_; rintro e w' ⟨rfl, rfl⟩; simp only [h4]))
          refine (HPl.out _ HG2.out).mono ?_
          rintro e w3 ⟨rfl, hb3⟩
          have hb13 := hb12.trans (hb3.mono hb12.size)
          have e30 : w3.cell? ⟨w.heap.size, 30, none⟩ = some (.string r) := (hb13.cell (p := ⟨w.heap.size, 30, none⟩) hs0).trans c30
          clear c29 c30 c31 c32 d29 d31 d32
          cases h5 : partB l.data.toList
          · go_wp2
            go_ret
            exact ⟨ret_int ((fl_left h1 h2 h3 h4 h5).symm.trans HR.out), hb0.trans (hb13.mono hb0.size)⟩
          · have HG3 := hide (HG2.out.below hb3)
            go_wp2_with fail
            refine (HPr.out _ HG3.out).mono ?_
            rintro e w4 ⟨rfl, hb4⟩
            have hb14 := hb13.trans (hb4.mono hb13.size)
            clear e30
            cases h6 : partB r.data.toList
            · go_wp2
              go_ret
              exact ⟨ret_int ((fl_right h1 h2 h3 h4 h6).symm.trans HR.out), hb0.trans (hb14.mono hb0.size)⟩
            · go_wp2
              go_ret
              exact ⟨ret_int ((fl_ok h1 h2 h3 h4 h5 h6).symm.trans HR.out), hb0.trans (hb14.mono hb0.size)⟩
end Go.Proofs.Ytajlbfbpkafjfaa
