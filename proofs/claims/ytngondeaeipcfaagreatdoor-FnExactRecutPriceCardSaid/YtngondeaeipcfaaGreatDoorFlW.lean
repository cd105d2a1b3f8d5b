/- A line in which something is missing: as plain data; the model's tests of it. · A line in which something is missing: the program's tests of it. · FillWord, of both. -/
import Derived.Test.YtngondeaeipcfaaGreatDoorIvSA
import Derived.Test.YtngondeaeipcfaaGreatDoorCen
import Derived.Test.YtngondeaeipcfaaGreatDoorGs
import Derived.Test.YtngondeaeipcfaaGreatDoorIvB
import Derived.Test.YtngondeaeipcfaaGreatDoorIvTh
import Derived.Laws.Tables

namespace Go.Proofs.YtngondeaeipcfaaGreatDoor
open Go.RowKit

def lineC (b : Int) : Bool := cap b || b == 32
/-- A side of the gap. -/
def partB (L : List UInt8) : Bool := allOn lineC L && !(Lib.contains L [32, 32])
theorem occ2 {L : List UInt8} {i : Nat} : Lib.occAt L [32, 32] i = true ↔ i + 1 < L.length ∧ byteAt L i = 32 ∧ byteAt L (i + 1) = 32 := by
  unfold Lib.occAt
  constructor
  · intro h
    have hp := List.isPrefixOf_iff_prefix.1 h
    obtain ⟨t, ht⟩ := hp
    have h0 : L[i]? = some 32 := by have := congrArg (fun l => l[0]?) ht; simpa [List.getElem?_drop] using this.symm
    have h1 : L[i + 1]? = some 32 := by have := congrArg (fun l => l[1]?) ht; simpa [List.getElem?_drop] using this.symm
    have hl := (List.getElem?_eq_some_iff.1 h1).1
    exact ⟨hl, by simp [byteAt, List.getD, h0], by simp [byteAt, List.getD, h1]⟩
  · rintro ⟨h, h0, h1⟩
    have e0 := (byteAt_32 (L := L) (k := i)).2 ⟨by omega, h0⟩
    have e1 := (byteAt_32 (L := L) (k := i + 1)).2 ⟨h, h1⟩
    rw [List.isPrefixOf_iff_prefix]
    refine ⟨L.drop (i + 2), ?_⟩
    rw [List.drop_eq_getElem_cons (by omega : i < L.length), List.drop_eq_getElem_cons h]
    rw [List.getElem?_eq_getElem (by omega)] at e0
    rw [List.getElem?_eq_getElem h] at e1
    injection e0 with e0; injection e1 with e1
    rw [e0, e1]; rfl
theorem contains2 {L : List UInt8} : Lib.contains L [32, 32] = true ↔ ∃ i, i + 1 < L.length ∧ byteAt L i = 32 ∧ byteAt L (i + 1) = 32 := by
  unfold Lib.contains
  rw [decide_eq_true_eq]
  rcases Lib.index_spec L [32, 32] with ⟨h1, h2⟩ | ⟨i, h1, h2, h3, _⟩
  · constructor
    · intro h; omega
    · rintro ⟨i, hi⟩
      have := h2 i (by omega)
      rw [occ2.2 hi] at this; cases this
  · exact ⟨fun _ => ⟨i, occ2.1 h3⟩, fun _ => by omega⟩
/-- The byte at place i may stand so in a side. -/
def pgood (L : List UInt8) (i : Nat) : Bool := lineC (byteAt L i) && !(decide (0 < i) && (byteAt L i == 32) && (byteAt L (i - 1) == 32))
theorem partB_true {L : List UInt8} : partB L = true ↔ ∀ i, i < L.length → pgood L i = true := by
  unfold partB
  rw [Bool.and_eq_true, allOn_true, Bool.not_eq_true', ← Bool.not_eq_true, contains2]
  constructor
  · rintro ⟨h1, h2⟩ i hi
    unfold pgood
    rw [h1 i hi, Bool.true_and, Bool.not_eq_true']
    rw [← Bool.not_eq_true]
    simp only [Bool.and_eq_true, decide_eq_true_eq, beq_iff_eq]
    rintro ⟨⟨h3, h4⟩, h5⟩
    exact h2 ⟨i - 1, by omega, h5, by rw [show i - 1 + 1 = i by omega]; exact h4⟩
  · intro h
    refine ⟨fun i hi => ?_, ?_⟩
    · have := h i hi
      unfold pgood at this
      rw [Bool.and_eq_true] at this
      exact this.1
    · rintro ⟨i, hi, h1, h2⟩
      have := h (i + 1) hi
      unfold pgood at this
      simp [h1, h2] at this
theorem partB_false {L : List UInt8} {k : Nat} (hk : k < L.length) (h : pgood L k = false) : partB L = false := by
  rw [← Bool.not_eq_true, partB_true]
  intro h'
  rw [h' k hk] at h; cases h
/-- The code of a broken line. -/
noncomputable def flC (F : Fc) (l r : List UInt8) (xs : List ByteArray) (x y : Int) : Int :=
  if (vface F && vlist xs) = true then if (inB x 0 4000 && inB y 0 100) = true then if (partB l && partB r) = true then 0 else 5 else 2 else 1
/-- By how much the width differs. -/
noncomputable def offI (F : Fc) (L : List UInt8) (x : Int) : Int := max (lineL F (wordsL L) - x) (-(lineL F (wordsL L) - x))
noncomputable def filB (F : Fc) (L : List UInt8) (x y : Int) : Bool := vtext L && decide (offI F L x ≤ y)
noncomputable def offV (F : Fc) (L : List UInt8) (x : Int) : Int := if vtext L = true then offI F L x else 0
noncomputable def offS (F : Fc) (L : List UInt8) (x : Int) : Int := if vtext L = true then offI F L x else -1
theorem offI_bd {F : Fc} (hF : F.ok) (hv : vface F = true) {L : List UInt8} (ht : vtext L = true) {x : Int} (hx : inB x 0 4000 = true) :
    0 ≤ lineL F (wordsL L) ∧ lineL F (wordsL L) ≤ 222040 ∧ 0 ≤ x ∧ x ≤ 4000 ∧ 0 ≤ offI F L x := by
  obtain ⟨h1, h2⟩ := lineL_bd hF hv (fun y hy => words_mem ht hy) (words_len ht)
  obtain ⟨h3, h4⟩ := inB_true.1 hx
  exact ⟨h1, h2, h3, h4, by unfold offI; omega⟩
theorem fit_spec {F : Fc} (hF : F.ok) (hv : vface F = true) {L : List UInt8} {x : Int} (hx : inB x 0 4000 = true) (y : Int) : inB (offS F L x) 0 y = filB F L x y := by
  unfold filB offS
  cases ht : vtext L
  · simp [inB]
  · have := (offI_bd hF hv ht hx).2.2.2.2
    simp [inB, this]

set_option maxRecDepth 100000 in
set_option maxHeartbeats 8000000 in
theorem l04Part_any (s : ByteArray) (w : World) (hs : s.size ≤ maxLen) :
    Calls Tryz.prog 240 #[.string s] w fun e w' => e = .returned (.bool (partB s.data.toList)) ∧ w = w' := by
  unfold maxLen at hs
  have hL : s.data.toList.length = s.size := by simp
  have HL := hide hL
  have HPT := hide (@partB_true s.data.toList).2
  have HPF := hide (fun k => @partB_false s.data.toList k)
  generalize hS : partB s.data.toList = S at *
  rw [hL] at HPT HPF
  clear hS hL
  go_enter Tryz.func240, Tryz.ntmps240
  go_wp2
  go_loop [3] (fun i => ∃ k : Nat, k ≤ s.size ∧ i = .int .i64 k ∧ Hid (∀ j, j < k → pgood s.data.toList j = true)) (fun i => s.size - (intOf i).toNat)
  case atStart => exact ⟨0, Nat.zero_le _, rfl, hide (fun j hj => by omega)⟩
  case round =>
    obtain ⟨k, hk, rfl, hg⟩ := hrel
    by_cases hlt : k < s.size
    · have hi : (k : Int) < s.size := by omega
      have h0 : (0 : Int) ≤ k := by omega
      have HB := hide (byteAt_get s k hlt)
      have HGO := hide (fun (hw : pgood s.data.toList k = true) => (fun j hj => by
          by_cases e : j = k
          · subst e; exact hw
          · exact hg.out j (by omega) : ∀ j, j < k + 1 → pgood s.data.toList j = true))
      cases hd : ((s[k].toNat : Int) == 32)
      · have hdn : ((s[k].toNat : Int) != 32) = true := by simp [bne, hd]
        cases hc : cap (s[k].toNat : Int)
        · have HNO := hide (HPF.out k hlt (by unfold pgood lineC; rw [← HB.out, hc, hd]; rfl))
          go_wp2_with (go_at_call 209; refine (l01Letter_any _ _).mono ?_; rintro e w' ⟨rfl, rfl⟩; simp only [hc])
          go_ret
          exact ⟨ret_bool HNO.out.symm, rfl⟩
        · have HS := hide (HGO.out (by unfold pgood lineC; rw [← HB.out, hc, hd]; simp))
          by_cases hk0 : k = 0
          · have hz : decide ((0 : Int) < k) = false := by simp; omega
            have hz' : decide (0 < k) = false := by simp; omega
            have HK := hide hk0
            clear hk0
            go_wp2_with (go_at_call 209; refine (l01Letter_any _ _).mono ?_; rintro e w' ⟨rfl, rfl⟩; simp only [hc])
            exact ⟨⟨k + 1, by omega, by go_num, HS⟩, by simp [intOf] <;> omega⟩
          · have hz : decide ((0 : Int) < k) = true := by simp; omega
            have hz' : decide (0 < k) = true := by simp; omega
            have j3 := IntWalk.i64_in ((k : Int) - 1) ⟨by omega, by omega⟩
            go_wp2_with (go_at_call 209; refine (l01Letter_any _ _).mono ?_; rintro e w' ⟨rfl, rfl⟩; simp only [hc])
            exact ⟨⟨k + 1, by omega, by go_num, HS⟩, by simp [intOf] <;> omega⟩
      · have hdn : ((s[k].toNat : Int) != 32) = false := by simp [bne, hd]
        by_cases hk0 : k = 0
        · have HS := hide (HGO.out (by unfold pgood lineC; rw [← HB.out, hd]; simp [hk0]))
          have hz : decide ((0 : Int) < k) = false := by simp; omega
          have hz' : decide (0 < k) = false := by simp; omega
          have HK := hide hk0
          clear hk0
          go_wp2
          exact ⟨⟨k + 1, by omega, by go_num, HS⟩, by simp [intOf] <;> omega⟩
        · obtain ⟨m, rfl⟩ : ∃ m, k = m + 1 := ⟨k - 1, by omega⟩
          have hz : decide ((0 : Int) < ((m + 1 : Nat) : Int)) = true := by rw [decide_eq_true_eq]; omega
          have hz' : decide (0 < m + 1) = true := by simp
          have hms : m < s.size := by omega
          have HB2 := hide (byteAt_get s m hms)
          have j0 : (0 : Int) ≤ m := by omega
          have j1 : (m : Int) < s.size := by omega
          have j3 := IntWalk.i64_in ((m : Int)) ⟨by omega, by omega⟩
          cases he : ((s[m].toNat : Int) == 32)
          · have HS := hide (HGO.out (by
              unfold pgood lineC
              have : byteAt s.data.toList (m + 1 - 1) = (s[m].toNat : Int) := HB2.out.symm
              rw [this, ← HB.out, hd, he]; simp))
            go_wp2
            exact ⟨⟨m + 1 + 1, by omega, by go_num, HS⟩, by simp [intOf] <;> omega⟩
          · have HNO := hide (HPF.out (m + 1) hlt (by
              unfold pgood lineC
              have : byteAt s.data.toList (m + 1 - 1) = (s[m].toNat : Int) := HB2.out.symm
              rw [this, ← HB.out, hd, he]; simp))
            go_wp2
            go_ret
            exact ⟨ret_bool HNO.out.symm, rfl⟩
    · have HA := hide (HPT.out (fun j hj => hg.out j (by omega)))
      have hk' : k = s.size := by omega
      clear hg
      go_wp2
      go_ret
      exact ⟨ret_bool HA.out.symm, rfl⟩

set_option maxHeartbeats 1000000 in
theorem l00Max_any (a b : Int) (w : World) : Calls Tryz.prog 236 #[.int .i64 a, .int .i64 b] w fun e w' => e = .returned (.int .i64 (max a b)) ∧ w = w' := by
  by_cases h : b < a
  · have hm : max a b = a := by omega
    have HM := hide hm
    clear hm
    go_enter Tryz.func236, Tryz.ntmps236
    go_wp2
    go_ret
    exact ⟨ret_int HM.out.symm, rfl⟩
  · have hm : max a b = b := by omega
    have HM := hide hm
    clear hm
    go_enter Tryz.func236, Tryz.ntmps236
    go_wp2
    go_ret
    exact ⟨ret_int HM.out.symm, rfl⟩

theorem fl_face {F : Fc} {l r : List UInt8} {xs : List ByteArray} {x y : Int} (h : vface F = false) : flC F l r xs x y = 1 := by unfold flC; rw [h]; rfl
theorem fl_list {F : Fc} {l r : List UInt8} {xs : List ByteArray} {x y : Int} (h : vlist xs = false) : flC F l r xs x y = 1 := by unfold flC; rw [h, Bool.and_false]; rfl
theorem fl_wide {F : Fc} {l r : List UInt8} {xs : List ByteArray} {x y : Int} (h : vface F = true) (h1 : vlist xs = true) (h2 : inB x 0 4000 = false) : flC F l r xs x y = 2 := by unfold flC; rw [h, h1, h2]; rfl
theorem fl_slack {F : Fc} {l r : List UInt8} {xs : List ByteArray} {x y : Int} (h : vface F = true) (h1 : vlist xs = true) (h2 : inB y 0 100 = false) : flC F l r xs x y = 2 := by unfold flC; rw [h, h1, h2, Bool.and_false]; rfl
theorem fl_left {F : Fc} {l r : List UInt8} {xs : List ByteArray} {x y : Int} (h : vface F = true) (h1 : vlist xs = true) (h2 : inB x 0 4000 = true) (h3 : inB y 0 100 = true) (h4 : partB l = false) : flC F l r xs x y = 5 := by unfold flC; rw [h, h1, h2, h3, h4]; rfl
theorem fl_right {F : Fc} {l r : List UInt8} {xs : List ByteArray} {x y : Int} (h : vface F = true) (h1 : vlist xs = true) (h2 : inB x 0 4000 = true) (h3 : inB y 0 100 = true) (h4 : partB r = false) : flC F l r xs x y = 5 := by unfold flC; rw [h, h1, h2, h3, h4, Bool.and_false]; rfl
theorem fl_ok {F : Fc} {l r : List UInt8} {xs : List ByteArray} {x y : Int} (h : vface F = true) (h1 : vlist xs = true) (h2 : inB x 0 4000 = true) (h3 : inB y 0 100 = true) (h4 : partB l = true) (h5 : partB r = true) : flC F l r xs x y = 0 := by unfold flC; rw [h, h1, h2, h3, h4, h5]; rfl
theorem fl_zero {F : Fc} {l r : List UInt8} {xs : List ByteArray} {x y : Int} (h : flC F l r xs x y = 0) : vface F = true ∧ vlist xs = true ∧ inB x 0 4000 = true ∧ inB y 0 100 = true ∧ partB l = true ∧ partB r = true := by
  unfold flC at h
  split at h
  · split at h
    · split at h
      · simp only [Bool.and_eq_true] at *
        rename_i a b c
        exact ⟨a.1, a.2, b.1, b.2, c.1, c.2⟩
      · cases h
    · cases h
  · cases h

set_option maxRecDepth 100000 in
set_option maxHeartbeats 8000000 in
theorem l04Asked_any (F : Fc) (hF : F.ok) (b : Nat) (A : Option Addr) (c : Nat) (l r : ByteArray) (T : Option Addr) (ts : List ByteArray) (ct : Nat) (x y : Int) (w : World) (hl : l.size ≤ maxLen) (hr' : r.size ≤ maxLen) (htn : ts.length ≤ maxLen) (htx : ∀ x ∈ ts, x.size ≤ maxLen)
    (hr : w.rangeAt b 0 (fc F (.slice A F.ps.length c))) (hA : PairsAt w w.heap.size A F.ps) (hT : StrsAt w w.heap.size T ts) :
    Calls Tryz.prog 162 #[.pointer (some ⟨b, 0, none⟩), .string l, .string r, .slice T ts.length ct, .int .i64 x, .int .i64 y] w fun e w' => e = .returned (.int .i64 (flC F l.data.toList r.data.toList ts x y)) ∧ Below w.heap.size w w' := by
  have HF := hide (l01Face_any F hF b A c w hr hA)
  have HT := hide (fun W h => l04List_any T ts ct W htn htx h)
  have HPl := hide (fun W => l04Part_any l W hl)
  have HPr := hide (fun W => l04Part_any r W hr')
  have HTW := hide hT
  generalize hR : flC F l.data.toList r.data.toList ts x y = R
  have HR := hide hR
  clear hR hr hA hT hl hr' htn htx
  generalize ts.length = n at *
  cases h1 : vface F
  · rw [h1] at HF
    go_enter Tryz.func162, Tryz.ntmps162
    go_wp2_with (go_at_call 124; refine HF.out.mono ?_; rintro e w1 ⟨rfl, hb1⟩)
    go_ret
    exact ⟨ret_int ((fl_face h1).symm.trans HR.out), hb1⟩
  · rw [h1] at HF
    cases h2 : vlist ts
    · go_enter Tryz.func162, Tryz.ntmps162
      go_wp2_with fail
      refine HF.out.mono ?_
      rintro e w1 ⟨rfl, hb1⟩
      go_wp2_with (go_at_call 177; refine (HT.out _ (HTW.out.go hb1)).mono ?_; rintro e w2 ⟨rfl, rfl⟩; simp only [h2])
      go_ret
      exact ⟨ret_int ((fl_list h2).symm.trans HR.out), hb1⟩
    · cases h3 : inB x 0 4000
      · go_enter Tryz.func162, Tryz.ntmps162
        go_wp2_with fail
        refine HF.out.mono ?_
        rintro e w1 ⟨rfl, hb1⟩
        go_wp2_with (first | (go_at_call 177; refine (HT.out _ (HTW.out.go hb1)).mono ?_; rintro e w2 ⟨rfl, rfl⟩; simp only [h2]) | (go_at_call 127; refine (l01Room_any _ _).mono ?_; rintro e w2 ⟨rfl, rfl⟩; simp only [h3]))
        go_ret
        exact ⟨ret_int ((fl_wide h1 h2 h3).symm.trans HR.out), hb1⟩
      · cases h4 : inB y 0 100
        · go_enter Tryz.func162, Tryz.ntmps162
          go_wp2_with fail
          refine HF.out.mono ?_
          rintro e w1 ⟨rfl, hb1⟩
          go_wp2_with (first | (go_at_call 177; refine (HT.out _ (HTW.out.go hb1)).mono ?_; rintro e w2 ⟨rfl, rfl⟩; simp only [h2]) | (go_at_call 127; refine (l01Room_any _ _).mono ?_; rintro e w2 ⟨rfl, rfl⟩; simp only [h3]) | (go_at_call 119; refine (l00In_any _ _ _ _).mono ?_; rintro e w2 ⟨rfl, rfl⟩; simp only [h4]))
          go_ret
          exact ⟨ret_int ((fl_slack h1 h2 h4).symm.trans HR.out), hb1⟩
        · go_enter Tryz.func162, Tryz.ntmps162
          go_wp2_with fail
          refine HF.out.mono ?_
          rintro e w1 ⟨rfl, hb1⟩
          go_wp2_with (first | (go_at_call 177; refine (HT.out _ (HTW.out.go hb1)).mono ?_; rintro e w2 ⟨rfl, rfl⟩; simp only [h2]) | (go_at_call 127; refine (l01Room_any _ _).mono ?_; rintro e w2 ⟨rfl, rfl⟩; simp only [h3]) | (go_at_call 119; refine (l00In_any _ _ _ _).mono ?_; rintro e w2 ⟨rfl, rfl⟩; simp only [h4]))
          refine (HPl.out _).mono ?_
          rintro e w2 ⟨rfl, rfl⟩
          cases h5 : partB l.data.toList
          · go_wp2
            go_ret
            exact ⟨ret_int ((fl_left h1 h2 h3 h4 h5).symm.trans HR.out), hb1⟩
          · cases h6 : partB r.data.toList
            · go_wp2_with (go_at_call 240; refine (HPr.out _).mono ?_; rintro e w2 ⟨rfl, rfl⟩; simp only [h6])
              go_ret
              exact ⟨ret_int ((fl_right h1 h2 h3 h4 h6).symm.trans HR.out), hb1⟩
            · go_wp2_with (go_at_call 240; refine (HPr.out _).mono ?_; rintro e w2 ⟨rfl, rfl⟩; simp only [h6])
              go_ret
              exact ⟨ret_int ((fl_ok h1 h2 h3 h4 h5 h6).symm.trans HR.out), hb1⟩

set_option maxRecDepth 100000 in
set_option maxHeartbeats 8000000 in
theorem l04Off_any (F : Fc) (hF : F.ok) (b : Nat) (A : Option Addr) (c : Nat) (s : ByteArray) (x : Int) (w : World) (hs : s.size ≤ 1048576 * 4) (hv : vface F = true) (hx : inB x 0 4000 = true)
    (hr : w.rangeAt b 0 (fc F (.slice A F.ps.length c))) (hb : b < w.heap.size) (hA : PairsAt w w.heap.size A F.ps) :
    Calls Tryz.prog 163 #[.pointer (some ⟨b, 0, none⟩), .string s, .int .i64 x] w fun e w' => e = .returned (.int .i64 (offS F s.data.toList x)) ∧ Below w.heap.size w w' := by
  have HT := hide (fun w => l01Text_any s w (by unfold maxLen; omega))
  have hL : s.data.toList.length = s.size := by simp
  generalize hR : offS F s.data.toList x = R
  have HR := hide hR
  clear hR
  cases ht : vtext s.data.toList
  · have HP : Hid (offS F s.data.toList x = -1) := hide (by unfold offS; rw [ht]; rfl)
    go_enter Tryz.func163, Tryz.ntmps163
    go_wp2_with (go_at_call 112; refine (HT.out _).mono ?_; rintro e w2 ⟨rfl, rfl⟩; simp only [ht])
    go_ret
    exact ⟨ret_int (HP.out.symm.trans HR.out), Below.refl _ _⟩
  · have HP : Hid (offS F s.data.toList x = offI F s.data.toList x) := hide (by unfold offS; rw [ht]; rfl)
    obtain ⟨b1, b2, b3, b4, _⟩ := offI_bd hF hv ht hx
    have hsz := (vtext_true.1 ht).1
    have HWd := hide (fun W => l01Words_any s W (by omega))
    have HLI := hide (fun A2 c2 W (hW : Below w.heap.size w W) h => l01Line_any F hF b A c (wordsL s.data.toList) A2 c2 W hv (fun y hy => words_mem ht hy) (words_len ht) (rangeAt_below hr hW hb) (Nat.lt_of_lt_of_le hb hW.size) (hA.go hW (Nat.le_refl _)) h)
    have HO : Hid (offI F s.data.toList x = max (lineL F (wordsL s.data.toList) - x) (-(lineL F (wordsL s.data.toList) - x))) := hide rfl
    have hln : (bas (wordsL s.data.toList)).length = (wordsL s.data.toList).length := by simp [bas]
    have HLN := hide hln
    have e1 := IntWalk.i64_in (lineL F (wordsL s.data.toList) - x) ⟨by omega, by omega⟩
    have e2 := IntWalk.i64_in (-(lineL F (wordsL s.data.toList) - x)) ⟨by omega, by omega⟩
    clear hr hA hL hln
    generalize wordsL s.data.toList = ws at *
    generalize lineL F ws = L at *
    go_enter Tryz.func163, Tryz.ntmps163
    go_wp2_with (go_at_call 112; refine (HT.out _).mono ?_; rintro e w2 ⟨rfl, rfl⟩; simp only [ht])
    refine (HWd.out _).mono ?_
    rintro e w1 ⟨A1, c1, rfl, hS1, hb1⟩
    rw [HLN.out]
    go_wp2_with fail
    refine (HLI.out A1 c1 w1 hb1 hS1.at_).mono ?_
    rintro e w2 ⟨rfl, hb2⟩
    go_wp2_with (go_at_call 236; refine (l00Max_any _ _ _).mono ?_; rintro e w3 ⟨rfl, rfl⟩)
    go_ret
    exact ⟨ret_int (by rw [← HR.out, HP.out, HO.out]), hb1.trans (hb2.mono hb1.size)⟩
end Go.Proofs.YtngondeaeipcfaaGreatDoor

namespace Go.Proofs.YtngondeaeipcfaaGreatDoor
open Go.RowKit


theorem line_kind (b : Int) : (kindN b != 2) = lineC b := by
  unfold kindN lineC
  cases h : cap b
  · by_cases e : b = 32
    · subst e; rfl
    · have : (b == 32) = false := by simpa using e
      rw [this]; simp [e]
  · rfl
set_option maxHeartbeats 1000000 in
theorem isOfLine_any (b : Int) (w : World) :
    Calls Tryz.prog 272 #[.int .u8 b] w fun e w' => e = .returned (.bool (lineC b)) ∧ Below w.heap.size w w' := by
  have HK := hide (kindOf_any b w)
  have HL := hide (line_kind b)
  generalize kindN b = k at *
  generalize lineC b = R at *
  go_enter Tryz.func272, Tryz.ntmps272
  go_wp2_with (go_at_call 207; refine HK.out.mono ?_; rintro e w1 ⟨rfl, hb1⟩)
  go_ret
  exact ⟨ret_bool HL.out, hb1⟩

set_option maxRecDepth 100000 in
set_option maxHeartbeats 2000000 in
theorem isSideOfGap_any (s : ByteArray) (w : World) (hs : s.size ≤ 1048576) (hG : Glob w) :
    Calls Tryz.prog 239 #[.string s] w fun e w' => e = .returned (.bool (partB s.data.toList)) ∧ Below w.heap.size w w' := by
  have HO := hide (hasOnly_any 272 (enters_of Tryz.func272 (by kernel_rfl) rfl) lineC s w (by unfold maxLen; omega) (fun j _ W _ => isOfLine_any _ W))
  have HC := hide (fun m W (h : W.cell? ⟨0, 0, none⟩ = some (.int .i64 m)) => (Tryz.strings_Contains s ⟨#[32, 32]⟩ m W (by omega) h).mono fun _ _ ⟨a, b⟩ => (⟨a, b.symm⟩ : _ ∧ _))
  have HP : Hid (partB s.data.toList = (allOn lineC s.data.toList && !(Lib.contains s.data.toList [32, 32]))) := hide rfl
  have HGB := hide (fun W => hG.below (w' := W))
  generalize partB s.data.toList = R at *
  have h2 : (⟨#[32, 32]⟩ : ByteArray).data.toList = [32, 32] := rfl
  rw [h2] at HC
  clear h2
  cases ha : allOn lineC s.data.toList
  · rw [ha] at HO
    go_enter Tryz.func239, Tryz.ntmps239
    go_wp2_with (go_at_call 181; refine HO.out.mono ?_; rintro e w1 ⟨rfl, hb1⟩)
    go_ret
    exact ⟨ret_bool (by rw [HP.out, ha]; rfl), hb1⟩
  · rw [ha] at HO
    go_enter Tryz.func239, Tryz.ntmps239
    go_wp2_with fail
    refine HO.out.mono ?_
    rintro e w1 ⟨rfl, hb1⟩
    obtain ⟨m, hm⟩ := HGB.out w1 hb1
    have HC1 := hide (HC.out m w1 hm)
    clear hm
    go_wp2_with (go_at_call 216; refine HC1.out.mono ?_; rintro e w' ⟨rfl, rfl⟩)
    go_ret
    exact ⟨ret_bool (by rw [HP.out, ha]; rfl), hb1⟩

/-- The cells of a broken line. -/
def blc (F : Fc) (sl : Value) (l r : ByteArray) (x y : Int) : List Value := fc F sl ++ [.string l, .string r, .int .i64 x, .int .i64 y]
theorem blc_len {F : Fc} (h : F.W.length = 26) (sl : Value) (l r : ByteArray) (x y : Int) : (blc F sl l r x y).length = 33 := by simp [blc, fc_length h]
theorem blc_at {F : Fc} (h : F.W.length = 26) (sl : Value) (l r : ByteArray) (x y : Int) : (blc F sl l r x y)[29]? = some (.string l) ∧ (blc F sl l r x y)[30]? = some (.string r) ∧ (blc F sl l r x y)[31]? = some (.int .i64 x) ∧ (blc F sl l r x y)[32]? = some (.int .i64 y) := by
  have hf := fc_length h sl
  unfold blc
  refine ⟨?_, ?_, ?_, ?_⟩ <;> (rw [List.getElem?_append_right (by rw [hf]; omega), hf]; rfl)

set_option maxRecDepth 100000 in
set_option maxHeartbeats 8000000 in
theorem offBy_any (F : Fc) (hF : F.ok) (A : Option Addr) (c : Nat) (l r m : ByteArray) (x y : Int) (w : World) (hl : l.size ≤ 1048576) (hr : r.size ≤ 1048576) (hm : m.size ≤ 1048576) (hv : vface F = true) (hx : inB x 0 4000 = true) (hA : PairsAt w w.heap.size A F.ps) :
    Calls Tryz.prog 164 #[.agg (blc F (.slice A F.ps.length c) l r x y).toArray, .string m] w fun e w' => e = .returned (.tuple #[.int .i64 (offV F (l ++ m ++ r).data.toList x), .bool (vtext (l ++ m ++ r).data.toList)]) ∧ Below w.heap.size w w' := by
  have hW := hide hF.len
  have hr0 := rangeAt_new w (blc F (.slice A F.ps.length c) l r x y) 164
  obtain ⟨a29, a30, a31, a32⟩ := blc_at hF.len (.slice A F.ps.length c) l r x y
  have c29 := rangeAt_cell hr0 a29
  have c30 := rangeAt_cell hr0 a30
  have c31 := rangeAt_cell hr0 a31
  have hlm : (l ++ m).size ≤ maxLen := by rw [append_size]; unfold maxLen; omega
  have hlmr : (l ++ m ++ r).size ≤ maxLen := by rw [append_size, append_size]; unfold maxLen; omega
  have hb0 : Below w.heap.size w (w.alloc (.cells (blc F (.slice A F.ps.length c) l r x y).toArray 164)) := (Below.refl _ _).alloc (Nat.le_refl _) _
  have hs0 : w.heap.size < (w.alloc (.cells (blc F (.slice A F.ps.length c) l r x y).toArray 164)).heap.size := by simp
  have hAW := hA.below hb0
  have HT := hide (fun W => implValidText_any (l ++ m ++ r) W hlmr)
  have HI29 := hide (show (Tryz.prog.info? 28).map (·.size) = some (fc F (.slice A F.ps.length c)).length from by rw [fc_length hW.out]; kernel_rfl)
  have HLW := hide (fun (ht : vtext (l ++ m ++ r).data.toList = true) W h => lineWide_any F hF A c (l ++ m ++ r) W hv ht h)
  have HOB := hide (fun (ht : vtext (l ++ m ++ r).data.toList = true) => offI_bd hF hv ht hx)
  have HOV : Hid (∀ b, vtext (l ++ m ++ r).data.toList = b → offV F (l ++ m ++ r).data.toList x = if b = true then max (lineL F (wordsL (l ++ m ++ r).data.toList) - x) (-(lineL F (wordsL (l ++ m ++ r).data.toList) - x)) else 0) := hide (fun b h => by unfold offV offI; rw [h])
  have rl : (w.alloc (.cells (blc F (.slice A F.ps.length c) l r x y).toArray 164)).rangeAt w.heap.size 0 (fc F (.slice A F.ps.length c)) := rangeAt_left hr0
  generalize hV : offV F (l ++ m ++ r).data.toList x = V at *
  clear hA hr0 a29 a30 a31 a32 hx
  cases ht : vtext (l ++ m ++ r).data.toList
  · rw [ht] at HT
    have HV := hide (HOV.out _ ht)
    clear HLW HOB
    generalize blc F (.slice A F.ps.length c) l r x y = cs at *
    go_enter Tryz.func164, Tryz.ntmps164
    go_wp2_with (go_at_call 105; refine (HT.out _).mono ?_; rintro e w1 ⟨rfl, hb1⟩)
    go_ret2
    exact ⟨ret_ib (by rw [HV.out]; rfl) rfl, hb0.trans (hb1.mono hb0.size)⟩
  · rw [ht] at HT
    have HV := hide (HOV.out _ ht)
    obtain ⟨b1, b2, b3, b4, _⟩ := HOB.out ht
    have HL2 := hide (HLW.out ht)
    clear HLW HOB hV HOV
    generalize lineL F (wordsL (l ++ m ++ r).data.toList) = L at *
    have e1 := IntWalk.i64_in (L - x) ⟨by omega, by omega⟩
    have e2 := IntWalk.i64_in (x - L) ⟨by omega, by omega⟩
    generalize hcs : blc F (.slice A F.ps.length c) l r x y = cs at *
    go_enter Tryz.func164, Tryz.ntmps164
    go_wp2_with fail
    generalize (w.alloc (.cells cs.toArray 164)) = W0 at *
    refine (HT.out _).mono ?_
    rintro e w1 ⟨rfl, hb1⟩
    have rr := rangeAt_below rl hb1 hs0
    have d31 : w1.cell? ⟨w.heap.size, 31, none⟩ = some (.int .i64 x) := (hb1.cell (p := ⟨w.heap.size, 31, none⟩) hs0).trans c31
    have HA1 := hide ((hAW.mono hb0.size).go hb1 (Nat.le_refl _))
    clear c29 c30 c31 rl hAW
    go_wp2_with (refine wpList_load_mid rfl 28 (.tmp 18) rfl _ 0 rfl (fc F (.slice A F.ps.length c)) _ rr Tryz.underlying28 rfl HI29.out ?_)
    refine (HL2.out _ HA1.out).mono ?_
    rintro e w2 ⟨rfl, hb2⟩
    have d31' : w2.cell? ⟨w.heap.size, 31, none⟩ = some (.int .i64 x) := (hb2.cell (p := ⟨w.heap.size, 31, none⟩) (Nat.lt_of_lt_of_le hs0 hb1.size)).trans d31
    clear d31 rr
    go_wp2
    go_ret2
    exact ⟨ret_ib (by rw [HV.out]; simp only [↓reduceIte]; omega) rfl, hb0.trans ((hb1.trans (hb2.mono hb1.size)).mono hb0.size)⟩

set_option maxRecDepth 100000 in
set_option maxHeartbeats 8000000 in
theorem fits_any (F : Fc) (hF : F.ok) (A : Option Addr) (c : Nat) (l r m : ByteArray) (x y : Int) (w : World) (hl : l.size ≤ 1048576) (hr : r.size ≤ 1048576) (hm : m.size ≤ 1048576) (hv : vface F = true) (hx : inB x 0 4000 = true) (hA : PairsAt w w.heap.size A F.ps) :
    Calls Tryz.prog 161 #[.agg (blc F (.slice A F.ps.length c) l r x y).toArray, .string m] w fun e w' => e = .returned (.bool (filB F (l ++ m ++ r).data.toList x y)) ∧ Below w.heap.size w w' := by
  have hr0 := rangeAt_new w (blc F (.slice A F.ps.length c) l r x y) 164
  obtain ⟨a29, a30, a31, a32⟩ := blc_at hF.len (.slice A F.ps.length c) l r x y
  have c32 := rangeAt_cell hr0 a32
  have hb0 : Below w.heap.size w (w.alloc (.cells (blc F (.slice A F.ps.length c) l r x y).toArray 164)) := (Below.refl _ _).alloc (Nat.le_refl _) _
  have hs0 : w.heap.size < (w.alloc (.cells (blc F (.slice A F.ps.length c) l r x y).toArray 164)).heap.size := by simp
  have hAW := hA.below hb0
  have HO := hide (fun W h => offBy_any F hF A c l r m x y W hl hr hm hv hx h)
  have HI33 := hide (show (Tryz.prog.info? 164).map (·.size) = some (blc F (.slice A F.ps.length c) l r x y).length from by rw [blc_len hF.len]; kernel_rfl)
  have HFB : Hid (∀ b, vtext (l ++ m ++ r).data.toList = b → filB F (l ++ m ++ r).data.toList x y = (b && decide (offV F (l ++ m ++ r).data.toList x ≤ y))) := hide (fun b h => by
    subst h; unfold filB offV
    cases h : vtext (l ++ m ++ r).data.toList
    · rfl
    · simp)
  generalize filB F (l ++ m ++ r).data.toList x y = R at *
  generalize offV F (l ++ m ++ r).data.toList x = V at *
  clear hA a29 a30 a31 a32
  cases ht : vtext (l ++ m ++ r).data.toList
  · have HR := hide (HFB.out _ ht)
    rw [ht] at HO
    generalize hcs : blc F (.slice A F.ps.length c) l r x y = cs at *
    go_enter Tryz.func161, Tryz.ntmps161
    go_wp2_with (refine wpList_load_mid rfl 164 (.tmp 2) rfl _ 0 rfl cs _ hr0 Tryz.underlying164 rfl HI33.out ?_)
    generalize (w.alloc (.cells cs.toArray 164)) = W0 at *
    refine (HO.out _ (hAW.mono hb0.size)).mono ?_
    rintro e w1 ⟨rfl, hb1⟩
    clear hr0
    go_wp2
    go_ret
    exact ⟨ret_bool (by rw [HR.out]; rfl), hb0.trans (hb1.mono hb0.size)⟩
  · have HR := hide (HFB.out _ ht)
    rw [ht] at HO
    generalize hcs : blc F (.slice A F.ps.length c) l r x y = cs at *
    go_enter Tryz.func161, Tryz.ntmps161
    go_wp2_with (refine wpList_load_mid rfl 164 (.tmp 2) rfl _ 0 rfl cs _ hr0 Tryz.underlying164 rfl HI33.out ?_)
    generalize (w.alloc (.cells cs.toArray 164)) = W0 at *
    refine (HO.out _ (hAW.mono hb0.size)).mono ?_
    rintro e w1 ⟨rfl, hb1⟩
    have d32 : w1.cell? ⟨w.heap.size, 32, none⟩ = some (.int .i64 y) := (hb1.cell (p := ⟨w.heap.size, 32, none⟩) hs0).trans c32
    clear hr0 c32
    go_wp2
    go_ret
    exact ⟨ret_bool (by rw [HR.out]; rfl), hb0.trans (hb1.mono hb0.size)⟩

set_option maxRecDepth 100000 in
set_option maxHeartbeats 8000000 in
theorem checkB_any (F : Fc) (hF : F.ok) (A : Option Addr) (c : Nat) (l r : ByteArray) (x y : Int) (T : Option Addr) (ts : List ByteArray) (ct : Nat) (w : World) (hl : l.size ≤ 1048576) (hr : r.size ≤ 1048576) (htn : ts.length ≤ maxLen) (htx : ∀ x ∈ ts, x.size ≤ maxLen) (hG : Glob w) (hA : PairsAt w w.heap.size A F.ps) (hT : StrsAt w w.heap.size T ts) :
    Calls Tryz.prog 157 #[.agg (blc F (.slice A F.ps.length c) l r x y).toArray, .slice T ts.length ct] w fun e w' => e = .returned (.int .i64 (flC F l.data.toList r.data.toList ts x y)) ∧ Below w.heap.size w w' := by
  have hW := hide hF.len
  have hr0 := rangeAt_new w (blc F (.slice A F.ps.length c) l r x y) 164
  obtain ⟨a29, a30, a31, a32⟩ := blc_at hF.len (.slice A F.ps.length c) l r x y
  have c29 := rangeAt_cell hr0 a29
  have c30 := rangeAt_cell hr0 a30
  have c31 := rangeAt_cell hr0 a31
  have c32 := rangeAt_cell hr0 a32
  have rl : (w.alloc (.cells (blc F (.slice A F.ps.length c) l r x y).toArray 164)).rangeAt w.heap.size 0 (fc F (.slice A F.ps.length c)) := rangeAt_left hr0
  have hb0 : Below w.heap.size w (w.alloc (.cells (blc F (.slice A F.ps.length c) l r x y).toArray 164)) := (Below.refl _ _).alloc (Nat.le_refl _) _
  have hs0 : w.heap.size < (w.alloc (.cells (blc F (.slice A F.ps.length c) l r x y).toArray 164)).heap.size := by simp
  have HAW := hide (hA.below hb0)
  have HTW := hide (hT.below hb0)
  have HGW := hide (hG.below hb0)
  have HI29 := hide (show (Tryz.prog.info? 28).map (·.size) = some (fc F (.slice A F.ps.length c)).length from by rw [fc_length hW.out]; kernel_rfl)
  have HF := hide (fun W h => implValidFace_any F hF A c W h)
  have HT := hide (fun W h => implValidList_any T ts ct htn htx W h)
  have HPl := hide (fun W h => isSideOfGap_any l W hl h)
  have HPr := hide (fun W h => isSideOfGap_any r W hr h)
  generalize hR : flC F l.data.toList r.data.toList ts x y = R
  have HR := hide hR
  clear hR hr0 a29 a30 a31 a32 hA hT hG htn htx
  generalize blc F (.slice A F.ps.length c) l r x y = cs at *
  generalize ts.length = n at *
  go_enter Tryz.func157, Tryz.ntmps157
  go_wp2_with (refine wpList_load_mid rfl 28 (.tmp 5) rfl _ 0 rfl (fc F (.slice A F.ps.length c)) _ rl Tryz.underlying28 rfl HI29.out ?_)
  generalize (w.alloc (.cells cs.toArray 164)) = W0 at *
  refine (HF.out _ (HAW.out.mono hb0.size)).mono ?_
  rintro e w1 ⟨rfl, hb1⟩
  clear rl
  cases h1 : vface F
  · go_wp2
    go_ret
    exact ⟨ret_int ((fl_face h1).symm.trans HR.out), hb0.trans (hb1.mono hb0.size)⟩
  · go_wp2_with fail
    refine (HT.out _ ((HTW.out.mono hb0.size).go hb1)).mono ?_
    rintro e w2 ⟨rfl, hb2⟩
    have hb12 := hb1.trans (hb2.mono hb1.size)
    have d29 : w2.cell? ⟨w.heap.size, 29, none⟩ = some (.string l) := (hb12.cell (p := ⟨w.heap.size, 29, none⟩) hs0).trans c29
    have d31 : w2.cell? ⟨w.heap.size, 31, none⟩ = some (.int .i64 x) := (hb12.cell (p := ⟨w.heap.size, 31, none⟩) hs0).trans c31
    have d32 : w2.cell? ⟨w.heap.size, 32, none⟩ = some (.int .i64 y) := (hb12.cell (p := ⟨w.heap.size, 32, none⟩) hs0).trans c32
    have HB2 := hide (hb0.trans (hb12.mono hb0.size))
    clear hb1 hb2
    cases h2 : vlist ts
    · go_wp2
      go_ret
      exact ⟨ret_int ((fl_list h2).symm.trans HR.out), HB2.out⟩
    · cases h3 : inB x 0 4000
      · go_wp2_with (go_at_call 129; refine (validWide_any _ _).mono ?_; rintro e w' ⟨rfl, rfl⟩; simp only [h3])
        go_ret
        exact ⟨ret_int ((fl_wide h1 h2 h3).symm.trans HR.out), HB2.out⟩
      · cases h4 : inB y 0 100
        · go_wp2_with (first | (go_at_call 129; refine (validWide_any _ _).mono ?_; rintro e w' ⟨rfl, rfl⟩; simp only [h3]) | (go_at_call 116; refine (between_any _ _ _ _).mono ?_; rintro e w' ⟨rfl, rfl⟩; simp only [h4]))
          go_ret
          exact ⟨ret_int ((fl_slack h1 h2 h4).symm.trans HR.out), HB2.out⟩
        · have HG2 := hide (HGW.out.below hb12)
          go_wp2_with (first | (go_at_call 129; refine (validWide_any _ _).mono ?_; rintro e w' ⟨rfl, rfl⟩; simp only [h3]) | (go_at_call 116; refine (between_any _ _ _ _).mono ?_; rintro e w' ⟨rfl, rfl⟩; simp only [h4]))
          refine (HPl.out _ HG2.out).mono ?_
          rintro e w3 ⟨rfl, hb3⟩
          have hb13 := hb12.trans (hb3.mono hb12.size)
          have e30 : w3.cell? ⟨w.heap.size, 30, none⟩ = some (.string r) := (hb13.cell (p := ⟨w.heap.size, 30, none⟩) hs0).trans c30
          clear c29 c30 c31 c32 d29 d31 d32
          cases h5 : partB l.data.toList
          · go_wp2
            go_ret
            exact ⟨ret_int ((fl_left h1 h2 h3 h4 h5).symm.trans HR.out), hb0.trans (hb13.mono hb0.size)⟩
          · have HG3 := hide (HG2.out.below hb3)
            go_wp2_with fail
            refine (HPr.out _ HG3.out).mono ?_
            rintro e w4 ⟨rfl, hb4⟩
            have hb14 := hb13.trans (hb4.mono hb13.size)
            clear e30
            cases h6 : partB r.data.toList
            · go_wp2
              go_ret
              exact ⟨ret_int ((fl_right h1 h2 h3 h4 h6).symm.trans HR.out), hb0.trans (hb14.mono hb0.size)⟩
            · go_wp2
              go_ret
              exact ⟨ret_int ((fl_ok h1 h2 h3 h4 h5 h6).symm.trans HR.out), hb0.trans (hb14.mono hb0.size)⟩
end Go.Proofs.YtngondeaeipcfaaGreatDoor

namespace Go.Proofs.YtngondeaeipcfaaGreatDoor
open Go.RowKit

theorem wpList_build_eq {P : Program} {ops : Array Oper} {rest : List Oper} {o : Oper} {a : Act} {w : World} {Q : Exit → Act → World → Prop} {vs : List (Nat × Value)} {cells : Array Value} (hg : o.guard = none) (t : TypeId) (parts : Array (Nat × Operand)) (ho : o.op = .build t parts)
    (hb : P.built t vs = some cells) (hvs : (parts.map fun (i, x) => (i, a.eval x)).toList = vs) (h : wpList P ops Q rest (a.put o.dst (.agg cells)) w) : wpList P ops Q (o :: rest) a w := by
  subst hvs; exact wpList_build hg t parts ho (by rw [hb]; rfl) (by rw [hb]; exact h)
set_option maxRecDepth 100000 in
theorem built_bl' : ∀ (W : List Int) (_ : W.length = 26) (sp gp : Int) (ps : List (Int × Int × Int)) (sl : Value) (l r : ByteArray) (x y : Int),
    Tryz.prog.built 164 [(0, .agg (fc ⟨W, sp, gp, ps⟩ sl).toArray), (1, .string l), (2, .string r), (3, .int .i64 x), (4, .int .i64 y)] = some (blc ⟨W, sp, gp, ps⟩ sl l r x y).toArray
  | [a0, a1, a2, a3, a4, a5, a6, a7, a8, a9, a10, a11, a12, a13, a14, a15, a16, a17, a18, a19, a20, a21, a22, a23, a24, a25], _, sp, gp, ps, sl, l, r, x, y => by kernel_rfl
theorem built_bl {F : Fc} (h : F.W.length = 26) (sl : Value) (l r : ByteArray) (x y : Int) :
    Tryz.prog.built 164 [(0, .agg (fc F sl).toArray), (1, .string l), (2, .string r), (3, .int .i64 x), (4, .int .i64 y)] = some (blc F sl l r x y).toArray := built_bl' F.W h F.sp F.gp F.ps sl l r x y
theorem blc_one (F : Fc) (A : Option Addr) (n c : Nat) (l r : ByteArray) (x y : Int) : (blc F (.slice A n c) l r x y).toArray.all (·.oneCell') = true :=
  all_oneCell_toArray (by
    intro v hv
    simp [blc, fc, wc] at hv
    rcases hv with ⟨a, _, rfl⟩ | rfl | rfl | rfl | rfl | rfl | rfl | rfl <;> rfl)

/-- Word number x fits. -/
noncomputable def fwP (F : Fc) (l r : ByteArray) (xs : List ByteArray) (x y : Int) (i : Int) : Bool := filB F (l ++ xs.getD i.toNat ⟨#[]⟩ ++ r).data.toList x y
noncomputable def fwR (F : Fc) (l r : ByteArray) (xs : List ByteArray) (x y : Int) : List Int := if flC F l.data.toList r.data.toList xs x y = 0 then (idxL xs.length).filter (fwP F l r xs x y) else []
theorem fw_no {F : Fc} {l r : ByteArray} {xs : List ByteArray} {x y : Int} (h : flC F l.data.toList r.data.toList xs x y ≠ 0) : fwR F l r xs x y = [] := by unfold fwR; rw [if_neg h]
theorem fw_ok {F : Fc} {l r : ByteArray} {xs : List ByteArray} {x y : Int} (h : flC F l.data.toList r.data.toList xs x y = 0) : fwR F l r xs x y = (idxL xs.length).filter (fwP F l r xs x y) := by unfold fwR; rw [if_pos h]
theorem fwR_len (F : Fc) (l r : ByteArray) (xs : List ByteArray) (x y : Int) : (fwR F l r xs x y).length ≤ 1048577 := by
  unfold fwR
  split
  · rename_i h
    have := (vlist_true.1 (fl_zero h).2.1).1
    exact Nat.le_trans (List.length_filter_le _ _) (by rw [idxL_len]; omega)
  · simp

set_option maxRecDepth 100000 in
set_option maxHeartbeats 4000000 in
theorem fillW1_any (F : Fc) (hF : F.ok) (A : Option Addr) (c : Nat) (P Q : Nat) (l r m : ByteArray) (x y : Int) (b o n ct k : Nat) (w : World) (hl : l.size ≤ 1048576) (hr : r.size ≤ 1048576) (hm : m.size ≤ 1048576) (hv : vface F = true) (hx : inB x 0 4000 = true) (hk : k < n)
    (hP : w.rangeAt P 0 (blc F (.slice A F.ps.length c) l r x y)) (hPl : P < w.heap.size) (hQ : w.cell? ⟨Q, 0, none⟩ = some (.slice (some ⟨b, o, none⟩) n ct)) (hc : w.cell? ⟨b, o + k, none⟩ = some (.string m)) (hA : PairsAt w w.heap.size A F.ps) :
    Calls Tryz.prog 160 #[.int .i64 (k : Int), .pointer (some ⟨P, 0, none⟩), .pointer (some ⟨Q, 0, none⟩)] w fun e w' => e = .returned (.bool (filB F (l ++ m ++ r).data.toList x y)) ∧ Below w.heap.size w w' := by
  have hi : (k : Int) < n := by omega
  have h0 : (0 : Int) ≤ k := by omega
  have HI33 := hide (show (Tryz.prog.info? 164).map (·.size) = some (blc F (.slice A F.ps.length c) l r x y).length from by rw [blc_len hF.len]; kernel_rfl)
  have HFI := hide (fun W (hW : Below w.heap.size w W) => fits_any F hF A c l r m x y W hl hr hm hv hx (hA.go hW (Nat.le_refl _)))
  have HRO := hide (fun w' (h : ∃ s : Over w, w' = s.w) => over_row hP hPl w' h)
  have cQ := Over.get hQ
  have cc := Over.get hc
  generalize filB F (l ++ m ++ r).data.toList x y = R at *
  generalize hcs : blc F (.slice A F.ps.length c) l r x y = cs at *
  clear hP hQ hc hA
  go_enter Tryz.func160, Tryz.ntmps160
  go_wp2
  refine wp_region_over (by kernel_rfl) (by kernel_rfl) ?_
  repeat (first | (refine wpQuiet_load_row rfl 164 (.tmp 1) rfl _ 0 rfl _ _ HRO.out Tryz.underlying164 rfl HI33.out ?_; simp only [Act.put, List.setIfInBounds_toArray, List.set_cons_zero, List.set_cons_succ]) | go_big_quiet_step ((go_at_call 161; exact over_call (HFI.out _ (Over.h _)))))
  refine wpQuiet_nil ?_
  intro w1 hb1
  go_wp2
  go_ret
  exact ⟨rfl, hb1⟩


set_option maxRecDepth 100000 in
set_option maxHeartbeats 8000000 in
theorem implFillWord_any (F : Fc) (hF : F.ok) (A : Option Addr) (c : Nat) (l : ByteArray) (hl : l.size ≤ 1048576) (r : ByteArray) (hr : r.size ≤ 1048576) (T : Option Addr) (ts : List ByteArray) (ct : Nat) (htn : ts.length ≤ maxLen) (htx : ∀ x ∈ ts, x.size ≤ maxLen) (x y : Int) (w : World) (hG : Glob w) (hA : PairsAt w w.heap.size A F.ps) (hT : StrsAt w w.heap.size T ts) :
    Calls Tryz.prog 60 #[.agg (fc F (.slice A F.ps.length c)).toArray, .string l, .string r, .slice T ts.length ct, .int .i64 x, .int .i64 y] w (IntsBack (fwR F l r ts x y) (flC F l.data.toList r.data.toList ts x y) w) := by
  have hW := hide hF.len
  have HI29 := hide (show (Tryz.prog.info? 28).map (·.size) = some (fc F (.slice A F.ps.length c)).length from by rw [fc_length hW.out]; kernel_rfl)
  have HI33 := hide (show (Tryz.prog.info? 164).map (·.size) = some (blc F (.slice A F.ps.length c) l r x y).length from by rw [blc_len hW.out]; kernel_rfl)
  have hbt := built_bl hW.out (.slice A F.ps.length c) l r x y
  have hone := blc_one F A F.ps.length c l r x y
  have r0 := rangeAt_new w (fc F (.slice A F.ps.length c)) 28
  have r0' := World.rangeAt_alloc r0 (.cells #[.slice T ts.length ct] 36)
  have r1 := rangeAt_newg (w := w.alloc (.cells (fc F (.slice A F.ps.length c)).toArray 28)) (cs := #[.slice T ts.length ct]) (t := 36) (g := w.heap.size + 1) (l := [.slice T ts.length ct]) (by simp) rfl
  have t3 : (((w.alloc (.cells (fc F (.slice A F.ps.length c)).toArray 28)).alloc (.cells #[.slice T ts.length ct] 36)).alloc (.cells #[.int .i8 0, .int .i8 0, .int .i8 0, .int .i8 0, .int .i8 0, .int .i8 0, .int .i8 0, .int .i8 0, .int .i8 0, .int .i8 0, .int .i8 0, .int .i8 0, .int .i8 0, .int .i8 0, .int .i8 0, .int .i8 0, .int .i8 0, .int .i8 0, .int .i8 0, .int .i8 0, .int .i8 0, .int .i8 0, .int .i8 0, .int .i8 0, .int .i8 0, .int .i8 0, .int .i8 0, .int .i8 0, .slice none 0 0, .string ⟨#[]⟩, .string ⟨#[]⟩, .int .i64 0, .int .i64 0] 164)).there (w.heap.size + 1 + 1) 0 33 := there_newg (by simp) rfl
  have t3' : (((w.alloc (.cells (fc F (.slice A F.ps.length c)).toArray 28)).alloc (.cells #[.slice T ts.length ct] 36)).alloc (.cells #[.int .i8 0, .int .i8 0, .int .i8 0, .int .i8 0, .int .i8 0, .int .i8 0, .int .i8 0, .int .i8 0, .int .i8 0, .int .i8 0, .int .i8 0, .int .i8 0, .int .i8 0, .int .i8 0, .int .i8 0, .int .i8 0, .int .i8 0, .int .i8 0, .int .i8 0, .int .i8 0, .int .i8 0, .int .i8 0, .int .i8 0, .int .i8 0, .int .i8 0, .int .i8 0, .int .i8 0, .int .i8 0, .slice none 0 0, .string ⟨#[]⟩, .string ⟨#[]⟩, .int .i64 0, .int .i64 0] 164)).there (w.heap.size + 1 + 1) 0 (blc F (.slice A F.ps.length c) l r x y).toArray.size := by
    have e : (blc F (.slice A F.ps.length c) l r x y).toArray.size = 33 := by rw [List.size_toArray, blc_len hW.out]
    rw [e]; exact t3
  obtain ⟨W3, hW3⟩ : ∃ W3, W3 = (((w.alloc (.cells (fc F (.slice A F.ps.length c)).toArray 28)).alloc (.cells #[.slice T ts.length ct] 36)).alloc (.cells #[.int .i8 0, .int .i8 0, .int .i8 0, .int .i8 0, .int .i8 0, .int .i8 0, .int .i8 0, .int .i8 0, .int .i8 0, .int .i8 0, .int .i8 0, .int .i8 0, .int .i8 0, .int .i8 0, .int .i8 0, .int .i8 0, .int .i8 0, .int .i8 0, .int .i8 0, .int .i8 0, .int .i8 0, .int .i8 0, .int .i8 0, .int .i8 0, .int .i8 0, .int .i8 0, .int .i8 0, .int .i8 0, .slice none 0 0, .string ⟨#[]⟩, .string ⟨#[]⟩, .int .i64 0, .int .i64 0] 164)).setCells (w.heap.size + 1 + 1) 0 (blc F (.slice A F.ps.length c) l r x y).toArray.toList := ⟨_, rfl⟩
  have hb3 : Below w.heap.size w W3 := by rw [hW3]; exact below_setCells _ _ _ _ ((((Below.refl _ _).alloc (Nat.le_refl _) _).alloc (by simp) _).alloc (by simp only [World.size_alloc]; omega) _) (by omega)
  have hs3 : w.heap.size + 1 + 1 < W3.heap.size := by rw [hW3, size_setCells]; simp
  have q3 : W3.rangeAt (w.heap.size + 1 + 1) 0 (blc F (.slice A F.ps.length c) l r x y) := by rw [hW3]; exact World.rangeAt_setCells_same _ _ _ _ t3'
  have q2 : W3.cell? ⟨w.heap.size + 1, 0, none⟩ = some (.slice T ts.length ct) := by
    rw [hW3]
    have h := World.rangeAt_alloc r1 (.cells #[.int .i8 0, .int .i8 0, .int .i8 0, .int .i8 0, .int .i8 0, .int .i8 0, .int .i8 0, .int .i8 0, .int .i8 0, .int .i8 0, .int .i8 0, .int .i8 0, .int .i8 0, .int .i8 0, .int .i8 0, .int .i8 0, .int .i8 0, .int .i8 0, .int .i8 0, .int .i8 0, .int .i8 0, .int .i8 0, .int .i8 0, .int .i8 0, .int .i8 0, .int .i8 0, .int .i8 0, .int .i8 0, .slice none 0 0, .string ⟨#[]⟩, .string ⟨#[]⟩, .int .i64 0, .int .i64 0] 164)
    exact (World.rangeAt_setCells_apart (b' := w.heap.size + 1) (o' := 0) h (w.heap.size + 1 + 1) 0 _ (.inl (Nat.ne_of_lt (Nat.lt_succ_self _)))) 0 _ rfl
  have HW3 := hide hW3
  have HA3 := hide ((hA.below hb3).mono hb3.size)
  have HT3 := hide ((hT.below hb3).mono hb3.size)
  have HG3 := hide (hG.below hb3)
  have HCK := hide (fun W h1 h2 h3 => checkB_any F hF A c l r x y T ts ct W hl hr htn htx h1 h2 h3)
  clear hW3 r1
  by_cases hcode : flC F l.data.toList r.data.toList ts x y = 0
  · rw [fw_ok hcode]
    obtain ⟨z1, z2, z3, _, _, _⟩ := fl_zero hcode
    obtain ⟨hl12, hall⟩ := vlist_true.1 z2
    have HTH := hide (fun B (cb : Nat) W (hWW : Below W3.heap.size W3 W) (hB : IntsAt W W.heap.size B (idxL ts.length)) =>
      thoseI_any 160 (enters_of Tryz.func160 (by kernel_rfl) rfl) (w.heap.size + 1 + 1) (w.heap.size + 1) (fwP F l r ts x y) B (idxL ts.length) cb W (by rw [idxL_len]; omega) hB
        (fun i hi V hV => by
          obtain ⟨k, hk, rfl⟩ := idxL_mem hi
          have hBV := hWW.trans (hV.mono hWW.size)
          obtain ⟨b, o, rfl, hb, hxs⟩ := HT3.out (by intro e; rw [e] at hk; simp at hk)
          have hxk := List.getElem?_eq_getElem hk
          have hget : fwP F l r ts x y (k : Int) = filB F (l ++ ts[k] ++ r).data.toList x y := by unfold fwP; rw [show ts.getD ((k : Nat) : Int).toNat ⟨#[]⟩ = ts[k] from by simp [List.getD, hxk]]
          rw [hget]
          have hms := (lw_true (lw_mem hall (List.getElem_mem hk))).2.1
          exact fillW1_any F hF A c (w.heap.size + 1 + 1) (w.heap.size + 1) l r _ x y b o ts.length ct k V hl hr (by omega) z1 z3 hk (rangeAt_below q3 hBV hs3) (Nat.lt_of_lt_of_le hs3 hBV.size)
            ((hBV.cell (p := ⟨w.heap.size + 1, 0, none⟩) (show w.heap.size + 1 < W3.heap.size by omega)).trans q2) ((hBV.cell (p := ⟨b, o + k, none⟩) hb).trans (hxs k _ hxk)) (HA3.out.go hBV (Nat.le_refl _))))
    have HID := hide (fun W => indicesS_any T ts.length ct W (by omega))
    have HIL := hide (idxL_len ts.length)
    rw [idxL_len] at HTH
    rw [hcode] at HCK ⊢
    clear hA hT hG htn htx
    generalize hcs : blc F (.slice A F.ps.length c) l r x y = cs at *
    go_enter Tryz.func60, Tryz.ntmps60
    repeat (first | (refine wpList_load_mid rfl 28 (.tmp 6) rfl _ 0 rfl (fc F (.slice A F.ps.length c)) _ r0' Tryz.underlying28 rfl HI29.out ?_) | (refine wpList_build_eq rfl 164 _ rfl hbt (by first | (simp only [List.map_toArray, List.map_cons, List.map_nil]; rfl) | kernel_rfl) ?_) | (refine wpList_store_mid rfl 164 (.tmp 14) (.tmp 21) rfl (w.heap.size + 1 + 1) 0 cs.toArray rfl rfl t3' HI33.out hone ?_; rw [← HW3.out]) | (refine wpList_load_mid rfl 164 (.tmp 14) rfl _ 0 rfl cs _ q3 Tryz.underlying164 rfl HI33.out ?_) | go_step)
    refine (HCK.out _ HG3.out HA3.out HT3.out).mono ?_
    rintro e w4 ⟨rfl, hb4⟩
    have q2' : w4.cell? ⟨w.heap.size + 1, 0, none⟩ = some (.slice T ts.length ct) := (hb4.cell (p := ⟨w.heap.size + 1, 0, none⟩) (show w.heap.size + 1 < W3.heap.size by omega)).trans q2
    clear r0 r0' t3 t3' q2
    go_wp2_with fail
    refine (HID.out _).mono ?_
    rintro e w5 ⟨A5, c5, rfl, hc5, hI5, hb5⟩
    rw [HIL.out] at hc5 ⊢
    have hB35 := hb4.trans (hb5.mono hb4.size)
    have hB5 := hb3.trans (hB35.mono hb3.size)
    clear q2' hb4 hb5
    go_wp2_with fail
    refine (HTH.out A5 c5 w5 hB35 hI5.at_).mono ?_
    rintro e w6 ⟨A6, c6, rfl, hc6, hI6, hb6⟩
    go_wp2
    go_ret2
    exact ⟨A6, c6, rfl, hI6.wider hB5.size, hB5.trans (hb6.mono hB5.size)⟩
  · rw [fw_no hcode]
    have hd : (flC F l.data.toList r.data.toList ts x y != 0) = true := by simpa using hcode
    have HNE := hide hcode
    clear hA hT hG htn htx hcode
    generalize flC F l.data.toList r.data.toList ts x y = C at *
    generalize hcs : blc F (.slice A F.ps.length c) l r x y = cs at *
    go_enter Tryz.func60, Tryz.ntmps60
    repeat (first | (refine wpList_load_mid rfl 28 (.tmp 6) rfl _ 0 rfl (fc F (.slice A F.ps.length c)) _ r0' Tryz.underlying28 rfl HI29.out ?_) | (refine wpList_build_eq rfl 164 _ rfl hbt (by first | (simp only [List.map_toArray, List.map_cons, List.map_nil]; rfl) | kernel_rfl) ?_) | (refine wpList_store_mid rfl 164 (.tmp 14) (.tmp 21) rfl (w.heap.size + 1 + 1) 0 cs.toArray rfl rfl t3' HI33.out hone ?_; rw [← HW3.out]) | (refine wpList_load_mid rfl 164 (.tmp 14) rfl _ 0 rfl cs _ q3 Tryz.underlying164 rfl HI33.out ?_) | go_step)
    refine (HCK.out _ HG3.out HA3.out HT3.out).mono ?_
    rintro e w4 ⟨rfl, hb4⟩
    clear r0 r0' t3 t3' q2
    go_wp2
    go_ret2
    exact ⟨none, 0, rfl, IntsIn.empty _ _ _, hb3.trans (hb4.mono hb3.size)⟩
end Go.Proofs.YtngondeaeipcfaaGreatDoor
