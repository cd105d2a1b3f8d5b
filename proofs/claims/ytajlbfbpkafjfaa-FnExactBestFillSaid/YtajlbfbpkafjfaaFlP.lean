/- A line in which something is missing: as plain data; the model's tests of it. -/
import Derived.Test.YtajlbfbpkafjfaaIvSA
import Derived.Test.YtajlbfbpkafjfaaCentreS
namespace Go.Proofs.Ytajlbfbpkafjfaa
open Go.RowKit

def lineC (b : Int) : Bool := cap b || b == 32
/-- A side of the gap. -/
def partB (L : List UInt8) : Bool := allOn lineC L && !(Lib.contains L [32, 32])
theorem occ2 {L : List UInt8} {i : Nat} : Lib.occAt L [32, 32] i = true ↔ i + 1 < L.length ∧ byteAt L i = 32 ∧ byteAt L (i + 1) = 32 := by
  unfold Lib.occAt
  constructor
  · intro h
    have hp := List.isPrefixOf_iff_prefix.1 h
    obtain ⟨t, ht⟩ := hp
    have h0 : L[i]? = some 32 := by have := congrArg (fun l => l[0]?) ht; simpa [List.getElem?_drop] using this.symm
    have h1 : L[i + 1]? = some 32 := by have := congrArg (fun l => l[1]?) ht; simpa [List.getElem?_drop] using this.symm
    have hl := (List.getElem?_eq_some_iff.1 h1).1
    exact ⟨hl, by simp [byteAt, List.getD, h0], by simp [byteAt, List.getD, h1]⟩
  · rintro ⟨h, h0, h1⟩
    have e0 := (byteAt_32 (L := L) (k := i)).2 ⟨by omega, h0⟩
    have e1 := (byteAt_32 (L := L) (k := i + 1)).2 ⟨h, h1⟩
    rw [List.isPrefixOf_iff_prefix]
    refine ⟨L.drop (i + 2), ?_⟩
    rw [List.drop_eq_getElem_cons (by omega : i < L.length), List.drop_eq_getElem_cons h]
    rw [List.getElem?_eq_getElem (by omega)] at e0
    rw [List.getElem?_eq_getElem h] at e1
    injection e0 with e0; injection e1 with e1
    rw [e0, e1]; rfl
theorem contains2 {L : List UInt8} : Lib.contains L [32, 32] = true ↔ ∃ i, i + 1 < L.length ∧ byteAt L i = 32 ∧ byteAt L (i + 1) = 32 := by
  unfold Lib.contains
  rw [decide_eq_true_eq]
  rcases Lib.index_spec L [32, 32] with ⟨h1, h2⟩ | ⟨i, h1, h2, h3, _⟩
  · constructor
    · intro h; omega
    · rintro ⟨i, hi⟩
      have := h2 i (by omega)
      rw [occ2.2 hi] at this; cases this
  · exact ⟨fun _ => ⟨i, occ2.1 h3⟩, fun _ => by omega⟩
/-- The byte at place i may stand so in a side. -/
def pgood (L : List UInt8) (i : Nat) : Bool := lineC (byteAt L i) && !(decide (0 < i) && (byteAt L i == 32) && (byteAt L (i - 1) == 32))
theorem partB_true {L : List UInt8} : partB L = true ↔ ∀ i, i < L.length → pgood L i = true := by
  unfold partB
  rw [Bool.and_eq_true, allOn_true, Bool.not_eq_true', ← Bool.not_eq_true, contains2]
  constructor
  · rintro ⟨h1, h2⟩ i hi
    unfold pgood
    rw [h1 i hi, Bool.true_and, Bool.not_eq_true']
    rw [← Bool.not_eq_true]
    simp only [Bool.and_eq_true, decide_eq_true_eq, beq_iff_eq]
    rintro ⟨⟨h3, h4⟩, h5⟩
    exact h2 ⟨i - 1, by omega, h5, by rw [show i - 1 + 1 = i by omega]; exact h4⟩
  · intro h
    refine ⟨fun i hi => ?_, ?_⟩
    · have := h i hi
      unfold pgood at this
      rw [Bool.and_eq_true] at this
      exact this.1
    · rintro ⟨i, hi, h1, h2⟩
      have := h (i + 1) hi
      unfold pgood at this
      simp [h1, h2] at this
theorem partB_false {L : List UInt8} {k : Nat} (hk : k < L.length) (h : pgood L k = false) : partB L = false := by
  rw [← Bool.not_eq_true, partB_true]
  intro h'
  rw [h' k hk] at h; cases h
/-- The code of a broken line. -/
noncomputable def flC (F : Fc) (l r : List UInt8) (xs : List ByteArray) (x y : Int) : Int :=
  if (vface F && vlist xs) = true then if (inB x 0 4000 && inB y 0 100) = true then if (partB l && partB r) = true then 0 else 5 else 2 else 1
/-- By how much the width differs. -/
noncomputable def offI (F : Fc) (L : List UInt8) (x : Int) : Int := max (lineL F (wordsL L) - x) (-(lineL F (wordsL L) - x))
noncomputable def filB (F : Fc) (L : List UInt8) (x y : Int) : Bool := vtext L && decide (offI F L x ≤ y)
noncomputable def offV (F : Fc) (L : List UInt8) (x : Int) : Int := if vtext L = true then offI F L x else 0
noncomputable def offS (F : Fc) (L : List UInt8) (x : Int) : Int := if vtext L = true then offI F L x else -1
theorem offI_bd {F : Fc} (hF : F.ok) (hv : vface F = true) {L : List UInt8} (ht : vtext L = true) {x : Int} (hx : inB x 0 4000 = true) :
    0 ≤ lineL F (wordsL L) ∧ lineL F (wordsL L) ≤ 222040 ∧ 0 ≤ x ∧ x ≤ 4000 ∧ 0 ≤ offI F L x := by
  obtain ⟨h1, h2⟩ := lineL_bd hF hv (fun y hy => words_mem ht hy) (words_len ht)
  obtain ⟨h3, h4⟩ := inB_true.1 hx
  exact ⟨h1, h2, h3, h4, by unfold offI; omega⟩
theorem fit_spec {F : Fc} (hF : F.ok) (hv : vface F = true) {L : List UInt8} {x : Int} (hx : inB x 0 4000 = true) (y : Int) : inB (offS F L x) 0 y = filB F L x y := by
  unfold filB offS
  cases ht : vtext L
  · simp [inB]
  · have := (offI_bd hF hv ht hx).2.2.2.2
    simp [inB, this]

set_option maxRecDepth 100000 in
set_option maxHeartbeats 8000000 in
theorem l04Part_any (s : ByteArray) (w : World) (hs : s.size ≤ maxLen) :
    Calls Try.prog 132 #[.string s] w fun e w' => e = .returned (.bool (partB s.data.toList)) ∧ w = w' := by
  unfold maxLen at hs
  have hL : s.data.toList.length = s.size := by simp
  have HL := hide hL
  have HPT := hide (@partB_true s.data.toList).2
  have HPF := hide (fun k => @partB_false s.data.toList k)
  generalize hS : partB s.data.toList = S at *
  rw [hL] at HPT HPF
  clear hS hL
  go_enter Try.func132, Try.ntmps132
  go_wp2
  go_loop [3] (fun i => ∃ k : Nat, k ≤ s.size ∧ i = .int .i64 k ∧ Hid (∀ j, j < k → pgood s.data.toList j = true)) (fun i => s.size - (intOf i).toNat)
  case atStart => exact ⟨0, Nat.zero_le _, rfl, hide (fun j hj => by omega)⟩
  case round =>
    obtain ⟨k, hk, rfl, hg⟩ := hrel
    by_cases hlt : k < s.size
    · have hi : (k : Int) < s.size := by omega
      have h0 : (0 : Int) ≤ k := by omega
      have HB := hide (byteAt_get s k hlt)
      have HGO := hide (fun (hw : pgood s.data.toList k = true) => (fun j hj => by
          by_cases e : j = k
          · subst e; exact hw
          · exact hg.out j (by omega) : ∀ j, j < k + 1 → pgood s.data.toList j = true))
      cases hd : ((s[k].toNat : Int) == 32)
      · have hdn : ((s[k].toNat : Int) != 32) = true := by simp [bne, hd]
        cases hc : cap (s[k].toNat : Int)
        · have HNO := hide (HPF.out k hlt (by unfold pgood lineC; rw [← HB.out, hc, hd]; rfl))
          go_wp2_with (go_at_call 122; refine (l01Letter_any _ _).mono ?_; rintro e w' ⟨rfl, rfl⟩; simp only [hc])
          go_ret
          exact ⟨ret_bool HNO.out.symm, rfl⟩
        · have HS := hide (HGO.out (by unfold pgood lineC; rw [← HB.out, hc, hd]; simp))
          by_cases hk0 : k = 0
          · have hz : decide ((0 : Int) < k) = false := by simp; omega
            have hz' : decide (0 < k) = false := by simp; omega
            have HK := hide hk0
            clear hk0
            go_wp2_with (go_at_call 122; refine (l01Letter_any _ _).mono ?_; rintro e w' ⟨rfl, rfl⟩; simp only [hc])
            exact ⟨⟨k + 1, by omega, by go_num, HS⟩, by simp [intOf] <;> omega⟩
          · have hz : decide ((0 : Int) < k) = true := by simp; omega
            have hz' : decide (0 < k) = true := by simp; omega
            have j3 := IntWalk.i64_in ((k : Int) - 1) ⟨by omega, by omega⟩
            go_wp2_with (go_at_call 122; refine (l01Letter_any _ _).mono ?_; rintro e w' ⟨rfl, rfl⟩; simp only [hc])
            exact ⟨⟨k + 1, by omega, by go_num, HS⟩, by simp [intOf] <;> omega⟩
      · have hdn : ((s[k].toNat : Int) != 32) = false := by simp [bne, hd]
        by_cases hk0 : k = 0
        · have HS := hide (HGO.out (by unfold pgood lineC; rw [← HB.out, hd]; simp [hk0]))
          have hz : decide ((0 : Int) < k) = false := by simp; omega
          have hz' : decide (0 < k) = false := by simp; omega
          have HK := hide hk0
          clear hk0
          go_wp2
          exact ⟨⟨k + 1, by omega, by go_num, HS⟩, by simp [intOf] <;> omega⟩
        · obtain ⟨m, rfl⟩ : ∃ m, k = m + 1 := ⟨k - 1, by omega⟩
          have hz : decide ((0 : Int) < ((m + 1 : Nat) : Int)) = true := by rw [decide_eq_true_eq]; omega
          have hz' : decide (0 < m + 1) = true := by simp
          have hms : m < s.size := by omega
          have HB2 := hide (byteAt_get s m hms)
          have j0 : (0 : Int) ≤ m := by omega
          have j1 : (m : Int) < s.size := by omega
          have j3 := IntWalk.i64_in ((m : Int)) ⟨by omega, by omega⟩
          cases he : ((s[m].toNat : Int) == 32)
          · have HS := hide (HGO.out (by
              unfold pgood lineC
              have : byteAt s.data.toList (m + 1 - 1) = (s[m].toNat : Int) := HB2.out.symm
              rw [this, ← HB.out, hd, he]; simp))
            go_wp2
            exact ⟨⟨m + 1 + 1, by omega, by go_num, HS⟩, by simp [intOf] <;> omega⟩
          · have HNO := hide (HPF.out (m + 1) hlt (by
              unfold pgood lineC
              have : byteAt s.data.toList (m + 1 - 1) = (s[m].toNat : Int) := HB2.out.symm
              rw [this, ← HB.out, hd, he]; simp))
            go_wp2
            go_ret
            exact ⟨ret_bool HNO.out.symm, rfl⟩
    · have HA := hide (HPT.out (fun j hj => hg.out j (by omega)))
      have hk' : k = s.size := by omega
      clear hg
      go_wp2
      go_ret
      exact ⟨ret_bool HA.out.symm, rfl⟩

set_option maxHeartbeats 1000000 in
theorem l00Max_any (a b : Int) (w : World) : Calls Try.prog 135 #[.int .i64 a, .int .i64 b] w fun e w' => e = .returned (.int .i64 (max a b)) ∧ w = w' := by
  by_cases h : b < a
  · have hm : max a b = a := by omega
    have HM := hide hm
    clear hm
    go_enter Try.func135, Try.ntmps135
    go_wp2
    go_ret
    exact ⟨ret_int HM.out.symm, rfl⟩
  · have hm : max a b = b := by omega
    have HM := hide hm
    clear hm
    go_enter Try.func135, Try.ntmps135
    go_wp2
    go_ret
    exact ⟨ret_int HM.out.symm, rfl⟩

theorem fl_face {F : Fc} {l r : List UInt8} {xs : List ByteArray} {x y : Int} (h : vface F = false) : flC F l r xs x y = 1 := by unfold flC; rw [h]; rfl
theorem fl_list {F : Fc} {l r : List UInt8} {xs : List ByteArray} {x y : Int} (h : vlist xs = false) : flC F l r xs x y = 1 := by unfold flC; rw [h, Bool.and_false]; rfl
theorem fl_wide {F : Fc} {l r : List UInt8} {xs : List ByteArray} {x y : Int} (h : vface F = true) (h1 : vlist xs = true) (h2 : inB x 0 4000 = false) : flC F l r xs x y = 2 := by unfold flC; rw [h, h1, h2]; rfl
theorem fl_slack {F : Fc} {l r : List UInt8} {xs : List ByteArray} {x y : Int} (h : vface F = true) (h1 : vlist xs = true) (h2 : inB y 0 100 = false) : flC F l r xs x y = 2 := by unfold flC; rw [h, h1, h2, Bool.and_false]; rfl
theorem fl_left {F : Fc} {l r : List UInt8} {xs : List ByteArray} {x y : Int} (h : vface F = true) (h1 : vlist xs = true) (h2 : inB x 0 4000 = true) (h3 : inB y 0 100 = true) (h4 : partB l = false) : flC F l r xs x y = 5 := by unfold flC; rw [h, h1, h2, h3, h4]; rfl
theorem fl_right {F : Fc} {l r : List UInt8} {xs : List ByteArray} {x y : Int} (h : vface F = true) (h1 : vlist xs = true) (h2 : inB x 0 4000 = true) (h3 : inB y 0 100 = true) (h4 : partB r = false) : flC F l r xs x y = 5 := by unfold flC; rw [h, h1, h2, h3, h4, Bool.and_false]; rfl
theorem fl_ok {F : Fc} {l r : List UInt8} {xs : List ByteArray} {x y : Int} (h : vface F = true) (h1 : vlist xs = true) (h2 : inB x 0 4000 = true) (h3 : inB y 0 100 = true) (h4 : partB l = true) (h5 : partB r = true) : flC F l r xs x y = 0 := by unfold flC; rw [h, h1, h2, h3, h4, h5]; rfl
theorem fl_zero {F : Fc} {l r : List UInt8} {xs : List ByteArray} {x y : Int} (h : flC F l r xs x y = 0) : vface F = true ∧ vlist xs = true ∧ inB x 0 4000 = true ∧ inB y 0 100 = true ∧ partB l = true ∧ partB r = true := by
  unfold flC at h
  split at h
  · split at h
    · split at h
      · simp only [Bool.and_eq_true] at *
        rename_i a b c
        exact ⟨a.1, a.2, b.1, b.2, c.1, c.2⟩
      · cases h
    · cases h
  · cases h

set_option maxRecDepth 100000 in
set_option maxHeartbeats 8000000 in
theorem l04Asked_any (F : Fc) (hF : F.ok) (b : Nat) (A : Option Addr) (c : Nat) (l r : ByteArray) (T : Option Addr) (ts : List ByteArray) (ct : Nat) (x y : Int) (w : World) (hl : l.size ≤ maxLen) (hr' : r.size ≤ maxLen) (htn : ts.length ≤ maxLen) (htx : ∀ x ∈ ts, x.size ≤ maxLen)
    (hr : w.rangeAt b 0 (fc F (.slice A F.ps.length c))) (hA : PairsAt w w.heap.size A F.ps) (hT : StrsAt w w.heap.size T ts) :
    Calls Try.prog 73 #[.pointer (some ⟨b, 0, none⟩), .string l, .string r, .slice T ts.length ct, .int .i64 x, .int .i64 y] w fun e w' => e = .returned (.int .i64 (flC F l.data.toList r.data.toList ts x y)) ∧ Below w.heap.size w w' := by
  have HF := hide (l01Face_any F hF b A c w hr hA)
  have HT := hide (fun W h => l04List_any T ts ct W htn htx h)
  have HPl := hide (fun W => l04Part_any l W hl)
  have HPr := hide (fun W => l04Part_any r W hr')
  have HTW := hide hT
  generalize hR : flC F l.data.toList r.data.toList ts x y = R
  have HR := hide hR
  clear hR hr hA hT hl hr' htn htx
  generalize ts.length = n at *
  cases h1 : vface F
  · rw [h1] at HF
    go_enter Try.func73, Try.ntmps73
    go_wp2_with (go_at_call 121; refine HF.out.mono ?_; rintro e w1 ⟨rfl, hb1⟩)
    go_ret
    exact ⟨ret_int ((fl_face h1).symm.trans HR.out), hb1⟩
  · rw [h1] at HF
    cases h2 : vlist ts
    · go_enter Try.func73, Try.ntmps73
      go_wp2_with fail
      refine HF.out.mono ?_
      rintro e w1 ⟨rfl, hb1⟩
      go_wp2_with (go_at_call 69; refine (HT.out _ (HTW.out.go hb1)).mono ?_; rintro e w2 ⟨rfl, rfl⟩; simp only [h2])
      go_ret
      exact ⟨ret_int ((fl_list h2).symm.trans HR.out), hb1⟩
    · cases h3 : inB x 0 4000
      · go_enter Try.func73, Try.ntmps73
        go_wp2_with fail
        refine HF.out.mono ?_
        rintro e w1 ⟨rfl, hb1⟩
        go_wp2_with (first | (go_at_call 69; refine (HT.out _ (HTW.out.go hb1)).mono ?_; rintro e w2 ⟨rfl, rfl⟩; simp only [h2]) | (go_at_call 131; refine (l01Room_any _ _).mono ?_; rintro e w2 ⟨rfl, rfl⟩; simp only [h3]))
        go_ret
        exact ⟨ret_int ((fl_wide h1 h2 h3).symm.trans HR.out), hb1⟩
      · cases h4 : inB y 0 100
        · go_enter Try.func73, Try.ntmps73
          go_wp2_with fail
          refine HF.out.mono ?_
          rintro e w1 ⟨rfl, hb1⟩
          go_wp2_with (first | (go_at_call 69; refine (HT.out _ (HTW.out.go hb1)).mono ?_; rintro e w2 ⟨rfl, rfl⟩; simp only [h2]) | (go_at_call 131; refine (l01Room_any _ _).mono ?_; rintro e w2 ⟨rfl, rfl⟩; simp only [h3]) | (go_at_call 74; refine (l00In_any _ _ _ _).mono ?_; rintro e w2 ⟨rfl, rfl⟩; simp only [h4]))
          go_ret
          exact ⟨ret_int ((fl_slack h1 h2 h4).symm.trans HR.out), hb1⟩
        · go_enter Try.func73, Try.ntmps73
          go_wp2_with fail
          refine HF.out.mono ?_
          rintro e w1 ⟨rfl, hb1⟩
          go_wp2_with (first | (go_at_call 69; refine (HT.out _ (HTW.out.go hb1)).mono ?_; rintro e w2 ⟨rfl, rfl⟩; simp only [h2]) | (go_at_call 131; refine (l01Room_any _ _).mono ?_; rintro e w2 ⟨rfl, rfl⟩; simp only [h3]) | (go_at_call 74; refine (l00In_any _ _ _ _).mono ?_; rintro e w2 ⟨rfl, rfl⟩; simp only [h4]))
          refine (HPl.out _).mono ?_
          rintro e w2 ⟨rfl, rfl⟩
          cases h5 : partB l.data.toList
          · go_wp2
            go_ret
            exact ⟨ret_int ((fl_left h1 h2 h3 h4 h5).symm.trans HR.out), hb1⟩
          · cases h6 : partB r.data.toList
            · go_wp2_with (go_at_call 132; refine (HPr.out _).mono ?_; rintro e w2 ⟨rfl, rfl⟩; simp only [h6])
              go_ret
              exact ⟨ret_int ((fl_right h1 h2 h3 h4 h6).symm.trans HR.out), hb1⟩
            · go_wp2_with (go_at_call 132; refine (HPr.out _).mono ?_; rintro e w2 ⟨rfl, rfl⟩; simp only [h6])
              go_ret
              exact ⟨ret_int ((fl_ok h1 h2 h3 h4 h5 h6).symm.trans HR.out), hb1⟩

set_option maxRecDepth 100000 in
set_option maxHeartbeats 8000000 in
theorem l04Off_any (F : Fc) (hF : F.ok) (b : Nat) (A : Option Addr) (c : Nat) (s : ByteArray) (x : Int) (w : World) (hs : s.size ≤ 1048576 * 4) (hv : vface F = true) (hx : inB x 0 4000 = true)
    (hr : w.rangeAt b 0 (fc F (.slice A F.ps.length c))) (hb : b < w.heap.size) (hA : PairsAt w w.heap.size A F.ps) :
    Calls Try.prog 75 #[.pointer (some ⟨b, 0, none⟩), .string s, .int .i64 x] w fun e w' => e = .returned (.int .i64 (offS F s.data.toList x)) ∧ Below w.heap.size w w' := by
  have HT := hide (fun w => l01Text_any s w (by unfold maxLen; omega))
  have hL : s.data.toList.length = s.size := by simp
  generalize hR : offS F s.data.toList x = R
  have HR := hide hR
  clear hR
  cases ht : vtext s.data.toList
  · have HP : Hid (offS F s.data.toList x = -1) := hide (by unfold offS; rw [ht]; rfl)
    go_enter Try.func75, Try.ntmps75
    go_wp2_with (go_at_call 102; refine (HT.out _).mono ?_; rintro e w2 ⟨rfl, rfl⟩; simp only [ht])
    go_ret
    exact ⟨ret_int (HP.out.symm.trans HR.out), Below.refl _ _⟩
  · have HP : Hid (offS F s.data.toList x = offI F s.data.toList x) := hide (by unfold offS; rw [ht]; rfl)
    obtain ⟨b1, b2, b3, b4, _⟩ := offI_bd hF hv ht hx
    have hsz := (vtext_true.1 ht).1
    have HWd := hide (fun W => l01Words_any s W (by omega))
    have HLI := hide (fun A2 c2 W (hW : Below w.heap.size w W) h => l01Line_any F hF b A c (wordsL s.data.toList) A2 c2 W hv (fun y hy => words_mem ht hy) (words_len ht) (rangeAt_below hr hW hb) (Nat.lt_of_lt_of_le hb hW.size) (hA.go hW (Nat.le_refl _)) h)
    have HO : Hid (offI F s.data.toList x = max (lineL F (wordsL s.data.toList) - x) (-(lineL F (wordsL s.data.toList) - x))) := hide rfl
    have hln : (bas (wordsL s.data.toList)).length = (wordsL s.data.toList).length := by simp [bas]
    have HLN := hide hln
    have e1 := IntWalk.i64_in (lineL F (wordsL s.data.toList) - x) ⟨by omega, by omega⟩
    have e2 := IntWalk.i64_in (-(lineL F (wordsL s.data.toList) - x)) ⟨by omega, by omega⟩
    clear hr hA hL hln
    generalize wordsL s.data.toList = ws at *
    generalize lineL F ws = L at *
    go_enter Try.func75, Try.ntmps75
    go_wp2_with (go_at_call 102; refine (HT.out _).mono ?_; rintro e w2 ⟨rfl, rfl⟩; simp only [ht])
    refine (HWd.out _).mono ?_
    rintro e w1 ⟨A1, c1, rfl, hS1, hb1⟩
    rw [HLN.out]
    go_wp2_with fail
    refine (HLI.out A1 c1 w1 hb1 hS1.at_).mono ?_
    rintro e w2 ⟨rfl, hb2⟩
    go_wp2_with (go_at_call 135; refine (l00Max_any _ _ _).mono ?_; rintro e w3 ⟨rfl, rfl⟩)
    go_ret
    exact ⟨ret_int (by rw [← HR.out, HP.out, HO.out]), hb1.trans (hb2.mono hb1.size)⟩
end Go.Proofs.Ytajlbfbpkafjfaa
