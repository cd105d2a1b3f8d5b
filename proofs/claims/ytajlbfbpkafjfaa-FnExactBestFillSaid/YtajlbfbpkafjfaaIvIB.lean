/- The program's chapter 4: lists of words, worn words, what two of them tell. -/
import Derived.Test.YtajlbfbpkafjfaaIvIA
namespace Go.Proofs.Ytajlbfbpkafjfaa
open Go.RowKit

set_option maxHeartbeats 1000000 in
theorem isListed_any (s : ByteArray) (w : World) (hs : s.size ≤ maxLen) :
    Calls Try.prog 71 #[.string s] w fun e w' => e = .returned (.bool (lw s)) ∧ Below w.heap.size w w' := by
  have hL : s.data.toList.length = s.size := by simp
  have HL := hide hL
  have HC := hide (isWord_any s w hs)
  generalize hS : lw s = S
  have HS := hide hS
  clear hL hs hS
  cases hv : vword s.data.toList
  · rw [hv] at HC
    go_enter Try.func71, Try.ntmps71
    go_wp2_with (go_at_call 130; refine HC.out.mono ?_; rintro e w1 ⟨rfl, hb1⟩)
    go_ret
    exact ⟨ret_bool (by rw [← HS.out]; unfold lw lword; rw [hv]; rfl), hb1⟩
  · rw [hv] at HC
    go_enter Try.func71, Try.ntmps71
    go_wp2_with (go_at_call 130; refine HC.out.mono ?_; rintro e w1 ⟨rfl, hb1⟩)
    go_ret
    exact ⟨ret_bool (by rw [← HS.out]; unfold lw lword; rw [hv, HL.out]; simp; omega), hb1⟩

set_option maxHeartbeats 1000000 in
theorem implValidList_any (A : Option Addr) (xs : List ByteArray) (c : Nat) (hn : xs.length ≤ maxLen) (hx : ∀ x ∈ xs, x.size ≤ maxLen) (w : World) (hA : StrsAt w w.heap.size A xs) :
    Calls Try.prog 21 #[.slice A xs.length c] w fun e w' => e = .returned (.bool (vlist xs)) ∧ Below w.heap.size w w' := by
  have HC := hide (areAllS_any 71 (enters_of Try.func71 (by kernel_rfl) rfl) lw A xs c w hn hA (fun x h W _ => isListed_any x W (hx x h)))
  have hn' := hn
  unfold maxLen at hn'
  generalize hS : vlist xs = S
  have HS := hide hS
  clear hS
  by_cases h12 : xs.length ≤ 12
  · have hd : decide ((xs.length : Int) ≤ 12) = true := by simp; omega
    have H12 := hide h12
    clear h12
    go_enter Try.func21, Try.ntmps21
    go_wp2_with (go_at_call 70; refine HC.out.mono ?_; rintro e w1 ⟨rfl, hb1⟩)
    go_ret
    exact ⟨ret_bool (by rw [← HS.out]; unfold vlist; simp [H12.out]), hb1⟩
  · have hd : decide ((xs.length : Int) ≤ 12) = false := by simp; omega
    have H12 := hide h12
    clear h12
    go_enter Try.func21, Try.ntmps21
    go_wp2
    go_ret
    exact ⟨ret_bool (by rw [← HS.out]; unfold vlist; simp [H12.out]), Below.refl _ _⟩

set_option maxHeartbeats 1000000 in
theorem isOfWorn_any (b : Int) (w : World) :
    Calls Try.prog 143 #[.int .u8 b] w fun e w' => e = .returned (.bool (wornC b)) ∧ Below w.heap.size w w' := by
  cases hc : cap b
  · go_enter Try.func143, Try.ntmps143
    go_wp2_with (go_at_call 154; refine (isCapital_any _ _).mono ?_; rintro e w' ⟨rfl, rfl⟩; simp only [hc])
    go_ret
    exact ⟨ret_bool (by unfold wornC; rw [hc]; simp), Below.refl _ _⟩
  · go_enter Try.func143, Try.ntmps143
    go_wp2_with (go_at_call 154; refine (isCapital_any _ _).mono ?_; rintro e w' ⟨rfl, rfl⟩; simp only [hc])
    go_ret
    exact ⟨ret_bool (by unfold wornC; rw [hc]; rfl), Below.refl _ _⟩

set_option maxHeartbeats 1000000 in
theorem isWornWord_any (s : ByteArray) (w : World) (hs : s.size ≤ maxLen) :
    Calls Try.prog 96 #[.string s] w fun e w' => e = .returned (.bool (wornB s.data.toList)) ∧ Below w.heap.size w w' := by
  have HC := hide (hasOnly_any 143 (enters_of Try.func143 (by kernel_rfl) rfl) wornC s w hs (fun j _ W _ => isOfWorn_any _ W))
  have hL : s.data.toList.length = s.size := by simp
  have HL := hide hL
  unfold maxLen at hs
  generalize hS : wornB s.data.toList = S
  have HS := hide hS
  clear hS hL
  by_cases h20 : s.size ≤ 20
  · have hd : decide ((s.size : Int) ≤ 20) = true := by simp; omega
    have hd' : decide (s.size ≤ 20) = true := by simp; omega
    have H20 := hide h20
    clear h20
    go_enter Try.func96, Try.ntmps96
    go_wp2_with (go_at_call 104; refine HC.out.mono ?_; rintro e w1 ⟨rfl, hb1⟩)
    go_ret
    exact ⟨ret_bool (by rw [← HS.out]; unfold wornB; rw [HL.out]; simp [H20.out]), hb1⟩
  · have hd : decide ((s.size : Int) ≤ 20) = false := by simp; omega
    have hd' : decide (s.size ≤ 20) = false := by simp; omega
    have H20 := hide h20
    clear h20
    go_enter Try.func96, Try.ntmps96
    go_wp2
    go_ret
    exact ⟨ret_bool (by rw [← HS.out]; unfold wornB; rw [HL.out]; simp [H20.out]), Below.refl _ _⟩

set_option maxRecDepth 100000 in
set_option maxHeartbeats 4000000 in
theorem agree_any (a b : ByteArray) (w : World) (ha : a.size ≤ maxLen) (hb : b.size ≤ maxLen) :
    Calls Try.prog 98 #[.string a, .string b] w fun e w' => e = .returned (.tuple #[.string (agV a.data.toList b.data.toList), .int .i64 (agC a.data.toList b.data.toList)]) ∧ Below w.heap.size w w' := by
  unfold maxLen at ha hb
  have hLa : a.data.toList.length = a.size := by simp
  have hLb : b.data.toList.length = b.size := by simp
  have HLa := hide hLa
  have HLb := hide hLb
  generalize hV : agV a.data.toList b.data.toList = V
  generalize hC : agC a.data.toList b.data.toList = C
  have HV := hide hV
  have HC := hide hC
  clear hV hC hLa hLb
  by_cases hl : a.size = b.size
  · obtain ⟨W1, c, hcv, hb1, hBA, hlt⟩ := bytes_new2 a w
    have HBA := hide hBA
    have HE := hide hl
    have hd : ((a.size : Int) != (b.size : Int)) = false := by simp [hl]
    clear hBA hl
    go_enter Try.func98, Try.ntmps98
    go_wp2
    go_loopw [17] (fun i wr => ∃ k : Nat, k ≤ a.size ∧ i = .int .i64 k ∧ Below w.heap.size w wr ∧ w.heap.size < wr.heap.size ∧ Hid (BytesAt wr w.heap.size (agTo a.data.toList b.data.toList k)) ∧ Hid (∀ j, j < k → clash a.data.toList b.data.toList j = false))
      (fun i _ => a.size - (intOf i).toNat)
    case atStart => exact ⟨0, by omega, rfl, hb1, hlt, hide (by rw [agTo_zero]; exact HBA.out), hide (fun j hj => by omega)⟩
    case round =>
      obtain ⟨k, hk, rfl, hB, hsz, hcells, hg⟩ := hrel
      by_cases hlt2 : k < a.size
      · have hkb : k < b.size := by have := HE.out; omega
        have hi : (k : Int) < a.size := by omega
        have hib : (k : Int) < b.size := by omega
        have h0 : (0 : Int) ≤ k := by omega
        have hka : k < a.data.toList.length := by rw [HLa.out]; exact hlt2
        have hat := agTo_at (b := b.data.toList) (k := k) hka
        rw [if_neg (by omega)] at hat
        obtain ⟨hc0, hf0⟩ := hcells.out k (by rw [agTo_len]; exact hka)
        rw [hat] at hc0
        have HKA := hide hka
        have HB2 := hide (byteAt_get b k hkb)
        have hcl : clash a.data.toList b.data.toList k = ((byteAt a.data.toList k != 46 && byteAt b.data.toList k != 46) && byteAt a.data.toList k != byteAt b.data.toList k) := rfl
        have HCL := hide hcl
        have HGO := hide (fun (hw : clash a.data.toList b.data.toList k = false) => (fun j hj => by
          by_cases e : j = k
          · subst e; exact hw
          · exact hg.out j (by omega) : ∀ j, j < k + 1 → clash a.data.toList b.data.toList j = false))
        clear hat hka hcl
        have hbs := hB.size
        cases hga : (byteAt a.data.toList k == 46)
        · have hga' : (byteAt a.data.toList k != 46) = true := by simp [bne, hga]
          have HK := hide (agTo_kept (a := a.data.toList) (b := b.data.toList) (k := k) (by simpa using hga))
          cases hgb : ((b[k].toNat : Int) == 46)
          · have hgb' : ((b[k].toNat : Int) != 46) = true := by simp [bne, hgb]
            cases hgc : ((b[k].toNat : Int) != byteAt a.data.toList k)
            · go_wp2
              go_quiet (fail)
              go_wp2
              exact ⟨⟨k + 1, by omega, by go_num, below_drewN hB _, hsz, hide (by rw [HK.out]; exact hcells.out), hide (HGO.out (by
                rw [HCL.out, ← HB2.out]; simp only [bne, Bool.not_eq_false', beq_iff_eq] at hgc ⊢; simp [hgc]))⟩, by simp [intOf]; omega⟩
            · go_wp2
              go_quiet (fail)
              go_wp2
              go_ret2
              have HNO := ag_no (agB_clash HKA.out (a := a.data.toList) (b := b.data.toList) (by
                rw [HCL.out, ← HB2.out, hga', hgb']; simp only [bne, Bool.not_eq_true', beq_eq_false_iff_ne] at hgc ⊢; simp [Ne.symm hgc]))
              exact ⟨ret_si (HNO.1.symm.trans HV.out) (HNO.2.symm.trans HC.out), below_drewN hB _⟩
          · have hgb' : ((b[k].toNat : Int) != 46) = false := by simp [bne, hgb]
            go_wp2
            go_quiet (fail)
            go_wp2
            exact ⟨⟨k + 1, by omega, by go_num, below_drewN hB _, hsz, hide (by rw [HK.out]; exact hcells.out), hide (HGO.out (by rw [HCL.out, ← HB2.out, hgb']; simp))⟩, by simp [intOf]; omega⟩
        · have hga' : (byteAt a.data.toList k != 46) = false := by simp [bne, hga]
          have HK := hide (agTo_gone (a := a.data.toList) (b := b.data.toList) HKA.out (by simpa using hga))
          have HBK := hide (hcells.out.set (k := k) (by rw [agTo_len]; exact HKA.out) (b[k]))
          have HGD : Hid (b.data.toList.getD k 0 = b[k]) := hide (by simp [List.getD, hkb]; rfl)
          have HG2 := hide (HGO.out (by rw [HCL.out, hga']; rfl))
          have hc2 := World.cell?_setCell_same' wr ⟨w.heap.size, k, none⟩ (.int .u8 (b[k].toNat : Int)) (by rw [hc0]; rfl)
          cases hgb : ((b[k].toNat : Int) != 46)
          · go_wp2
            go_quiet (fail)
            go_wp2
            exact ⟨⟨k + 1, by omega, by go_num, below_drewN (hB.setCell (p := ⟨w.heap.size, k, none⟩) (Nat.le_refl _) _) _, (by show w.heap.size < (wr.setCell _ _).heap.size; rw [size_setCell]; exact hsz), hide (by rw [HK.out, HGD.out]; exact HBK.out), HG2⟩, by simp [intOf]; omega⟩
          · go_wp2
            go_quiet (fail)
            go_wp2
            exact ⟨⟨k + 1, by omega, by go_num, below_drewN (hB.setCell (p := ⟨w.heap.size, k, none⟩) (Nat.le_refl _) _) _, (by show w.heap.size < (wr.setCell _ _).heap.size; rw [size_setCell]; exact hsz), hide (by rw [HK.out, HGD.out]; exact HBK.out), HG2⟩, by simp [intOf]; omega⟩
      · obtain rfl : k = a.size := by omega
        have HOK := hide (ag_ok (agB_true.2 ⟨by rw [HLa.out, HLb.out]; exact HE.out, fun j hj => hg.out j (by rw [← HLa.out]; exact hj)⟩))
        have hbk := bytes_back (c := c) hcells.out
        rw [agTo_len, HLa.out] at hbk
        go_wp2
        go_ret2
        exact ⟨ret_si (by rw [← HV.out, HOK.out.1, HLa.out]) (HOK.out.2.symm.trans HC.out), hB⟩
  · have hd : ((a.size : Int) != (b.size : Int)) = true := by simp; omega
    have HP := hide (ag_no (agB_len (a := a.data.toList) (b := b.data.toList) (by rw [HLa.out, HLb.out]; exact hl)))
    have HE := hide hl
    clear hl
    go_enter Try.func98, Try.ntmps98
    go_wp2
    go_ret2
    exact ⟨ret_si (HP.out.1.symm.trans HV.out) (HP.out.2.symm.trans HC.out), Below.refl _ _⟩
end Go.Proofs.Ytajlbfbpkafjfaa
