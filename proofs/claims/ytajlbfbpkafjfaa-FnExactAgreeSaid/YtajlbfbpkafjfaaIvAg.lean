/- Agree, of the program and of the model; WornOf, of both. -/
import Derived.Test.YtajlbfbpkafjfaaIvIB
import Derived.Test.YtajlbfbpkafjfaaIvSA
namespace Go.Proofs.Ytajlbfbpkafjfaa
open Go.RowKit

theorem agree_no1 {a b : List UInt8} (h : wornB a = false) : agreeV a b = ⟨#[]⟩ ∧ agreeC a b = 5 := by unfold agreeV agreeC; rw [h]; exact ⟨rfl, rfl⟩
theorem agree_no2 {a b : List UInt8} (h : wornB b = false) : agreeV a b = ⟨#[]⟩ ∧ agreeC a b = 5 := by unfold agreeV agreeC; rw [h, Bool.and_false]; exact ⟨rfl, rfl⟩
theorem agree_ok {a b : List UInt8} (h : wornB a = true) (h' : wornB b = true) : agreeV a b = agV a b ∧ agreeC a b = agC a b := by unfold agreeV agreeC; rw [h, h']; exact ⟨rfl, rfl⟩

set_option maxRecDepth 100000 in
set_option maxHeartbeats 4000000 in
theorem implAgree_any (a : ByteArray) (ha : a.size ≤ maxLen) (b : ByteArray) (hb : b.size ≤ maxLen) (w : World) :
    Calls Try.prog 48 #[.string a, .string b] w fun e w' => e = .returned (.tuple #[.string (agreeV a.data.toList b.data.toList), .int .i64 (agreeC a.data.toList b.data.toList)]) ∧ Below w.heap.size w w' := by
  have HA := hide (isWornWord_any a w ha)
  have HB := hide (fun W => isWornWord_any b W hb)
  have HG := hide (fun W => agree_any a b W ha hb)
  generalize hV : agreeV a.data.toList b.data.toList = V
  generalize hC : agreeC a.data.toList b.data.toList = C
  have HV := hide hV
  have HC := hide hC
  clear hV hC
  cases h1 : wornB a.data.toList
  · rw [h1] at HA
    have HP := hide (agree_no1 (b := b.data.toList) h1)
    go_enter Try.func48, Try.ntmps48
    go_wp2_with (go_at_call 96; refine HA.out.mono ?_; rintro e w1 ⟨rfl, hb1⟩)
    go_ret2
    exact ⟨ret_si (HP.out.1.symm.trans HV.out) (HP.out.2.symm.trans HC.out), hb1⟩
  · rw [h1] at HA
    cases h2 : wornB b.data.toList
    · rw [h2] at HB
      have HP := hide (agree_no2 (a := a.data.toList) h2)
      go_enter Try.func48, Try.ntmps48
      go_wp2_with fail
      refine HA.out.mono ?_
      rintro e w1 ⟨rfl, hb1⟩
      go_wp2_with (go_at_call 96; refine (HB.out _).mono ?_; rintro e w2 ⟨rfl, hb2⟩)
      go_ret2
      exact ⟨ret_si (HP.out.1.symm.trans HV.out) (HP.out.2.symm.trans HC.out), hb1.trans (hb2.mono hb1.size)⟩
    · rw [h2] at HB
      have HP := hide (agree_ok h1 h2)
      go_enter Try.func48, Try.ntmps48
      go_wp2_with fail
      refine HA.out.mono ?_
      rintro e w1 ⟨rfl, hb1⟩
      go_wp2_with (first | (go_at_call 96; refine (HB.out _).mono ?_; rintro e w2 ⟨rfl, hb2⟩) | (go_at_call 98; refine (HG.out _).mono ?_; rintro e w3 ⟨rfl, hb3⟩))
      go_ret2
      exact ⟨ret_si (HP.out.1.symm.trans HV.out) (HP.out.2.symm.trans HC.out), hb1.trans ((hb2.trans (hb3.mono hb2.size)).mono hb1.size)⟩

set_option maxRecDepth 100000 in
set_option maxHeartbeats 4000000 in
theorem specAgree_any (a : ByteArray) (ha : a.size ≤ maxLen) (b : ByteArray) (hb : b.size ≤ maxLen) (w : World) :
    Calls Try.prog 47 #[.string a, .string b] w fun e w' => e = .returned (.tuple #[.string (agreeV a.data.toList b.data.toList), .int .i64 (agreeC a.data.toList b.data.toList)]) ∧ Below w.heap.size w w' := by
  have HA := hide (fun w => l04Worn_any a w ha)
  have HB := hide (fun w => l04Worn_any b w hb)
  unfold maxLen at ha hb
  have hLa : a.data.toList.length = a.size := by simp
  have hLb : b.data.toList.length = b.size := by simp
  have HLa := hide hLa
  have HLb := hide hLb
  generalize hV : agreeV a.data.toList b.data.toList = V
  generalize hC : agreeC a.data.toList b.data.toList = C
  have HV := hide hV
  have HC := hide hC
  clear hV hC hLa hLb
  cases h1 : wornB a.data.toList
  · have HP := hide (agree_no1 (b := b.data.toList) h1)
    go_enter Try.func47, Try.ntmps47
    go_wp2_with (go_at_call 95; refine (HA.out _).mono ?_; rintro e w1 ⟨rfl, rfl⟩; simp only [h1])
    go_ret2
    exact ⟨ret_si (HP.out.1.symm.trans HV.out) (HP.out.2.symm.trans HC.out), Below.refl _ _⟩
  · cases h2 : wornB b.data.toList
    · have HP := hide (agree_no2 (a := a.data.toList) h2)
      go_enter Try.func47, Try.ntmps47
      go_wp2_with fail
      refine (HA.out _).mono ?_
      rintro e w1 ⟨rfl, rfl⟩
      simp only [h1]
      go_wp2_with (go_at_call 95; refine (HB.out _).mono ?_; rintro e w2 ⟨rfl, rfl⟩; simp only [h2])
      go_ret2
      exact ⟨ret_si (HP.out.1.symm.trans HV.out) (HP.out.2.symm.trans HC.out), Below.refl _ _⟩
    · have HP := hide (agree_ok h1 h2)
      by_cases hl : a.size = b.size
      · obtain ⟨W1, c, hcv, hb1, hBA, hlt⟩ := bytes_new2 a w
        have HBA := hide hBA
        have HE := hide hl
        have hd : ((a.size : Int) != (b.size : Int)) = false := by simp [hl]
        clear hBA hl
        go_enter Try.func47, Try.ntmps47
        go_wp2_with fail
        refine (HA.out _).mono ?_
        rintro e w1 ⟨rfl, rfl⟩
        simp only [h1]
        go_wp2_with (go_at_call 95; refine (HB.out _).mono ?_; rintro e w2 ⟨rfl, rfl⟩; simp only [h2])
        go_loopw [7] (fun i wr => ∃ k : Nat, k ≤ a.size ∧ i = .int .i64 k ∧ Below w.heap.size w wr ∧ w.heap.size < wr.heap.size ∧ Hid (BytesAt wr w.heap.size (agTo a.data.toList b.data.toList k)) ∧ Hid (∀ j, j < k → clash a.data.toList b.data.toList j = false))
          (fun i _ => a.size - (intOf i).toNat)
        case atStart => exact ⟨0, by omega, rfl, hb1, hlt, hide (by rw [agTo_zero]; exact HBA.out), hide (fun j hj => by omega)⟩
        case round =>
          obtain ⟨k, hk, rfl, hB, hsz, hcells, hg⟩ := hrel
          by_cases hlt2 : k < a.size
          · have hkb : k < b.size := by have := HE.out; omega
            have hi : (k : Int) < a.size := by omega
            have hib : (k : Int) < b.size := by omega
            have h0 : (0 : Int) ≤ k := by omega
            have hka : k < a.data.toList.length := by rw [HLa.out]; exact hlt2
            obtain ⟨hc0, hf0⟩ := hcells.out k (by rw [agTo_len]; exact hka)
            have HBS := hide (fun (z : UInt8) => hcells.out.set (k := k) (by rw [agTo_len]; exact hka) z)
            have HGN := hide (fun h => agTo_gone (a := a.data.toList) (b := b.data.toList) hka h)
            have HCN := hide (fun h => ag_no (agB_clash hka (a := a.data.toList) (b := b.data.toList) h))
            clear hka
            have HA2 := hide (byteAt_get a k hlt2)
            have HB2 := hide (byteAt_get b k hkb)
            have HCL : Hid (clash a.data.toList b.data.toList k = (((a[k].toNat : Int) != 46 && (b[k].toNat : Int) != 46) && (a[k].toNat : Int) != (b[k].toNat : Int))) := hide (by rw [HA2.out, HB2.out]; rfl)
            have HGO := hide (fun (hw : clash a.data.toList b.data.toList k = false) => (fun j hj => by
              by_cases e : j = k
              · subst e; exact hw
              · exact hg.out j (by omega) : ∀ j, j < k + 1 → clash a.data.toList b.data.toList j = false))
            have hbs := hB.size
            cases hga : ((a[k].toNat : Int) == 46)
            · have hga' : ((a[k].toNat : Int) != 46) = true := by simp [bne, hga]
              have HK := hide (agTo_kept (a := a.data.toList) (b := b.data.toList) (k := k) (by rw [← HA2.out]; simpa using hga))
              cases hgb : ((b[k].toNat : Int) != 46)
              · go_wp2
                go_quiet (fail)
                go_wp2
                exact ⟨⟨k + 1, by omega, by go_num, below_drewN hB _, hsz, hide (by rw [HK.out]; exact hcells.out), hide (HGO.out (by rw [HCL.out, hgb]; simp))⟩, by simp [intOf]; omega⟩
              · cases hgc : ((a[k].toNat : Int) != (b[k].toNat : Int))
                · go_wp2
                  go_quiet (fail)
                  go_wp2
                  exact ⟨⟨k + 1, by omega, by go_num, below_drewN hB _, hsz, hide (by rw [HK.out]; exact hcells.out), hide (HGO.out (by rw [HCL.out, hgc]; simp))⟩, by simp [intOf]; omega⟩
                · go_wp2
                  go_quiet (fail)
                  go_wp2
                  go_ret2
                  have HNO := HCN.out (by rw [HCL.out, hga', hgb, hgc]; rfl)
                  exact ⟨ret_si ((HP.out.1.trans HNO.1).symm.trans HV.out) ((HP.out.2.trans HNO.2).symm.trans HC.out), below_drewN hB _⟩
            · have hga' : ((a[k].toNat : Int) != 46) = false := by simp [bne, hga]
              have HK := hide (HGN.out (by rw [← HA2.out]; simpa using hga))
              have HBK := hide (HBS.out (b[k]))
              have HGD : Hid (b.data.toList.getD k 0 = b[k]) := hide (by simp [List.getD, hkb]; rfl)
              have HG2 := hide (HGO.out (by rw [HCL.out, hga']; rfl))
              go_wp2
              go_quiet (fail)
              go_wp2
              exact ⟨⟨k + 1, by omega, by go_num, (below_drewN hB _).setCell (p := ⟨w.heap.size, k, none⟩) (Nat.le_refl _) _, (by rw [size_setCell]; exact hsz), hide (by rw [HK.out, HGD.out]; exact HBK.out), HG2⟩, by simp [intOf]; omega⟩
          · obtain rfl : k = a.size := by omega
            have HOK := hide (ag_ok (agB_true.2 ⟨by rw [HLa.out, HLb.out]; exact HE.out, fun j hj => hg.out j (by rw [← HLa.out]; exact hj)⟩))
            have hbk := bytes_back (c := c) hcells.out
            rw [agTo_len, HLa.out] at hbk
            go_wp2
            go_ret2
            exact ⟨ret_si (by rw [← HV.out, HP.out.1, HOK.out.1, HLa.out]) ((HP.out.2.trans HOK.out.2).symm.trans HC.out), hB⟩
      · have hd : ((a.size : Int) != (b.size : Int)) = true := by simp; omega
        have HNO := hide (ag_no (agB_len (a := a.data.toList) (b := b.data.toList) (by rw [HLa.out, HLb.out]; exact hl)))
        have HE := hide hl
        clear hl
        go_enter Try.func47, Try.ntmps47
        go_wp2_with fail
        refine (HA.out _).mono ?_
        rintro e w1 ⟨rfl, rfl⟩
        simp only [h1]
        go_wp2_with (go_at_call 95; refine (HB.out _).mono ?_; rintro e w2 ⟨rfl, rfl⟩; simp only [h2])
        go_ret2
        exact ⟨ret_si ((HP.out.1.trans HNO.out.1).symm.trans HV.out) ((HP.out.2.trans HNO.out.2).symm.trans HC.out), Below.refl _ _⟩
end Go.Proofs.Ytajlbfbpkafjfaa
