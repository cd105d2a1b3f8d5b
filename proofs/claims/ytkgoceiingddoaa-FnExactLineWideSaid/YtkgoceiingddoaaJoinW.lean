/- JoinWords of the model and of the program: the same text and number. -/
import Derived.Test.YtkgoceiingddoaaStrs
import Derived.Test.YtkgoceiingddoaaWordWideW
import Derived.Laws.Concat
namespace Go.Proofs.Ytkgoceiingddoaa
open Go.RowKit

theorem jw_ok {xs : List (List UInt8)} (h : jwB xs = true) : jwV xs = ⟨(J xs).toArray⟩ ∧ jwC xs = 0 := by unfold jwV jwC; rw [if_pos h, if_pos h]; exact ⟨rfl, rfl⟩
theorem jw_no {xs : List (List UInt8)} (h : jwB xs = false) : jwV xs = ⟨#[]⟩ ∧ jwC xs = 1 := by unfold jwV jwC; rw [h]; exact ⟨rfl, rfl⟩
theorem ret_si {s t : ByteArray} {i j : Int} (h : s = t) (h' : i = j) : Ending.returned (.tuple #[.string s, .int .i64 i]) = .returned (.tuple #[.string t, .int .i64 j]) := by rw [h, h']
theorem ret_st {s t : ByteArray} (h : s = t) : Ending.returned (.string s) = .returned (.string t) := by rw [h]
theorem ba_ext {s : ByteArray} {l : List UInt8} (h : s.data.toList = l) : s = ⟨l.toArray⟩ := by
  obtain ⟨⟨d⟩⟩ := s; simp at h; rw [h]
theorem append_data (s t : ByteArray) : (s ++ t).data.toList = s.data.toList ++ t.data.toList := by simp
theorem append_size (s t : ByteArray) : (s ++ t).size = s.size + t.size := by simp

set_option maxRecDepth 100000 in
set_option maxHeartbeats 2000000 in
theorem l01Joined_any (A : Option Addr) (xs : List ByteArray) (c : Nat) (w : World) (hn : xs.length ≤ 1048576) (hx : sumL (xs.map byts) ≤ 1048576) (hA : StrsAt w w.heap.size A xs) :
    Calls Try.prog 82 #[.slice A xs.length c] w fun e w' => e = .returned (.string ⟨(J (xs.map byts)).toArray⟩) ∧ w = w' := by
  have HX := hide hx
  have hlen : ∀ k, (J ((xs.map byts).take k)).length ≤ 2097152 := by
    intro k
    rw [J_len]
    have h1 := sumL_le (xs.map byts) k
    have h2 : ((xs.map byts).take k).length ≤ xs.length := by simp; omega
    omega
  have HLEN := hide hlen
  have HM := hide (fun x (h : x ∈ xs) => Nat.le_trans (sum_mem h) hx)
  clear hx hlen
  go_enter Try.func82, Try.ntmps82
  go_wp2
  go_loop [3, 4] (fun t i => ∃ (k : Nat) (s : ByteArray), k ≤ xs.length ∧ i = .int .i64 k ∧ t = .string s ∧ s.size ≤ 2097152 ∧ Hid (s.data.toList = J ((xs.map byts).take k)))
    (fun _ i => xs.length - (intOf i).toNat)
  case atStart => exact ⟨0, ⟨#[]⟩, by omega, rfl, rfl, by decide, hide rfl⟩
  case round =>
    obtain ⟨k, s, hk, rfl, rfl, hs, hg⟩ := hrel
    by_cases hlt : k < xs.length
    · obtain ⟨b, o, rfl, hb, hxs⟩ := hA (by intro e; rw [e] at hlt; simp at hlt)
      obtain ⟨x, hx⟩ : ∃ x, xs[k]? = some x := ⟨xs[k]'hlt, List.getElem?_eq_getElem _⟩
      have c0 := hxs k x hx
      have hxm := HM.out x (List.mem_of_getElem? hx)
      have hi : (k : Int) < xs.length := by omega
      have h0 : (0 : Int) ≤ k := by omega
      have htk : (xs.map byts).take (k + 1) = (xs.map byts).take k ++ [byts x] := by rw [List.take_add_one]; simp [hx]
      have hnext := HLEN.out (k + 1)
      clear hxs
      by_cases hk0 : k = 0
      · have hd : decide ((0 : Int) < k) = false := by simp; omega
        have hd' : decide (0 < k) = false := by simp; omega
        have e1 : (s ++ x).data.toList = J ((xs.map byts).take (k + 1)) := by
          rw [append_data, hg.out, htk, hk0]; simp [J_nil, J_one]
        have e2 : (s ++ x).size ≤ 2097152 := by rw [← e1] at hnext; simpa using hnext
        have E1 := hide e1
        have E2 := hide e2
        clear e1 e2 hk0 htk hnext
        go_wp2
        exact ⟨⟨k + 1, _, by omega, by go_num, rfl, E2.out, E1⟩, by simp [intOf]; omega⟩
      · have hd : decide ((0 : Int) < k) = true := by simp; omega
        have hd' : decide (0 < k) = true := by simp; omega
        have hne : (xs.map byts).take k ≠ [] := by
          intro e
          have h := congrArg List.length e
          rw [List.length_take, List.length_map, List.length_nil] at h
          omega
        have e1 : ((s ++ (⟨#[32]⟩ : ByteArray)) ++ x).data.toList = J ((xs.map byts).take (k + 1)) := by
          rw [append_data, append_data, hg.out, htk, J_snoc _ _ hne]; simp
        have hone : (⟨#[32]⟩ : ByteArray).size = 1 := rfl
        have e2 : ((s ++ (⟨#[32]⟩ : ByteArray)) ++ x).size ≤ 2097152 := by rw [← e1] at hnext; rw [append_size, append_size, hone]; simp at hnext; omega
        have e3 : (s ++ (⟨#[32]⟩ : ByteArray)).size ≤ 2097153 := by rw [append_size]; show s.size + 1 ≤ _; omega
        have E1 := hide e1
        have E2 := hide e2
        clear e1 e2 hk0 htk hnext hne hone
        go_wp2
        exact ⟨⟨k + 1, _, by omega, by go_num, rfl, E2.out, E1⟩, by simp [intOf]; omega⟩
    · obtain rfl : k = xs.length := by omega
      have hfin : s = ⟨(J (xs.map byts)).toArray⟩ := by
        apply ba_ext
        have := hg.out
        rw [List.take_of_length_le (by simp)] at this
        exact this
      have HF := hide hfin
      clear hfin
      go_wp2
      go_ret
      exact ⟨ret_st HF.out, rfl⟩

set_option maxRecDepth 100000 in
set_option maxHeartbeats 4000000 in
theorem specJoinWords_any (A : Option Addr) (xs : List ByteArray) (c : Nat) (w : World) (hn : xs.length ≤ 1048576) (hx : sumL (xs.map byts) ≤ 1048576) (hA : StrsAt w w.heap.size A xs) :
    Calls Try.prog 36 #[.slice A xs.length c] w fun e w' => e = .returned (.tuple #[.string (jwV (xs.map byts)), .int .i64 (jwC (xs.map byts))]) ∧ w = w' := by
  have HM := hide (fun x (h : x ∈ xs) => Nat.le_trans (sum_mem h) hx)
  have HJ := hide (l01Joined_any A xs c w hn hx hA)
  have hJL : (J (xs.map byts)).length ≤ 2097152 := by rw [J_len]; simp; omega
  have HT := hide (l01Text_any ⟨(J (xs.map byts)).toArray⟩ w (by unfold maxLen; show (J (xs.map byts)).toArray.size ≤ _; rw [List.size_toArray]; omega))
  generalize hv1 : jwV (xs.map byts) = V
  generalize hv2 : jwC (xs.map byts) = C
  have H1 := hide hv1
  have H2 := hide hv2
  clear hv1 hv2 hx hJL
  go_enter Try.func36, Try.ntmps36
  go_wp2
  go_loop [4] (fun i => ∃ k : Nat, k ≤ xs.length ∧ k ≤ 61 ∧ i = .int .i64 k ∧ Hid (∀ j x, j < k → xs[j]? = some x → capsB (byts x) = true))
    (fun i => xs.length - (intOf i).toNat)
  case atStart => exact ⟨0, by omega, by omega, rfl, hide (fun j x hj => by omega)⟩
  case round =>
    obtain ⟨k, hk, hk61, rfl, hg⟩ := hrel
    by_cases hlt : k < xs.length
    · obtain ⟨b, o, rfl, hb, hxs⟩ := hA (by intro e; rw [e] at hlt; simp at hlt)
      obtain ⟨x, hx⟩ : ∃ x, xs[k]? = some x := ⟨xs[k]'hlt, List.getElem?_eq_getElem _⟩
      have c0 := hxs k x hx
      have hxm := HM.out x (List.mem_of_getElem? hx)
      have HW := hide (fun w => l01Word_any x w (by unfold maxLen; omega))
      have hi : (k : Int) < xs.length := by omega
      have h0 : (0 : Int) ≤ k := by omega
      clear hxs
      cases hc : capsB (byts x)
      · have hbad : jwB (xs.map byts) = false := jwB_false.2 fun h => by
          have := h.1 (byts x) (List.mem_map.2 ⟨x, List.mem_of_getElem? hx, rfl⟩)
          rw [capsB_true.2 ⟨this.1, this.2⟩] at hc; cases hc
        have HP := hide (jw_no hbad)
        change capsB x.data.toList = false at hc
        clear hbad
        go_wp2_with (go_at_call 81; refine (HW.out _).mono ?_; rintro e w' ⟨rfl, rfl⟩; simp only [hc])
        go_ret2
        exact ⟨ret_si (HP.out.1.symm.trans H1.out) (HP.out.2.symm.trans H2.out), rfl⟩
      · have HC := hide hc
        change capsB x.data.toList = true at hc
        by_cases h60 : 60 < k
        · have hd : decide ((60 : Int) < k) = true := by simp; omega
          have hd' : decide (60 < k) = true := by simp; omega
          have hbad : jwB (xs.map byts) = false := jwB_false.2 fun h => by
            have h1 := sum_ge h.1
            have h2 := h.2
            rw [J_len] at h2
            simp at h1 h2
            omega
          have HP := hide (jw_no hbad)
          clear hbad h60
          go_wp2_with (go_at_call 81; refine (HW.out _).mono ?_; rintro e w' ⟨rfl, rfl⟩; simp only [hc])
          go_ret2
          exact ⟨ret_si (HP.out.1.symm.trans H1.out) (HP.out.2.symm.trans H2.out), rfl⟩
        · have hd : decide ((60 : Int) < k) = false := by simp; omega
          have hd' : decide (60 < k) = false := by simp; omega
          go_wp2_with (go_at_call 81; refine (HW.out _).mono ?_; rintro e w' ⟨rfl, rfl⟩; simp only [hc])
          exact ⟨⟨k + 1, by omega, by omega, by go_num, hide (fun j y hj hy => by
            by_cases e : j = k
            · subst e; have hxy : x = y := Option.some.inj (hx.symm.trans hy); rw [← hxy]; exact HC.out
            · exact hg.out j y (by omega) hy)⟩, by simp [intOf]; omega⟩
    · obtain rfl : k = xs.length := by omega
      have hwo : wordsOk (xs.map byts) := by
        intro l hl
        obtain ⟨x, hx, rfl⟩ := List.mem_map.1 hl
        obtain ⟨j, hj⟩ := List.getElem?_of_mem hx
        exact capsB_true.1 (hg.out j x (List.getElem?_eq_some_iff.1 hj).1 hj)
      have HWO := hide hwo
      clear hwo
      cases ht : vtext (J (xs.map byts))
      · have hbad : jwB (xs.map byts) = false := jwB_false.2 fun h => by rw [(vtext_J HWO.out).2 h.2] at ht; cases ht
        have HP := hide (jw_no hbad)
        clear hbad
        go_wp2_with (first | (go_at_call 82; refine HJ.out.mono ?_; rintro e w' ⟨rfl, rfl⟩) | (go_at_call 75; refine HT.out.mono ?_; rintro e w' ⟨rfl, rfl⟩; simp only [ht]))
        go_ret2
        exact ⟨ret_si (HP.out.1.symm.trans H1.out) (HP.out.2.symm.trans H2.out), rfl⟩
      · have hok : jwB (xs.map byts) = true := jwB_true.2 ⟨HWO.out, (vtext_J HWO.out).1 ht⟩
        have HP := hide (jw_ok hok)
        clear hok
        go_wp2_with (first | (go_at_call 82; refine HJ.out.mono ?_; rintro e w' ⟨rfl, rfl⟩) | (go_at_call 75; refine HT.out.mono ?_; rintro e w' ⟨rfl, rfl⟩; simp only [ht]))
        go_ret2
        exact ⟨ret_si (HP.out.1.symm.trans H1.out) (HP.out.2.symm.trans H2.out), rfl⟩

set_option maxRecDepth 100000 in
set_option maxHeartbeats 4000000 in
theorem implJoinWords_any (A : Option Addr) (xs : List ByteArray) (c : Nat) (w : World) (hn : xs.length ≤ 1048576) (hc : xs.length ≤ c) (hx : sumL (xs.map byts) ≤ 1048576) (hA : StrsAt w w.heap.size A xs) :
    Calls Try.prog 38 #[.slice A xs.length c] w fun e w' => e = .returned (.tuple #[.string (jwV (xs.map byts)), .int .i64 (jwC (xs.map byts))]) ∧ Below w.heap.size w w' := by
  have HM := hide (fun x (h : x ∈ xs) => Nat.le_trans (sum_mem h) hx)
  have HSL := hide (fun k => sumL_le (xs.map byts) k)
  generalize hv1 : jwV (xs.map byts) = V
  generalize hv2 : jwC (xs.map byts) = C
  have H1 := hide hv1
  have H2 := hide hv2
  have HX := hide hx
  have hHC := hide hc
  clear hv1 hv2 hx hc
  go_enter Try.func38, Try.ntmps38
  go_wp2
  go_loopw [4, 12] (fun l i wr => ∃ k : Nat, k ≤ xs.length ∧ i = .int .i64 k ∧ l = .int .i64 ((xs.length : Int) - 1 + sumL ((xs.map byts).take k)) ∧ Below w.heap.size w wr ∧ (0 < k → (xs.length : Int) - 1 + sumL ((xs.map byts).take k) ≤ 60) ∧ Hid (∀ j x, j < k → xs[j]? = some x → vword (byts x) = true))
    (fun _ i _ => xs.length - (intOf i).toNat)
  case atStart => exact ⟨0, by omega, rfl, by simp [sumL], Below.refl _ _, by omega, hide (fun j x hj => by omega)⟩
  case round =>
    obtain ⟨k, hk, rfl, rfl, hB, hbd, hg⟩ := hrel
    have hsk := HSL.out k
    have hxx := HX.out
    by_cases hlt : k < xs.length
    · obtain ⟨b, o, rfl, hb, hxs⟩ := hA (by intro e; rw [e] at hlt; simp at hlt)
      obtain ⟨x, hx⟩ : ∃ x, xs[k]? = some x := ⟨xs[k]'hlt, List.getElem?_eq_getElem _⟩
      have c0 : wr.cell? ⟨b, o + k, none⟩ = some (.string x) := (hB.cell (p := ⟨b, o + k, none⟩) hb).trans (hxs k x hx)
      have hxm := HM.out x (List.mem_of_getElem? hx)
      have HW := hide (isWord_any x wr (by unfold maxLen; omega))
      have hi : (k : Int) < xs.length := by omega
      have h0 : (0 : Int) ≤ k := by omega
      have hst := sumL_take (xs.map byts) k (byts x) (by simp [hx])
      rw [byts_len] at hst
      have hst' : (xs.length : Int) - 1 + sumL ((xs.map byts).take (k + 1)) = (xs.length : Int) - 1 + sumL ((xs.map byts).take k) + x.size := by rw [hst]; push_cast; omega
      have hsk1 := HSL.out (k + 1)
      have HST := hide hst'
      have HS0 := hide hst
      clear hxs hst hst'
      generalize sumL ((xs.map byts).take k) = S at *
      by_cases h60 : (60 : Int) < (xs.length : Int) - 1 + S + x.size
      · have hd : decide ((60 : Int) < (xs.length : Int) - 1 + S + x.size) = true := by simp; omega
        have hbad : jwB (xs.map byts) = false := jwB_false.2 fun h => by
          have h2 := h.2
          rw [J_len] at h2
          simp only [List.length_map] at h2
          have := HS0.out
          omega
        have HP := hide (jw_no hbad)
        clear hbad
        go_wp2
        go_ret2
        exact ⟨ret_si (HP.out.1.symm.trans H1.out) (HP.out.2.symm.trans H2.out), hB⟩
      · have hd : decide ((60 : Int) < (xs.length : Int) - 1 + S + x.size) = false := by simp; omega
        have h60' : (xs.length : Int) - 1 + S + x.size ≤ 60 := by omega
        clear h60
        cases hvw : vword (byts x)
        · have hbad : jwB (xs.map byts) = false := jwB_false.2 fun h => by
            have h1 := h.1 (byts x) (List.mem_map.2 ⟨x, List.mem_of_getElem? hx, rfl⟩)
            rw [vword_true.2 ⟨h1.1, by rw [byts_len]; have := hlt; omega, h1.2⟩] at hvw; cases hvw
          have HP := hide (jw_no hbad)
          change vword x.data.toList = false at hvw
          clear hbad
          go_wp2_with (go_at_call 83; refine HW.out.mono ?_; rintro e w1 ⟨rfl, hb1⟩; simp only [hvw])
          go_ret2
          exact ⟨ret_si (HP.out.1.symm.trans H1.out) (HP.out.2.symm.trans H2.out), hB.trans (hb1.mono hB.size)⟩
        · have HVW := hide hvw
          change vword x.data.toList = true at hvw
          go_wp2_with (go_at_call 83; refine HW.out.mono ?_; rintro e w1 ⟨rfl, hb1⟩; simp only [hvw])
          exact ⟨⟨k + 1, by omega, by go_num, by rw [HST.out], hB.trans (hb1.mono hB.size), fun _ => by rw [HST.out]; exact h60', hide (fun j y hj hy => by
            by_cases e : j = k
            · subst e; have hxy : x = y := Option.some.inj (hx.symm.trans hy); rw [← hxy]; exact HVW.out
            · exact hg.out j y (by omega) hy)⟩, by simp [intOf]; omega⟩
    · obtain rfl : k = xs.length := by omega
      have hwo : wordsOk (xs.map byts) := by
        intro l hl
        obtain ⟨x, hx, rfl⟩ := List.mem_map.1 hl
        obtain ⟨j, hj⟩ := List.getElem?_of_mem hx
        have := vword_true.1 (hg.out j x (List.getElem?_eq_some_iff.1 hj).1 hj)
        exact ⟨this.1, this.2.2⟩
      have hok : jwB (xs.map byts) = true := jwB_true.2 ⟨hwo, by
        rw [J_len]
        rcases Nat.eq_zero_or_pos xs.length with e | e
        · have : xs = [] := List.length_eq_zero_iff.1 e
          subst this; simp [sumL]
        · have h2 := hbd e
          rw [List.take_of_length_le (by simp)] at h2
          simp only [List.length_map]
          omega⟩
      have HP := hide (jw_ok hok)
      clear hwo hok
      by_cases hne : xs = []
      · subst hne
        have HJ := hide (Try.strings_Join_none A c ⟨#[32]⟩)
        go_wp2_with (go_at_call 84; refine (HJ.out wr).mono ?_; rintro e w1 ⟨rfl, rfl⟩)
        go_ret2
        exact ⟨ret_si (HP.out.1.symm.trans H1.out) (HP.out.2.symm.trans H2.out), hB⟩
      · obtain ⟨b, o, rfl, hb, hxs⟩ := hA hne
        have HJ := hide (Try.strings_Join b o c xs ⟨#[32]⟩ wr (fun j x hx => (hB.cell (p := ⟨b, o + j, none⟩) hb).trans (hxs j x hx)) (Nat.lt_of_lt_of_le hb hB.size) (by omega) hHC.out (by
          have : (J (xs.map byts)).length ≤ 2097152 := by rw [J_len]; simp; omega
          show (J (xs.map byts)).length ≤ _
          omega))
        go_wp2_with (go_at_call 84; refine HJ.out.mono ?_; rintro e w1 ⟨rfl, hb1⟩)
        go_ret2
        exact ⟨ret_si (HP.out.1.symm.trans H1.out) (HP.out.2.symm.trans H2.out), hB.trans (hb1.mono hB.size)⟩
end Go.Proofs.Ytkgoceiingddoaa
