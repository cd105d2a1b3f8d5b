/- CanTurn and TurnText, of both. -/
import Derived.Test.YtajlbfbpkafjfaaIvTn
import Derived.Test.YtajlbfbpkafjfaaWordNe
import Derived.Test.YtajlbfbpkafjfaaRange
import Derived.Lib.BufferRead
namespace Go.Proofs.Ytajlbfbpkafjfaa
open Go.RowKit

theorem vtext_cap {L : List UInt8} (h : vtext L = true) : ∀ j, j < L.length → cap (byteAt L j) = true ∨ byteAt L j = 32 := fun j hj => by
  rcases (vtext_true.1 h).2 j hj with h | h
  · exact .inr h.1
  · exact .inl h
theorem able_I {L : List UInt8} (h : vtext L = true) : allOn (fun b => turnI b != 0) L = allOn ableB L :=
  allOn_congr fun j hj => by
    show (turnI (byteAt L j) != 0) = (turnB (byteAt L j) != 0)
    rw [turnI_eq (vtext_cap h j hj)]
theorem canT_no {L : List UInt8} (h : vtext L = false) : canT L = false := by unfold canT; rw [h]; rfl
theorem tt_no {L : List UInt8} (h : vtext L = false) : ttV L = ⟨#[]⟩ ∧ ttC L = 1 := by unfold ttV ttC; rw [canT_no h, h]; exact ⟨rfl, rfl⟩
theorem tt_not {L : List UInt8} (h : vtext L = true) (h' : canT L = false) : ttV L = ⟨#[]⟩ ∧ ttC L = 4 := by unfold ttV ttC; rw [h', h]; exact ⟨rfl, rfl⟩
theorem tt_ok {L : List UInt8} (h : vtext L = true) (h' : canT L = true) : ttV L = ⟨(turnL L).toArray⟩ ∧ ttC L = 0 := by unfold ttV ttC; rw [h', h]; exact ⟨rfl, rfl⟩

set_option maxRecDepth 100000 in
set_option maxHeartbeats 2000000 in
theorem implCanTurn_any (s : ByteArray) (hs : s.size ≤ 1048576) (w : World) :
    Calls Try.prog 50 #[.string s] w fun e w' => e = .returned (.bool (canT s.data.toList)) ∧ Below w.heap.size w w' := by
  have hs2 : s.size ≤ maxLen := by unfold maxLen; omega
  have HV := hide (implValidText_any s w hs2)
  have HO := hide (fun W => hasOnly_any 105 (enters_of Try.func105 (by kernel_rfl) rfl) (fun b => turnI b != 0) s W hs2 (fun j _ W _ => canTurnL_any _ W))
  generalize hR : canT s.data.toList = R
  have HR := hide hR
  clear hR
  cases hv : vtext s.data.toList
  · rw [hv] at HV
    have HN := hide (canT_no hv)
    go_enter Try.func50, Try.ntmps50
    go_wp2_with (go_at_call 103; refine HV.out.mono ?_; rintro e w1 ⟨rfl, hb1⟩)
    go_ret
    exact ⟨ret_bool (HN.out.symm.trans HR.out), hb1⟩
  · rw [hv] at HV
    rw [able_I hv] at HO
    have HN := hide (show canT s.data.toList = allOn ableB s.data.toList by unfold canT; rw [hv]; rfl)
    go_enter Try.func50, Try.ntmps50
    go_wp2_with (first | (go_at_call 103; refine HV.out.mono ?_; rintro e w1 ⟨rfl, hb1⟩) | (go_at_call 104; refine (HO.out _).mono ?_; rintro e w2 ⟨rfl, hb2⟩))
    go_ret
    exact ⟨ret_bool (HN.out.symm.trans HR.out), hb1.trans (hb2.mono hb1.size)⟩

set_option maxRecDepth 100000 in
set_option maxHeartbeats 2000000 in
theorem l04Turn_any (b : Int) (w : World) :
    Calls Try.prog 145 #[.int .u8 b] w fun e w' => e = .returned (.int .u8 (turnB b)) ∧ w = w' := by
  generalize hT : turnB b = T
  have HT := hide hT
  clear hT
  by_cases h1 : b = 72 ∨ b = 73 ∨ b = 78 ∨ b = 79 ∨ b = 83 ∨ b = 88 ∨ b = 90 ∨ b = 32
  · have HB : Hid (turnB b = b) := hide (by unfold turnB; rw [if_pos h1])
    rcases h1 with h | h | h | h | h | h | h | h <;> subst h
    all_goals
      go_enter Try.func145, Try.ntmps145
      go_wp2
      go_ret
      exact ⟨ret_int (HB.out.symm.trans HT.out), rfl⟩
  · have HB : Hid (turnB b = if b = 77 then 87 else if b = 87 then 77 else 0) := hide (by unfold turnB; rw [if_neg h1])
    simp only [not_or] at h1
    obtain ⟨n1, n2, n3, n4, n5, n6, n7, n8⟩ := h1
    by_cases h2 : b = 77
    · subst h2
      go_enter Try.func145, Try.ntmps145
      go_wp2
      go_ret
      exact ⟨ret_int (HB.out.symm.trans HT.out), rfl⟩
    · by_cases h3 : b = 87
      · subst h3
        go_enter Try.func145, Try.ntmps145
        go_wp2
        go_ret
        exact ⟨ret_int (HB.out.symm.trans HT.out), rfl⟩
      · have HB2 : Hid (turnB b = 0) := hide (by rw [HB.out, if_neg h2, if_neg h3])
        clear HB
        have e1 : (b == 72) = false := by simpa using n1
        have e2 : (b == 73) = false := by simpa using n2
        have e3 : (b == 78) = false := by simpa using n3
        have e4 : (b == 79) = false := by simpa using n4
        have e5 : (b == 83) = false := by simpa using n5
        have e6 : (b == 88) = false := by simpa using n6
        have e7 : (b == 90) = false := by simpa using n7
        have e8 : (b == 32) = false := by simpa using n8
        have e9 : (b == 77) = false := by simpa using h2
        have e10 : (b == 87) = false := by simpa using h3
        clear n1 n2 n3 n4 n5 n6 n7 n8 h2 h3
        go_enter Try.func145, Try.ntmps145
        go_wp2
        go_ret
        exact ⟨ret_int (HB2.out.symm.trans HT.out), rfl⟩

theorem Try.infoU8 : (Try.prog.info? 5).map (fun i => (i.zero, i.size, i.bytes)) = some (some (.int .u8 0), 1, 1) := by kernel_rfl
/-- The text of bytes of one's own. -/
theorem str_of_own {w : World} {base n : Nat} {v : Value} {L : List UInt8} (h : w.ownsRow base 5 1 v n (Lib.byteCells L)) : (convert 113 9 v).run Try.prog w = .ok (.string ⟨L.toArray⟩) w := by
  have hl := h.1
  rw [Lib.byteCells_length] at hl
  rcases h.2 with ⟨rfl, h0⟩ | ⟨g, cap, cur, rfl, _, hg, _, _, _, htk⟩
  · have : L = [] := List.length_eq_zero_iff.1 (by omega)
    subst this
    exact Lib.run_convert_nil_bytes w _ _ 5 0 Try.underlying113 Try.underlying5 Try.underlying9
  · have := run_convert_bytes_back w 113 9 5 ⟨g, 0, none⟩ cap L Try.underlying113 Try.underlying5 Try.underlying9 (Lib.bytes_of_row hg (by rw [show L.length = n * 1 by omega]; exact htk))
    rwa [show L.length = n by omega] at this

/-- The last k letters, turned, backwards. -/
def trTo (L : List UInt8) (k : Nat) : List UInt8 := (L.reverse.take k).map turn8
theorem trTo_len {L : List UInt8} {k : Nat} (h : k ≤ L.length) : (trTo L k).length = k := by simp [trTo]; omega
theorem trTo_all (L : List UInt8) : trTo L L.length = turnL L := by
  unfold trTo turnL
  rw [List.take_of_length_le (by simp), List.map_reverse]
theorem trTo_succ {L : List UInt8} {k m : Nat} (h : L.length = m + 1 + k) : trTo L (k + 1) = trTo L k ++ [turn8 (L.getD m 0)] := by
  unfold trTo
  rw [List.take_add_one, List.map_append]
  congr 1
  rw [List.getElem?_reverse (by omega), show L.length - 1 - k = m by omega]
  simp [List.getD, show m < L.length by omega]
def tdS (L : List UInt8) : ByteArray := if allOn ableB L = true then ⟨(turnL L).toArray⟩ else ⟨#[]⟩
theorem tdS_no {L : List UInt8} (h : allOn ableB L = false) : tdS L = ⟨#[]⟩ := by unfold tdS; rw [h]; rfl
theorem tdS_ok {L : List UInt8} (h : allOn ableB L = true) : tdS L = ⟨(turnL L).toArray⟩ := by unfold tdS; rw [h]; rfl
theorem ret_sb' {s t : ByteArray} {a b : Bool} (h : s = t) (h' : a = b) : Ending.returned (.tuple #[.string s, .bool a]) = .returned (.tuple #[.string t, .bool b]) := by rw [h, h']

set_option maxRecDepth 100000 in
set_option maxHeartbeats 4000000 in
theorem l04Turned_any (s : ByteArray) (hs : s.size ≤ 1048576) (w : World) :
    Calls Try.prog 101 #[.string s] w fun e w' => e = .returned (.tuple #[.string (tdS s.data.toList), .bool (allOn ableB s.data.toList)]) ∧ Below w.heap.size w w' := by
  obtain ⟨i0, hi0, hz0, hz1, hz2⟩ := info_parts Try.infoU8
  have hL : s.data.toList.length = s.size := by simp
  have HL := hide hL
  generalize hT : tdS s.data.toList = T
  generalize hB : allOn ableB s.data.toList = B
  have HT := hide hT
  have HB := hide hB
  clear hL hT hB
  have hb0 : Below w.heap.size w (w.alloc (.cells #[] 5)) := (Below.refl _ _).alloc (Nat.le_refl _) _
  have HO := hide (World.ownsRow_lit w #[] 0 (Nat.le_refl _) (by unfold maxLen; omega) rfl : (w.alloc (.cells #[] 5)).ownsRow w.heap.size 5 1 (.slice (some ⟨w.heap.size, 0, none⟩) 0 0) 0 [])
  have hwr := IntWalk.i64_in ((s.size : Int) - 1) ⟨by omega, by omega⟩
  go_enter Try.func101, Try.ntmps101
  go_wp2
  go_loopw [4, 5] (fun br i wr => ∃ k : Nat, k ≤ s.size ∧ i = .int .i64 ((s.size : Int) - 1 - k) ∧ wr.ownsRow w.heap.size 5 1 br k (Lib.byteCells (trTo s.data.toList k)) ∧ Below w.heap.size w wr ∧ Hid (∀ j, j < s.size → s.size < j + 1 + k → ableB (byteAt s.data.toList j) = true))
    (fun _ i _ => (intOf i + 1).toNat)
  case atStart => exact ⟨0, by omega, by simp, HO.out, hb0, hide (fun j hj h => by omega)⟩
  case round =>
    obtain ⟨k, hk, rfl, hown, hBe, hg⟩ := hrel
    obtain ⟨Ab, cbb, rfl, hcap, _⟩ := cellsIn_of_own hown (by omega)
    have hbs := hBe.size
    have HOWN := hide hown
    clear hown
    by_cases hlt : k < s.size
    · obtain ⟨m, hm⟩ : ∃ m : Nat, s.size = m + 1 + k := ⟨s.size - 1 - k, by omega⟩
      have hms : m < s.size := by omega
      have hjm : (s.size : Int) - 1 - (k : Int) = (m : Int) := by omega
      have hmI : (m : Int) < s.size := by omega
      have hm0 : (0 : Int) ≤ m := by omega
      have w2 := IntWalk.i64_in ((m : Int) - 1) ⟨by omega, by omega⟩
      have HBY := hide (byteAt_get s m hms)
      have HSU := hide (trTo_succ (L := s.data.toList) (k := k) (m := m) (by rw [HL.out]; exact hm))
      have HT8 : Hid (turnB (s[m].toNat : Int) = ((turn8 (s.data.toList.getD m 0)).toNat : Int)) := hide (by rw [turn8_to]; rw [byteAt_get s m hms]; rfl)
      have HC := hide (fun W => l04Turn_any (s[m].toNat : Int) W)
      have HM := hide hm
      have HGO := hide (fun (h : ableB (byteAt s.data.toList m) = true) => (fun j hj hk' => by
          by_cases e : j = m
          · subst e; exact h
          · exact hg.out j hj (by omega) : ∀ j, j < s.size → s.size < j + 1 + (k + 1) → ableB (byteAt s.data.toList j) = true))
      have HAB : Hid (ableB (byteAt s.data.toList m) = (turnB (s[m].toNat : Int) != 0)) := hide (by rw [byteAt_get s m hms]; rfl)
      have HK := hide hk
      have HLT := hide hlt
      clear hm
      rw [hjm]
      cases hz : (turnB (s[m].toNat : Int) == 0)
      · rw [HT8.out] at hz HC
        have HAB2 := hide (HGO.out (by rw [HAB.out, HT8.out]; unfold bne; rw [hz]; rfl))
        generalize turn8 (s.data.toList.getD m 0) = z at *
        go_wp2_with fail
        refine (HC.out _).mono ?_
        rintro e w' ⟨rfl, rfl⟩
        go_wp2_with (at_builtin; refine wpList_append_own _ rfl (.tmp 21) (.tmp 23) 113 rfl w.heap.size 5 i0 (.int .u8 0) 1 1 Try.underlying113 hi0 hz0 hz1 hz2 rfl (by decide) _ k _ rfl (HOWN.out.alloc _) ⟨wr.heap.size, 0, none⟩ 1 1 [.int .u8 (z.toNat : Int)] rfl rfl (one_cell _) (one_one rfl) ?h1 ?h2 ?h3 ?_)
        case h1 => unfold maxLen; omega
        case h2 => omega
        case h3 => simp; omega
        intro v' w4 hown4 hg4 _
        obtain ⟨A4, c4, rfl, _, _⟩ := cellsIn_of_own hown4 (by omega)
        have H4 := hide hown4
        have hg34 : wr.grownBy w4 _ := grown_trans (World.grownBy_alloc wr _ _) hg4
        have hB4 := hBe.trans (grown_toBelow hg34 (by omega) (fun k hk => (HOWN.out.lt k hk).1))
        clear hown4 hg4 hg34
        go_wp2
        refine ⟨⟨k + 1, ?_, ?_, ?_, hB4, HAB2⟩, by simp [intOf]; try omega⟩
        · exact HLT.out
        · congr 1; omega
        · rw [HSU.out, Lib.byteCells_append]
          exact H4.out
      · have HZ := hide (show ableB (byteAt s.data.toList m) = false by rw [HAB.out]; simp [bne, hz])
        have HTN := hide (tdS_no (allOn_false (by rw [HL.out, HM.out]; omega) HZ.out))
        have HBN := hide (allOn_false (p := ableB) (L := s.data.toList) (by rw [HL.out, HM.out]; omega) HZ.out)
        simp only [beq_iff_eq] at hz
        rw [hz] at HC
        go_wp2_with fail
        refine (HC.out _).mono ?_
        rintro e w' ⟨rfl, rfl⟩
        go_wp2
        go_ret2
        exact ⟨ret_sb' (HTN.out.symm.trans HT.out) (HBN.out.symm.trans HB.out), hBe⟩
    · obtain rfl : k = s.size := by omega
      have hge : decide ((0 : Int) ≤ (s.size : Int) - 1 - (s.size : Int)) = false := by simp; omega
      have hAll : allOn ableB s.data.toList = true := allOn_true.2 (fun j hj => hg.out j (by rw [← HL.out]; exact hj) (by omega))
      have HBN := hide hAll
      have HTN := hide (tdS_ok hAll)
      have hst := str_of_own HOWN.out
      have HTL : Hid (trTo s.data.toList s.size = turnL s.data.toList) := hide (by rw [← HL.out]; exact trTo_all _)
      rw [HTL.out] at hst
      clear hAll hg
      go_wp2
      go_ret2
      exact ⟨ret_sb' (HTN.out.symm.trans HT.out) (HBN.out.symm.trans HB.out), hBe⟩

set_option maxRecDepth 100000 in
set_option maxHeartbeats 2000000 in
theorem specCanTurn_any (s : ByteArray) (hs : s.size ≤ 1048576) (w : World) :
    Calls Try.prog 49 #[.string s] w fun e w' => e = .returned (.bool (canT s.data.toList)) ∧ Below w.heap.size w w' := by
  have HD := hide (l04Turned_any s hs w)
  have HV := hide (fun w => l01Text_any s w (by unfold maxLen; omega))
  have HR : Hid (canT s.data.toList = (vtext s.data.toList && allOn ableB s.data.toList)) := hide rfl
  generalize canT s.data.toList = R at *
  generalize tdS s.data.toList = T at *
  generalize allOn ableB s.data.toList = B at *
  cases B
  · go_enter Try.func49, Try.ntmps49
    go_wp2_with (go_at_call 101; refine HD.out.mono ?_; rintro e w1 ⟨rfl, hb1⟩)
    go_ret
    exact ⟨ret_bool (by rw [HR.out]; simp), hb1⟩
  · go_enter Try.func49, Try.ntmps49
    go_wp2_with (first | (go_at_call 101; refine HD.out.mono ?_; rintro e w1 ⟨rfl, hb1⟩) | (go_at_call 102; refine (HV.out _).mono ?_; rintro e w' ⟨rfl, rfl⟩))
    go_ret
    exact ⟨ret_bool (by rw [HR.out]; simp), hb1⟩

set_option maxRecDepth 100000 in
set_option maxHeartbeats 2000000 in
theorem specTurnText_any (s : ByteArray) (hs : s.size ≤ 1048576) (w : World) :
    Calls Try.prog 51 #[.string s] w fun e w' => e = .returned (.tuple #[.string (ttV s.data.toList), .int .i64 (ttC s.data.toList)]) ∧ Below w.heap.size w w' := by
  have HD := hide (fun W => l04Turned_any s hs W)
  have HV := hide (fun w => l01Text_any s w (by unfold maxLen; omega))
  generalize hV : ttV s.data.toList = V
  generalize hC : ttC s.data.toList = C
  have H1 := hide hV
  have H2 := hide hC
  clear hV hC
  cases hv : vtext s.data.toList
  · have HP := hide (tt_no hv)
    go_enter Try.func51, Try.ntmps51
    go_wp2_with (go_at_call 102; refine (HV.out _).mono ?_; rintro e w' ⟨rfl, rfl⟩; simp only [hv])
    go_ret2
    exact ⟨ret_si (HP.out.1.symm.trans H1.out) (HP.out.2.symm.trans H2.out), Below.refl _ _⟩
  · cases hb : allOn ableB s.data.toList
    · have HP := hide (tt_not hv (by unfold canT; rw [hb, Bool.and_false]))
      rw [hb] at HD
      go_enter Try.func51, Try.ntmps51
      go_wp2_with (first | (go_at_call 102; refine (HV.out _).mono ?_; rintro e w' ⟨rfl, rfl⟩; simp only [hv]) | (go_at_call 101; refine (HD.out _).mono ?_; rintro e w1 ⟨rfl, hb1⟩))
      go_ret2
      exact ⟨ret_si (HP.out.1.symm.trans H1.out) (HP.out.2.symm.trans H2.out), hb1⟩
    · have HP := hide (tt_ok hv (by unfold canT; rw [hb, hv]; rfl))
      rw [hb, tdS_ok hb] at HD
      go_enter Try.func51, Try.ntmps51
      go_wp2_with (first | (go_at_call 102; refine (HV.out _).mono ?_; rintro e w' ⟨rfl, rfl⟩; simp only [hv]) | (go_at_call 101; refine (HD.out _).mono ?_; rintro e w1 ⟨rfl, hb1⟩))
      go_ret2
      exact ⟨ret_si (HP.out.1.symm.trans H1.out) (HP.out.2.symm.trans H2.out), hb1⟩

set_option maxRecDepth 100000 in
set_option maxHeartbeats 2000000 in
theorem implTurnText_any (s : ByteArray) (hs : s.size ≤ 1048576) (w : World) :
    Calls Try.prog 52 #[.string s] w fun e w' => e = .returned (.tuple #[.string (ttV s.data.toList), .int .i64 (ttC s.data.toList)]) ∧ Below w.heap.size w w' := by
  have HV := hide (implValidText_any s w (by unfold maxLen; omega))
  have HCT := hide (fun W => implCanTurn_any s hs W)
  generalize hV : ttV s.data.toList = V
  generalize hC : ttC s.data.toList = C
  have H1 := hide hV
  have H2 := hide hC
  clear hV hC
  cases hv : vtext s.data.toList
  · rw [hv] at HV
    have HP := hide (tt_no hv)
    go_enter Try.func52, Try.ntmps52
    go_wp2_with (go_at_call 103; refine HV.out.mono ?_; rintro e w1 ⟨rfl, hb1⟩)
    go_ret2
    exact ⟨ret_si (HP.out.1.symm.trans H1.out) (HP.out.2.symm.trans H2.out), hb1⟩
  · rw [hv] at HV
    cases hb : canT s.data.toList
    · have HP := hide (tt_not hv hb)
      rw [hb] at HCT
      go_enter Try.func52, Try.ntmps52
      go_wp2_with (first | (go_at_call 103; refine HV.out.mono ?_; rintro e w1 ⟨rfl, hb1⟩) | (go_at_call 50; refine (HCT.out _).mono ?_; rintro e w2 ⟨rfl, hb2⟩))
      go_ret2
      exact ⟨ret_si (HP.out.1.symm.trans H1.out) (HP.out.2.symm.trans H2.out), hb1.trans (hb2.mono hb1.size)⟩
    · have HP := hide (tt_ok hv hb)
      have HTU := hide (fun W => turn_any s W hs (vtext_cap hv))
      rw [hb] at HCT
      go_enter Try.func52, Try.ntmps52
      go_wp2_with (first | (go_at_call 103; refine HV.out.mono ?_; rintro e w1 ⟨rfl, hb1⟩) | (go_at_call 50; refine (HCT.out _).mono ?_; rintro e w2 ⟨rfl, hb2⟩) | (go_at_call 106; refine (HTU.out _).mono ?_; rintro e w3 ⟨rfl, hb3⟩))
      go_ret2
      exact ⟨ret_si (HP.out.1.symm.trans H1.out) (HP.out.2.symm.trans H2.out), hb1.trans ((hb2.trans (hb3.mono hb2.size)).mono hb1.size)⟩
end Go.Proofs.Ytajlbfbpkafjfaa
