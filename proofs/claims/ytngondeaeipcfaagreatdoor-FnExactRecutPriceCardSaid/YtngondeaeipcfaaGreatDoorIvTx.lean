/- Letters upside down: one letter, all of a text, backwards. · CanTurn and TurnText, of both. -/
import Derived.Test.YtngondeaeipcfaaGreatDoorIvB
import Derived.Shelf.RegionOpenPlain
import Derived.Test.YtngondeaeipcfaaGreatDoorWr
import Derived.Lib.BufferRead

namespace Go.Proofs.YtngondeaeipcfaaGreatDoor
open Go.RowKit

theorem turn8_to {x : UInt8} : ((turn8 x).toNat : Int) = turnB (x.toNat : Int) := by
  have hx := x.toNat_lt
  obtain ⟨h0, h1⟩ := turnB_bd (x.toNat : Int) ⟨by omega, by omega⟩
  unfold turn8
  rw [UInt8.toNat_ofNat']
  omega
/-- The first k letters are turned. -/
def tuTo (L : List UInt8) (k : Nat) : List UInt8 := (L.take k).map turn8 ++ L.drop k
theorem tuTo_len (L : List UInt8) (k : Nat) : (tuTo L k).length = L.length := by simp [tuTo]; omega
theorem tuTo_zero (L : List UInt8) : tuTo L 0 = L := by simp [tuTo]
theorem tuTo_all (L : List UInt8) : tuTo L L.length = L.map turn8 := by simp [tuTo]
theorem tuTo_at {L : List UInt8} {k : Nat} (hk : k < L.length) : byteAt (tuTo L k) k = byteAt L k := by
  unfold byteAt tuTo
  rw [List.getD_eq_getElem?_getD, List.getElem?_append_right (by simp; omega), List.getD_eq_getElem?_getD]
  simp [Nat.min_eq_left (Nat.le_of_lt hk)]
theorem tuTo_succ {L : List UInt8} {k : Nat} (hk : k < L.length) : tuTo L (k + 1) = (tuTo L k).set k (turn8 (L.getD k 0)) := by
  apply List.ext_getElem
  · simp [tuTo_len]
  · intro i h1 h2
    rw [tuTo_len] at h1
    rw [List.getElem_set]
    simp only [tuTo, List.getElem_append, List.length_map, List.length_take, List.getElem_map, List.getElem_take, List.getElem_drop]
    by_cases e : k = i
    · subst e
      have : k < min (k + 1) L.length := by omega
      simp [this, List.getD, hk]
    · rw [if_neg e]
      by_cases h3 : i < k
      · have a1 : i < min (k + 1) L.length := by omega
        have a2 : i < min k L.length := by omega
        simp [a1, a2]
      · have a1 : ¬ i < min (k + 1) L.length := by omega
        have a2 : ¬ i < min k L.length := by omega
        simp only [a1, a2, dif_neg, not_false_eq_true]
        congr 1
        omega
/-- The first and the last k have changed places. -/
def revTo (L : List UInt8) (k : Nat) : List UInt8 := (List.range L.length).map (fun j => if j < k ∨ L.length < j + 1 + k then L.getD (L.length - 1 - j) 0 else L.getD j 0)
theorem revTo_len (L : List UInt8) (k : Nat) : (revTo L k).length = L.length := by simp [revTo]
theorem revTo_zero (L : List UInt8) : revTo L 0 = L := by
  apply List.ext_getElem
  · simp [revTo]
  · intro i h1 h2
    simp only [revTo, List.getElem_map, List.getElem_range]
    rw [if_neg (by omega)]
    simp [List.getD, h2]
theorem revTo_end {L : List UInt8} {k : Nat} (h : L.length ≤ 2 * k + 1) : revTo L k = L.reverse := by
  apply List.ext_getElem
  · simp [revTo]
  · intro i h1 h2
    rw [revTo_len] at h1
    simp only [revTo, List.getElem_map, List.getElem_range, List.getElem_reverse]
    by_cases e : i < k ∨ L.length < i + 1 + k
    · rw [if_pos e]; simp [List.getD, show L.length - 1 - i < L.length by omega]
    · rw [if_neg e]
      have : i = L.length - 1 - i := by omega
      simp only [List.getD, List.getElem?_eq_getElem h1, Option.getD_some]
      congr 1
theorem revTo_at {L : List UInt8} {k j : Nat} (hj : j < L.length) (h : ¬ (j < k ∨ L.length < j + 1 + k)) : byteAt (revTo L k) j = byteAt L j := by
  unfold byteAt
  have : (revTo L k).getD j 0 = L.getD j 0 := by
    simp only [List.getD_eq_getElem?_getD, revTo, List.getElem?_map, List.getElem?_range hj, Option.map_some, Option.getD_some]
    rw [if_neg h]
  rw [this]
theorem revTo_succ {L : List UInt8} {k : Nat} (h : 2 * k + 1 < L.length) : revTo L (k + 1) = ((revTo L k).set k (L.getD (L.length - 1 - k) 0)).set (L.length - 1 - k) (L.getD k 0) := by
  apply List.ext_getElem
  · simp [revTo_len]
  · intro i h1 h2
    rw [revTo_len] at h1
    rw [List.getElem_set, List.getElem_set]
    simp only [revTo, List.getElem_map, List.getElem_range]
    by_cases e1 : L.length - 1 - k = i
    · rw [if_pos e1, if_pos (by omega)]
      congr 1
      omega
    · rw [if_neg e1]
      by_cases e2 : k = i
      · subst e2
        rw [if_pos rfl, if_pos (by omega)]
      · rw [if_neg e2]
        by_cases e3 : i < k ∨ L.length < i + 1 + k
        · rw [if_pos e3, if_pos (by omega)]
        · rw [if_neg e3, if_neg (by omega)]

abbrev tab26 : Array Value := #[.int .u8 0, .int .u8 0, .int .u8 0, .int .u8 0, .int .u8 0, .int .u8 0, .int .u8 0, .int .u8 72, .int .u8 73, .int .u8 0, .int .u8 0, .int .u8 0, .int .u8 87, .int .u8 78, .int .u8 79, .int .u8 0, .int .u8 0, .int .u8 0, .int .u8 83, .int .u8 0, .int .u8 0, .int .u8 0, .int .u8 77, .int .u8 88, .int .u8 0, .int .u8 90]
abbrev zer26 : Array Value := #[.int .u8 0, .int .u8 0, .int .u8 0, .int .u8 0, .int .u8 0, .int .u8 0, .int .u8 0, .int .u8 0, .int .u8 0, .int .u8 0, .int .u8 0, .int .u8 0, .int .u8 0, .int .u8 0, .int .u8 0, .int .u8 0, .int .u8 0, .int .u8 0, .int .u8 0, .int .u8 0, .int .u8 0, .int .u8 0, .int .u8 0, .int .u8 0, .int .u8 0, .int .u8 0]
theorem tab26_at : ∀ n : Nat, n < 26 → tab26[n]? = some (.int .u8 (turnB (65 + n)))
  | 0, _ | 1, _ | 2, _ | 3, _ | 4, _ | 5, _ | 6, _ | 7, _ | 8, _ | 9, _ | 10, _ | 11, _ | 12, _ | 13, _ | 14, _ | 15, _ | 16, _ | 17, _ | 18, _ | 19, _ | 20, _ | 21, _ | 22, _ | 23, _ | 24, _ | 25, _ => by kernel_rfl
  | n + 26, h => by omega

set_option maxRecDepth 100000 in
set_option maxHeartbeats 2000000 in
theorem turned_any (b : Int) (w : World) :
    Calls Tryz.prog 242 #[.int .u8 b] w fun e w' => e = .returned (.int .u8 (turnI b)) ∧ Below w.heap.size w w' := by
  cases hc : cap b
  · have HT : Hid (turnI b = b) := hide (by unfold turnI; rw [hc]; rfl)
    go_enter Tryz.func242, Tryz.ntmps242
    go_wp2_with (go_at_call 210; refine (isCapital_any _ _).mono ?_; rintro e w' ⟨rfl, rfl⟩; simp only [hc])
    go_ret
    exact ⟨ret_int HT.out.symm, Below.refl _ _⟩
  · obtain ⟨n, T, hn, hT, hI, hcell⟩ : ∃ (n : Nat) (T : Int), n < 26 ∧ turnI b = T ∧ (b - 65 = (n : Int)) ∧ tab26[n]? = some (.int .u8 T) := by
      obtain ⟨h0, h1⟩ := cap_true.1 hc
      refine ⟨(b - 65).toNat, _, by omega, rfl, by omega, ?_⟩
      rw [turnI_eq (.inl hc)]
      have := tab26_at (b - 65).toNat (by omega)
      rwa [show (65 : Int) + ((b - 65).toNat : Nat) = b by omega] at this
    have HT := hide hT
    have hni : (n : Int) < 26 := by omega
    have hn0 : (0 : Int) ≤ n := by omega
    have HI := hide (fun w => index_any b w hc)
    rw [hI] at HI
    have ht : (w.alloc (.cells zer26 288)).there w.heap.size 0 tab26.toList.length := there_newg rfl rfl
    obtain ⟨W2, hW2⟩ : ∃ W2, W2 = (w.alloc (.cells zer26 288)).setCells w.heap.size 0 tab26.toList := ⟨_, rfl⟩
    have hcl : W2.cell? ⟨w.heap.size, n, none⟩ = some (.int .u8 T) := by
      rw [hW2]; exact rangeAt_cell (World.rangeAt_setCells_same _ _ _ _ ht) (by rw [Array.getElem?_toList]; exact hcell)
    have hb : Below w.heap.size w W2 := by rw [hW2]; exact below_setCells _ _ _ _ ((Below.refl _ _).alloc (Nat.le_refl _) _) (Nat.le_refl _)
    have HW2 := hide hW2
    clear hI hT hcell hW2
    have hbt : Tryz.prog.built 288 [(7, .int .u8 72), (8, .int .u8 73), (12, .int .u8 87), (13, .int .u8 78), (14, .int .u8 79), (18, .int .u8 83), (22, .int .u8 77), (23, .int .u8 88), (25, .int .u8 90)] = some tab26 := by kernel_rfl
    have hone : tab26.all (·.oneCell') = true := by kernel_rfl
    go_enter Tryz.func242, Tryz.ntmps242
    go_wp2_with (first | (refine wpList_build rfl 288 _ rfl (by kernel_rfl) ?_; simp only [List.map_toArray, List.map_cons, List.map_nil, Act.eval, hbt, Option.getD_some]) | (refine wpList_store_mid rfl 288 (.tmp 3) (.tmp 8) rfl w.heap.size 0 tab26 rfl rfl ht (by kernel_rfl) hone ?_; rw [← HW2.out]) | (go_at_call 210; refine (isCapital_any _ _).mono ?_; rintro e w' ⟨rfl, rfl⟩; simp only [hc]) | (go_at_call 213; refine (HI.out _).mono ?_; rintro e w' ⟨rfl, rfl⟩))
    go_ret
    exact ⟨ret_int HT.out.symm, hb⟩

set_option maxRecDepth 100000 in
set_option maxHeartbeats 2000000 in
theorem canTurnL_any (b : Int) (w : World) :
    Calls Tryz.prog 182 #[.int .u8 b] w fun e w' => e = .returned (.bool (turnI b != 0)) ∧ Below w.heap.size w w' := by
  have HC := hide (turned_any b w)
  generalize turnI b = t at *
  go_enter Tryz.func182, Tryz.ntmps182
  go_wp2_with (go_at_call 242; refine HC.out.mono ?_; rintro e w1 ⟨rfl, hb1⟩)
  go_ret
  exact ⟨rfl, hb1⟩

set_option maxRecDepth 100000 in
set_option maxHeartbeats 4000000 in
theorem reverse_any (L : List UInt8) (n b c : Nat) (w : World) (B : Nat) (hL : L.length = n) (hn : n ≤ 1048576) (hB : B ≤ b) (hb : b < w.heap.size) (hA : BytesAt w b L) :
    Calls Tryz.prog 243 #[.slice (some ⟨b, 0, none⟩) n c] w fun e w' => e = .returned (.tuple #[]) ∧ Below B w w' ∧ BytesAt w' b L.reverse := by
  have HL := hide hL
  have HA := hide hA
  clear hA hL
  have hwr := IntWalk.i64_in ((n : Int) - 1) ⟨by omega, by omega⟩
  go_enter Tryz.func243, Tryz.ntmps243
  go_wp2
  go_loopw [2, 3] (fun i j wr => ∃ k : Nat, 2 * k ≤ n ∧ i = .int .i64 k ∧ j = .int .i64 ((n : Int) - 1 - k) ∧ Below B w wr ∧ Hid (BytesAt wr b (revTo L k)))
    (fun i _ _ => n - (intOf i).toNat)
  case atStart => exact ⟨0, by omega, rfl, by simp, Below.refl _ _, hide (by rw [revTo_zero]; exact HA.out)⟩
  case round =>
    obtain ⟨k, hk, rfl, rfl, hBe, hcells⟩ := hrel
    by_cases hlt : 2 * k + 1 < n
    · obtain ⟨m, hm⟩ : ∃ m : Nat, n = m + 1 + k := ⟨n - 1 - k, by omega⟩
      subst hm
      have hkL : k < L.length := by rw [HL.out]; omega
      have hmL : m < L.length := by rw [HL.out]; omega
      obtain ⟨ck, fk⟩ := hcells.out k (by rw [revTo_len]; exact hkL)
      obtain ⟨cm, fm⟩ := hcells.out m (by rw [revTo_len]; exact hmL)
      rw [revTo_at hkL (by rw [HL.out]; omega)] at ck
      rw [revTo_at hmL (by rw [HL.out]; omega)] at cm
      have hjm : ((m + 1 + k : Nat) : Int) - 1 - (k : Int) = (m : Int) := by omega
      have hkm : (k : Int) < m := by omega
      have hkm' : k < m := by omega
      have HS1 := hide (hcells.out.set (k := k) (by rw [revTo_len]; exact hkL) (L.getD m 0))
      have HS2 := hide (HS1.out.set (k := m) (by rw [List.length_set, revTo_len]; exact hmL) (L.getD k 0))
      have HRS := hide (revTo_succ (L := L) (k := k) (by rw [HL.out]; omega))
      rw [HL.out, show m + 1 + k - 1 - k = m by omega] at HRS
      have w2 := IntWalk.i64_in ((m : Int) - 1) ⟨by omega, by omega⟩
      have hmI : (m : Int) < (m : Int) + 1 + k := by omega
      have hkI : (k : Int) < (m : Int) + 1 + k := by omega
      have mixed : Tryz.prog.follows .mixedOrders = true := by kernel_rfl
      rw [hjm]
      go_wp2_with fail
      go_region_o
      go_wp2
      refine ⟨⟨k + 1, by omega, by go_num, by congr 1; omega, ((hBe.setCell (p := ⟨b, k, none⟩) hB _).setCell (p := ⟨b, m, none⟩) hB _).drew, hide (by rw [HRS.out]; exact HS2.out)⟩, by simp [intOf]; omega⟩
    · have hge : decide ((k : Int) < (n : Int) - 1 - k) = false := by simp; omega
      have HRE := hide (revTo_end (L := L) (k := k) (by rw [HL.out]; omega))
      go_wp2
      go_end0
      exact ⟨rfl, hBe, by rw [← HRE.out]; exact hcells.out⟩

set_option maxRecDepth 100000 in
set_option maxHeartbeats 4000000 in
theorem turn_any (s : ByteArray) (w : World) (hs : s.size ≤ 1048576) (hc : ∀ j, j < s.data.toList.length → cap (byteAt s.data.toList j) = true ∨ byteAt s.data.toList j = 32) :
    Calls Tryz.prog 178 #[.string s] w fun e w' => e = .returned (.string ⟨(turnL s.data.toList).toArray⟩) ∧ Below w.heap.size w w' := by
  have hL : s.data.toList.length = s.size := by simp
  have HL := hide hL
  have HCA := hide hc
  obtain ⟨W1, c, hcv, hb1, hBA, hlt⟩ := bytes_new2 s w
  have HBA := hide hBA
  clear hL hc hBA
  go_enter Tryz.func178, Tryz.ntmps178
  go_wp2
  go_loopw [10] (fun i wr => ∃ k : Nat, k ≤ s.size ∧ i = .int .i64 k ∧ Below w.heap.size w wr ∧ w.heap.size < wr.heap.size ∧ Hid (BytesAt wr w.heap.size (tuTo s.data.toList k)))
    (fun i _ => s.size - (intOf i).toNat)
  case atStart => exact ⟨0, by omega, rfl, hb1, hlt, hide (by rw [tuTo_zero]; exact HBA.out)⟩
  case round =>
    obtain ⟨k, hk, rfl, hB, hsz, hcells⟩ := hrel
    by_cases hlt2 : k < s.size
    · have hkL : k < s.data.toList.length := by rw [HL.out]; exact hlt2
      have hi : (k : Int) < s.size := by omega
      have h0 : (0 : Int) ≤ k := by omega
      obtain ⟨hc0, hf0⟩ := hcells.out k (by rw [tuTo_len]; exact hkL)
      rw [tuTo_at hkL] at hc0
      have HSU := hide (tuTo_succ hkL)
      have HT8 : Hid (turnI (byteAt s.data.toList k) = ((turn8 (s.data.toList.getD k 0)).toNat : Int)) := hide ((turnI_eq (HCA.out k hkL)).trans turn8_to.symm)
      have HST := hide (fun (W : World) (h : BytesAt W w.heap.size (tuTo s.data.toList k)) => h.set (k := k) (by rw [tuTo_len]; exact hkL) (turn8 (s.data.toList.getD k 0)))
      have HC := hide (fun W => turned_any (byteAt s.data.toList k) W)
      rw [HT8.out] at HC
      generalize turn8 (s.data.toList.getD k 0) = z at *
      clear hkL
      go_wp2_with fail
      refine (HC.out _).mono ?_
      rintro e w1 ⟨rfl, hbb⟩
      have hcells1 := hide (hcells.out.below hbb hsz)
      have hf1 : w1.frozen? ⟨w.heap.size, k, none⟩ = false := by rw [hbb.frozen (p := ⟨w.heap.size, k, none⟩) hsz]; exact hf0
      have hc1 : w1.cell? ⟨w.heap.size, k, none⟩ = some (.int .u8 (byteAt s.data.toList k)) := by rw [hbb.cell (p := ⟨w.heap.size, k, none⟩) hsz]; exact hc0
      have hbz := hbb.size
      clear hc0 hf0
      go_wp2
      exact ⟨⟨k + 1, by omega, by go_num, (hB.trans (hbb.mono hB.size)).setCell (p := ⟨w.heap.size, k, none⟩) (Nat.le_refl _) _, (by rw [size_setCell]; omega), hide (by rw [HSU.out]; exact HST.out _ hcells1.out)⟩, by simp [intOf]; omega⟩
    · obtain rfl : k = s.size := by omega
      have hall := hcells.out
      rw [← HL.out, tuTo_all] at hall
      have HR := hide (reverse_any (s.data.toList.map turn8) s.size w.heap.size c wr w.heap.size (by rw [List.length_map, HL.out]) hs (Nat.le_refl _) hsz hall)
      clear hall
      go_wp2_with fail
      refine HR.out.mono ?_
      rintro e w1 ⟨rfl, hbb, hby⟩
      have hbk := bytes_back (c := c) hby
      rw [List.length_reverse, List.length_map, HL.out] at hbk
      go_wp2
      go_ret
      exact ⟨rfl, hB.trans hbb⟩
end Go.Proofs.YtngondeaeipcfaaGreatDoor

namespace Go.Proofs.YtngondeaeipcfaaGreatDoor
open Go.RowKit

theorem vtext_cap {L : List UInt8} (h : vtext L = true) : ∀ j, j < L.length → cap (byteAt L j) = true ∨ byteAt L j = 32 := fun j hj => by
  rcases (vtext_true.1 h).2 j hj with h | h
  · exact .inr h.1
  · exact .inl h
theorem able_I {L : List UInt8} (h : vtext L = true) : allOn (fun b => turnI b != 0) L = allOn ableB L :=
  allOn_congr fun j hj => by
    show (turnI (byteAt L j) != 0) = (turnB (byteAt L j) != 0)
    rw [turnI_eq (vtext_cap h j hj)]
theorem canT_no {L : List UInt8} (h : vtext L = false) : canT L = false := by unfold canT; rw [h]; rfl
theorem tt_no {L : List UInt8} (h : vtext L = false) : ttV L = ⟨#[]⟩ ∧ ttC L = 1 := by unfold ttV ttC; rw [canT_no h, h]; exact ⟨rfl, rfl⟩
theorem tt_not {L : List UInt8} (h : vtext L = true) (h' : canT L = false) : ttV L = ⟨#[]⟩ ∧ ttC L = 4 := by unfold ttV ttC; rw [h', h]; exact ⟨rfl, rfl⟩
theorem tt_ok {L : List UInt8} (h : vtext L = true) (h' : canT L = true) : ttV L = ⟨(turnL L).toArray⟩ ∧ ttC L = 0 := by unfold ttV ttC; rw [h', h]; exact ⟨rfl, rfl⟩

set_option maxRecDepth 100000 in
set_option maxHeartbeats 2000000 in
theorem implCanTurn_any (s : ByteArray) (hs : s.size ≤ 1048576) (w : World) :
    Calls Tryz.prog 83 #[.string s] w fun e w' => e = .returned (.bool (canT s.data.toList)) ∧ Below w.heap.size w w' := by
  have hs2 : s.size ≤ maxLen := by unfold maxLen; omega
  have HV := hide (implValidText_any s w hs2)
  have HO := hide (fun W => hasOnly_any 182 (enters_of Tryz.func182 (by kernel_rfl) rfl) (fun b => turnI b != 0) s W hs2 (fun j _ W _ => canTurnL_any _ W))
  generalize hR : canT s.data.toList = R
  have HR := hide hR
  clear hR
  cases hv : vtext s.data.toList
  · rw [hv] at HV
    have HN := hide (canT_no hv)
    go_enter Tryz.func83, Tryz.ntmps83
    go_wp2_with (go_at_call 105; refine HV.out.mono ?_; rintro e w1 ⟨rfl, hb1⟩)
    go_ret
    exact ⟨ret_bool (HN.out.symm.trans HR.out), hb1⟩
  · rw [hv] at HV
    rw [able_I hv] at HO
    have HN := hide (show canT s.data.toList = allOn ableB s.data.toList by unfold canT; rw [hv]; rfl)
    go_enter Tryz.func83, Tryz.ntmps83
    go_wp2_with (first | (go_at_call 105; refine HV.out.mono ?_; rintro e w1 ⟨rfl, hb1⟩) | (go_at_call 181; refine (HO.out _).mono ?_; rintro e w2 ⟨rfl, hb2⟩))
    go_ret
    exact ⟨ret_bool (HN.out.symm.trans HR.out), hb1.trans (hb2.mono hb1.size)⟩

set_option maxRecDepth 100000 in
set_option maxHeartbeats 2000000 in
theorem l04Turn_any (b : Int) (w : World) :
    Calls Tryz.prog 244 #[.int .u8 b] w fun e w' => e = .returned (.int .u8 (turnB b)) ∧ w = w' := by
  generalize hT : turnB b = T
  have HT := hide hT
  clear hT
  by_cases h1 : b = 72 ∨ b = 73 ∨ b = 78 ∨ b = 79 ∨ b = 83 ∨ b = 88 ∨ b = 90 ∨ b = 32
  · have HB : Hid (turnB b = b) := hide (by unfold turnB; rw [if_pos h1])
    rcases h1 with h | h | h | h | h | h | h | h <;> subst h
    all_goals
      go_enter Tryz.func244, Tryz.ntmps244
      go_wp2
      go_ret
      exact ⟨ret_int (HB.out.symm.trans HT.out), rfl⟩
  · have HB : Hid (turnB b = if b = 77 then 87 else if b = 87 then 77 else 0) := hide (by unfold turnB; rw [if_neg h1])
    simp only [not_or] at h1
    obtain ⟨n1, n2, n3, n4, n5, n6, n7, n8⟩ := h1
    by_cases h2 : b = 77
    · subst h2
      go_enter Tryz.func244, Tryz.ntmps244
      go_wp2
      go_ret
      exact ⟨ret_int (HB.out.symm.trans HT.out), rfl⟩
    · by_cases h3 : b = 87
      · subst h3
        go_enter Tryz.func244, Tryz.ntmps244
        go_wp2
        go_ret
        exact ⟨ret_int (HB.out.symm.trans HT.out), rfl⟩
      · have HB2 : Hid (turnB b = 0) := hide (by rw [HB.out, if_neg h2, if_neg h3])
        clear HB
        have e1 : (b == 72) = false := by simpa using n1
        have e2 : (b == 73) = false := by simpa using n2
        have e3 : (b == 78) = false := by simpa using n3
        have e4 : (b == 79) = false := by simpa using n4
        have e5 : (b == 83) = false := by simpa using n5
        have e6 : (b == 88) = false := by simpa using n6
        have e7 : (b == 90) = false := by simpa using n7
        have e8 : (b == 32) = false := by simpa using n8
        have e9 : (b == 77) = false := by simpa using h2
        have e10 : (b == 87) = false := by simpa using h3
        clear n1 n2 n3 n4 n5 n6 n7 n8 h2 h3
        go_enter Tryz.func244, Tryz.ntmps244
        go_wp2
        go_ret
        exact ⟨ret_int (HB2.out.symm.trans HT.out), rfl⟩

theorem Tryz.infoU8 : (Tryz.prog.info? 5).map (fun i => (i.zero, i.size, i.bytes)) = some (some (.int .u8 0), 1, 1) := by kernel_rfl
/-- The text of bytes of one's own. -/
theorem str_of_own {w : World} {base n : Nat} {v : Value} {L : List UInt8} (h : w.ownsRow base 5 1 v n (Lib.byteCells L)) : (convert 22 9 v).run Tryz.prog w = .ok (.string ⟨L.toArray⟩) w := by
  have hl := h.1
  rw [Lib.byteCells_length] at hl
  rcases h.2 with ⟨rfl, h0⟩ | ⟨g, cap, cur, rfl, _, hg, _, _, _, htk⟩
  · have : L = [] := List.length_eq_zero_iff.1 (by omega)
    subst this
    exact Lib.run_convert_nil_bytes w _ _ 5 0 Tryz.underlying22 Tryz.underlying5 Tryz.underlying9
  · have := run_convert_bytes_back w 22 9 5 ⟨g, 0, none⟩ cap L Tryz.underlying22 Tryz.underlying5 Tryz.underlying9 (Lib.bytes_of_row hg (by rw [show L.length = n * 1 by omega]; exact htk))
    rwa [show L.length = n by omega] at this

/-- The last k letters, turned, backwards. -/
def trTo (L : List UInt8) (k : Nat) : List UInt8 := (L.reverse.take k).map turn8
theorem trTo_len {L : List UInt8} {k : Nat} (h : k ≤ L.length) : (trTo L k).length = k := by simp [trTo]; omega
theorem trTo_all (L : List UInt8) : trTo L L.length = turnL L := by
  unfold trTo turnL
  rw [List.take_of_length_le (by simp), List.map_reverse]
theorem trTo_succ {L : List UInt8} {k m : Nat} (h : L.length = m + 1 + k) : trTo L (k + 1) = trTo L k ++ [turn8 (L.getD m 0)] := by
  unfold trTo
  rw [List.take_add_one, List.map_append]
  congr 1
  rw [List.getElem?_reverse (by omega), show L.length - 1 - k = m by omega]
  simp [List.getD, show m < L.length by omega]
def tdS (L : List UInt8) : ByteArray := if allOn ableB L = true then ⟨(turnL L).toArray⟩ else ⟨#[]⟩
theorem tdS_no {L : List UInt8} (h : allOn ableB L = false) : tdS L = ⟨#[]⟩ := by unfold tdS; rw [h]; rfl
theorem tdS_ok {L : List UInt8} (h : allOn ableB L = true) : tdS L = ⟨(turnL L).toArray⟩ := by unfold tdS; rw [h]; rfl
theorem ret_sb' {s t : ByteArray} {a b : Bool} (h : s = t) (h' : a = b) : Ending.returned (.tuple #[.string s, .bool a]) = .returned (.tuple #[.string t, .bool b]) := by rw [h, h']

set_option maxRecDepth 100000 in
set_option maxHeartbeats 4000000 in
theorem l04Turned_any (s : ByteArray) (hs : s.size ≤ 1048576) (w : World) :
    Calls Tryz.prog 179 #[.string s] w fun e w' => e = .returned (.tuple #[.string (tdS s.data.toList), .bool (allOn ableB s.data.toList)]) ∧ Below w.heap.size w w' := by
  obtain ⟨i0, hi0, hz0, hz1, hz2⟩ := info_parts Tryz.infoU8
  have hL : s.data.toList.length = s.size := by simp
  have HL := hide hL
  generalize hT : tdS s.data.toList = T
  generalize hB : allOn ableB s.data.toList = B
  have HT := hide hT
  have HB := hide hB
  clear hL hT hB
  have hb0 : Below w.heap.size w (w.alloc (.cells #[] 5)) := (Below.refl _ _).alloc (Nat.le_refl _) _
  have HO := hide (World.ownsRow_lit w #[] 0 (Nat.le_refl _) (by unfold maxLen; omega) rfl : (w.alloc (.cells #[] 5)).ownsRow w.heap.size 5 1 (.slice (some ⟨w.heap.size, 0, none⟩) 0 0) 0 [])
  have hwr := IntWalk.i64_in ((s.size : Int) - 1) ⟨by omega, by omega⟩
  go_enter Tryz.func179, Tryz.ntmps179
  go_wp2
  go_loopw [4, 5] (fun br i wr => ∃ k : Nat, k ≤ s.size ∧ i = .int .i64 ((s.size : Int) - 1 - k) ∧ wr.ownsRow w.heap.size 5 1 br k (Lib.byteCells (trTo s.data.toList k)) ∧ Below w.heap.size w wr ∧ Hid (∀ j, j < s.size → s.size < j + 1 + k → ableB (byteAt s.data.toList j) = true))
    (fun _ i _ => (intOf i + 1).toNat)
  case atStart => exact ⟨0, by omega, by simp, HO.out, hb0, hide (fun j hj h => by omega)⟩
  case round =>
    obtain ⟨k, hk, rfl, hown, hBe, hg⟩ := hrel
    obtain ⟨Ab, cbb, rfl, hcap, _⟩ := cellsIn_of_own hown (by omega)
    have hbs := hBe.size
    have HOWN := hide hown
    clear hown
    by_cases hlt : k < s.size
    · obtain ⟨m, hm⟩ : ∃ m : Nat, s.size = m + 1 + k := ⟨s.size - 1 - k, by omega⟩
      have hms : m < s.size := by omega
      have hjm : (s.size : Int) - 1 - (k : Int) = (m : Int) := by omega
      have hmI : (m : Int) < s.size := by omega
      have hm0 : (0 : Int) ≤ m := by omega
      have w2 := IntWalk.i64_in ((m : Int) - 1) ⟨by omega, by omega⟩
      have HBY := hide (byteAt_get s m hms)
      have HSU := hide (trTo_succ (L := s.data.toList) (k := k) (m := m) (by rw [HL.out]; exact hm))
      have HT8 : Hid (turnB (s[m].toNat : Int) = ((turn8 (s.data.toList.getD m 0)).toNat : Int)) := hide (by rw [turn8_to]; rw [byteAt_get s m hms]; rfl)
      have HC := hide (fun W => l04Turn_any (s[m].toNat : Int) W)
      have HM := hide hm
      have HGO := hide (fun (h : ableB (byteAt s.data.toList m) = true) => (fun j hj hk' => by
          by_cases e : j = m
          · subst e; exact h
          · exact hg.out j hj (by omega) : ∀ j, j < s.size → s.size < j + 1 + (k + 1) → ableB (byteAt s.data.toList j) = true))
      have HAB : Hid (ableB (byteAt s.data.toList m) = (turnB (s[m].toNat : Int) != 0)) := hide (by rw [byteAt_get s m hms]; rfl)
      have HK := hide hk
      have HLT := hide hlt
      clear hm
      rw [hjm]
      cases hz : (turnB (s[m].toNat : Int) == 0)
      · rw [HT8.out] at hz HC
        have HAB2 := hide (HGO.out (by rw [HAB.out, HT8.out]; unfold bne; rw [hz]; rfl))
        generalize turn8 (s.data.toList.getD m 0) = z at *
        go_wp2_with fail
        refine (HC.out _).mono ?_
        rintro e w' ⟨rfl, rfl⟩
        go_wp2_with (at_builtin; refine wpList_append_own _ rfl (.tmp 21) (.tmp 23) 22 rfl w.heap.size 5 i0 (.int .u8 0) 1 1 Tryz.underlying22 hi0 hz0 hz1 hz2 rfl (by decide) _ k _ rfl (HOWN.out.alloc _) ⟨wr.heap.size, 0, none⟩ 1 1 [.int .u8 (z.toNat : Int)] rfl rfl (one_cell _) (one_one rfl) ?h1 ?h2 ?h3 ?_)
        case h1 => unfold maxLen; omega
        case h2 => omega
        case h3 => simp; omega
        intro v' w4 hown4 hg4 _
        obtain ⟨A4, c4, rfl, _, _⟩ := cellsIn_of_own hown4 (by omega)
        have H4 := hide hown4
        have hg34 : wr.grownBy w4 _ := grown_trans (World.grownBy_alloc wr _ _) hg4
        have hB4 := hBe.trans (grown_toBelow hg34 (by omega) (fun k hk => (HOWN.out.lt k hk).1))
        clear hown4 hg4 hg34
        go_wp2
        refine ⟨⟨k + 1, ?_, ?_, ?_, hB4, HAB2⟩, by simp [intOf]; try omega⟩
        · exact HLT.out
        · congr 1; omega
        · rw [HSU.out, Lib.byteCells_append]
          exact H4.out
      · have HZ := hide (show ableB (byteAt s.data.toList m) = false by rw [HAB.out]; simp [bne, hz])
        have HTN := hide (tdS_no (allOn_false (by rw [HL.out, HM.out]; omega) HZ.out))
        have HBN := hide (allOn_false (p := ableB) (L := s.data.toList) (by rw [HL.out, HM.out]; omega) HZ.out)
        simp only [beq_iff_eq] at hz
        rw [hz] at HC
        go_wp2_with fail
        refine (HC.out _).mono ?_
        rintro e w' ⟨rfl, rfl⟩
        go_wp2
        go_ret2
        exact ⟨ret_sb' (HTN.out.symm.trans HT.out) (HBN.out.symm.trans HB.out), hBe⟩
    · obtain rfl : k = s.size := by omega
      have hge : decide ((0 : Int) ≤ (s.size : Int) - 1 - (s.size : Int)) = false := by simp; omega
      have hAll : allOn ableB s.data.toList = true := allOn_true.2 (fun j hj => hg.out j (by rw [← HL.out]; exact hj) (by omega))
      have HBN := hide hAll
      have HTN := hide (tdS_ok hAll)
      have hst := str_of_own HOWN.out
      have HTL : Hid (trTo s.data.toList s.size = turnL s.data.toList) := hide (by rw [← HL.out]; exact trTo_all _)
      rw [HTL.out] at hst
      clear hAll hg
      go_wp2
      go_ret2
      exact ⟨ret_sb' (HTN.out.symm.trans HT.out) (HBN.out.symm.trans HB.out), hBe⟩

set_option maxRecDepth 100000 in
set_option maxHeartbeats 2000000 in
theorem specTurnText_any (s : ByteArray) (hs : s.size ≤ 1048576) (w : World) :
    Calls Tryz.prog 80 #[.string s] w fun e w' => e = .returned (.tuple #[.string (ttV s.data.toList), .int .i64 (ttC s.data.toList)]) ∧ Below w.heap.size w w' := by
  have HD := hide (fun W => l04Turned_any s hs W)
  have HV := hide (fun w => l01Text_any s w (by unfold maxLen; omega))
  generalize hV : ttV s.data.toList = V
  generalize hC : ttC s.data.toList = C
  have H1 := hide hV
  have H2 := hide hC
  clear hV hC
  cases hv : vtext s.data.toList
  · have HP := hide (tt_no hv)
    go_enter Tryz.func80, Tryz.ntmps80
    go_wp2_with (go_at_call 112; refine (HV.out _).mono ?_; rintro e w' ⟨rfl, rfl⟩; simp only [hv])
    go_ret2
    exact ⟨ret_si (HP.out.1.symm.trans H1.out) (HP.out.2.symm.trans H2.out), Below.refl _ _⟩
  · cases hb : allOn ableB s.data.toList
    · have HP := hide (tt_not hv (by unfold canT; rw [hb, Bool.and_false]))
      rw [hb] at HD
      go_enter Tryz.func80, Tryz.ntmps80
      go_wp2_with (first | (go_at_call 112; refine (HV.out _).mono ?_; rintro e w' ⟨rfl, rfl⟩; simp only [hv]) | (go_at_call 179; refine (HD.out _).mono ?_; rintro e w1 ⟨rfl, hb1⟩))
      go_ret2
      exact ⟨ret_si (HP.out.1.symm.trans H1.out) (HP.out.2.symm.trans H2.out), hb1⟩
    · have HP := hide (tt_ok hv (by unfold canT; rw [hb, hv]; rfl))
      rw [hb, tdS_ok hb] at HD
      go_enter Tryz.func80, Tryz.ntmps80
      go_wp2_with (first | (go_at_call 112; refine (HV.out _).mono ?_; rintro e w' ⟨rfl, rfl⟩; simp only [hv]) | (go_at_call 179; refine (HD.out _).mono ?_; rintro e w1 ⟨rfl, hb1⟩))
      go_ret2
      exact ⟨ret_si (HP.out.1.symm.trans H1.out) (HP.out.2.symm.trans H2.out), hb1⟩

set_option maxRecDepth 100000 in
set_option maxHeartbeats 2000000 in
theorem implTurnText_any (s : ByteArray) (hs : s.size ≤ 1048576) (w : World) :
    Calls Tryz.prog 79 #[.string s] w fun e w' => e = .returned (.tuple #[.string (ttV s.data.toList), .int .i64 (ttC s.data.toList)]) ∧ Below w.heap.size w w' := by
  have HV := hide (implValidText_any s w (by unfold maxLen; omega))
  have HCT := hide (fun W => implCanTurn_any s hs W)
  generalize hV : ttV s.data.toList = V
  generalize hC : ttC s.data.toList = C
  have H1 := hide hV
  have H2 := hide hC
  clear hV hC
  cases hv : vtext s.data.toList
  · rw [hv] at HV
    have HP := hide (tt_no hv)
    go_enter Tryz.func79, Tryz.ntmps79
    go_wp2_with (go_at_call 105; refine HV.out.mono ?_; rintro e w1 ⟨rfl, hb1⟩)
    go_ret2
    exact ⟨ret_si (HP.out.1.symm.trans H1.out) (HP.out.2.symm.trans H2.out), hb1⟩
  · rw [hv] at HV
    cases hb : canT s.data.toList
    · have HP := hide (tt_not hv hb)
      rw [hb] at HCT
      go_enter Tryz.func79, Tryz.ntmps79
      go_wp2_with (first | (go_at_call 105; refine HV.out.mono ?_; rintro e w1 ⟨rfl, hb1⟩) | (go_at_call 83; refine (HCT.out _).mono ?_; rintro e w2 ⟨rfl, hb2⟩))
      go_ret2
      exact ⟨ret_si (HP.out.1.symm.trans H1.out) (HP.out.2.symm.trans H2.out), hb1.trans (hb2.mono hb1.size)⟩
    · have HP := hide (tt_ok hv hb)
      have HTU := hide (fun W => turn_any s W hs (vtext_cap hv))
      rw [hb] at HCT
      go_enter Tryz.func79, Tryz.ntmps79
      go_wp2_with (first | (go_at_call 105; refine HV.out.mono ?_; rintro e w1 ⟨rfl, hb1⟩) | (go_at_call 83; refine (HCT.out _).mono ?_; rintro e w2 ⟨rfl, hb2⟩) | (go_at_call 178; refine (HTU.out _).mono ?_; rintro e w3 ⟨rfl, hb3⟩))
      go_ret2
      exact ⟨ret_si (HP.out.1.symm.trans H1.out) (HP.out.2.symm.trans H2.out), hb1.trans ((hb2.trans (hb3.mono hb2.size)).mono hb1.size)⟩
end Go.Proofs.YtngondeaeipcfaaGreatDoor
