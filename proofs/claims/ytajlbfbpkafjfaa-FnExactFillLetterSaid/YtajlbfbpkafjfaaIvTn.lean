/- Letters upside down: one letter, all of a text, backwards. -/
import Derived.Test.YtajlbfbpkafjfaaIvIA
import Derived.Shelf.RegionOpenPlain
namespace Go.Proofs.Ytajlbfbpkafjfaa
open Go.RowKit

theorem turn8_to {x : UInt8} : ((turn8 x).toNat : Int) = turnB (x.toNat : Int) := by
  have hx := x.toNat_lt
  obtain ⟨h0, h1⟩ := turnB_bd (x.toNat : Int) ⟨by omega, by omega⟩
  unfold turn8
  rw [UInt8.toNat_ofNat']
  omega
/-- The first k letters are turned. -/
def tuTo (L : List UInt8) (k : Nat) : List UInt8 := (L.take k).map turn8 ++ L.drop k
theorem tuTo_len (L : List UInt8) (k : Nat) : (tuTo L k).length = L.length := by simp [tuTo]; omega
theorem tuTo_zero (L : List UInt8) : tuTo L 0 = L := by simp [tuTo]
theorem tuTo_all (L : List UInt8) : tuTo L L.length = L.map turn8 := by simp [tuTo]
theorem tuTo_at {L : List UInt8} {k : Nat} (hk : k < L.length) : byteAt (tuTo L k) k = byteAt L k := by
  unfold byteAt tuTo
  rw [List.getD_eq_getElem?_getD, List.getElem?_append_right (by simp; omega), List.getD_eq_getElem?_getD]
  simp [Nat.min_eq_left (Nat.le_of_lt hk)]
theorem tuTo_succ {L : List UInt8} {k : Nat} (hk : k < L.length) : tuTo L (k + 1) = (tuTo L k).set k (turn8 (L.getD k 0)) := by
  apply List.ext_getElem
  · simp [tuTo_len]
  · intro i h1 h2
    rw [tuTo_len] at h1
    rw [List.getElem_set]
    simp only [tuTo, List.getElem_append, List.length_map, List.length_take, List.getElem_map, List.getElem_take, List.getElem_drop]
    by_cases e : k = i
    · subst e
      have : k < min (k + 1) L.length := by omega
      simp [this, List.getD, hk]
    · rw [if_neg e]
      by_cases h3 : i < k
      · have a1 : i < min (k + 1) L.length := by omega
        have a2 : i < min k L.length := by omega
        simp [a1, a2]
      · have a1 : ¬ i < min (k + 1) L.length := by omega
        have a2 : ¬ i < min k L.length := by omega
        simp only [a1, a2, dif_neg, not_false_eq_true]
        congr 1
        omega
/-- The first and the last k have changed places. -/
def revTo (L : List UInt8) (k : Nat) : List UInt8 := (List.range L.length).map (fun j => if j < k ∨ L.length < j + 1 + k then L.getD (L.length - 1 - j) 0 else L.getD j 0)
theorem revTo_len (L : List UInt8) (k : Nat) : (revTo L k).length = L.length := by simp [revTo]
theorem revTo_zero (L : List UInt8) : revTo L 0 = L := by
  apply List.ext_getElem
  · simp [revTo]
  · intro i h1 h2
    simp only [revTo, List.getElem_map, List.getElem_range]
    rw [if_neg (by omega)]
    simp [List.getD, h2]
theorem revTo_end {L : List UInt8} {k : Nat} (h : L.length ≤ 2 * k + 1) : revTo L k = L.reverse := by
  apply List.ext_getElem
  · simp [revTo]
  · intro i h1 h2
    rw [revTo_len] at h1
    simp only [revTo, List.getElem_map, List.getElem_range, List.getElem_reverse]
    by_cases e : i < k ∨ L.length < i + 1 + k
    · rw [if_pos e]; simp [List.getD, show L.length - 1 - i < L.length by omega]
    · rw [if_neg e]
      have : i = L.length - 1 - i := by omega
      simp only [List.getD, List.getElem?_eq_getElem h1, Option.getD_some]
      congr 1
theorem revTo_at {L : List UInt8} {k j : Nat} (hj : j < L.length) (h : ¬ (j < k ∨ L.length < j + 1 + k)) : byteAt (revTo L k) j = byteAt L j := by
  unfold byteAt
  have : (revTo L k).getD j 0 = L.getD j 0 := by
    simp only [List.getD_eq_getElem?_getD, revTo, List.getElem?_map, List.getElem?_range hj, Option.map_some, Option.getD_some]
    rw [if_neg h]
  rw [this]
theorem revTo_succ {L : List UInt8} {k : Nat} (h : 2 * k + 1 < L.length) : revTo L (k + 1) = ((revTo L k).set k (L.getD (L.length - 1 - k) 0)).set (L.length - 1 - k) (L.getD k 0) := by
  apply List.ext_getElem
  · simp [revTo_len]
  · intro i h1 h2
    rw [revTo_len] at h1
    rw [List.getElem_set, List.getElem_set]
    simp only [revTo, List.getElem_map, List.getElem_range]
    by_cases e1 : L.length - 1 - k = i
    · rw [if_pos e1, if_pos (by omega)]
      congr 1
      omega
    · rw [if_neg e1]
      by_cases e2 : k = i
      · subst e2
        rw [if_pos rfl, if_pos (by omega)]
      · rw [if_neg e2]
        by_cases e3 : i < k ∨ L.length < i + 1 + k
        · rw [if_pos e3, if_pos (by omega)]
        · rw [if_neg e3, if_neg (by omega)]

abbrev tab26 : Array Value := #[.int .u8 0, .int .u8 0, .int .u8 0, .int .u8 0, .int .u8 0, .int .u8 0, .int .u8 0, .int .u8 72, .int .u8 73, .int .u8 0, .int .u8 0, .int .u8 0, .int .u8 87, .int .u8 78, .int .u8 79, .int .u8 0, .int .u8 0, .int .u8 0, .int .u8 83, .int .u8 0, .int .u8 0, .int .u8 0, .int .u8 77, .int .u8 88, .int .u8 0, .int .u8 90]
abbrev zer26 : Array Value := #[.int .u8 0, .int .u8 0, .int .u8 0, .int .u8 0, .int .u8 0, .int .u8 0, .int .u8 0, .int .u8 0, .int .u8 0, .int .u8 0, .int .u8 0, .int .u8 0, .int .u8 0, .int .u8 0, .int .u8 0, .int .u8 0, .int .u8 0, .int .u8 0, .int .u8 0, .int .u8 0, .int .u8 0, .int .u8 0, .int .u8 0, .int .u8 0, .int .u8 0, .int .u8 0]
theorem tab26_at : ∀ n : Nat, n < 26 → tab26[n]? = some (.int .u8 (turnB (65 + n)))
  | 0, _ | 1, _ | 2, _ | 3, _ | 4, _ | 5, _ | 6, _ | 7, _ | 8, _ | 9, _ | 10, _ | 11, _ | 12, _ | 13, _ | 14, _ | 15, _ | 16, _ | 17, _ | 18, _ | 19, _ | 20, _ | 21, _ | 22, _ | 23, _ | 24, _ | 25, _ => by kernel_rfl
  | n + 26, h => by omega

set_option maxRecDepth 100000 in
set_option maxHeartbeats 2000000 in
theorem turned_any (b : Int) (w : World) :
    Calls Try.prog 149 #[.int .u8 b] w fun e w' => e = .returned (.int .u8 (turnI b)) ∧ Below w.heap.size w w' := by
  cases hc : cap b
  · have HT : Hid (turnI b = b) := hide (by unfold turnI; rw [hc]; rfl)
    go_enter Try.func149, Try.ntmps149
    go_wp2_with (go_at_call 154; refine (isCapital_any _ _).mono ?_; rintro e w' ⟨rfl, rfl⟩; simp only [hc])
    go_ret
    exact ⟨ret_int HT.out.symm, Below.refl _ _⟩
  · obtain ⟨n, T, hn, hT, hI, hcell⟩ : ∃ (n : Nat) (T : Int), n < 26 ∧ turnI b = T ∧ (b - 65 = (n : Int)) ∧ tab26[n]? = some (.int .u8 T) := by
      obtain ⟨h0, h1⟩ := cap_true.1 hc
      refine ⟨(b - 65).toNat, _, by omega, rfl, by omega, ?_⟩
      rw [turnI_eq (.inl hc)]
      have := tab26_at (b - 65).toNat (by omega)
      rwa [show (65 : Int) + ((b - 65).toNat : Nat) = b by omega] at this
    have HT := hide hT
    have hni : (n : Int) < 26 := by omega
    have hn0 : (0 : Int) ≤ n := by omega
    have HI := hide (fun w => index_any b w hc)
    rw [hI] at HI
    have ht : (w.alloc (.cells zer26 164)).there w.heap.size 0 tab26.toList.length := there_newg rfl rfl
    obtain ⟨W2, hW2⟩ : ∃ W2, W2 = (w.alloc (.cells zer26 164)).setCells w.heap.size 0 tab26.toList := ⟨_, rfl⟩
    have hcl : W2.cell? ⟨w.heap.size, n, none⟩ = some (.int .u8 T) := by
      rw [hW2]; exact rangeAt_cell (World.rangeAt_setCells_same _ _ _ _ ht) (by rw [Array.getElem?_toList]; exact hcell)
    have hb : Below w.heap.size w W2 := by rw [hW2]; exact below_setCells _ _ _ _ ((Below.refl _ _).alloc (Nat.le_refl _) _) (Nat.le_refl _)
    have HW2 := hide hW2
    clear hI hT hcell hW2
    have hbt : Try.prog.built 164 [(7, .int .u8 72), (8, .int .u8 73), (12, .int .u8 87), (13, .int .u8 78), (14, .int .u8 79), (18, .int .u8 83), (22, .int .u8 77), (23, .int .u8 88), (25, .int .u8 90)] = some tab26 := by kernel_rfl
    have hone : tab26.all (·.oneCell') = true := by kernel_rfl
    go_enter Try.func149, Try.ntmps149
    go_wp2_with (first | (refine wpList_build rfl 164 _ rfl (by kernel_rfl) ?_; simp only [List.map_toArray, List.map_cons, List.map_nil, Act.eval, hbt, Option.getD_some]) | (refine wpList_store_mid rfl 164 (.tmp 3) (.tmp 8) rfl w.heap.size 0 tab26 rfl rfl ht (by kernel_rfl) hone ?_; rw [← HW2.out]) | (go_at_call 154; refine (isCapital_any _ _).mono ?_; rintro e w' ⟨rfl, rfl⟩; simp only [hc]) | (go_at_call 166; refine (HI.out _).mono ?_; rintro e w' ⟨rfl, rfl⟩))
    go_ret
    exact ⟨ret_int HT.out.symm, hb⟩

set_option maxRecDepth 100000 in
set_option maxHeartbeats 2000000 in
theorem canTurnL_any (b : Int) (w : World) :
    Calls Try.prog 105 #[.int .u8 b] w fun e w' => e = .returned (.bool (turnI b != 0)) ∧ Below w.heap.size w w' := by
  have HC := hide (turned_any b w)
  generalize turnI b = t at *
  go_enter Try.func105, Try.ntmps105
  go_wp2_with (go_at_call 149; refine HC.out.mono ?_; rintro e w1 ⟨rfl, hb1⟩)
  go_ret
  exact ⟨rfl, hb1⟩

set_option maxRecDepth 100000 in
set_option maxHeartbeats 4000000 in
theorem reverse_any (L : List UInt8) (n b c : Nat) (w : World) (B : Nat) (hL : L.length = n) (hn : n ≤ 1048576) (hB : B ≤ b) (hb : b < w.heap.size) (hA : BytesAt w b L) :
    Calls Try.prog 150 #[.slice (some ⟨b, 0, none⟩) n c] w fun e w' => e = .returned (.tuple #[]) ∧ Below B w w' ∧ BytesAt w' b L.reverse := by
  have HL := hide hL
  have HA := hide hA
  clear hA hL
  have hwr := IntWalk.i64_in ((n : Int) - 1) ⟨by omega, by omega⟩
  go_enter Try.func150, Try.ntmps150
  go_wp2
  go_loopw [2, 3] (fun i j wr => ∃ k : Nat, 2 * k ≤ n ∧ i = .int .i64 k ∧ j = .int .i64 ((n : Int) - 1 - k) ∧ Below B w wr ∧ Hid (BytesAt wr b (revTo L k)))
    (fun i _ _ => n - (intOf i).toNat)
  case atStart => exact ⟨0, by omega, rfl, by simp, Below.refl _ _, hide (by rw [revTo_zero]; exact HA.out)⟩
  case round =>
    obtain ⟨k, hk, rfl, rfl, hBe, hcells⟩ := hrel
    by_cases hlt : 2 * k + 1 < n
    · obtain ⟨m, hm⟩ : ∃ m : Nat, n = m + 1 + k := ⟨n - 1 - k, by omega⟩
      subst hm
      have hkL : k < L.length := by rw [HL.out]; omega
      have hmL : m < L.length := by rw [HL.out]; omega
      obtain ⟨ck, fk⟩ := hcells.out k (by rw [revTo_len]; exact hkL)
      obtain ⟨cm, fm⟩ := hcells.out m (by rw [revTo_len]; exact hmL)
      rw [revTo_at hkL (by rw [HL.out]; omega)] at ck
      rw [revTo_at hmL (by rw [HL.out]; omega)] at cm
      have hjm : ((m + 1 + k : Nat) : Int) - 1 - (k : Int) = (m : Int) := by omega
      have hkm : (k : Int) < m := by omega
      have hkm' : k < m := by omega
      have HS1 := hide (hcells.out.set (k := k) (by rw [revTo_len]; exact hkL) (L.getD m 0))
      have HS2 := hide (HS1.out.set (k := m) (by rw [List.length_set, revTo_len]; exact hmL) (L.getD k 0))
      have HRS := hide (revTo_succ (L := L) (k := k) (by rw [HL.out]; omega))
      rw [HL.out, show m + 1 + k - 1 - k = m by omega] at HRS
      have w2 := IntWalk.i64_in ((m : Int) - 1) ⟨by omega, by omega⟩
      have hmI : (m : Int) < (m : Int) + 1 + k := by omega
      have hkI : (k : Int) < (m : Int) + 1 + k := by omega
      have mixed : Try.prog.follows .mixedOrders = true := by kernel_rfl
      rw [hjm]
      go_wp2_with fail
      go_region_o
      go_wp2
      refine ⟨⟨k + 1, by omega, by go_num, by congr 1; omega, ((hBe.setCell (p := ⟨b, k, none⟩) hB _).setCell (p := ⟨b, m, none⟩) hB _).drew, hide (by rw [HRS.out]; exact HS2.out)⟩, by simp [intOf]; omega⟩
    · have hge : decide ((k : Int) < (n : Int) - 1 - k) = false := by simp; omega
      have HRE := hide (revTo_end (L := L) (k := k) (by rw [HL.out]; omega))
      go_wp2
      go_end0
      exact ⟨rfl, hBe, by rw [← HRE.out]; exact hcells.out⟩

set_option maxRecDepth 100000 in
set_option maxHeartbeats 4000000 in
theorem turn_any (s : ByteArray) (w : World) (hs : s.size ≤ 1048576) (hc : ∀ j, j < s.data.toList.length → cap (byteAt s.data.toList j) = true ∨ byteAt s.data.toList j = 32) :
    Calls Try.prog 106 #[.string s] w fun e w' => e = .returned (.string ⟨(turnL s.data.toList).toArray⟩) ∧ Below w.heap.size w w' := by
  have hL : s.data.toList.length = s.size := by simp
  have HL := hide hL
  have HCA := hide hc
  obtain ⟨W1, c, hcv, hb1, hBA, hlt⟩ := bytes_new2 s w
  have HBA := hide hBA
  clear hL hc hBA
  go_enter Try.func106, Try.ntmps106
  go_wp2
  go_loopw [10] (fun i wr => ∃ k : Nat, k ≤ s.size ∧ i = .int .i64 k ∧ Below w.heap.size w wr ∧ w.heap.size < wr.heap.size ∧ Hid (BytesAt wr w.heap.size (tuTo s.data.toList k)))
    (fun i _ => s.size - (intOf i).toNat)
  case atStart => exact ⟨0, by omega, rfl, hb1, hlt, hide (by rw [tuTo_zero]; exact HBA.out)⟩
  case round =>
    obtain ⟨k, hk, rfl, hB, hsz, hcells⟩ := hrel
    by_cases hlt2 : k < s.size
    · have hkL : k < s.data.toList.length := by rw [HL.out]; exact hlt2
      have hi : (k : Int) < s.size := by omega
      have h0 : (0 : Int) ≤ k := by omega
      obtain ⟨hc0, hf0⟩ := hcells.out k (by rw [tuTo_len]; exact hkL)
      rw [tuTo_at hkL] at hc0
      have HSU := hide (tuTo_succ hkL)
      have HT8 : Hid (turnI (byteAt s.data.toList k) = ((turn8 (s.data.toList.getD k 0)).toNat : Int)) := hide ((turnI_eq (HCA.out k hkL)).trans turn8_to.symm)
      have HST := hide (fun (W : World) (h : BytesAt W w.heap.size (tuTo s.data.toList k)) => h.set (k := k) (by rw [tuTo_len]; exact hkL) (turn8 (s.data.toList.getD k 0)))
      have HC := hide (fun W => turned_any (byteAt s.data.toList k) W)
      rw [HT8.out] at HC
      generalize turn8 (s.data.toList.getD k 0) = z at *
      clear hkL
      go_wp2_with fail
      refine (HC.out _).mono ?_
      rintro e w1 ⟨rfl, hbb⟩
      have hcells1 := hide (hcells.out.below hbb hsz)
      have hf1 : w1.frozen? ⟨w.heap.size, k, none⟩ = false := by rw [hbb.frozen (p := ⟨w.heap.size, k, none⟩) hsz]; exact hf0
      have hc1 : w1.cell? ⟨w.heap.size, k, none⟩ = some (.int .u8 (byteAt s.data.toList k)) := by rw [hbb.cell (p := ⟨w.heap.size, k, none⟩) hsz]; exact hc0
      have hbz := hbb.size
      clear hc0 hf0
      go_wp2
      exact ⟨⟨k + 1, by omega, by go_num, (hB.trans (hbb.mono hB.size)).setCell (p := ⟨w.heap.size, k, none⟩) (Nat.le_refl _) _, (by rw [size_setCell]; omega), hide (by rw [HSU.out]; exact HST.out _ hcells1.out)⟩, by simp [intOf]; omega⟩
    · obtain rfl : k = s.size := by omega
      have hall := hcells.out
      rw [← HL.out, tuTo_all] at hall
      have HR := hide (reverse_any (s.data.toList.map turn8) s.size w.heap.size c wr w.heap.size (by rw [List.length_map, HL.out]) hs (Nat.le_refl _) hsz hall)
      clear hall
      go_wp2_with fail
      refine HR.out.mono ?_
      rintro e w1 ⟨rfl, hbb, hby⟩
      have hbk := bytes_back (c := c) hby
      rw [List.length_reverse, List.length_map, HL.out] at hbk
      go_wp2
      go_ret
      exact ⟨rfl, hB.trans hbb⟩
end Go.Proofs.Ytajlbfbpkafjfaa
