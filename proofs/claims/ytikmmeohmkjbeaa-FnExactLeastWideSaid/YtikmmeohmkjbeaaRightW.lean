/- Right breaks: the program's. -/
import Derived.Test.YtikmmeohmkjbeaaLinesW
namespace Go.Proofs.Ytikmmeohmkjbeaa
open Go Go.RowKit

/-- The least one of the first k numbers. -/
def minTo (xs : List Int) : Nat → Int
  | 0 => xs.getD 0 0
  | k + 1 => min (minTo xs k) (xs.getD k 0)
theorem minTo_one (xs : List Int) : minTo xs 1 = xs.getD 0 0 := by simp [minTo]
theorem minTo_nonneg (xs : List Int) : ∀ k, 0 ≤ minTo xs (k + 1) ↔ ∀ i, i < k + 1 → 0 ≤ xs.getD i 0
  | 0 => by rw [minTo_one]; exact ⟨fun h i hi => by obtain rfl : i = 0 := by omega
                                                    exact h, fun h => h 0 (by omega)⟩
  | k + 1 => by
    have ih := minTo_nonneg xs k
    rw [minTo]
    constructor
    · intro h0 i hi
      rcases Nat.lt_or_ge i (k + 1) with h1 | h1
      · exact ih.1 (by omega) i h1
      · obtain rfl : i = k + 1 := by omega
        omega
    · intro h0
      have h1 := ih.2 (fun i hi => h0 i (by omega))
      have h2 := h0 (k + 1) (by omega)
      omega

set_option maxRecDepth 100000 in
set_option maxHeartbeats 2000000 in
theorem minS_any (A : Option Addr) (xs : List Int) (c : Nat) (w : World) (hn : xs.length ≤ maxLen) (h0 : 0 < xs.length) (hA : IntsAt w w.heap.size A xs) :
    Calls Try.prog 155 #[.slice A xs.length c] w fun e w' => e = .returned (.int .i64 (minTo xs xs.length)) ∧ w = w' := by
  unfold maxLen at hn
  obtain ⟨b, o, rfl, hb, hc⟩ := hA (by intro e; rw [e] at h0; simp at h0)
  have HGET := hide (fun k hk => ints_get (bs := xs) (k := k) hk)
  have HC := hide hc
  have c0 := hc 0 _ (ints_get (bs := xs) h0)
  rw [Nat.add_zero] at c0
  rw [← minTo_one] at c0
  have HMT := hide (fun k => show minTo xs (k + 1) = min (minTo xs k) (xs.getD k 0) from rfl)
  obtain ⟨m, hm⟩ : ∃ m, xs.length = m := ⟨_, rfl⟩
  rw [hm] at hn h0 HGET ⊢
  clear hm hc
  have hm1 : ¬ (m : Int) < 1 := by omega
  have hm0 : (0 : Int) < m := by omega
  go_enter Try.func155, Try.ntmps155
  go_wp2
  go_loop [3, 4] (fun v i => ∃ k : Nat, 1 ≤ k ∧ k ≤ m ∧ i = .int .i64 k ∧ v = .int .i64 (minTo xs k))
    (fun _ i => m - (intOf i).toNat)
  case atStart => exact ⟨1, by omega, by omega, rfl, rfl⟩
  case round =>
    obtain ⟨k, hk1, hk, rfl, rfl⟩ := hrel
    by_cases hlt : k < m
    · have hi : (k : Int) < m := by omega
      have hi0 : (0 : Int) ≤ k := by omega
      have ck := HC.out k _ (HGET.out k hlt)
      have HS := hide (HMT.out k)
      clear c0
      generalize xs.getD k 0 = y at *
      generalize minTo xs k = v at *
      go_wp2
      exact ⟨⟨k + 1, by omega, by omega, by go_num, by rw [HS.out]⟩, by simp [intOf]; omega⟩
    · obtain rfl : k = m := by omega
      go_wp2
      go_ret
      exact ⟨rfl, rfl⟩

set_option maxRecDepth 100000 in
set_option maxHeartbeats 2000000 in
theorem areRight_any (A : Option Addr) (xs : List Int) (c : Nat) (w : World) (hn : xs.length ≤ maxLen) (h0 : 0 < xs.length) (hA : IntsAt w w.heap.size A xs) :
    Calls Try.prog 103 #[.slice A xs.length c] w fun e w' => e = .returned (.bool (decide (∀ i, i < xs.length → 0 ≤ xs.getD i 0))) ∧ w = w' := by
  have HM := hide (minS_any A xs c w hn h0 hA)
  have hm := minTo_nonneg xs (xs.length - 1)
  rw [Nat.sub_add_cancel h0] at hm
  have HB := hide (show decide (0 ≤ minTo xs xs.length) = decide (∀ i, i < xs.length → 0 ≤ xs.getD i 0) by rw [decide_eq_decide]; exact hm)
  generalize decide (∀ i, i < xs.length → 0 ≤ xs.getD i 0) = B at *
  generalize minTo xs xs.length = M at *
  clear hA hm
  go_enter Try.func103, Try.ntmps103
  go_wp2_with (go_at_call 155; refine HM.out.mono ?_; rintro e w1 ⟨rfl, rfl⟩)
  go_ret
  exact ⟨ret_bool HB.out, rfl⟩

theorem sq_bd {x : Int} (h0 : 0 ≤ x) (h1 : x ≤ 4000) : 0 ≤ x * x ∧ x * x ≤ 16000000 :=
  ⟨Int.mul_nonneg h0 h0, by have := Int.mul_le_mul h1 h1 h0 (by omega); omega⟩
theorem sqSum_bd : ∀ (xs : List Int), (∀ x ∈ xs, 0 ≤ x ∧ x ≤ 4000) → 0 ≤ sqSum xs ∧ sqSum xs ≤ 16000000 * xs.length
  | [], _ => by simp [sqSum]
  | x :: r, h => by
    have ih := sqSum_bd r (fun y hy => h y (List.mem_cons_of_mem _ hy))
    have h1 := sq_bd (h x List.mem_cons_self).1 (h x List.mem_cons_self).2
    simp only [sqSum, List.length_cons]; omega
theorem sqSum_take (xs : List Int) {k : Nat} (hk : k < xs.length) : sqSum (xs.take (k + 1)) = sqSum (xs.take k) + xs.getD k 0 * xs.getD k 0 := by
  rw [List.take_add_one, List.getElem?_eq_getElem hk]
  simp only [Option.toList_some]
  rw [sqSum_snoc, List.getD_eq_getElem?_getD, List.getElem?_eq_getElem hk]; rfl

set_option maxRecDepth 100000 in
set_option maxHeartbeats 2000000 in
theorem uneven_any (A : Option Addr) (xs : List Int) (c : Nat) (w : World) (hn : xs.length ≤ 62) (hc : xs.length ≤ c) (h0 : 0 < xs.length) (hx : ∀ x ∈ xs, 0 ≤ x ∧ x ≤ 4000) (hA : IntsAt w w.heap.size A xs) :
    Calls Try.prog 75 #[.slice A xs.length c] w fun e w' => e = .returned (.int .i64 (sqSum (xs.take (xs.length - 1)))) ∧ w = w' := by
  obtain ⟨b, o, rfl, hb, hcs⟩ := hA (by intro e; rw [e] at h0; simp at h0)
  have HGET := hide (fun k hk => ints_get (bs := xs) (k := k) hk)
  have HC := hide hcs
  have HT := hide (fun k hk => sqSum_take xs (k := k) hk)
  have HSB := hide (fun k => sqSum_bd (xs.take k) (fun y hy => hx y (List.mem_of_mem_take hy)))
  have HXB := hide (fun k (hk : k < xs.length) => hx (xs.getD k 0) (by rw [List.getD_eq_getElem?_getD, List.getElem?_eq_getElem hk]; exact List.getElem_mem _))
  have HLT := hide (fun k => (List.length_take_le k xs : (xs.take k).length ≤ k))
  obtain ⟨m, hm⟩ : ∃ m, xs.length = m := ⟨_, rfl⟩
  rw [hm] at hn h0 hc HGET HT HXB ⊢
  clear hm hcs hx
  have j1 : (0 : Int) ≤ (m : Int) - 1 := by omega
  have j2 : (m : Int) - 1 ≤ c := by omega
  have j3 : ((m : Int) - 1).toNat = m - 1 := by omega
  have e1 := IntWalk.i64_in ((m : Int) - 1) ⟨by omega, by omega⟩
  go_enter Try.func75, Try.ntmps75
  go_wp2
  go_loop [3, 5, 12] (fun v _ i => ∃ k : Nat, k ≤ m - 1 ∧ i = .int .i64 k ∧ v = .int .i64 (sqSum (xs.take k)))
    (fun _ _ i => m - 1 - (intOf i).toNat)
  case atStart => exact ⟨0, by omega, rfl, rfl⟩
  case round =>
    obtain ⟨k, hk, rfl, rfl⟩ := hrel
    by_cases hlt : k < m - 1
    · have hi : (k : Int) < (m : Int) - 1 := by omega
      have hi' : (k : Int) < ((m - 1 : Nat) : Int) := by omega
      have hi0 : (0 : Int) ≤ k := by omega
      have ck := HC.out k _ (HGET.out k (by omega))
      have HS := hide (HT.out k (by omega))
      obtain ⟨y0, y1⟩ := HXB.out k (by omega)
      obtain ⟨s0, s1⟩ := HSB.out k
      have hl := HLT.out k
      have hsq := sq_bd y0 y1
      generalize xs.getD k 0 = y at *
      generalize sqSum (xs.take k) = v at *
      have e2 := IntWalk.i64_in (y * y) ⟨by omega, by omega⟩
      have e3 := IntWalk.i64_in (v + y * y) ⟨by omega, by omega⟩
      go_wp2
      exact ⟨⟨k + 1, by omega, by go_num, by rw [HS.out]⟩, by simp [intOf]; omega⟩
    · obtain rfl : k = m - 1 := by omega
      go_wp2
      go_ret
      exact ⟨rfl, rfl⟩

/-- The code of breaks in a width, and what is left in each line. -/
noncomputable def rbC (F : Fc) (L : List UInt8) (x : Int) (bs : List Int) : Int := if askC F L (inB x 0 4000) = 0 then (if rightB F (wordsL L) x bs = true then 0 else 4) else askC F L (inB x 0 4000)
noncomputable def rbX (F : Fc) (L : List UInt8) (x : Int) (bs : List Int) : List Int := if rbC F L x bs = 0 then roomsL F (wordsL L) x bs else []
theorem rb_no {F : Fc} {L : List UInt8} {x : Int} (bs : List Int) (h : askC F L (inB x 0 4000) ≠ 0) : rbC F L x bs = askC F L (inB x 0 4000) ∧ rbX F L x bs = [] := by
  have e : rbC F L x bs = askC F L (inB x 0 4000) := by unfold rbC; rw [if_neg h]
  exact ⟨e, by unfold rbX; rw [e, if_neg h]⟩
theorem rb_bad {F : Fc} {L : List UInt8} {x : Int} {bs : List Int} (h : askC F L (inB x 0 4000) = 0) (h2 : rightB F (wordsL L) x bs = false) : rbC F L x bs = 4 ∧ rbX F L x bs = [] := by
  have e : rbC F L x bs = 4 := by unfold rbC; rw [if_pos h, h2]; rfl
  exact ⟨e, by unfold rbX; rw [e, if_neg (by decide)]⟩
theorem rb_ok {F : Fc} {L : List UInt8} {x : Int} {bs : List Int} (h : askC F L (inB x 0 4000) = 0) (h2 : rightB F (wordsL L) x bs = true) : rbC F L x bs = 0 ∧ rbX F L x bs = roomsL F (wordsL L) x bs := by
  have e : rbC F L x bs = 0 := by unfold rbC; rw [if_pos h, if_pos h2]
  exact ⟨e, by unfold rbX; rw [e, if_pos rfl]⟩
theorem rooms_getD (F : Fc) (ws : List (List UInt8)) (x : Int) (bs : List Int) {i : Nat} (h : i < bs.length + 1) : (roomsL F ws x bs).getD i 0 = roomAt F ws x bs i := by
  rw [List.getD_eq_getElem?_getD, roomsL_get F ws x bs h]; rfl
theorem right_rooms {F : Fc} {ws : List (List UInt8)} {x : Int} {bs : List Int} (h : toldP ws.length bs) : rightB F ws x bs = decide (∀ i, i < (roomsL F ws x bs).length → 0 ≤ (roomsL F ws x bs).getD i 0) := by
  have key : (∀ i, i < (roomsL F ws x bs).length → 0 ≤ (roomsL F ws x bs).getD i 0) ↔ rightP F ws x bs := by
    rw [roomsL_len]
    exact ⟨fun h i hi => by have := h i (by omega); rwa [rooms_getD F ws x bs (by omega)] at this, fun h i hi => by rw [rooms_getD F ws x bs hi]; exact h i (by omega)⟩
  cases hb : rightB F ws x bs
  · exact (decide_eq_false (fun hh => (rightB_false.1 hb) ⟨h, key.1 hh⟩)).symm
  · exact (decide_eq_true (key.2 (rightB_true.1 hb).2)).symm
theorem right_untold {F : Fc} {ws : List (List UInt8)} {x : Int} {bs : List Int} (h : told ws.length bs = false) : rightB F ws x bs = false := rightB_false.2 (fun hh => told_false.1 h hh.1)

set_option maxRecDepth 100000 in
set_option maxHeartbeats 4000000 in
theorem rightLines_any (F : Fc) (hF : F.ok) (A : Option Addr) (c : Nat) (s : ByteArray) (hs : s.size ≤ maxLen) (x : Int) (B : Option Addr) (bs : List Int) (cb : Nat) (hbn : bs.length ≤ maxLen) (w : World) (hA : PairsAt w w.heap.size A F.ps) (hB : IntsAt w w.heap.size B bs) :
    Calls Try.prog 68 #[.agg (fc F (.slice A F.ps.length c)).toArray, .string s, .int .i64 x, .slice B bs.length cb] w (IntsBackC (rbX F s.data.toList x bs) (rbC F s.data.toList x bs) w) := by
  have hW := hide hF.len
  have hr := rangeAt_new w (fc F (.slice A F.ps.length c)) 33
  have hb : Below w.heap.size w (w.alloc (.cells (fc F (.slice A F.ps.length c)).toArray 33)) := (Below.refl _ _).alloc (Nat.le_refl _) _
  have HII := hide (show ∀ sl, (Try.prog.info? 33).map (·.size) = some (fc F sl).length from fun sl => by rw [fc_length hW.out]; kernel_rfl)
  have BA := (hA.below hb).mono hb.size
  have BB := hB.below hb
  rcases ask_cases F s.data.toList x with ⟨hv, ht, hi, h4⟩ | h
  · have HM := hide (measure_ok F hF A c s hs x _ BA hv ht hi)
    have hn := words_len ht
    have HMEM := hide (fun k hk => wideL_bd hF hv (words_mem ht (getD_mem (ws := wordsL s.data.toList) (k := k) hk)).2 (words_mem ht (getD_mem hk)).1)
    have HPB := hide (preL_bd hF hv (fun y hy => words_mem ht hy))
    obtain ⟨x0, x1⟩ := inB_true.1 hi
    have HOK := hide (fun h => rb_ok (F := F) (bs := bs) h4 h)
    have HNO := hide (fun h => rb_bad (F := F) (bs := bs) h4 h)
    generalize rbX F s.data.toList x bs = R at *
    generalize rbC F s.data.toList x bs = C at *
    generalize wordsL s.data.toList = ws at *
    clear hA BA hv ht hi h4
    cases htd : told ws.length bs
    · obtain ⟨p1, p2⟩ := HNO.out (right_untold htd)
      rw [p1, p2]
      clear HOK HNO p1 p2
      go_enter Try.func68, Try.ntmps68
      go_wp2_with (refine wpList_load_mid rfl 33 (.tmp 4) rfl _ 0 rfl _ _ hr Try.underlying33 rfl (HII.out _) ?_)
      refine HM.out.mono ?_
      rintro e w1 ⟨A', c', rfl, hS, hb1⟩
      have hB1 := hb.trans (hb1.mono hb.size)
      have HAB := hide (areBreaks_any B bs cb ws.length w1 hbn ((BB.below (hb1.mono hb.size)).mono hB1.size))
      rw [htd] at HAB
      clear hS hr
      go_wp2_with (go_at_call 81; refine HAB.out.mono ?_; rintro e w2 ⟨rfl, rfl⟩)
      go_ret2
      exact ⟨none, 0, rfl, Nat.le_refl _, IntsIn.empty _ _ _, hB1⟩
    · have hp := told_true.1 htd
      have hrr := right_rooms (F := F) (x := x) hp
      have hbl := told_len hp
      have HRL := hide (roomsL_len F ws x bs)
      have HRN := hide (show (roomsL F ws x bs).length ≤ maxLen by rw [roomsL_len]; unfold maxLen; omega)
      have HLA := hide (fun A' c' W hc' hS hBB => linesAt_any F ws A' c' x B bs cb W x0 x1 hn hc' hp HPB.out HMEM.out hS hBB)
      have HAR := hide (fun A' c' W hA => areRight_any A' (roomsL F ws x bs) c' W HRN.out (by rw [HRL.out]; omega) hA)
      rw [← hrr] at HAR
      clear hp hrr
      cases hrb : rightB F ws x bs
      · obtain ⟨p1, p2⟩ := HNO.out hrb
        rw [p1, p2]
        rw [hrb] at HAR
        clear HOK HNO p1 p2 hrb
        go_enter Try.func68, Try.ntmps68
        go_wp2_with (refine wpList_load_mid rfl 33 (.tmp 4) rfl _ 0 rfl _ _ hr Try.underlying33 rfl (HII.out _) ?_)
        refine HM.out.mono ?_
        rintro e w1 ⟨A', c', rfl, hS, hb1⟩
        have hB1 := hb.trans (hb1.mono hb.size)
        have hBB1 := (BB.below (hb1.mono hb.size)).mono hB1.size
        have HAB := hide (areBreaks_any B bs cb ws.length w1 hbn hBB1)
        rw [htd] at HAB
        have HLI := hide (HLA.out A' c' w1 hS.1 hS.2.at_ hBB1)
        clear hS hr hBB1
        go_wp2_with (go_at_call 81; refine HAB.out.mono ?_; rintro e w2 ⟨rfl, rfl⟩)
        refine HLI.out.mono ?_
        rintro e w3 ⟨A3, c3, rfl, hc3, hI3, hb3⟩
        go_wp2_with (go_at_call 103; refine (HAR.out A3 c3 _ hI3.at_).mono ?_; rintro e w4 ⟨rfl, rfl⟩)
        go_ret2
        exact ⟨none, 0, rfl, Nat.le_refl _, IntsIn.empty _ _ _, hB1.trans (hb3.mono hB1.size)⟩
      · obtain ⟨p1, p2⟩ := HOK.out hrb
        rw [p1, p2]
        rw [hrb] at HAR
        clear HOK HNO p1 p2 hrb
        go_enter Try.func68, Try.ntmps68
        go_wp2_with (refine wpList_load_mid rfl 33 (.tmp 4) rfl _ 0 rfl _ _ hr Try.underlying33 rfl (HII.out _) ?_)
        refine HM.out.mono ?_
        rintro e w1 ⟨A', c', rfl, hS, hb1⟩
        have hB1 := hb.trans (hb1.mono hb.size)
        have hBB1 := (BB.below (hb1.mono hb.size)).mono hB1.size
        have HAB := hide (areBreaks_any B bs cb ws.length w1 hbn hBB1)
        rw [htd] at HAB
        have HLI := hide (HLA.out A' c' w1 hS.1 hS.2.at_ hBB1)
        clear hS hr hBB1
        go_wp2_with (go_at_call 81; refine HAB.out.mono ?_; rintro e w2 ⟨rfl, rfl⟩)
        refine HLI.out.mono ?_
        rintro e w3 ⟨A3, c3, rfl, hc3, hI3, hb3⟩
        go_wp2_with (go_at_call 103; refine (HAR.out A3 c3 _ hI3.at_).mono ?_; rintro e w4 ⟨rfl, rfl⟩)
        go_ret2
        exact ⟨A3, c3, rfl, hc3, IntsIn.wider hI3 hB1.size, hB1.trans (hb3.mono hB1.size)⟩
  · have hno : askC F s.data.toList (inB x 0 4000) ≠ 0 := by rcases h with ⟨h, _⟩ | ⟨h, _⟩ <;> rw [h] <;> decide
    have HM := hide (measure_no F hF A c s hs x _ BA hno)
    obtain ⟨p1, p2⟩ := rb_no (F := F) bs hno
    rw [p1, p2]
    clear h hA BA p1 p2
    generalize askC F s.data.toList (inB x 0 4000) = C at *
    have hd : ((C : Int) != 0) = true := by simpa using hno
    go_enter Try.func68, Try.ntmps68
    go_wp2_with (first | (refine wpList_load_mid rfl 33 (.tmp 4) rfl _ 0 rfl _ _ hr Try.underlying33 rfl (HII.out _) ?_) | (go_at_call 86; refine HM.out.mono ?_; rintro e w1 ⟨rfl, hb1⟩))
    go_ret2
    exact ⟨none, 0, rfl, Nat.le_refl _, IntsIn.empty _ _ _, hb.trans (hb1.mono hb.size)⟩
end Go.Proofs.Ytikmmeohmkjbeaa
