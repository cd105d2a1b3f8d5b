/- MatchWorn, of both. -/
import Derived.Test.YtajlbfbpkafjfaaIvTh
import Derived.Test.YtajlbfbpkafjfaaIvSA
namespace Go.Proofs.Ytajlbfbpkafjfaa
open Go.RowKit

/-- Word number x is one that the worn word can be. -/
def mwP (a : List UInt8) (xs : List ByteArray) (x : Int) : Bool := agB a (xs.getD x.toNat ⟨#[]⟩).data.toList
noncomputable def mwR (s : ByteArray) (xs : List ByteArray) : List Int := if (vlist xs && wornB s.data.toList) = true then (idxL xs.length).filter (mwP s.data.toList xs) else []
noncomputable def mwC (s : ByteArray) (xs : List ByteArray) : Int := if vlist xs = true then if wornB s.data.toList = true then 0 else 5 else 1
theorem mw_no {s : ByteArray} {xs : List ByteArray} (h : vlist xs = false) : mwR s xs = [] ∧ mwC s xs = 1 := by unfold mwR mwC; rw [h]; exact ⟨rfl, rfl⟩
theorem mw_not {s : ByteArray} {xs : List ByteArray} (h : vlist xs = true) (h' : wornB s.data.toList = false) : mwR s xs = [] ∧ mwC s xs = 5 := by unfold mwR mwC; rw [h, h']; exact ⟨rfl, rfl⟩
theorem mw_ok {s : ByteArray} {xs : List ByteArray} (h : vlist xs = true) (h' : wornB s.data.toList = true) : mwR s xs = (idxL xs.length).filter (mwP s.data.toList xs) ∧ mwC s xs = 0 := by unfold mwR mwC; rw [h, h']; exact ⟨rfl, rfl⟩
theorem mwR_len (s : ByteArray) (xs : List ByteArray) : (mwR s xs).length ≤ 1048577 := by
  unfold mwR
  split
  · rename_i h
    simp only [Bool.and_eq_true] at h
    have := (vlist_true.1 h.1).1
    exact Nat.le_trans (List.length_filter_le _ _) (by rw [idxL_len]; omega)
  · simp
theorem agC_zero (a b : List UInt8) : (agC a b == 0) = agB a b := by unfold agC; cases agB a b <;> rfl
theorem getD_at {xs : List ByteArray} {k : Nat} {x : ByteArray} (h : xs[k]? = some x) : xs.getD ((k : Nat) : Int).toNat ⟨#[]⟩ = x := by simp [List.getD, h]
theorem IntsIn.mono {w : World} {L L' : Nat} {A : Option Addr} {xs : List Int} (h : IntsIn w L A xs) (hL : L' ≤ L) : IntsIn w L' A xs :=
  fun hn => by obtain ⟨b, o, e, h1, h2⟩ := h hn; exact ⟨b, o, e, by omega, h2⟩
theorem ints_nil (w : World) (L : Nat) (A : Option Addr) : IntsIn w L A [] := fun h => (h rfl).elim

set_option maxRecDepth 100000 in
set_option maxHeartbeats 4000000 in
theorem matchW1_any (P Q : Nat) (s y : ByteArray) (b o n c k : Nat) (w : World) (hs : s.size ≤ maxLen) (hy : y.size ≤ maxLen) (hk : k < n)
    (hP : w.cell? ⟨P, 0, none⟩ = some (.string s)) (hQ : w.cell? ⟨Q, 0, none⟩ = some (.slice (some ⟨b, o, none⟩) n c)) (hc : w.cell? ⟨b, o + k, none⟩ = some (.string y)) :
    Calls Try.prog 97 #[.int .i64 (k : Int), .pointer (some ⟨P, 0, none⟩), .pointer (some ⟨Q, 0, none⟩)] w fun e w' => e = .returned (.bool (agB s.data.toList y.data.toList)) ∧ Below w.heap.size w w' := by
  have hi : (k : Int) < n := by omega
  have h0 : (0 : Int) ≤ k := by omega
  have cP := Over.get hP
  have cQ := Over.get hQ
  have cc := Over.get hc
  have HAZ := hide (agC_zero s.data.toList y.data.toList)
  clear hP hQ hc
  go_enter Try.func97, Try.ntmps97
  go_wp2
  refine wp_region_over (by kernel_rfl) (by kernel_rfl) ?_
  repeat (go_big_quiet_step (first | (go_at_call 98; exact over_call (agree_any _ _ _ hs hy))))
  refine wpQuiet_nil ?_
  intro w1 hb1
  go_wp2
  go_ret
  exact ⟨ret_bool HAZ.out, hb1⟩

set_option maxRecDepth 100000 in
set_option maxHeartbeats 4000000 in
theorem implMatchWorn_any (s : ByteArray) (hs : s.size ≤ 1048576) (A : Option Addr) (xs : List ByteArray) (c : Nat) (hn : xs.length ≤ maxLen) (hx : ∀ x ∈ xs, x.size ≤ maxLen) (w : World) (hA : StrsAt w w.heap.size A xs) :
    Calls Try.prog 43 #[.string s, .slice A xs.length c] w (IntsBack (mwR s xs) (mwC s xs) w) := by
  have hs2 : s.size ≤ maxLen := by unfold maxLen; omega
  have hb0 : Below w.heap.size w ((w.alloc (.cells #[.string s] 9)).alloc (.cells #[.slice A xs.length c] 22)) := ((Below.refl _ _).alloc (Nat.le_refl _) _).alloc (by simp) _
  have hz0 : w.heap.size + 1 + 1 = ((w.alloc (.cells #[.string s] 9)).alloc (.cells #[.slice A xs.length c] 22)).heap.size := by simp
  have hc0 : ((w.alloc (.cells #[.string s] 9)).alloc (.cells #[.slice A xs.length c] 22)).cell? ⟨w.heap.size, 0, none⟩ = some (.string s) := by simp
  have hc1 : ((w.alloc (.cells #[.string s] 9)).alloc (.cells #[.slice A xs.length c] 22)).cell? ⟨w.heap.size + 1, 0, none⟩ = some (.slice A xs.length c) := by
    have := rangeAt_newg (w := w.alloc (.cells #[.string s] 9)) (cs := #[.slice A xs.length c]) (t := 22) (g := w.heap.size + 1) (l := [.slice A xs.length c]) (by simp) rfl
    exact this 0 _ rfl
  have hA0 := hA.below hb0
  have HVL := hide (fun W h => implValidList_any A xs c hn hx W h)
  have HWW := hide (fun W => isWornWord_any s W hs2)
  have hn' := hn
  unfold maxLen at hn'
  clear hn'
  cases hv : vlist xs
  · obtain ⟨e1, e2⟩ := mw_no (s := s) hv
    rw [e1, e2]
    rw [hv] at HVL
    go_enter Try.func43, Try.ntmps43
    go_wp2_with fail
    generalize ((w.alloc (.cells #[.string s] 9)).alloc (.cells #[.slice A xs.length c] 22)) = W0 at *
    refine (HVL.out W0 (hA0.mono hb0.size)).mono ?_
    rintro e w1 ⟨rfl, hb1⟩
    go_wp2
    go_ret2
    exact ⟨none, 0, rfl, ints_nil _ _ _, hb0.trans (hb1.mono hb0.size)⟩
  · rw [hv] at HVL
    cases hw : wornB s.data.toList
    · obtain ⟨e1, e2⟩ := mw_not hv hw
      rw [e1, e2]
      rw [hw] at HWW
      go_enter Try.func43, Try.ntmps43
      go_wp2_with fail
      generalize ((w.alloc (.cells #[.string s] 9)).alloc (.cells #[.slice A xs.length c] 22)) = W0 at *
      refine (HVL.out W0 (hA0.mono hb0.size)).mono ?_
      rintro e w1 ⟨rfl, hb1⟩
      have hc0' : w1.cell? ⟨w.heap.size, 0, none⟩ = some (.string s) := (hb1.cell (p := ⟨w.heap.size, 0, none⟩) (show w.heap.size < W0.heap.size by omega)).trans hc0
      clear hc0 hc1
      go_wp2_with (go_at_call 96; refine (HWW.out _).mono ?_; rintro e w2 ⟨rfl, hb2⟩)
      go_ret2
      exact ⟨none, 0, rfl, ints_nil _ _ _, hb0.trans ((hb1.trans (hb2.mono hb1.size)).mono hb0.size)⟩
    · obtain ⟨e1, e2⟩ := mw_ok hv hw
      rw [e1, e2]
      rw [hw] at HWW
      have hl := (vlist_true.1 hv).1
      have HTH := hide (fun B (cb : Nat) W (hW : Below w.heap.size w W) (h0 : ∀ V, Below W.heap.size W V → V.cell? ⟨w.heap.size, 0, none⟩ = some (.string s)) (h1 : ∀ V, Below W.heap.size W V → V.cell? ⟨w.heap.size + 1, 0, none⟩ = some (.slice A xs.length c)) (hB : IntsAt W W.heap.size B (idxL xs.length)) =>
        thoseI_any 97 (enters_of Try.func97 (by kernel_rfl) rfl) w.heap.size (w.heap.size + 1) (mwP s.data.toList xs) B (idxL xs.length) cb W (by rw [idxL_len]; omega) hB
          (fun x hxm V hV => by
            obtain ⟨k, hk, rfl⟩ := idxL_mem hxm
            obtain ⟨b, o, rfl, hb, hxs⟩ := hA (by intro e; rw [e] at hk; simp at hk)
            have hxk := List.getElem?_eq_getElem hk
            have hget : mwP s.data.toList xs (k : Int) = agB s.data.toList (xs[k]).data.toList := by unfold mwP; rw [getD_at hxk]
            rw [hget]
            exact matchW1_any w.heap.size (w.heap.size + 1) s _ b o xs.length c k V hs2 (hx _ (List.getElem_mem hk)) hk (h0 V hV) (h1 V hV)
              ((((hW.trans (hV.mono hW.size)).cell (p := ⟨b, o + k, none⟩) hb)).trans (hxs k _ hxk))))
      have HID := hide (fun W => indicesS_any A xs.length c W (by omega))
      rw [idxL_len] at HTH
      clear hA
      go_enter Try.func43, Try.ntmps43
      go_wp2_with fail
      generalize ((w.alloc (.cells #[.string s] 9)).alloc (.cells #[.slice A xs.length c] 22)) = W0 at *
      refine (HVL.out W0 (hA0.mono hb0.size)).mono ?_
      rintro e w1 ⟨rfl, hb1⟩
      have hlt0 : w.heap.size < W0.heap.size := by omega
      have hlt1 : w.heap.size + 1 < W0.heap.size := by omega
      have hc0' : w1.cell? ⟨w.heap.size, 0, none⟩ = some (.string s) := (hb1.cell (p := ⟨w.heap.size, 0, none⟩) hlt0).trans hc0
      have H00 := hide hc0
      have H01 := hide hc1
      clear hc0 hc1
      go_wp2_with fail
      refine (HWW.out _).mono ?_
      rintro e w2 ⟨rfl, hb2⟩
      have hb02 := hb1.trans (hb2.mono hb1.size)
      have hc1' : w2.cell? ⟨w.heap.size + 1, 0, none⟩ = some (.slice A xs.length c) := (hb02.cell (p := ⟨w.heap.size + 1, 0, none⟩) hlt1).trans H01.out
      clear hc0' hb1 hb2
      go_wp2_with fail
      refine (HID.out _).mono ?_
      rintro e w3 ⟨A3, c3, rfl, hc3, hI3, hb3⟩
      rw [idxL_len] at hc3 ⊢
      have hb03 := hb02.trans (hb3.mono hb02.size)
      have hB3 := hb0.trans (hb03.mono hb0.size)
      have hz3 := hb03.size
      clear hc1' hb3
      go_wp2_with fail
      refine (HTH.out A3 c3 w3 hB3 (fun V hV => ((hb03.trans (hV.mono hb03.size)).cell (p := ⟨w.heap.size, 0, none⟩) hlt0).trans H00.out) (fun V hV => ((hb03.trans (hV.mono hb03.size)).cell (p := ⟨w.heap.size + 1, 0, none⟩) hlt1).trans H01.out) hI3.at_).mono ?_
      rintro e w4 ⟨A4, c4, rfl, hc4, hI4, hb4⟩
      go_wp2
      go_ret2
      exact ⟨A4, c4, rfl, hI4.mono (by have := hB3.size; omega), hB3.trans (hb4.mono hB3.size)⟩

/-- So far they agree. -/
def smB (a b : List UInt8) (q : Nat) : Bool := decide (a.length = b.length) && (List.range q).all (fun j => !clash a b j)
theorem smB_zero (a b : List UInt8) : smB a b 0 = decide (a.length = b.length) := by simp [smB]
theorem smB_succ (a b : List UInt8) (q : Nat) : smB a b (q + 1) = (smB a b q && !clash a b q) := by simp [smB, List.range_succ, Bool.and_assoc]
theorem smB_all (a b : List UInt8) : smB a b a.length = agB a b := rfl
theorem smB_false {a b : List UInt8} {q : Nat} (hq : q ≤ a.length) (h : smB a b q = false) : agB a b = false := by
  rw [← Bool.not_eq_true, agB_true]
  rintro ⟨h1, h2⟩
  rw [← Bool.not_eq_true] at h
  exact h (by
    simp only [smB, Bool.and_eq_true, decide_eq_true_eq, List.all_eq_true, List.mem_range]
    exact ⟨h1, fun j hj => by rw [h2 j (by omega)]; rfl⟩)
theorem smB_len {a b : List UInt8} {q : Nat} (h : smB a b q = true) : a.length = b.length := by
  simp only [smB, Bool.and_eq_true, decide_eq_true_eq] at h; exact h.1

set_option maxRecDepth 100000 in
set_option maxHeartbeats 8000000 in
theorem specMatchWorn_any (s : ByteArray) (hs : s.size ≤ 1048576) (A : Option Addr) (xs : List ByteArray) (c : Nat) (hn : xs.length ≤ maxLen) (hx : ∀ x ∈ xs, x.size ≤ maxLen) (w : World) (hA : StrsAt w w.heap.size A xs) :
    Calls Try.prog 42 #[.string s, .slice A xs.length c] w (IntsBack (mwR s xs) (mwC s xs) w) := by
  obtain ⟨i0, hi0, hz0, hz1, hz2⟩ := info_parts Try.infoI64
  have hs2 : s.size ≤ maxLen := by unfold maxLen; omega
  have hb0 : Below w.heap.size w (w.alloc (.cells #[] 2)) := (Below.refl _ _).alloc (Nat.le_refl _) _
  have HO := hide (World.ownsRow_lit w #[] 0 (Nat.le_refl _) (by unfold maxLen; omega) rfl : (w.alloc (.cells #[] 2)).ownsRow w.heap.size 2 1 (.slice (some ⟨w.heap.size, 0, none⟩) 0 0) 0 [])
  have HVL := hide (fun W h => l04List_any A xs c W hn hx h)
  have HWW := hide (fun W => l04Worn_any s W hs2)
  have hA0 := hA.below hb0
  cases hv : vlist xs
  · obtain ⟨e1, e2⟩ := mw_no (s := s) hv
    rw [e1, e2]
    go_enter Try.func42, Try.ntmps42
    go_wp2_with (go_at_call 69; refine (HVL.out _ (hA0.mono hb0.size)).mono ?_; rintro e w1 ⟨rfl, rfl⟩; simp only [hv])
    go_ret2
    exact ⟨_, 0, rfl, ints_nil _ _ _, hb0⟩
  · cases hw : wornB s.data.toList
    · obtain ⟨e1, e2⟩ := mw_not hv hw
      rw [e1, e2]
      go_enter Try.func42, Try.ntmps42
      go_wp2_with (first | (go_at_call 69; refine (HVL.out _ (hA0.mono hb0.size)).mono ?_; rintro e w1 ⟨rfl, rfl⟩; simp only [hv]) | (go_at_call 95; refine (HWW.out _).mono ?_; rintro e w2 ⟨rfl, rfl⟩; simp only [hw]))
      go_ret2
      exact ⟨_, 0, rfl, ints_nil _ _ _, hb0⟩
    · obtain ⟨e1, e2⟩ := mw_ok hv hw
      rw [e1, e2]
      have HALL := hide (vlist_true.1 hv).2
      have hl := (vlist_true.1 hv).1
      have HLN : Hid (∀ k, ((idxL k).filter (mwP s.data.toList xs)).length ≤ k) := hide (fun k => Nat.le_trans (List.length_filter_le _ _) (by rw [idxL_len]; omega))
      have HSU : Hid (∀ k, idxL (k + 1) = idxL k ++ [(k : Int)]) := hide (fun k => by simp [idxL, List.range_succ])
      obtain ⟨n, hL⟩ : ∃ n, xs.length = n := ⟨_, rfl⟩
      have HL := hide hL
      have hsl : s.data.toList.length = s.size := by simp
      have HSL := hide hsl
      have HX := hide hA
      rw [hL] at hl HVL ⊢
      clear hL hA hsl hs2
      go_enter Try.func42, Try.ntmps42
      go_wp2_with fail
      refine (HVL.out _ (hA0.mono hb0.size)).mono ?_
      rintro e w1 ⟨rfl, rfl⟩
      simp only [hv]
      go_wp2_with (go_at_call 95; refine (HWW.out _).mono ?_; rintro e w2 ⟨rfl, rfl⟩; simp only [hw])
      clear hA0
      go_loopw [6, 7] (fun br i wr => ∃ k : Nat, k ≤ n ∧ i = .int .i64 k ∧ wr.ownsRow w.heap.size 2 1 br ((idxL k).filter (mwP s.data.toList xs)).length (((idxL k).filter (mwP s.data.toList xs)).map (.int .i64)) ∧ Below w.heap.size w wr)
        (fun _ i _ => n - (intOf i).toNat)
      case atStart => exact ⟨0, by omega, rfl, by have : idxL 0 = [] := rfl; rw [this]; exact HO.out, hb0⟩
      case round =>
        obtain ⟨k, hk, rfl, hown, hB⟩ := hrel
        obtain ⟨Ab, cbb, rfl, hcap, _⟩ := cellsIn_of_own hown (by omega)
        have hbs := hB.size
        have HOWN := hide hown
        clear hown
        by_cases hlt : k < n
        · obtain ⟨b, o, rfl, hb, hxs⟩ := HX.out (by intro e; rw [e] at HL; have := HL.out; simp at this; omega)
          obtain ⟨x, hxk⟩ : ∃ x, xs[k]? = some x := ⟨xs[k]'(by rw [HL.out]; exact hlt), List.getElem?_eq_getElem _⟩
          have c0 : wr.cell? ⟨b, o + k, none⟩ = some (.string x) := (hB.cell (p := ⟨b, o + k, none⟩) hb).trans (hxs k x hxk)
          have hi : (k : Int) < n := by omega
          have h0 : (0 : Int) ≤ k := by omega
          have hln := HLN.out k
          have hlx := lw_true (lw_mem HALL.out (List.mem_of_getElem? hxk))
          have hxl : x.data.toList.length = x.size := by simp
          have HXL := hide hxl
          have HCX := hide hlx.2.2
          have hxsz := hlx.2.1
          have hsz20 : s.size < 9223372036854775807 := by omega
          have HPK : Hid (mwP s.data.toList xs (k : Int) = agB s.data.toList x.data.toList) := hide (by unfold mwP; rw [getD_at hxk])
          have HE := hide (show (idxL (k + 1)).filter (mwP s.data.toList xs) = (idxL k).filter (mwP s.data.toList xs) ++ (if agB s.data.toList x.data.toList = true then [(k : Int)] else []) by
            rw [HSU.out, List.filter_append]
            congr 1
            rw [← HPK.out]
            simp only [List.filter_cons, List.filter_nil])
          have HSM0 : Hid (smB s.data.toList x.data.toList 0 = ((x.size : Int) == (s.size : Int))) := hide (by rw [smB_zero, HSL.out, HXL.out, Bool.eq_iff_iff]; simp; omega)
          clear hxs hxk hlx hxl
          obtain ⟨W1, hW1⟩ : ∃ W1, W1 = wr := ⟨_, rfl⟩
          subst hW1
          go_wp2
          go_loopw [8, 9] (fun sm i wr => ∃ q : Nat, q ≤ s.size ∧ i = .int .i64 q ∧ sm = .bool (smB s.data.toList x.data.toList q) ∧ Below W1.heap.size W1 wr)
            (fun _ i _ => s.size - (intOf i).toNat)
          case atStart => exact ⟨0, by omega, rfl, by rw [HSM0.out], Below.refl _ _⟩
          case round =>
            obtain ⟨q, hq, rfl, rfl, hBq⟩ := hrel
            have hBk := hB.trans (hBq.mono hbs)
            have hbq := hBq.size
            have c1 : wr.cell? ⟨b, o + k, none⟩ = some (.string x) := (hBq.cell (p := ⟨b, o + k, none⟩) (show b < W1.heap.size by omega)).trans c0
            clear c0
            cases hsm : smB s.data.toList x.data.toList q
            · have HAG := hide (smB_false (by rw [HSL.out]; exact hq) hsm)
              have HE2 : Hid ((idxL (k + 1)).filter (mwP s.data.toList xs) = (idxL k).filter (mwP s.data.toList xs)) := hide (by rw [HE.out, HAG.out]; simp)
              have hown2 := hide (own_go HOWN.out hBq)
              by_cases hq2 : q < s.size
              · have hqi : (q : Int) < s.size := by omega
                go_wp2
                refine ⟨⟨k + 1, by omega, by go_num, ?_, hBk⟩, by simp [intOf]; omega⟩
                rw [HE2.out]
                exact hown2.out
              · obtain rfl : q = s.size := by omega
                go_wp2
                refine ⟨⟨k + 1, by omega, by go_num, ?_, hBk⟩, by simp [intOf]; omega⟩
                rw [HE2.out]
                exact hown2.out
            · by_cases hq2 : q < s.size
              · have hqi : (q : Int) < s.size := by omega
                have hq0 : (0 : Int) ≤ q := by omega
                have hxq : q < x.size := by have h1 := smB_len hsm; rw [HSL.out, HXL.out] at h1; omega
                have hxqi : (q : Int) < x.size := by omega
                have HB1 := hide (byteAt_get s q hq2)
                have HB2 := hide (byteAt_get x q hxq)
                have HC46 := hide (HCX.out q (by rw [HXL.out]; exact hxq))
                have HSQ := hide (smB_succ s.data.toList x.data.toList q)
                have HCL : Hid (smB s.data.toList x.data.toList (q + 1) = ((s[q].toNat : Int) == 46 || (s[q].toNat : Int) == (x[q].toNat : Int))) := hide (by
                  rw [HSQ.out, hsm, Bool.true_and]
                  unfold clash
                  rw [← HB1.out, ← HB2.out]
                  have h46 : ((x[q].toNat : Int) != 46) = true := by
                    have := cap_true.1 HC46.out
                    rw [← HB2.out] at this
                    simp; omega
                  rw [h46, Bool.and_true]
                  simp only [bne]
                  cases ((s[q].toNat : Int) == 46) <;> cases ((s[q].toNat : Int) == (x[q].toNat : Int)) <;> rfl)
                cases h1 : ((s[q].toNat : Int) == 46)
                · cases h2 : ((s[q].toNat : Int) == (x[q].toNat : Int))
                  · go_wp2
                    go_quiet (fail)
                    go_wp2
                    exact ⟨⟨q + 1, by omega, by go_num, by rw [HCL.out, h1, h2]; rfl, below_drewN hBq _⟩, by simp [intOf]; omega⟩
                  · go_wp2
                    go_quiet (fail)
                    go_wp2
                    exact ⟨⟨q + 1, by omega, by go_num, by rw [HCL.out, h1, h2]; rfl, below_drewN hBq _⟩, by simp [intOf]; omega⟩
                · go_wp2
                  go_quiet (fail)
                  go_wp2
                  exact ⟨⟨q + 1, by omega, by go_num, by rw [HCL.out, h1]; rfl, below_drewN hBq _⟩, by simp [intOf]; omega⟩
              · obtain rfl : q = s.size := by omega
                have HAG : Hid (agB s.data.toList x.data.toList = true) := hide (by rw [← smB_all, HSL.out]; exact hsm)
                have HE2 : Hid ((idxL (k + 1)).filter (mwP s.data.toList xs) = (idxL k).filter (mwP s.data.toList xs) ++ [(k : Int)]) := hide (by rw [HE.out, HAG.out]; rfl)
                have hown2 := hide (own_go HOWN.out hBq)
                have hbs3 := hBk.size
                go_wp2_with (at_builtin; refine wpList_append_own _ rfl (.tmp 59) (.tmp 61) 33 rfl w.heap.size 2 i0 (.int .i64 0) 1 8 Try.underlying33 hi0 hz0 hz1 hz2 rfl (by decide) _ ((idxL k).filter (mwP s.data.toList xs)).length _ rfl (hown2.out.alloc _) ⟨wr.heap.size, 0, none⟩ 1 1 [.int .i64 (k : Int)] rfl rfl (one_cell _) (one_one rfl) ?h1 ?h2 ?h3 ?_)
                case h1 => unfold maxLen; omega
                case h2 => omega
                case h3 => simp; omega
                intro v' w4 hown4 hg4 _
                obtain ⟨A4, c4, rfl, _, _⟩ := cellsIn_of_own hown4 (by omega)
                have H4 := hide hown4
                have hg34 : wr.grownBy w4 _ := grown_trans (World.grownBy_alloc wr _ _) hg4
                have hB4 := hBk.trans (grown_toBelow hg34 (by omega) (fun k hk => (hown2.out.lt k hk).1))
                clear hown4 hg4 hg34
                go_wp2
                refine ⟨⟨k + 1, by omega, by go_num, ?_, hB4⟩, by simp [intOf]; omega⟩
                rw [HE2.out, List.map_append, List.length_append]
                exact H4.out
        · obtain rfl : k = n := by omega
          obtain ⟨Ag, cg, e, _, hI⟩ := intsIn_of_own HOWN.out
          injection e with e1' e2' e3'
          subst e1' e3'
          have HI := hide hI
          clear hI
          go_wp2
          go_ret2
          exact ⟨Ab, cbb, rfl, HI.out, hB⟩
end Go.Proofs.Ytajlbfbpkafjfaa
