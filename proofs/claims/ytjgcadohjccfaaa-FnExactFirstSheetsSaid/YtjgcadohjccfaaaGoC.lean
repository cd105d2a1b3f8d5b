/- Pieces that fit on sheets, of both. · Sheets one behind the other: NextSheets of both. · NextSheets, of both. -/
import Derived.Test.YtjgcadohjccfaaaGoB
import Derived.Test.YtjgcadohjccfaaaChE3
import Derived.Maps.AppendAt

namespace Go.Proofs.Ytjgcadohjccfaaa
open Go Go.RowKit

/-- The code of pieces that have to fit. -/
noncomputable def ctC (F : Fc) (L : List UInt8) (wd ov most : Int) : Int := if gpB F L wd ov = true then if most < ((pieL F L ov).length : Int) then 3 else if (pieL F L ov).all (leB wd) = true then 0 else 6 else 1
noncomputable def ctR (F : Fc) (L : List UInt8) (wd ov most : Int) : List Int := if ctC F L wd ov most = 0 then pieL F L ov else []
theorem ct_no {F : Fc} {L : List UInt8} {wd ov most : Int} (h : gpB F L wd ov = false) : ctC F L wd ov most = 1 ∧ ctR F L wd ov most = [] := by
  have e : ctC F L wd ov most = 1 := by unfold ctC; rw [h]; rfl
  exact ⟨e, if_neg (by rw [e]; decide)⟩
theorem ct_many {F : Fc} {L : List UInt8} {wd ov most : Int} (h : gpB F L wd ov = true) (h2 : most < ((pieL F L ov).length : Int)) : ctC F L wd ov most = 3 ∧ ctR F L wd ov most = [] := by
  have e : ctC F L wd ov most = 3 := by unfold ctC; rw [if_pos h, if_pos h2]
  exact ⟨e, if_neg (by rw [e]; decide)⟩
theorem ct_wide {F : Fc} {L : List UInt8} {wd ov most : Int} (h : gpB F L wd ov = true) (h2 : ¬ most < ((pieL F L ov).length : Int)) (h3 : (pieL F L ov).all (leB wd) = false) : ctC F L wd ov most = 6 ∧ ctR F L wd ov most = [] := by
  have e : ctC F L wd ov most = 6 := by unfold ctC; rw [if_pos h, if_neg h2, h3]; rfl
  exact ⟨e, if_neg (by rw [e]; decide)⟩
theorem ct_ok {F : Fc} {L : List UInt8} {wd ov most : Int} (h : gpB F L wd ov = true) (h2 : ¬ most < ((pieL F L ov).length : Int)) (h3 : (pieL F L ov).all (leB wd) = true) : ctC F L wd ov most = 0 ∧ ctR F L wd ov most = pieL F L ov := by
  have e : ctC F L wd ov most = 0 := by unfold ctC; rw [if_pos h, if_neg h2, if_pos h3]
  exact ⟨e, if_pos e⟩
theorem ct_bad {F : Fc} {L : List UInt8} {wd ov most : Int} (h : ctC F L wd ov most ≠ 0) : ctR F L wd ov most = [] := if_neg h
theorem ct_zero {F : Fc} (hF : F.ok) {L : List UInt8} {wd ov most : Int} (h : ctC F L wd ov most = 0) : ctR F L wd ov most = pieL F L ov ∧ gpB F L wd ov = true ∧ ((pieL F L ov).length : Int) ≤ most ∧ (∀ x ∈ pieL F L ov, 1 ≤ x ∧ x ≤ wd) := by
  refine ⟨if_pos h, ?_⟩
  unfold ctC at h
  split at h
  · rename_i h1
    split at h
    · cases h
    · split at h
      · rename_i h2 h3
        obtain ⟨hv, ht, _, ho⟩ := gp_parts h1
        refine ⟨h1, by omega, fun x hx => ⟨(pieL_bd hF hv ht ho x hx).1, ?_⟩⟩
        have := List.all_eq_true.1 h3 x hx
        simpa [leB] using this
      · cases h
  · cases h

set_option maxRecDepth 100000 in
set_option maxHeartbeats 2000000 in
/-- areAll at a function value that has captured something. -/
theorem areAllIc_any (f : FuncId) (he : Enters Try.prog f) (caps : Array Value) (p : Int → Bool) (A : Option Addr) (xs : List Int) (c : Nat) (w : World) (hn : xs.length ≤ maxLen) (hA : IntsAt w w.heap.size A xs)
    (hf : ∀ x ∈ xs, ∀ W, Below w.heap.size w W → Calls Try.prog f (#[.int .i64 x] ++ caps) W fun e w' => e = .returned (.bool (p x)) ∧ Below W.heap.size W w') :
    Calls Try.prog 93 #[.slice A xs.length c, .func (.func f) #[] caps] w fun e w' => e = .returned (.bool (xs.all p)) ∧ Below w.heap.size w w' := by
  unfold maxLen at hn
  generalize hS : xs.all p = S
  have HS := hide hS
  have HF := hide hf
  clear hS hf
  unfold Enters at he
  go_enter Try.func93, Try.ntmps93
  go_wp2
  go_loopw [9] (fun i wr => ∃ k : Nat, k ≤ xs.length ∧ i = .int .i64 k ∧ Hid (∀ j x, j < k → xs[j]? = some x → p x = true) ∧ Below w.heap.size w wr) (fun i _ => xs.length - (intOf i).toNat)
  case atStart => exact ⟨0, Nat.zero_le _, rfl, hide (fun j x hj => by omega), Below.refl _ _⟩
  case round =>
    obtain ⟨k, hk, rfl, hg, hB⟩ := hrel
    by_cases hlt : k < xs.length
    · obtain ⟨b, o, rfl, hb, hxs⟩ := hA (by intro e; rw [e] at hlt; simp at hlt)
      obtain ⟨x, hxk⟩ : ∃ x, xs[k]? = some x := ⟨xs[k]'hlt, List.getElem?_eq_getElem _⟩
      have hc : wr.cell? ⟨b, o + k, none⟩ = some (.int .i64 x) := (hB.cell (p := ⟨b, o + k, none⟩) hb).trans (hxs k x hxk)
      have HX := hide hxk
      have hi : (k : Int) < xs.length := by omega
      have h0 : (0 : Int) ≤ k := by omega
      have HC := hide (HF.out x (List.mem_of_getElem? hxk) wr hB)
      clear hxs hxk
      cases hb : p x
      · rw [hb] at HC
        go_wp2_with (go_at_fn f; refine HC.out.mono ?_; rintro e w1 ⟨rfl, hb1⟩)
        go_ret
        exact ⟨ret_bool (by rw [← HS.out, all_false_of HX.out hb]), hB.trans (hb1.mono hB.size)⟩
      · rw [hb] at HC
        go_wp2_with (go_at_fn f; refine HC.out.mono ?_; rintro e w1 ⟨rfl, hb1⟩)
        exact ⟨⟨k + 1, by omega, by go_num, hide (fun j y hj hy => by
          by_cases e : j = k
          · subst e; rw [HX.out] at hy; injection hy with hy; subst hy; exact hb
          · exact hg.out j y (by omega) hy), hB.trans (hb1.mono hB.size)⟩, by simp [intOf]; omega⟩
    · have HA := hide (all_true_of (p := p) (xs := xs) (fun j x hj => hg.out j x (by omega)))
      have hk' : k = xs.length := by omega
      clear hg
      go_wp2
      go_ret
      exact ⟨ret_bool (by rw [← HS.out, HA.out]), hB⟩

set_option maxHeartbeats 1000000 in
theorem fits1_any (x : Int) (b : Nat) (wd ov : Int) (hw : -32768 ≤ wd ∧ wd ≤ 32767) (w : World) (hr : w.rangeAt b 0 [.int .i16 wd, .int .i8 ov]) :
    Calls Try.prog 94 #[.int .i64 x, .pointer (some ⟨b, 0, none⟩)] w fun e w' => e = .returned (.bool (leB wd x)) ∧ Below w.heap.size w w' := by
  have c0 := rangeAt_cell (k := 0) hr rfl
  have c1 := rangeAt_cell (k := 1) hr rfl
  have HW := hide (fun W => sheetWide_any wd ov hw W)
  have HL := hide (show leB wd x = decide (x ≤ wd) from rfl)
  clear hr
  go_enter Try.func94, Try.ntmps94
  go_wp2_with (go_at_call 65; refine (HW.out _).mono ?_; rintro e w1 ⟨rfl, hb1⟩)
  go_ret
  exact ⟨ret_bool HL.out.symm, hb1⟩

set_option maxRecDepth 100000 in
set_option maxHeartbeats 8000000 in
theorem piecesThatFit_any (F : Fc) (hF : F.ok) (A : Option Addr) (c : Nat) (wd : Int) (hw : -32768 ≤ wd ∧ wd ≤ 32767) (ov : Int) (ho : i8ok ov) (s : ByteArray) (hs : s.size ≤ maxLen) (most : Int) (w : World) (hG : Glob w) (hA : PairsAt w w.heap.size A F.ps) :
    Calls Try.prog 63 #[.agg (fc F (.slice A F.ps.length c)).toArray, .agg #[.int .i16 wd, .int .i8 ov], .string s, .int .i64 most] w (IntsBack (ctR F s.data.toList wd ov most) (ctC F s.data.toList wd ov most) w) := by
  have b0 : Below w.heap.size w ((w.alloc (.cells (fc F (.slice A F.ps.length c)).toArray 40)).alloc (.cells #[.int .i16 wd, .int .i8 ov] 27)) := ((Below.refl _ _).alloc (Nat.le_refl _) _).alloc (by simp) _
  have r0 := World.rangeAt_alloc (rangeAt_new w (fc F (.slice A F.ps.length c)) 40) (.cells #[.int .i16 wd, .int .i8 ov] 27)
  have r1 := rangeAt_newg (w := w.alloc (.cells (fc F (.slice A F.ps.length c)).toArray 40)) (cs := #[.int .i16 wd, .int .i8 ov]) (t := 27) (g := w.heap.size + 1) (by simp) rfl
  have s0 : w.heap.size + 1 < ((w.alloc (.cells (fc F (.slice A F.ps.length c)).toArray 40)).alloc (.cells #[.int .i16 wd, .int .i8 ov] 27)).heap.size := by simp
  have HI29 := hide (show (Try.prog.info? 40).map (·.size) = some (fc F (.slice A F.ps.length c)).length from by rw [fc_length hF.len]; kernel_rfl)
  have HI2 := hide (show (Try.prog.info? 27).map (·.size) = some ([.int .i16 wd, .int .i8 ov] : List Value).length from by kernel_rfl)
  have HPF := hide (fun W h1 h2 => implPiecesFor_any F hF A c wd hw ov ho s hs W h1 h2)
  have HA := hide ((hA.below b0).mono b0.size)
  have HG := hide (hG.below b0)
  unfold maxLen at hs
  cases hb : gpB F s.data.toList wd ov
  · obtain ⟨e1, e2⟩ := gp_no hb
    obtain ⟨d1, d2⟩ := ct_no (most := most) hb
    rw [d1, d2]
    rw [e1, e2] at HPF
    clear e1 e2 hb d1 d2 hA hG ho hw
    generalize fc F (.slice A F.ps.length c) = fcs at *
    go_enter Try.func63, Try.ntmps63
    repeat (first | (refine wpList_load_mid rfl 40 (.tmp 4) rfl _ 0 rfl fcs _ r0 Try.underlying40 rfl HI29.out ?_) | (refine wpList_load_mid rfl 27 (.tmp 5) rfl _ 0 rfl [.int .i16 wd, .int .i8 ov] _ r1 Try.underlying27 rfl HI2.out ?_) | go_step)
    refine (HPF.out _ HG.out HA.out).mono ?_
    rintro e w1 ⟨A1, c1, rfl, hI1, hb1⟩
    go_wp2
    go_ret2
    exact ⟨none, 0, rfl, IntsIn.empty _ _ _, b0.trans (hb1.mono b0.size)⟩
  · obtain ⟨e1, e2⟩ := gp_ok hb
    have hn60 := pieL_n (F := F) (ov := ov) (gp_parts hb).2.1
    have HAL := hide (fun A' c' (W W' : World) (hW : Below ((w.alloc (.cells (fc F (.slice A F.ps.length c)).toArray 40)).alloc (.cells #[.int .i16 wd, .int .i8 ov] 27)).heap.size ((w.alloc (.cells (fc F (.slice A F.ps.length c)).toArray 40)).alloc (.cells #[.int .i16 wd, .int .i8 ov] 27)) W) hI =>
      areAllIc_any 94 (enters_of Try.func94 (by kernel_rfl) rfl) #[.pointer (some ⟨w.heap.size + 1, 0, none⟩)] (leB wd) A' (pieL F s.data.toList ov) c' W (by unfold maxLen; omega) hI
        (fun x _ V hV => fits1_any x _ wd ov hw V (rangeAt_below r1 (hW.trans (hV.mono hW.size)) s0)))
    have HM := hide (fun h => ct_many (F := F) (L := s.data.toList) (wd := wd) (ov := ov) (most := most) hb h)
    have HWD := hide (fun h h' => ct_wide (F := F) (L := s.data.toList) (wd := wd) (ov := ov) (most := most) hb h h')
    have HOK := hide (fun h h' => ct_ok (F := F) (L := s.data.toList) (wd := wd) (ov := ov) (most := most) hb h h')
    rw [e1, e2] at HPF
    clear e1 e2 hb hA hG ho hw
    generalize fc F (.slice A F.ps.length c) = fcs at *
    generalize pieL F s.data.toList ov = P at *
    generalize ctC F s.data.toList wd ov most = C at *
    generalize ctR F s.data.toList wd ov most = R at *
    by_cases hm : most < (P.length : Int)
    · obtain ⟨rfl, rfl⟩ := HM.out hm
      have hd : decide (most < (P.length : Int)) = true := by simpa using hm
      clear hm HM HWD HOK
      go_enter Try.func63, Try.ntmps63
      repeat (first | (refine wpList_load_mid rfl 40 (.tmp 4) rfl _ 0 rfl fcs _ r0 Try.underlying40 rfl HI29.out ?_) | (refine wpList_load_mid rfl 27 (.tmp 5) rfl _ 0 rfl [.int .i16 wd, .int .i8 ov] _ r1 Try.underlying27 rfl HI2.out ?_) | go_step)
      refine (HPF.out _ HG.out HA.out).mono ?_
      rintro e w1 ⟨A1, c1, rfl, hI1, hb1⟩
      go_wp2
      go_ret2
      exact ⟨none, 0, rfl, IntsIn.empty _ _ _, b0.trans (hb1.mono b0.size)⟩
    · have hd : decide (most < (P.length : Int)) = false := by simpa using hm
      cases hal : P.all (leB wd)
      · obtain ⟨rfl, rfl⟩ := HWD.out hm hal
        rw [hal] at HAL
        clear hm HM HWD HOK
        go_enter Try.func63, Try.ntmps63
        repeat (first | (refine wpList_load_mid rfl 40 (.tmp 4) rfl _ 0 rfl fcs _ r0 Try.underlying40 rfl HI29.out ?_) | (refine wpList_load_mid rfl 27 (.tmp 5) rfl _ 0 rfl [.int .i16 wd, .int .i8 ov] _ r1 Try.underlying27 rfl HI2.out ?_) | go_step)
        refine (HPF.out _ HG.out HA.out).mono ?_
        rintro e w1 ⟨A1, c1, rfl, hI1, hb1⟩
        go_wp2_with (go_at_call 93; refine (HAL.out _ _ _ w1 hb1 hI1.at_).mono ?_; rintro e w2 ⟨rfl, hb2⟩)
        go_ret2
        have hB1 := b0.trans (hb1.mono b0.size)
        exact ⟨none, 0, rfl, IntsIn.empty _ _ _, hB1.trans (hb2.mono hB1.size)⟩
      · obtain ⟨rfl, rfl⟩ := HOK.out hm hal
        rw [hal] at HAL
        clear hm HM HWD HOK
        go_enter Try.func63, Try.ntmps63
        repeat (first | (refine wpList_load_mid rfl 40 (.tmp 4) rfl _ 0 rfl fcs _ r0 Try.underlying40 rfl HI29.out ?_) | (refine wpList_load_mid rfl 27 (.tmp 5) rfl _ 0 rfl [.int .i16 wd, .int .i8 ov] _ r1 Try.underlying27 rfl HI2.out ?_) | go_step)
        refine (HPF.out _ HG.out HA.out).mono ?_
        rintro e w1 ⟨A1, c1, rfl, hI1, hb1⟩
        go_wp2_with (go_at_call 93; refine (HAL.out _ _ _ w1 hb1 hI1.at_).mono ?_; rintro e w2 ⟨rfl, hb2⟩)
        go_ret2
        have hB1 := b0.trans (hb1.mono b0.size)
        exact ⟨A1, c1, rfl, (hI1.go hb2).wider b0.size, hB1.trans (hb2.mono hB1.size)⟩
end Go.Proofs.Ytjgcadohjccfaaa

namespace Go.Proofs.Ytjgcadohjccfaaa
open Go Go.RowKit

set_option maxRecDepth 100000 in
set_option maxHeartbeats 8000000 in
theorem l06Cut_any (F : Fc) (hF : F.ok) (b : Nat) (A : Option Addr) (c : Nat) (b2 : Nat) (wd ov : Int) (hw : i16ok wd) (ho : i8ok ov) (s : ByteArray) (hs : s.size ≤ maxLen) (most : Int) (w : World)
    (hr : w.rangeAt b 0 (fc F (.slice A F.ps.length c))) (hb : b < w.heap.size) (hr2 : w.rangeAt b2 0 [.int .i16 wd, .int .i8 ov]) (hb2 : b2 < w.heap.size) (hA : PairsAt w w.heap.size A F.ps) :
    Calls Try.prog 62 #[.pointer (some ⟨b, 0, none⟩), .pointer (some ⟨b2, 0, none⟩), .string s, .int .i64 most] w (IntsBack (ctR F s.data.toList wd ov most) (ctC F s.data.toList wd ov most) w) := by
  have HAS := hide (l06Asked_any F hF b A c b2 wd ov hw ho s hs w hr hr2 hb2 hA)
  unfold maxLen at hs
  cases hg : gpB F s.data.toList wd ov
  · obtain ⟨e1, _⟩ := gp_no hg
    obtain ⟨d1, d2⟩ := ct_no (most := most) hg
    rw [d1, d2]
    rw [e1] at HAS
    clear e1 hg d1 d2 hA hr hr2 ho hw
    go_enter Try.func62, Try.ntmps62
    go_wp2_with (go_at_call 52; refine HAS.out.mono ?_; rintro e w1 ⟨rfl, hb1⟩)
    go_ret2
    exact ⟨_, 0, rfl, IntsIn.empty _ _ _, hb1.alloc hb1.size _⟩
  · obtain ⟨e1, _⟩ := gp_ok hg
    obtain ⟨hv, ht, _, ho'⟩ := gp_parts hg
    rw [e1] at HAS
    have HPI := hide (fun W (hW : Below w.heap.size w W) => l06Pieces_any F hF b A c b2 wd ov s W hv ht ho' (rangeAt_below hr hW hb) (Nat.lt_of_lt_of_le hb hW.size) (rangeAt_below hr2 hW hb2) (Nat.lt_of_lt_of_le hb2 hW.size) ((hA.below hW).mono hW.size))
    have hn60 := pieL_n (F := F) (ov := ov) ht
    have HBD := hide (pieL_bd hF hv ht ho')
    have HM := hide (fun h => ct_many (F := F) (L := s.data.toList) (wd := wd) (ov := ov) (most := most) hg h)
    have HWD := hide (fun h h' => ct_wide (F := F) (L := s.data.toList) (wd := wd) (ov := ov) (most := most) hg h h')
    have HOK := hide (fun h h' => ct_ok (F := F) (L := s.data.toList) (wd := wd) (ov := ov) (most := most) hg h h')
    have c0 := rangeAt_cell (k := 0) hr2 rfl
    obtain ⟨hw1, hw2⟩ := hw
    have hww := IntWalk.i64_in wd ⟨by omega, by omega⟩
    generalize pieL F s.data.toList ov = P at *
    generalize ctC F s.data.toList wd ov most = C at *
    generalize ctR F s.data.toList wd ov most = R at *
    obtain ⟨n, hN⟩ : ∃ n, P.length = n := ⟨_, rfl⟩
    have HN := hide hN
    unfold IntsB at HPI
    rw [hN] at hn60 HM HWD HOK HPI
    clear e1 hg hA hr hr2 ho hv ht hN
    by_cases hm : most < (n : Int)
    · obtain ⟨rfl, rfl⟩ := HM.out hm
      have hd : decide (most < (n : Int)) = true := by simpa using hm
      clear hm HM HWD HOK
      go_enter Try.func62, Try.ntmps62
      go_wp2_with (first | (go_at_call 52; refine HAS.out.mono ?_; rintro e w1 ⟨rfl, hb1⟩) | (go_at_call 53; refine (HPI.out _ hb1).mono ?_; rintro e w2 ⟨A2, c2, rfl, hc2, hI2, hb2'⟩))
      go_ret2
      exact ⟨_, 0, rfl, IntsIn.empty _ _ _, (hb1.trans (hb2'.mono hb1.size)).alloc (Nat.le_trans hb1.size hb2'.size) _⟩
    · have hd : decide (most < (n : Int)) = false := by simpa using hm
      have HHM := hide hm
      clear HM hm
      go_enter Try.func62, Try.ntmps62
      go_wp2_with (first | (go_at_call 52; refine HAS.out.mono ?_; rintro e w1 ⟨rfl, hb1⟩) | (go_at_call 53; refine (HPI.out _ hb1).mono ?_; rintro e w2 ⟨A2, c2, rfl, hc2, hI2, hb2'⟩))
      have hB2 := hb1.trans (hb2'.mono hb1.size)
      have HX := hide hI2.at_
      have c0' := (hB2.cell (p := ⟨b2, 0, none⟩) hb2).trans c0
      have hz2 := hB2.size
      clear c0
      go_loopw [12] (fun i wr => ∃ k : Nat, k ≤ n ∧ i = .int .i64 k ∧ Hid (∀ j x, j < k → P[j]? = some x → leB wd x = true) ∧ Below w2.heap.size w2 wr) (fun i _ => n - (intOf i).toNat)
      case atStart => exact ⟨0, Nat.zero_le _, rfl, hide (fun j x hj => by omega), Below.refl _ _⟩
      case round =>
        obtain ⟨k, hk, rfl, hall, hB⟩ := hrel
        have c0 := (hB.cell (p := ⟨b2, 0, none⟩) (by show b2 < w2.heap.size; omega)).trans c0'
        clear c0'
        by_cases hlt : k < n
        · obtain ⟨b4, o4, rfl, hb4, hxs⟩ := HX.out (by intro e; rw [e] at HN; have := HN.out; simp at this; omega)
          obtain ⟨x, hx⟩ : ∃ x, P[k]? = some x := ⟨P[k]'(by rw [HN.out]; exact hlt), List.getElem?_eq_getElem _⟩
          have cx : wr.cell? ⟨b4, o4 + k, none⟩ = some (.int .i64 x) := (hB.cell (p := ⟨b4, o4 + k, none⟩) hb4).trans (hxs k x hx)
          have hi : (k : Int) < n := by omega
          have hk0 : (0 : Int) ≤ k := by omega
          have HX2 := hide hx
          clear hxs hx
          cases hgt : decide (wd < x)
          · have HH : Hid (leB wd x = true) := hide (by unfold leB; simp at hgt ⊢; exact hgt)
            go_wp2
            go_quiet (fail)
            go_wp2
            exact ⟨⟨k + 1, by omega, by go_num, hide (fun j y hj hy => by
              by_cases e : j = k
              · subst e; rw [HX2.out] at hy; injection hy with hy; subst hy; exact HH.out
              · exact hall.out j y (by omega) hy), below_drewN hB _⟩, by simp [intOf]; omega⟩
          · have HH : Hid (leB wd x = false) := hide (by unfold leB; simp at hgt ⊢; exact hgt)
            have HFA := hide (HWD.out HHM.out (all_false_of HX2.out HH.out))
            go_wp2
            go_quiet (fail)
            go_wp2
            go_ret2
            rw [HFA.out.1, HFA.out.2]
            exact ⟨_, 0, rfl, IntsIn.empty _ _ _, (below_drewN (hB2.trans (hB.mono hz2)) _).alloc (below_drewN (hB2.trans (hB.mono hz2)) _).size _⟩
        · obtain rfl : k = n := by omega
          have HAT := hide (HOK.out HHM.out (all_true_of (p := leB wd) (xs := P) (fun j x hj => hall.out j x (by rw [HN.out] at hj; exact hj))))
          clear hall
          go_wp2
          go_ret2
          rw [HAT.out.1, HAT.out.2]
          exact ⟨A2, c2, by rw [HN.out]; rfl, (hI2.go hB).wider hb1.size, hB2.trans (hB.mono hz2)⟩
end Go.Proofs.Ytjgcadohjccfaaa

namespace Go.Proofs.Ytjgcadohjccfaaa
open Go Go.RowKit Go.Maps

/-- A list of one's own lies apart from another one. -/
def distI (A : Option Addr) (P : List Int) (v : Value) : Prop := ∀ b, blkI A P = some b → v.ownBlock ≠ some b
theorem distI_new {w : World} {L N : Nat} {A : Option Addr} {P : List Int} {v v' : Value} (h : distI A P v) (hI : IntsIn w L A P) (hb : v'.ownBlock = v.ownBlock ∨ v'.ownBlock = some N) (hN : w.heap.size ≤ N) : distI A P v' := fun b hA e => by
  rcases hb with hb | hb
  · exact h b hA (hb.symm.trans e)
  · rw [hb] at e; injection e with e; subst e
    have := (blkI_bd hI _ hA).2; omega
theorem distI_low {w : World} {L : Nat} {A : Option Addr} {P : List Int} {v : Value} (hI : IntsIn w L A P) (hv : ∀ k, v.ownBlock = some k → k < L) : distI A P v := fun b hA e => by
  have h1 := (blkI_bd hI _ hA).1
  have h2 := hv b e
  omega

/-! The data -/
noncomputable def nsR (F : Fc) (L : List UInt8) (wd ov : Int) : List Int := if ctC F L wd ov 60 = 0 then stnL wd (pieL F L ov) else []
noncomputable def nsV (F : Fc) (L : List UInt8) (wd ov : Int) : Int := if ctC F L wd ov 60 = 0 ∧ pieL F L ov ≠ [] then (stS wd (pieL F L ov) (pieL F L ov).length).1 + 1 else 0
theorem ns_bad {F : Fc} {L : List UInt8} {wd ov : Int} (h : ctC F L wd ov 60 ≠ 0) : nsR F L wd ov = [] ∧ nsV F L wd ov = 0 := ⟨if_neg h, if_neg (fun h' => h h'.1)⟩
theorem ns_ok {F : Fc} {L : List UInt8} {wd ov : Int} (h : ctC F L wd ov 60 = 0) : nsR F L wd ov = stnL wd (pieL F L ov) ∧ nsV F L wd ov = (dfP (pieL F L ov) wd (pieL F L ov).length).1 + 1 := by
  refine ⟨if_pos h, ?_⟩
  unfold nsV
  by_cases e : pieL F L ov = []
  · rw [e, if_neg (fun h' => h'.2 rfl)]; rfl
  · rw [if_pos ⟨h, e⟩, dfP_pos (by intro h0; exact e (List.length_eq_zero_iff.1 h0))]
theorem nsR_len {F : Fc} (hF : F.ok) (L : List UInt8) (wd ov : Int) : (nsR F L wd ov).length ≤ 1048577 := by
  by_cases h : ctC F L wd ov 60 = 0
  · rw [(ns_ok h).1, stnL_len]; have := (ct_zero hF h).2.2.1; omega
  · rw [(ns_bad h).1]; simp

set_option maxRecDepth 100000 in
set_option maxHeartbeats 8000000 in
theorem specNextSheets_any (F : Fc) (hF : F.ok) (A : Option Addr) (c : Nat) (wd : Int) (hw : -32768 ≤ wd ∧ wd ≤ 32767) (ov : Int) (ho : i8ok ov) (s : ByteArray) (hs : s.size ≤ maxLen) (w : World) (hA : PairsAt w w.heap.size A F.ps) :
    Calls Try.prog 29 #[.agg (fc F (.slice A F.ps.length c)).toArray, .agg #[.int .i16 wd, .int .i8 ov], .string s] w (IntsBk3 (nsR F s.data.toList wd ov) (nsV F s.data.toList wd ov) (ctC F s.data.toList wd ov 60) w) := by
  obtain ⟨i0, hi0, hz0, hz1, hz2⟩ := info_parts Try.infoI64
  obtain ⟨W2, hW2⟩ : ∃ W2, W2 = ((w.alloc (.cells (fc F (.slice A F.ps.length c)).toArray 40)).alloc (.cells #[.int .i16 wd, .int .i8 ov] 27)) := ⟨_, rfl⟩
  have b0 : Below w.heap.size w W2 := by rw [hW2]; exact ((Below.refl _ _).alloc (Nat.le_refl _) _).alloc (by simp) _
  have r0 : W2.rangeAt w.heap.size 0 (fc F (.slice A F.ps.length c)) := by rw [hW2]; exact World.rangeAt_alloc (rangeAt_new w (fc F (.slice A F.ps.length c)) 40) (.cells #[.int .i16 wd, .int .i8 ov] 27)
  have r1 : W2.rangeAt (w.heap.size + 1) 0 [.int .i16 wd, .int .i8 ov] := by rw [hW2]; exact rangeAt_newg (w := w.alloc (.cells (fc F (.slice A F.ps.length c)).toArray 40)) (cs := #[.int .i16 wd, .int .i8 ov]) (t := 27) (g := w.heap.size + 1) (by simp) rfl
  have s0 : w.heap.size + 2 = W2.heap.size := by rw [hW2]; simp
  obtain ⟨W3, hW3⟩ : ∃ W3, W3 = W2.alloc (.cells #[] 2) := ⟨_, rfl⟩
  have b3 : Below W2.heap.size W2 W3 := by rw [hW3]; exact (Below.refl _ _).alloc (Nat.le_refl _) _
  have s3 : W3.heap.size = W2.heap.size + 1 := by rw [hW3]; simp
  have o3 : W3.ownsRow W2.heap.size 2 1 (.slice (some ⟨W2.heap.size, 0, none⟩) 0 0) 0 [] := by rw [hW3]; exact World.ownsRow_made W2 _ 0 (Nat.le_refl _) (by unfold maxLen; omega) rfl
  have HCU := hide (l06Cut_any F hF w.heap.size A c (w.heap.size + 1) wd ov hw ho s hs 60 W3 (rangeAt_below r0 b3 (by omega)) (by omega) (rangeAt_below r1 b3 (by omega)) (by omega) (((hA.below b0).mono b0.size).below b3 |>.mono b3.size))
  have c30 := rangeAt_cell (k := 0) r1 rfl
  have HW2 := hide hW2
  have HW3 := hide hW3
  unfold maxLen at hs
  have HO3 := hide o3
  clear hA ho r0 r1 hW2 hW3 o3
  by_cases h : ctC F s.data.toList wd ov 60 = 0
  · obtain ⟨n1, n2⟩ := ns_ok h
    obtain ⟨e1, hg, h60, hxd⟩ := ct_zero hF h
    obtain ⟨_, _, ⟨hw1, hw2⟩, _⟩ := gp_parts hg
    rw [n1, n2, h]
    rw [h, e1] at HCU
    clear n1 n2 h e1 hg hF hw
    generalize pieL F s.data.toList ov = P at *
    have HDD := hide (stS_bd (room := wd) (M := wd) (xs := P) (fun x hx => ⟨by have := (hxd x hx).1; omega, (hxd x hx).2⟩) (Int.le_refl _) (by omega))
    have HXD := hide hxd
    have HPP := hide (fun k (hk : k ≠ 0) => dfP_pos (xs := P) (d := wd) hk)
    have hww := IntWalk.i64_in wd ⟨by omega, by omega⟩
    obtain ⟨n, hL⟩ : ∃ n, P.length = n := ⟨_, rfl⟩
    have HL := hide hL
    rw [hL] at h60 ⊢
    clear hL hxd
    generalize fc F (.slice A F.ps.length c) = fcs at *
    go_enter Try.func29, Try.ntmps29
    repeat (first | (rw [← HW2.out]) | (rw [← HW3.out]) | go_step)
    refine HCU.out.mono ?_
    rintro e w1 ⟨A2, c2, rfl, hI2, hb1⟩
    rw [HL.out]
    have hO1 := own_go HO3.out hb1
    have hB1 := b3.trans (hb1.mono (by omega))
    have hD1 := distI_low (v := .slice (some ⟨W2.heap.size, 0, none⟩) 0 0) hI2 (fun k hk => by injection hk with hk; show k < W3.heap.size; rw [s3]; show k < W2.heap.size + 1; have : W2.heap.size = k := hk; omega)
    have HI1 := hide hI2
    have HD1 := hide hD1
    clear hI2 hD1 hb1 HO3 HCU
    go_wp2
    go_loopw [9, 12, 13, 14] (fun br nw le i wr => ∃ k : Nat, k ≤ n ∧ i = .int .i64 k ∧ nw = .int .i64 (dfP P wd k).1 ∧ le = .int .i64 (dfP P wd k).2 ∧ wr.ownsRow W2.heap.size 2 1 br k ((stnT wd P k).map (.int .i64)) ∧ Below W2.heap.size W2 wr ∧ IntsIn wr W3.heap.size A2 P ∧ distI A2 P br)
      (fun _ _ _ i _ => n - (intOf i).toNat)
    case atStart => exact ⟨0, Nat.zero_le _, rfl, rfl, rfl, hO1, hB1, HI1.out, HD1.out⟩
    case round =>
      clear hO1 hB1 HI1 HD1
      obtain ⟨k, hk, rfl, rfl, rfl, hown, hB, hIN, hD⟩ := hrel
      obtain ⟨Ab, cbb, rfl, hcap, _⟩ := cellsIn_of_own hown (by omega)
      have hbs := hB.size
      have HOWN := hide hown
      have HIN := hide hIN
      have HD := hide hD
      have c1 := (hB.cell (p := ⟨w.heap.size + 1, 0, none⟩) (by show w.heap.size + 1 < W2.heap.size; omega)).trans c30
      clear hown hD hIN
      by_cases hlt : k < n
      · obtain ⟨b, o, rfl, hb, hb', hxs, _⟩ := HIN.out (by intro e; rw [e] at HL; have := HL.out; simp at this; omega)
        obtain ⟨x, hx⟩ : ∃ x, P[k]? = some x := ⟨P[k]'(by rw [HL.out]; exact hlt), List.getElem?_eq_getElem _⟩
        have c0 : wr.cell? ⟨b, o + k, none⟩ = some (.int .i64 x) := hxs k x hx
        obtain ⟨hx1, hx2⟩ := HXD.out x (List.mem_of_getElem? hx)
        have hi : (k : Int) < n := by omega
        have hk0 : (0 : Int) ≤ k := by omega
        have HSU := hide (stS_succ (room := wd) hx)
        have HTU := hide (stnT_succ wd P k)
        have HP1 := hide (HPP.out (k + 1) (by omega))
        obtain ⟨hs1, hs2⟩ := HDD.out k (by rw [HL.out]; omega)
        clear hxs hx
        by_cases hkz : k = 0
        · have HK := hide hkz
          have HSN : Hid ((stS wd P (k + 1)).1 = 0) := hide (by rw [HSU.out, HK.out]; exact congrArg Prod.fst (stN_old (p := (0, wd)) (by show ¬ wd < x; omega)))
          have HN : Hid (dfP P wd (k + 1) = (0, wd - x)) := hide (by rw [HP1.out, HSU.out, HK.out]; exact stN_old (p := (0, wd)) (by show ¬ wd < x; omega))
          have hp : dfP P wd k = (-1, 0) := by rw [hkz]; rfl
          clear hkz hs1 hs2
          rw [hp]
          clear hp
          dsimp only
          go_wp2_with (at_builtin; refine wpList_append_own_at _ rfl (.tmp 48) (.tmp 50) 35 rfl W2.heap.size 2 i0 (.int .i64 0) 1 8 Try.underlying35 hi0 hz0 hz1 hz2 rfl (by decide) _ k _ rfl (HOWN.out.alloc _) ⟨wr.heap.size, 0, none⟩ 1 1 [.int .i64 (0)] rfl rfl (one_cell _) (one_one rfl) ?h1 ?h2 ?h3 ?_)
          case h1 => unfold maxLen; omega
          case h2 => omega
          case h3 => first | omega | (simp; omega) | simp
          intro v' w4 hown4 hg4 _ hblk4
          obtain ⟨A4, c4, rfl, _, _⟩ := cellsIn_of_own hown4 (by omega)
          have H4 := hide hown4
          have hg34 : wr.grownBy w4 _ := grown_trans (World.grownBy_alloc wr _ _) hg4
          have hB4 := hB.trans (grown_toBelow hg34 (by omega) (fun k hk => (HOWN.out.lt k hk).1))
          have hI4 := grown_intsIn hg34 HIN.out (fun b hb e => HD.out b hb e.symm)
          have hD4 := distI_new (N := wr.heap.size + 1) HD.out HIN.out hblk4 (by omega)
          have HI4 := hide hI4
          have HD4 := hide hD4
          clear hown4 hg4 hg34 hI4 hD4 hblk4
          go_wp2
          refine ⟨⟨k + 1, by omega, by go_num, by rw [HN.out], by rw [HN.out], ?_, hB4, HI4.out, HD4.out⟩, by simp [intOf]; omega⟩
          rw [HTU.out, HSN.out, List.map_append]
          exact H4.out
        · have hp := HPP.out k hkz
          rw [hp]
          clear hp hkz
          generalize hst : stS wd P k = p at hs1 hs2 HSU ⊢
          clear hst
          obtain ⟨st, le⟩ := p
          cases hgt : decide (le < x)
          · have HN2 := hide (stN_old (room := wd) (p := (st, le)) (x := x) (by simpa using hgt))
            have HSN : Hid ((stS wd P (k + 1)).1 = st) := hide (by rw [HSU.out, HN2.out])
            have HN : Hid (dfP P wd (k + 1) = (st, le - x)) := hide (by rw [HP1.out, HSU.out, HN2.out])
            go_wp2_with (at_builtin; refine wpList_append_own_at _ rfl (.tmp 48) (.tmp 50) 35 rfl W2.heap.size 2 i0 (.int .i64 0) 1 8 Try.underlying35 hi0 hz0 hz1 hz2 rfl (by decide) _ k _ rfl (HOWN.out.alloc _) ⟨wr.heap.size, 0, none⟩ 1 1 [.int .i64 (st)] rfl rfl (one_cell _) (one_one rfl) ?h1 ?h2 ?h3 ?_)
            case h1 => unfold maxLen; omega
            case h2 => omega
            case h3 => first | omega | (simp; omega) | simp
            intro v' w4 hown4 hg4 _ hblk4
            obtain ⟨A4, c4, rfl, _, _⟩ := cellsIn_of_own hown4 (by omega)
            have H4 := hide hown4
            have hg34 : wr.grownBy w4 _ := grown_trans (World.grownBy_alloc wr _ _) hg4
            have hB4 := hB.trans (grown_toBelow hg34 (by omega) (fun k hk => (HOWN.out.lt k hk).1))
            have hI4 := grown_intsIn hg34 HIN.out (fun b hb e => HD.out b hb e.symm)
            have hD4 := distI_new (N := wr.heap.size + 1) HD.out HIN.out hblk4 (by omega)
            have HI4 := hide hI4
            have HD4 := hide hD4
            clear hown4 hg4 hg34 hI4 hD4 hblk4
            go_wp2
            refine ⟨⟨k + 1, by omega, by go_num, by rw [HN.out], by rw [HN.out], ?_, hB4, HI4.out, HD4.out⟩, by simp [intOf]; omega⟩
            rw [HTU.out, HSN.out, List.map_append]
            exact H4.out
          · have HN2 := hide (stN_new (room := wd) (p := (st, le)) (x := x) (by simpa using hgt))
            have HSN : Hid ((stS wd P (k + 1)).1 = st + 1) := hide (by rw [HSU.out, HN2.out])
            have HN : Hid (dfP P wd (k + 1) = (st + 1, wd - x)) := hide (by rw [HP1.out, HSU.out, HN2.out])
            go_wp2_with (at_builtin; refine wpList_append_own_at _ rfl (.tmp 48) (.tmp 50) 35 rfl W2.heap.size 2 i0 (.int .i64 0) 1 8 Try.underlying35 hi0 hz0 hz1 hz2 rfl (by decide) _ k _ rfl (HOWN.out.alloc _) ⟨wr.heap.size, 0, none⟩ 1 1 [.int .i64 (st + 1)] rfl rfl (one_cell _) (one_one rfl) ?h1 ?h2 ?h3 ?_)
            case h1 => unfold maxLen; omega
            case h2 => omega
            case h3 => first | omega | (simp; omega) | simp
            intro v' w4 hown4 hg4 _ hblk4
            obtain ⟨A4, c4, rfl, _, _⟩ := cellsIn_of_own hown4 (by omega)
            have H4 := hide hown4
            have hg34 : wr.grownBy w4 _ := grown_trans (World.grownBy_alloc wr _ _) hg4
            have hB4 := hB.trans (grown_toBelow hg34 (by omega) (fun k hk => (HOWN.out.lt k hk).1))
            have hI4 := grown_intsIn hg34 HIN.out (fun b hb e => HD.out b hb e.symm)
            have hD4 := distI_new (N := wr.heap.size + 1) HD.out HIN.out hblk4 (by omega)
            have HI4 := hide hI4
            have HD4 := hide hD4
            clear hown4 hg4 hg34 hI4 hD4 hblk4
            go_wp2
            refine ⟨⟨k + 1, by omega, by go_num, by rw [HN.out], by rw [HN.out], ?_, hB4, HI4.out, HD4.out⟩, by simp [intOf]; omega⟩
            rw [HTU.out, HSN.out, List.map_append]
            exact H4.out
      · obtain rfl : k = n := by omega
        obtain ⟨Ag, cg, e, _, hI⟩ := intsIn_of_own HOWN.out
        injection e with e1 e2 e3
        subst e1 e3
        have HI := hide hI
        have HTA : Hid (stnT wd P k = stnL wd P) := hide (by rw [← HL.out]; rfl)
        have HTL : Hid ((stnL wd P).length = k) := hide (by rw [stnL_len]; exact HL.out)
        have hb : -1 ≤ (dfP P wd k).1 ∧ (dfP P wd k).1 ≤ 60 := by
          by_cases hkz : k = 0
          · rw [hkz]; simp [dfP]
          · rw [HPP.out k hkz]; have := (HDD.out k (by rw [HL.out]; omega)).1; omega
        obtain ⟨hb1, hb2⟩ := hb
        clear hI
        rw [HTA.out] at HI
        generalize (dfP P wd k).1 = q at *
        go_wp2
        go_ret3
        exact ⟨Ab, cbb, by rw [HTL.out]; rfl, HI.out.wider (by omega), b0.trans (hB.mono (by omega))⟩
  · obtain ⟨n1, n2⟩ := ns_bad h
    rw [n1, n2]
    rw [ct_bad h] at HCU
    have hC : (ctC F s.data.toList wd ov 60 != 0) = true := by simpa using h
    generalize ctC F s.data.toList wd ov 60 = C at *
    clear h n1 n2 HO3 hF hw
    generalize fc F (.slice A F.ps.length c) = fcs at *
    go_enter Try.func29, Try.ntmps29
    repeat (first | (rw [← HW2.out]) | (rw [← HW3.out]) | go_step)
    refine HCU.out.mono ?_
    rintro e w1 ⟨A2, c2, rfl, hI2, hb1⟩
    go_wp2
    go_ret3
    exact ⟨_, 0, rfl, IntsIn.empty _ _ _, b0.trans ((b3.trans (hb1.mono (by omega))).mono (by omega))⟩

set_option maxRecDepth 100000 in
set_option maxHeartbeats 8000000 in
theorem implNextSheets_any (F : Fc) (hF : F.ok) (A : Option Addr) (c : Nat) (wd : Int) (hw : -32768 ≤ wd ∧ wd ≤ 32767) (ov : Int) (ho : i8ok ov) (s : ByteArray) (hs : s.size ≤ maxLen) (w : World) (hG : Glob w) (hA : PairsAt w w.heap.size A F.ps) :
    Calls Try.prog 30 #[.agg (fc F (.slice A F.ps.length c)).toArray, .agg #[.int .i16 wd, .int .i8 ov], .string s] w (IntsBk3 (nsR F s.data.toList wd ov) (nsV F s.data.toList wd ov) (ctC F s.data.toList wd ov 60) w) := by
  have b0 : Below w.heap.size w ((w.alloc (.cells (fc F (.slice A F.ps.length c)).toArray 40)).alloc (.cells #[.int .i16 wd, .int .i8 ov] 27)) := ((Below.refl _ _).alloc (Nat.le_refl _) _).alloc (by simp) _
  have r0 := World.rangeAt_alloc (rangeAt_new w (fc F (.slice A F.ps.length c)) 40) (.cells #[.int .i16 wd, .int .i8 ov] 27)
  have r1 := rangeAt_newg (w := w.alloc (.cells (fc F (.slice A F.ps.length c)).toArray 40)) (cs := #[.int .i16 wd, .int .i8 ov]) (t := 27) (g := w.heap.size + 1) (by simp) rfl
  have s0 : w.heap.size + 1 < ((w.alloc (.cells (fc F (.slice A F.ps.length c)).toArray 40)).alloc (.cells #[.int .i16 wd, .int .i8 ov] 27)).heap.size := by simp
  have HI29 := hide (show (Try.prog.info? 40).map (·.size) = some (fc F (.slice A F.ps.length c)).length from by rw [fc_length hF.len]; kernel_rfl)
  have HI2 := hide (show (Try.prog.info? 27).map (·.size) = some ([.int .i16 wd, .int .i8 ov] : List Value).length from by kernel_rfl)
  have HPF := hide (fun W h1 h2 => piecesThatFit_any F hF A c wd hw ov ho s hs 60 W h1 h2)
  have HWI := hide (fun W => sheetWide_any wd ov hw W)
  have HA := hide ((hA.below b0).mono b0.size)
  have HG := hide (hG.below b0)
  unfold maxLen at hs
  clear hA hG ho
  by_cases h : ctC F s.data.toList wd ov 60 = 0
  · obtain ⟨n1, n2⟩ := ns_ok h
    obtain ⟨e1, hg, h60, hxd⟩ := ct_zero hF h
    obtain ⟨_, _, ⟨hw1, hw2⟩, _⟩ := gp_parts hg
    rw [n1, n2, h]
    rw [h, e1] at HPF
    clear n1 n2 h e1 hg hF hw
    generalize pieL F s.data.toList ov = P at *
    generalize fc F (.slice A F.ps.length c) = fcs at *
    have HST := hide (fun A' c' W hI => stintsOf_any A' P c' wd W (by omega) (fun x hx => ⟨by have := (hxd x hx).1; omega, (hxd x hx).2⟩) (by omega) (by omega) hI)
    have HTL := hide (stnL_len wd P)
    by_cases hz : P = []
    · subst hz
      clear hxd HST HTL h60
      dsimp only [List.length_nil, dfP_zero, stnL, List.range_zero, List.map_nil]
      go_enter Try.func30, Try.ntmps30
      repeat (first | (refine wpList_load_mid rfl 40 (.tmp 3) rfl _ 0 rfl fcs _ r0 Try.underlying40 rfl HI29.out ?_) | (refine wpList_load_mid rfl 27 (.tmp 4) rfl _ 0 rfl [.int .i16 wd, .int .i8 ov] _ r1 Try.underlying27 rfl HI2.out ?_) | go_step)
      refine (HPF.out _ HG.out HA.out).mono ?_
      rintro e w1 ⟨A1, c1, rfl, hI1, hb1⟩
      dsimp only [List.length_nil]
      go_wp2
      go_ret3
      exact ⟨none, 0, rfl, IntsIn.empty _ _ _, b0.trans (hb1.mono b0.size)⟩
    · have hpos : 0 < P.length := by
        rcases Nat.eq_zero_or_pos P.length with e | e
        · exact absurd (List.length_eq_zero_iff.1 e) hz
        · exact e
      have hlast : (stnL wd P)[P.length - 1]? = some (stS wd P P.length).1 := by
        have := stnL_get (room := wd) (xs := P) (k := P.length - 1) (by omega)
        rwa [Nat.sub_add_cancel hpos] at this
      have hbd := (stS_bd (room := wd) (M := wd) (fun x hx => ⟨by have := (hxd x hx).1; omega, (hxd x hx).2⟩) (Int.le_refl _) (by omega) P.length (Nat.le_refl _)).1
      have HDP := hide (dfP_pos (xs := P) (d := wd) (k := P.length) (by omega))
      rw [HDP.out]
      have HLA := hide hlast
      obtain ⟨hbd1, hbd2⟩ := hbd
      generalize (stS wd P P.length).1 = q at *
      obtain ⟨n, hL⟩ : ∃ n, P.length = n := ⟨_, rfl⟩
      unfold IntsB at HST
      unfold IntsBack at HPF
      rw [hL] at HST HTL HLA HPF hbd2 hpos h60
      have hnz : ((n : Int) == 0) = false := by simp; omega
      obtain ⟨m, rfl⟩ : ∃ m, n = m + 1 := ⟨n - 1, by omega⟩
      rw [Nat.add_sub_cancel] at HLA
      clear hlast hxd hL hpos hz HDP
      go_enter Try.func30, Try.ntmps30
      repeat (first | (refine wpList_load_mid rfl 40 (.tmp 3) rfl _ 0 rfl fcs _ r0 Try.underlying40 rfl HI29.out ?_) | (refine wpList_load_mid rfl 27 (.tmp 4) rfl _ 0 rfl [.int .i16 wd, .int .i8 ov] _ r1 Try.underlying27 rfl HI2.out ?_) | go_step)
      refine (HPF.out _ HG.out HA.out).mono ?_
      rintro e w1 ⟨A1, c1, rfl, hI1, hb1⟩
      have r1' := rangeAt_below r1 hb1 s0
      have hB1 := b0.trans (hb1.mono b0.size)
      go_wp2_with (first | (refine wpList_load_mid rfl 27 (.tmp 4) rfl _ 0 rfl [.int .i16 wd, .int .i8 ov] _ r1' Try.underlying27 rfl HI2.out ?_) | (go_at_call 65; refine (HWI.out _).mono ?_; rintro e w2 ⟨rfl, hb2⟩))
      have hB2 := hB1.trans (hb2.mono hB1.size)
      refine (HST.out _ _ _ (hI1.at_.go hb2)).mono ?_
      rintro e w3 ⟨As, cs, rfl, hcap, hI, hb3⟩
      obtain ⟨b, o, rfl, hbl, hbl2, hcell, hth⟩ := hI (by intro e; rw [e] at HLA; have := HLA.out; simp at this)
      have c1 := hcell _ _ HLA.out
      rw [HTL.out]
      have hB3 := hB2.trans (hb3.mono hB2.size)
      have HI := hide hI
      clear hI hcell hth hb3
      have hmi : (m : Int) < (m : Int) + 1 := by omega
      have hm0 : (0 : Int) ≤ m := by omega
      have hmi2 : (m : Int) < ((m + 1 : Nat) : Int) := by omega
      go_wp2
      go_quiet (fail)
      go_wp2
      go_ret3
      exact ⟨some ⟨b, o, none⟩, cs, by rw [HTL.out]; rfl, (HI.out.wider hB2.size).go (below_drewN (Below.refl _ _) _), below_drewN hB3 _⟩
  · obtain ⟨n1, n2⟩ := ns_bad h
    rw [n1, n2]
    rw [ct_bad h] at HPF
    have hC : (ctC F s.data.toList wd ov 60 != 0) = true := by simpa using h
    generalize ctC F s.data.toList wd ov 60 = C at *
    clear h n1 n2 hF hw
    generalize fc F (.slice A F.ps.length c) = fcs at *
    go_enter Try.func30, Try.ntmps30
    repeat (first | (refine wpList_load_mid rfl 40 (.tmp 3) rfl _ 0 rfl fcs _ r0 Try.underlying40 rfl HI29.out ?_) | (refine wpList_load_mid rfl 27 (.tmp 4) rfl _ 0 rfl [.int .i16 wd, .int .i8 ov] _ r1 Try.underlying27 rfl HI2.out ?_) | go_step)
    refine (HPF.out _ HG.out HA.out).mono ?_
    rintro e w1 ⟨A1, c1, rfl, hI1, hb1⟩
    go_wp2
    go_ret3
    exact ⟨none, 0, rfl, IntsIn.empty _ _ _, b0.trans (hb1.mono b0.size)⟩
end Go.Proofs.Ytjgcadohjccfaaa
