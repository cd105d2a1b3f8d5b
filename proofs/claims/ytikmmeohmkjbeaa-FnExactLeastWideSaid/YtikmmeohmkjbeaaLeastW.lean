/- LeastWide: the program's. -/
import Derived.Test.YtikmmeohmkjbeaaLeastS
import Derived.Deep.RegionHeld3
namespace Go.Proofs.Ytikmmeohmkjbeaa
open Go Go.RowKit

noncomputable def goodBo (F : Fc) (ws : List (List UInt8)) (m : Int) (x : Nat) : Bool := @decide (goodW F ws m x) (Classical.propDecidable _)
theorem goodBo_true {F : Fc} {ws : List (List UInt8)} {m : Int} {x : Nat} : goodBo F ws m x = true ↔ goodW F ws m x := by simp [goodBo]
theorem goodBo_false {F : Fc} {ws : List (List UInt8)} {m : Int} {x : Nat} : goodBo F ws m x = false ↔ ¬ goodW F ws m x := by simp [goodBo]

set_option maxRecDepth 100000 in
set_option maxHeartbeats 4000000 in
theorem leastFn_any (F : Fc) (ws : List (List UInt8)) (hws : WsOk F ws) (A' : Option Addr) (c' : Nat) (m : Int) (x : Nat) (p q : Nat) (W : World) (x1 : x ≤ 4000) (hn : ws.length ≤ 61) (hc' : ws.length ≤ c')
    (hpb : ∀ k, k ≤ ws.length → 0 ≤ preL F ws k ∧ preL F ws k ≤ 3640 * (k : Int)) (hmem : ∀ k, k < ws.length → 0 ≤ wideL F (ws.getD k []) ∧ wideL F (ws.getD k []) ≤ 3600) (hS : CellsAt W W.heap.size A' (spanFrom F 0 ws))
    (hp : p < W.heap.size) (hq : q < W.heap.size) (cp : W.cell? ⟨p, 0, none⟩ = some (.slice A' ws.length c')) (cq : W.cell? ⟨q, 0, none⟩ = some (.int .i64 m)) :
    Calls Try.prog 100 #[.int .i64 x, .pointer (some ⟨p, 0, none⟩), .pointer (some ⟨q, 0, none⟩)] W fun e w' => e = .returned (.bool (goodBo F ws m x)) ∧ Below W.heap.size W w' := by
  have hgl := greedyL_len F ws x
  have hgt := greedy_told F ws x
  have hrl := roomsL_len F ws x (greedyL F ws x)
  have HR := hide (greedy_right hws (x := (x : Int)) (by omega))
  have HRX := hide (show (∀ i, i < (roomsL F ws x (greedyL F ws x)).length → 0 ≤ (roomsL F ws x (greedyL F ws x)).getD i 0) ↔ rightP F ws x (greedyL F ws x) from by
    constructor
    · intro h i hi
      have := h i (by rw [hrl]; omega)
      rwa [rooms_getD F ws x (greedyL F ws x) (by omega)] at this
    · intro h i hi
      rw [rooms_getD F ws x (greedyL F ws x) (by omega)]
      exact h i (by omega))
  have HG := hide (fun W2 (hW : Below W.heap.size W W2) => greedyBreaks_any F ws A' c' x W2 (by omega) (by omega) hn hc' hpb hmem (CellsAt.go hS hW))
  have HLI := hide (fun B cb W2 (hW : Below W.heap.size W W2) (hB : IntsAt W2 W2.heap.size B (greedyL F ws x)) => linesAt_any F ws A' c' x B (greedyL F ws x) cb W2 (by omega) (by omega) hn hc' hgt hpb hmem (CellsAt.go hS hW) hB)
  have HAR := hide (fun A c W2 (hA : IntsAt W2 W2.heap.size A (roomsL F ws x (greedyL F ws x))) => areRight_any A (roomsL F ws x (greedyL F ws x)) c W2 (by rw [hrl]; unfold maxLen; omega) (by rw [hrl]; omega) hA)
  have CP : ∀ w', Below W.heap.size W w' → w'.cell? ⟨p, 0, none⟩ = some (.slice A' ws.length c') := fun w' h => (h.cell (p := ⟨p, 0, none⟩) hp).trans cp
  have CQ := hide (fun w' (h : Below W.heap.size W w') => (h.cell (p := ⟨q, 0, none⟩) hq).trans cq)
  unfold IntsRet at HG
  unfold IntsRetC at HLI
  have HGD := hide (show goodW F ws m x ↔ fitP F ws x ∧ ((greedyL F ws x).length : Int) + 1 ≤ m from Iff.rfl)
  have HBT := hide (@goodBo_true F ws m x)
  have HBF := hide (@goodBo_false F ws m x)
  rw [hrl] at HAR HRX HLI
  clear hrl
  generalize goodBo F ws m x = R at *
  generalize roomsL F ws x (greedyL F ws x) = RS at *
  generalize greedyL F ws x = GL at *
  generalize ws.length = n at *
  clear cp cq hS hpb hmem hgt
  go_enter Try.func100, Try.ntmps100
  go_wp2
  go_region_held3 (fun w' => Below W.heap.size W w') (first | exact (Below.refl _ _).drew | (refine Below.trans (by assumption) (Below.mono (by assumption) ?_); exact Below.size (by assumption))) (first | (go_at_call 102; refine (HG.out _ (by assumption)).mono ?_; rintro e w1 ⟨Ag, cg, rfl, hI, hb1⟩; have hI1 := hide hI.at_; clear hI) | (go_at_call 101; refine (HLI.out _ _ _ (by assumption) (Hid.out (by assumption))).mono ?_; rintro e w2 ⟨Al, cl, rfl, hcl, hJ, hb2⟩))
  have hBw : Below W.heap.size W w2 := by assumption
  have cq2 := CQ.out w2 hBw
  have HAA := hide (HAR.out Al cl w2 hJ.at_)
  clear hJ hI1 hb1 hb2 CP
  by_cases hf : fitP F ws x
  · have ha : decide (∀ i, i < GL.length + 1 → 0 ≤ RS.getD i 0) = true := by simp only [decide_eq_true_eq]; exact HRX.out.2 (HR.out.2 hf)
    rw [ha] at HAA
    have HE : Hid (decide (((GL.length : Int)) + 1 ≤ m) = R) := hide (by
      by_cases hm : ((GL.length : Int)) + 1 ≤ m
      · rw [HBT.out.2 (HGD.out.2 ⟨hf, hm⟩)]; simpa using hm
      · rw [HBF.out.2 (fun h => hm (HGD.out.1 h).2)]; simpa using hm)
    clear ha hf
    go_wp2_with fail
    refine HAA.out.mono ?_
    rintro e w3 ⟨rfl, rfl⟩
    go_wp2
    go_ret
    exact ⟨ret_bool HE.out, hBw⟩
  · have ha : decide (∀ i, i < GL.length + 1 → 0 ≤ RS.getD i 0) = false := by simp only [decide_eq_false_iff_not]; exact fun h => hf (HR.out.1 (HRX.out.1 h))
    rw [ha] at HAA
    have HE := hide (HBF.out.2 (fun h => hf (HGD.out.1 h).1))
    clear ha hf
    go_wp2_with fail
    refine HAA.out.mono ?_
    rintro e w3 ⟨rfl, rfl⟩
    go_wp2
    go_ret
    exact ⟨ret_bool HE.out.symm, hBw⟩

set_option maxRecDepth 100000 in
set_option maxHeartbeats 4000000 in
theorem searchLeast_any (F : Fc) (ws : List (List UInt8)) (hws : WsOk F ws) (A' : Option Addr) (c' : Nat) (m : Int) (p q : Nat) (W : World) (hn : ws.length ≤ 61) (hc' : ws.length ≤ c')
    (hpb : ∀ k, k ≤ ws.length → 0 ≤ preL F ws k ∧ preL F ws k ≤ 3640 * (k : Int)) (hmem : ∀ k, k < ws.length → 0 ≤ wideL F (ws.getD k []) ∧ wideL F (ws.getD k []) ≤ 3600) (hS : CellsAt W W.heap.size A' (spanFrom F 0 ws))
    (hp : p < W.heap.size) (hq : q < W.heap.size) (cp : W.cell? ⟨p, 0, none⟩ = some (.slice A' ws.length c')) (cq : W.cell? ⟨q, 0, none⟩ = some (.int .i64 m)) (htop : goodW F ws m 3600) :
    Calls Try.prog 99 #[.int .i64 4000, .func (.func 100) #[] #[.pointer (some ⟨p, 0, none⟩), .pointer (some ⟨q, 0, none⟩)]] W fun e w' => e = .returned (.int .i64 (lwN F ws m)) ∧ Below W.heap.size W w' := by
  have HF := hide (fun (x : Nat) W2 (hx : x ≤ 4000) (hW : Below W.heap.size W W2) => leastFn_any F ws hws A' c' m x p q W2 hx hn hc' hpb hmem (CellsAt.go hS hW) (Nat.lt_of_lt_of_le hp hW.size) (Nat.lt_of_lt_of_le hq hW.size) ((hW.cell (p := ⟨p, 0, none⟩) hp).trans cp) ((hW.cell (p := ⟨q, 0, none⟩) hq).trans cq))
  have HM := hide (fun x y => @good_mono F ws hws m x y)
  have HEQ := hide (fun r => @lwN_eq F ws m r)
  have HTOP := hide htop
  clear hS cp cq hpb hmem htop
  generalize lwN F ws m = R at *
  go_enter Try.func99, Try.ntmps99
  go_wp2
  go_loopw [5, 6] (fun i j wr => ∃ a b : Nat, a ≤ b ∧ b ≤ 4000 ∧ i = .int .i64 a ∧ j = .int .i64 b ∧ Hid (∀ k, k < a → ¬ goodW F ws m k) ∧ Hid (goodW F ws m b) ∧ Below W.heap.size W wr)
    (fun i j _ => (intOf j).toNat - (intOf i).toNat)
  case atStart => exact ⟨0, 4000, by omega, by omega, rfl, rfl, hide (fun k hk => absurd hk (by omega)), hide (HM.out 3600 4000 (by omega) HTOP.out), Below.refl _ _⟩
  case round =>
    obtain ⟨a, b, hab, hb, rfl, rfl, hlo, hhi, hB⟩ := hrel
    by_cases hlt : a < b
    · have hi : (a : Int) < b := by omega
      have HMID := hide (show ((a : Int) + b) / 2 = (((a + b) / 2 : Nat) : Int) by omega)
      have hm1 : a ≤ (a + b) / 2 := by omega
      have hm2 : (a + b) / 2 < b := by omega
      have hbs := hB.size
      go_wp2_with fail
      simp only [HMID.out]
      clear HMID
      generalize (a + b) / 2 = k at *
      by_cases hg : goodW F ws m k
      · have HC := hide (HF.out k wr (by omega) hB)
        rw [goodBo_true.2 hg] at HC
        have HG := hide hg
        clear hg
        refine HC.out.mono ?_
        rintro e w1 ⟨rfl, hb1⟩
        go_wp2
        exact ⟨⟨a, k, by omega, by omega, rfl, rfl, hlo, HG, hB.trans (hb1.mono hbs)⟩, by simp [intOf]; omega⟩
      · have HC := hide (HF.out k wr (by omega) hB)
        rw [goodBo_false.2 hg] at HC
        have HG : Hid (∀ j, j < k + 1 → ¬ goodW F ws m j) := hide (fun j hj hh => hg (HM.out j k (by omega) hh))
        clear hg
        refine HC.out.mono ?_
        rintro e w1 ⟨rfl, hb1⟩
        go_wp2
        exact ⟨⟨k + 1, b, by omega, by omega, by go_num, rfl, HG, hhi, hB.trans (hb1.mono hbs)⟩, by simp [intOf]; omega⟩
    · obtain rfl : a = b := by omega
      have HE := hide (HEQ.out a hhi.out hlo.out)
      go_wp2
      go_ret
      exact ⟨ret_int (congrArg Int.ofNat HE.out.symm), hB⟩

set_option maxRecDepth 100000 in
set_option maxHeartbeats 4000000 in
theorem implLeastWide_any (F : Fc) (hF : F.ok) (A : Option Addr) (c : Nat) (s : ByteArray) (hs : s.size ≤ maxLen) (x : Int) (hx : (Lit.int .i64 x).wf = true) (w : World) (hA : PairsAt w w.heap.size A F.ps) :
    Calls Try.prog 41 #[.agg (fc F (.slice A F.ps.length c)).toArray, .string s, .int .i64 x] w fun e w' => e = .returned (.tuple #[.int .i64 (lwV F s.data.toList x), .int .i64 (askC F s.data.toList (inB x 1 60))]) ∧ Below w.heap.size w w' := by
  have hW := hide hF.len
  have hr := World.rangeAt_alloc (rangeAt_new w (fc F (.slice A F.ps.length c)) 33) (.cells #[.int .i64 x] 2)
  have hq := rangeAt_new' (w.alloc (.cells (fc F (.slice A F.ps.length c)).toArray 33)) #[.int .i64 x] 2 0 _ rfl
  have hb : Below w.heap.size w ((w.alloc (.cells (fc F (.slice A F.ps.length c)).toArray 33)).alloc (.cells #[.int .i64 x] 2)) := ((Below.refl _ _).alloc (Nat.le_refl _) _).alloc (by simp) _
  have hz : (w.alloc (.cells (fc F (.slice A F.ps.length c)).toArray 33)).heap.size = w.heap.size + 1 := by simp
  have hz2 : ((w.alloc (.cells (fc F (.slice A F.ps.length c)).toArray 33)).alloc (.cells #[.int .i64 x] 2)).heap.size = w.heap.size + 2 := by simp
  have HII := hide (show ∀ sl, (Try.prog.info? 33).map (·.size) = some (fc F sl).length from fun sl => by rw [fc_length hW.out]; kernel_rfl)
  have BA := (hA.below hb).mono hb.size
  rw [hz] at hq
  have HV := hide (implValidFace_any F hF A c _ BA)
  have HT := hide (fun W => implValidText_any s W hs)
  have LD := hide hr
  cases hv : vface F
  · have hno : askC F s.data.toList (inB x 1 60) = 1 := ask_no (fun h => by rw [hv] at h; cases h.1)
    rw [lwV_no (by rw [hno]; decide), hno]
    rw [hv] at HV
    clear hA BA hv hno hx hq hz hz2
    go_enter Try.func41, Try.ntmps41
    go_wp2_with (refine wpList_load_mid rfl 33 (.tmp 3) rfl _ 0 rfl _ _ hr Try.underlying33 rfl (HII.out _) ?_)
    refine HV.out.mono ?_
    rintro e w1 ⟨rfl, hb1⟩
    go_wp2
    go_ret2
    exact ⟨rfl, hb.trans (hb1.mono hb.size)⟩
  · cases ht : vtext s.data.toList
    · have hno : askC F s.data.toList (inB x 1 60) = 1 := ask_no (fun h => by rw [ht] at h; cases h.2)
      rw [lwV_no (by rw [hno]; decide), hno]
      rw [hv] at HV
      rw [ht] at HT
      clear hA BA hv hno hx hq hz hz2 ht
      go_enter Try.func41, Try.ntmps41
      go_wp2_with (refine wpList_load_mid rfl 33 (.tmp 3) rfl _ 0 rfl _ _ hr Try.underlying33 rfl (HII.out _) ?_)
      refine HV.out.mono ?_
      rintro e w1 ⟨rfl, hb1⟩
      go_wp2_with fail
      refine (HT.out _).mono ?_
      rintro e w2 ⟨rfl, hb2⟩
      go_wp2
      go_ret2
      exact ⟨rfl, hb.trans ((hb1.trans (hb2.mono hb1.size)).mono hb.size)⟩
    · rw [hv] at HV
      rw [ht] at HT
      have HQ := hide hq
      have HZ2 := hide hz2
      clear hz hq
      cases hi : inB x 1 60
      · have hno : askC F s.data.toList false = 2 := by rw [ask_ok hv ht]; rfl
        have hV : lwV F s.data.toList x = 0 := lwV_no (by rw [hi, hno]; decide)
        rw [hV, hno]
        have hbw := hide (fun W => (between_any x 1 60 W))
        rw [hi] at hbw
        clear hA BA hv hno hx ht hi hV hz2
        go_enter Try.func41, Try.ntmps41
        go_wp2_with (refine wpList_load_mid rfl 33 (.tmp 3) rfl _ 0 rfl _ _ hr Try.underlying33 rfl (HII.out _) ?_)
        generalize ((w.alloc (.cells (fc F (.slice A F.ps.length c)).toArray 33)).alloc (.cells #[.int .i64 x] 2)) = W0 at *
        refine HV.out.mono ?_
        rintro e w1 ⟨rfl, hb1⟩
        go_wp2_with fail
        refine (HT.out _).mono ?_
        rintro e w2 ⟨rfl, hb2⟩
        have hB2 := hb1.trans (hb2.mono hb1.size)
        have cx := (hB2.cell (p := ⟨w.heap.size + 1, 0, none⟩) (by show w.heap.size + 1 < _; rw [HZ2.out]; omega)).trans HQ.out
        go_wp2_with fail
        refine (hbw.out _).mono ?_
        rintro e w3 ⟨rfl, rfl⟩
        clear cx
        go_wp2
        go_ret2
        exact ⟨rfl, hb.trans (hB2.mono hb.size)⟩
      · obtain ⟨x0, x1⟩ := inB_true.1 hi
        have hok : askC F s.data.toList true = 0 := by rw [ask_ok hv ht]; rfl
        have hV := lwV_ok (F := F) (L := s.data.toList) (m := x) (by rw [hi]; exact hok)
        rw [hV, hok]
        have hbw := hide (fun W => (between_any x 1 60 W))
        rw [hi] at hbw
        have HSP := hide (fun W (h : Below ((w.alloc (.cells (fc F (.slice A F.ps.length c)).toArray 33)).alloc (.cells #[.int .i64 x] 2)).heap.size ((w.alloc (.cells (fc F (.slice A F.ps.length c)).toArray 33)).alloc (.cells #[.int .i64 x] 2)) W) => spansOf_any F hF A c s W hv ht ((BA.below h).mono h.size))
        have hwl := words_len ht
        have hws := wsOk_of hF hv (ws := wordsL s.data.toList) (fun y hy => words_mem ht hy)
        have HMEM := hide (fun k hk => wideL_bd hF hv (words_mem ht (getD_mem (ws := wordsL s.data.toList) (k := k) hk)).2 (words_mem ht (getD_mem hk)).1)
        have HPB := hide (preL_bd hF hv (fun y hy => words_mem ht hy))
        have HTOP := hide (good_top hF hv ht x0 (x := 3600) (Nat.le_refl _))
        generalize wordsL s.data.toList = ws at *
        have HSE := hide (fun A' c' p q W hc' hS hp hq cp cq => searchLeast_any F ws hws A' c' x p q W hwl hc' HPB.out HMEM.out hS hp hq cp cq HTOP.out)
        generalize lwN F ws x = R at *
        clear hA BA hv hok hx ht hi hV hz2 x0 x1
        go_enter Try.func41, Try.ntmps41
        go_wp2_with (refine wpList_load_mid rfl 33 (.tmp 3) rfl _ 0 rfl _ _ hr Try.underlying33 rfl (HII.out _) ?_)
        generalize ((w.alloc (.cells (fc F (.slice A F.ps.length c)).toArray 33)).alloc (.cells #[.int .i64 x] 2)) = W0 at *
        refine HV.out.mono ?_
        rintro e w1 ⟨rfl, hb1⟩
        go_wp2_with fail
        refine (HT.out _).mono ?_
        rintro e w2 ⟨rfl, hb2⟩
        have hB2 := hb1.trans (hb2.mono hb1.size)
        have hbs2 := hB2.size
        have hq0 : w.heap.size + 1 < W0.heap.size := by rw [HZ2.out]; omega
        have cx := (hB2.cell (p := ⟨w.heap.size + 1, 0, none⟩) hq0).trans HQ.out
        have CX := hide cx
        have r2 := rangeAt_over hr hB2 (by omega)
        clear hr hb1 hb2 HV HT
        go_wp2_with fail
        refine (hbw.out _).mono ?_
        rintro e w3 ⟨rfl, rfl⟩
        clear cx
        go_wp2_with (refine wpList_load_mid rfl 33 (.tmp 3) rfl _ 0 rfl _ _ r2 Try.underlying33 rfl (HII.out _) ?_)
        refine (HSP.out _ hB2).mono ?_
        rintro e w4 ⟨A4, c4, rfl, hc4, hI, hb4⟩
        have hB4 := hB2.trans (hb4.mono hbs2)
        have hbs4 := hB4.size
        have cx4 := hide ((hb4.cell (p := ⟨w.heap.size + 1, 0, none⟩) (by show w.heap.size + 1 < _; omega)).trans CX.out)
        have HI4 := hide hI.at_
        have hb5 : Below w4.heap.size w4 (w4.alloc (.cells #[.slice A4 ws.length c4] 111)) := (Below.refl _ _).alloc (Nat.le_refl _) _
        have cp := hide (rangeAt_new' w4 #[.slice A4 ws.length c4] 111 0 _ rfl)
        have hz5 : (w4.alloc (.cells #[.slice A4 ws.length c4] 111)).heap.size = w4.heap.size + 1 := by simp
        have HZ5 := hide hz5
        have HS5 := hide (CellsAt.go HI4.out hb5)
        have cx5 := hide ((hb5.cell (p := ⟨w.heap.size + 1, 0, none⟩) (by show w.heap.size + 1 < _; omega)).trans cx4.out)
        clear hI hb4 r2 hz5
        go_wp2_with fail
        refine (HSE.out A4 c4 w4.heap.size (w.heap.size + 1) _ hc4 HS5.out (by rw [HZ5.out]; omega) (by rw [HZ5.out]; omega) (by exact cp.out) cx5.out).mono ?_
        rintro e w6 ⟨rfl, hb6⟩
        go_wp2
        go_ret2
        exact ⟨rfl, hb.trans ((hB4.trans ((hb5.trans (hb6.mono hb5.size)).mono hbs4)).mono hb.size)⟩
end Go.Proofs.Ytikmmeohmkjbeaa
