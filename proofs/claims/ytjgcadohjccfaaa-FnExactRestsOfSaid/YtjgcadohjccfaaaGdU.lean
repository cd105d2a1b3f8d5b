/- CheckSheets and RestsOf, of both. -/
import Derived.Test.YtjgcadohjccfaaaGdT
import Derived.Deep.RegionHeld3
namespace Go.Proofs.Ytjgcadohjccfaaa
open Go Go.RowKit

/-! The data -/
noncomputable def ckB (F : Fc) (L : List UInt8) (wd ov : Int) (ss : List Int) : Bool := gpB F L wd ov && (rsO wd (pieL F L ov) ss).isSome
noncomputable def roC (F : Fc) (L : List UInt8) (wd ov : Int) (ss : List Int) : Int := if gpB F L wd ov = true then if (rsO wd (pieL F L ov) ss).isSome = true then 0 else 4 else 1
noncomputable def roR (F : Fc) (L : List UInt8) (wd ov : Int) (ss : List Int) : List Int := if gpB F L wd ov = true then (rsO wd (pieL F L ov) ss).getD [] else []
theorem ro_no {F : Fc} {L : List UInt8} {wd ov : Int} {ss : List Int} (h : gpB F L wd ov = false) : roC F L wd ov ss = 1 ∧ roR F L wd ov ss = [] ∧ ckB F L wd ov ss = false := by unfold roC roR ckB; rw [h]; exact ⟨rfl, rfl, rfl⟩
theorem ro_bad {F : Fc} {L : List UInt8} {wd ov : Int} {ss : List Int} (h : gpB F L wd ov = true) (h2 : rsO wd (pieL F L ov) ss = none) : roC F L wd ov ss = 4 ∧ roR F L wd ov ss = [] ∧ ckB F L wd ov ss = false := by unfold roC roR ckB; rw [h, h2]; exact ⟨rfl, rfl, rfl⟩
theorem ro_ok {F : Fc} {L : List UInt8} {wd ov : Int} {ss R : List Int} (h : gpB F L wd ov = true) (h2 : rsO wd (pieL F L ov) ss = some R) : roC F L wd ov ss = 0 ∧ roR F L wd ov ss = R ∧ ckB F L wd ov ss = true := by unfold roC roR ckB; rw [h, h2]; exact ⟨rfl, rfl, rfl⟩
theorem roR_len {F : Fc} (hF : F.ok) (L : List UInt8) (wd ov : Int) (ss : List Int) : (roR F L wd ov ss).length ≤ 1048577 := by
  cases h : gpB F L wd ov
  · rw [(ro_no h).2.1]; simp
  · cases h2 : rsO wd (pieL F L ov) ss with
    | none => rw [(ro_bad h h2).2.1]; simp
    | some R =>
      rw [(ro_ok h h2).2.1]
      obtain ⟨hv, ht, hw, ho⟩ := gp_parts h
      unfold rsO at h2
      split at h2
      · rename_i hl
        have := (rsT_bd hw (pieL_bd hF hv ht ho) _ R (by omega) (Nat.le_refl _) h2).1
        omega
      · cases h2

/-! The model -/
set_option maxRecDepth 100000 in
set_option maxHeartbeats 8000000 in
theorem specCheckSheets_any (F : Fc) (hF : F.ok) (A : Option Addr) (c : Nat) (wd : Int) (hw : -32768 ≤ wd ∧ wd ≤ 32767) (ov : Int) (ho : i8ok ov) (s : ByteArray) (hs : s.size ≤ maxLen) (B : Option Addr) (ss : List Int) (cb : Nat) (hsn : ss.length ≤ maxLen) (w : World) (hA : PairsAt w w.heap.size A F.ps) (hB : IntsAt w w.heap.size B ss) :
    Calls Try.prog 35 #[.agg (fc F (.slice A F.ps.length c)).toArray, .agg #[.int .i16 wd, .int .i8 ov], .string s, .slice B ss.length cb] w fun e w' => e = .returned (.tuple #[.bool (ckB F s.data.toList wd ov ss), .int .i64 (gpC F s.data.toList wd ov)]) ∧ Below w.heap.size w w' := by
  obtain ⟨W2, hW2⟩ : ∃ W2, W2 = ((w.alloc (.cells (fc F (.slice A F.ps.length c)).toArray 40)).alloc (.cells #[.int .i16 wd, .int .i8 ov] 27)) := ⟨_, rfl⟩
  have b0 : Below w.heap.size w W2 := by rw [hW2]; exact ((Below.refl _ _).alloc (Nat.le_refl _) _).alloc (by simp) _
  have r0 : W2.rangeAt w.heap.size 0 (fc F (.slice A F.ps.length c)) := by rw [hW2]; exact World.rangeAt_alloc (rangeAt_new w (fc F (.slice A F.ps.length c)) 40) (.cells #[.int .i16 wd, .int .i8 ov] 27)
  have r1 : W2.rangeAt (w.heap.size + 1) 0 [.int .i16 wd, .int .i8 ov] := by rw [hW2]; exact rangeAt_newg (w := w.alloc (.cells (fc F (.slice A F.ps.length c)).toArray 40)) (cs := #[.int .i16 wd, .int .i8 ov]) (t := 27) (g := w.heap.size + 1) (by simp) rfl
  have s0 : w.heap.size + 2 = W2.heap.size := by rw [hW2]; simp
  have HAS := hide (l06Asked_any F hF _ A c _ wd ov hw ho s hs _ r0 r1 (by omega) ((hA.below b0).mono b0.size))
  have HW2 := hide hW2
  have HBB := hide ((hB.below b0).mono b0.size)
  clear hW2 hB
  cases hb : gpB F s.data.toList wd ov
  · obtain ⟨e1, e2⟩ := gp_no hb
    rw [e1, (ro_no hb).2.2]
    rw [e1] at HAS
    unfold maxLen at hs hsn
    clear hw ho hA e1 e2 hb r0 r1
    generalize fc F (.slice A F.ps.length c) = fcs at *
    go_enter Try.func35, Try.ntmps35
    repeat (first | (rw [← HW2.out]) | go_step)
    refine HAS.out.mono ?_
    rintro e w1 ⟨rfl, hb1⟩
    go_wp2
    go_ret2
    exact ⟨rfl, b0.trans (hb1.mono b0.size)⟩
  · obtain ⟨e1, e2⟩ := gp_ok hb
    obtain ⟨hv, ht, hwd, ho'⟩ := gp_parts hb
    rw [e1]
    rw [e1] at HAS
    have hck : ckB F s.data.toList wd ov ss = (rsO wd (pieL F s.data.toList ov) ss).isSome := by unfold ckB; rw [hb]; rfl
    rw [hck]
    have HPI := hide (fun W hW => l06Pieces_any F hF w.heap.size A c (w.heap.size + 1) wd ov s W hv ht ho' (rangeAt_below r0 hW (by omega)) (by have := hW.size; omega) (rangeAt_below r1 hW (by omega)) (by have := hW.size; omega) (((hA.below b0).mono b0.size).below hW |>.mono hW.size))
    have HRE := hide (fun A1 c1 W h1 h2 => l06Rests_any A1 (pieL F s.data.toList ov) c1 B ss cb wd W (pieL_n ht) (pieL_bd hF hv ht ho') hwd hsn h1 h2)
    have c0 := rangeAt_cell (k := 0) r1 rfl
    obtain ⟨hw1, hw2⟩ := hwd
    have hw3 := IntWalk.i64_in wd ⟨by omega, by omega⟩
    unfold IntsB at HPI
    unfold RestB at HRE
    generalize rsO wd (pieL F s.data.toList ov) ss = O at *
    generalize pieL F s.data.toList ov = P at *
    unfold maxLen at hs hsn
    clear hw ho hA e1 e2 hb r0 r1 hv ht hck
    generalize fc F (.slice A F.ps.length c) = fcs at *
    go_enter Try.func35, Try.ntmps35
    repeat (first | (rw [← HW2.out]) | go_step)
    refine HAS.out.mono ?_
    rintro e w1 ⟨rfl, hb1⟩
    have cc : ∀ w', Below w1.heap.size w1 w' → w'.cell? ⟨w.heap.size + 1, 0, none⟩ = some (.int .i16 wd) := fun w' hw => (hw.cell (p := ⟨w.heap.size + 1, 0, none⟩) (by show w.heap.size + 1 < w1.heap.size; have := hb1.size; omega)).trans ((hb1.cell (p := ⟨w.heap.size + 1, 0, none⟩) (by show w.heap.size + 1 < W2.heap.size; omega)).trans c0)
    have HPJ := hide (fun W (hW : Below w1.heap.size w1 W) => HPI.out W (hb1.trans (hW.mono hb1.size)))
    have HBJ := hide (fun W (hW : Below w1.heap.size w1 W) => (HBB.out.go hb1).go hW)
    have hz1 := hb1.size
    have hB1 := b0.trans (hb1.mono b0.size)
    clear c0 HPI HBB hb1
    go_wp2
    go_region_held3 (fun w' => Below w1.heap.size w1 w') (first | exact (Below.refl _ _).drew | (refine Below.trans (by assumption) (Below.mono (by assumption) ?_); exact Below.size (by assumption))) (first | (go_at_call 53; refine (HPJ.out _ (by assumption)).mono ?_; rintro e w2 ⟨Q2, k2, rfl, hk2, hI2, hb2⟩) | (go_at_call 70; refine (HRE.out _ _ _ hI2.at_ (HBJ.out _ (by assumption))).mono ?_; rintro e w3 ⟨v3, rfl, hv3, hb3⟩))
    have hBw : Below w1.heap.size w1 w3 := by assumption
    go_wp2
    go_ret2
    exact ⟨rfl, hB1.trans (hBw.mono hB1.size)⟩
set_option maxRecDepth 100000 in
set_option maxHeartbeats 8000000 in
theorem specRestsOf_any (F : Fc) (hF : F.ok) (A : Option Addr) (c : Nat) (wd : Int) (hw : -32768 ≤ wd ∧ wd ≤ 32767) (ov : Int) (ho : i8ok ov) (s : ByteArray) (hs : s.size ≤ maxLen) (B : Option Addr) (ss : List Int) (cb : Nat) (hsn : ss.length ≤ maxLen) (w : World) (hA : PairsAt w w.heap.size A F.ps) (hB : IntsAt w w.heap.size B ss) :
    Calls Try.prog 38 #[.agg (fc F (.slice A F.ps.length c)).toArray, .agg #[.int .i16 wd, .int .i8 ov], .string s, .slice B ss.length cb] w (IntsBack (roR F s.data.toList wd ov ss) (roC F s.data.toList wd ov ss) w) := by
  obtain ⟨W2, hW2⟩ : ∃ W2, W2 = ((w.alloc (.cells (fc F (.slice A F.ps.length c)).toArray 40)).alloc (.cells #[.int .i16 wd, .int .i8 ov] 27)) := ⟨_, rfl⟩
  have b0 : Below w.heap.size w W2 := by rw [hW2]; exact ((Below.refl _ _).alloc (Nat.le_refl _) _).alloc (by simp) _
  have r0 : W2.rangeAt w.heap.size 0 (fc F (.slice A F.ps.length c)) := by rw [hW2]; exact World.rangeAt_alloc (rangeAt_new w (fc F (.slice A F.ps.length c)) 40) (.cells #[.int .i16 wd, .int .i8 ov] 27)
  have r1 : W2.rangeAt (w.heap.size + 1) 0 [.int .i16 wd, .int .i8 ov] := by rw [hW2]; exact rangeAt_newg (w := w.alloc (.cells (fc F (.slice A F.ps.length c)).toArray 40)) (cs := #[.int .i16 wd, .int .i8 ov]) (t := 27) (g := w.heap.size + 1) (by simp) rfl
  have s0 : w.heap.size + 2 = W2.heap.size := by rw [hW2]; simp
  have HAS := hide (l06Asked_any F hF _ A c _ wd ov hw ho s hs _ r0 r1 (by omega) ((hA.below b0).mono b0.size))
  have HW2 := hide hW2
  have HBB := hide ((hB.below b0).mono b0.size)
  clear hW2 hB
  cases hb : gpB F s.data.toList wd ov
  · obtain ⟨e1, e2⟩ := gp_no hb
    obtain ⟨n1, n2, _⟩ := ro_no (ss := ss) hb
    rw [n1, n2]
    rw [e1] at HAS
    unfold maxLen at hs hsn
    clear hw ho hA e1 e2 hb r0 r1 n1 n2
    generalize fc F (.slice A F.ps.length c) = fcs at *
    go_enter Try.func38, Try.ntmps38
    repeat (first | (rw [← HW2.out]) | go_step)
    refine HAS.out.mono ?_
    rintro e w1 ⟨rfl, hb1⟩
    go_wp2
    go_ret2
    exact ⟨_, 0, rfl, IntsIn.empty _ _ _, (b0.trans (hb1.mono b0.size)).alloc (Nat.le_trans b0.size hb1.size) _⟩
  · obtain ⟨e1, e2⟩ := gp_ok hb
    obtain ⟨hv, ht, hwd, ho'⟩ := gp_parts hb
    rw [e1] at HAS
    have HNB := hide (fun h => ro_bad (F := F) (L := s.data.toList) (wd := wd) (ov := ov) (ss := ss) hb h)
    have HNO := hide (fun R h => ro_ok (F := F) (L := s.data.toList) (wd := wd) (ov := ov) (ss := ss) (R := R) hb h)
    have HPI := hide (fun W hW => l06Pieces_any F hF w.heap.size A c (w.heap.size + 1) wd ov s W hv ht ho' (rangeAt_below r0 hW (by omega)) (by have := hW.size; omega) (rangeAt_below r1 hW (by omega)) (by have := hW.size; omega) (((hA.below b0).mono b0.size).below hW |>.mono hW.size))
    have HRE := hide (fun A1 c1 W h1 h2 => l06Rests_any A1 (pieL F s.data.toList ov) c1 B ss cb wd W (pieL_n ht) (pieL_bd hF hv ht ho') hwd hsn h1 h2)
    have c0 := rangeAt_cell (k := 0) r1 rfl
    obtain ⟨hw1, hw2⟩ := hwd
    have hw3 := IntWalk.i64_in wd ⟨by omega, by omega⟩
    unfold IntsB at HPI
    unfold RestB at HRE
    generalize roR F s.data.toList wd ov ss = RR at *
    generalize roC F s.data.toList wd ov ss = RC at *
    generalize rsO wd (pieL F s.data.toList ov) ss = O at *
    generalize pieL F s.data.toList ov = P at *
    unfold maxLen at hs hsn
    clear hw ho hA e1 e2 hb r0 r1 hv ht
    generalize fc F (.slice A F.ps.length c) = fcs at *
    cases O with
    | none =>
      obtain ⟨rfl, rfl, _⟩ := HNB.out rfl
      clear HNB HNO
      go_enter Try.func38, Try.ntmps38
      repeat (first | (rw [← HW2.out]) | go_step)
      refine HAS.out.mono ?_
      rintro e w1 ⟨rfl, hb1⟩
      have cc : ∀ w', Below w1.heap.size w1 w' → w'.cell? ⟨w.heap.size + 1, 0, none⟩ = some (.int .i16 wd) := fun w' hw => (hw.cell (p := ⟨w.heap.size + 1, 0, none⟩) (by show w.heap.size + 1 < w1.heap.size; have := hb1.size; omega)).trans ((hb1.cell (p := ⟨w.heap.size + 1, 0, none⟩) (by show w.heap.size + 1 < W2.heap.size; omega)).trans c0)
      have HPJ := hide (fun W (hW : Below w1.heap.size w1 W) => HPI.out W (hb1.trans (hW.mono hb1.size)))
      have HBJ := hide (fun W (hW : Below w1.heap.size w1 W) => (HBB.out.go hb1).go hW)
      have hz1 := hb1.size
      have hB1 := b0.trans (hb1.mono b0.size)
      clear c0 HPI HBB hb1
      go_wp2
      go_region_held3 (fun w' => Below w1.heap.size w1 w') (first | exact (Below.refl _ _).drew | (refine Below.trans (by assumption) (Below.mono (by assumption) ?_); exact Below.size (by assumption))) (first | (go_at_call 53; refine (HPJ.out _ (by assumption)).mono ?_; rintro e w2 ⟨Q2, k2, rfl, hk2, hI2, hb2⟩) | (go_at_call 70; refine (HRE.out _ _ _ hI2.at_ (HBJ.out _ (by assumption))).mono ?_; rintro e w3 ⟨v3, rfl, hv3, hb3⟩))
      have hBw : Below w1.heap.size w1 w3 := by assumption
      go_wp2
      go_ret2
      exact ⟨_, 0, rfl, IntsIn.empty _ _ _, (hB1.trans (hBw.mono hB1.size)).alloc (hB1.trans (hBw.mono hB1.size)).size _⟩
    | some R =>
      obtain ⟨rfl, rfl, _⟩ := HNO.out R rfl
      clear HNB HNO
      go_enter Try.func38, Try.ntmps38
      repeat (first | (rw [← HW2.out]) | go_step)
      refine HAS.out.mono ?_
      rintro e w1 ⟨rfl, hb1⟩
      have cc : ∀ w', Below w1.heap.size w1 w' → w'.cell? ⟨w.heap.size + 1, 0, none⟩ = some (.int .i16 wd) := fun w' hw => (hw.cell (p := ⟨w.heap.size + 1, 0, none⟩) (by show w.heap.size + 1 < w1.heap.size; have := hb1.size; omega)).trans ((hb1.cell (p := ⟨w.heap.size + 1, 0, none⟩) (by show w.heap.size + 1 < W2.heap.size; omega)).trans c0)
      have HPJ := hide (fun W (hW : Below w1.heap.size w1 W) => HPI.out W (hb1.trans (hW.mono hb1.size)))
      have HBJ := hide (fun W (hW : Below w1.heap.size w1 W) => (HBB.out.go hb1).go hW)
      have hz1 := hb1.size
      have hB1 := b0.trans (hb1.mono b0.size)
      clear c0 HPI HBB hb1
      go_wp2
      go_region_held3 (fun w' => Below w1.heap.size w1 w') (first | exact (Below.refl _ _).drew | (refine Below.trans (by assumption) (Below.mono (by assumption) ?_); exact Below.size (by assumption))) (first | (go_at_call 53; refine (HPJ.out _ (by assumption)).mono ?_; rintro e w2 ⟨Q2, k2, rfl, hk2, hI2, hb2⟩) | (go_at_call 70; refine (HRE.out _ _ _ hI2.at_ (HBJ.out _ (by assumption))).mono ?_; rintro e w3 ⟨v3, rfl, hv3, hb3⟩))
      have hBw : Below w1.heap.size w1 w3 := by assumption
      obtain ⟨A3, c3, rfl, hI3⟩ := hv3 _ rfl
      have hz2 : w1.heap.size ≤ w2.heap.size := hb2.size
      have HIN := hide (hI3.wider (L' := w.heap.size) (Nat.le_trans hB1.size hz2))
      go_wp2
      go_ret2
      exact ⟨A3, c3, rfl, HIN.out, hB1.trans (hBw.mono hB1.size)⟩

/-! The program -/
set_option maxRecDepth 100000 in
set_option maxHeartbeats 8000000 in
theorem implCheckSheets_any (F : Fc) (hF : F.ok) (A : Option Addr) (c : Nat) (wd : Int) (hw : -32768 ≤ wd ∧ wd ≤ 32767) (ov : Int) (ho : i8ok ov) (s : ByteArray) (hs : s.size ≤ maxLen) (B : Option Addr) (ss : List Int) (cb : Nat) (hsn : ss.length ≤ maxLen) (w : World) (hG : Glob w) (hA : PairsAt w w.heap.size A F.ps) (hB : IntsAt w w.heap.size B ss) :
    Calls Try.prog 37 #[.agg (fc F (.slice A F.ps.length c)).toArray, .agg #[.int .i16 wd, .int .i8 ov], .string s, .slice B ss.length cb] w fun e w' => e = .returned (.tuple #[.bool (ckB F s.data.toList wd ov ss), .int .i64 (gpC F s.data.toList wd ov)]) ∧ Below w.heap.size w w' := by
  have b0 : Below w.heap.size w ((w.alloc (.cells (fc F (.slice A F.ps.length c)).toArray 40)).alloc (.cells #[.int .i16 wd, .int .i8 ov] 27)) := ((Below.refl _ _).alloc (Nat.le_refl _) _).alloc (by simp) _
  have r0 := World.rangeAt_alloc (rangeAt_new w (fc F (.slice A F.ps.length c)) 40) (.cells #[.int .i16 wd, .int .i8 ov] 27)
  have r1 := rangeAt_newg (w := w.alloc (.cells (fc F (.slice A F.ps.length c)).toArray 40)) (cs := #[.int .i16 wd, .int .i8 ov]) (t := 27) (g := w.heap.size + 1) (by simp) rfl
  have s0 : w.heap.size + 1 < ((w.alloc (.cells (fc F (.slice A F.ps.length c)).toArray 40)).alloc (.cells #[.int .i16 wd, .int .i8 ov] 27)).heap.size := by simp
  have HI29 := hide (show (Try.prog.info? 40).map (·.size) = some (fc F (.slice A F.ps.length c)).length from by rw [fc_length hF.len]; kernel_rfl)
  have HI2 := hide (show (Try.prog.info? 27).map (·.size) = some ([.int .i16 wd, .int .i8 ov] : List Value).length from by kernel_rfl)
  have HPF := hide (fun W h1 h2 => implPiecesFor_any F hF A c wd hw ov ho s hs W h1 h2)
  have HA := hide ((hA.below b0).mono b0.size)
  have HBB := hide ((hB.below b0).mono b0.size)
  have HG := hide (hG.below b0)
  have HRE := hide (fun (h : gpB F s.data.toList wd ov = true) A1 c1 W h1 h2 => rests_any wd ov A1 (pieL F s.data.toList ov) c1 B ss cb W (pieL_n (gp_parts h).2.1) (pieL_bd hF (gp_parts h).1 (gp_parts h).2.1 (gp_parts h).2.2.2) (gp_parts h).2.2.1 hsn h1 h2)
  unfold RestB at HRE
  unfold maxLen at hs hsn
  clear hA hB hG hw ho
  cases hb : gpB F s.data.toList wd ov
  · obtain ⟨e1, e2⟩ := gp_no hb
    obtain ⟨n1, n2, n3⟩ := ro_no (ss := ss) hb
    rw [e1, n3]
    rw [e1, e2] at HPF
    clear e1 e2 n1 n2 n3 hb HRE
    generalize fc F (.slice A F.ps.length c) = fcs at *
    go_enter Try.func37, Try.ntmps37
    repeat (first | (refine wpList_load_mid rfl 40 (.tmp 4) rfl _ 0 rfl fcs _ r0 Try.underlying40 rfl HI29.out ?_) | (refine wpList_load_mid rfl 27 (.tmp 5) rfl _ 0 rfl [.int .i16 wd, .int .i8 ov] _ r1 Try.underlying27 rfl HI2.out ?_) | go_step)
    refine (HPF.out _ HG.out HA.out).mono ?_
    rintro e w1 ⟨A1, c1, rfl, hI1, hb1⟩
    go_wp2
    go_ret2
    exact ⟨rfl, b0.trans (hb1.mono b0.size)⟩
  · obtain ⟨e1, e2⟩ := gp_ok hb
    have HR := hide (HRE.out hb)
    have HNB := hide (fun h => ro_bad (F := F) (L := s.data.toList) (wd := wd) (ov := ov) (ss := ss) hb h)
    have HNO := hide (fun R h => ro_ok (F := F) (L := s.data.toList) (wd := wd) (ov := ov) (ss := ss) (R := R) hb h)
    rw [e1, e2] at HPF
    rw [e1]
    clear e1 e2 hb HRE
    generalize fc F (.slice A F.ps.length c) = fcs at *
    generalize roR F s.data.toList wd ov ss = RR at *
    generalize roC F s.data.toList wd ov ss = RC at *
    generalize ckB F s.data.toList wd ov ss = CK at *
    generalize rsO wd (pieL F s.data.toList ov) ss = O at *
    generalize pieL F s.data.toList ov = P at *
    cases O with
    | none =>
      obtain ⟨_, _, rfl⟩ := HNB.out rfl
      clear HNB HNO
      go_enter Try.func37, Try.ntmps37
      repeat (first | (refine wpList_load_mid rfl 40 (.tmp 4) rfl _ 0 rfl fcs _ r0 Try.underlying40 rfl HI29.out ?_) | (refine wpList_load_mid rfl 27 (.tmp 5) rfl _ 0 rfl [.int .i16 wd, .int .i8 ov] _ r1 Try.underlying27 rfl HI2.out ?_) | go_step)
      refine (HPF.out _ HG.out HA.out).mono ?_
      rintro e w1 ⟨A1, c1, rfl, hI1, hb1⟩
      have r1' := rangeAt_below r1 hb1 s0
      have hB1 := b0.trans (hb1.mono b0.size)
      have hat := hI1.at_
      have hbt := HBB.out.go hb1
      go_wp2_with (first | (refine wpList_load_mid rfl 27 (.tmp 5) rfl _ 0 rfl [.int .i16 wd, .int .i8 ov] _ r1' Try.underlying27 rfl HI2.out ?_) | (go_at_call 71; refine (HR.out _ _ _ hat hbt).mono ?_; rintro e w3 ⟨v3, rfl, hv3, hb3⟩))
      go_wp2
      go_ret2
      exact ⟨rfl, hB1.trans (hb3.mono hB1.size)⟩
    | some R =>
      obtain ⟨_, _, rfl⟩ := HNO.out R rfl
      clear HNB HNO
      go_enter Try.func37, Try.ntmps37
      repeat (first | (refine wpList_load_mid rfl 40 (.tmp 4) rfl _ 0 rfl fcs _ r0 Try.underlying40 rfl HI29.out ?_) | (refine wpList_load_mid rfl 27 (.tmp 5) rfl _ 0 rfl [.int .i16 wd, .int .i8 ov] _ r1 Try.underlying27 rfl HI2.out ?_) | go_step)
      refine (HPF.out _ HG.out HA.out).mono ?_
      rintro e w1 ⟨A1, c1, rfl, hI1, hb1⟩
      have r1' := rangeAt_below r1 hb1 s0
      have hB1 := b0.trans (hb1.mono b0.size)
      have hat := hI1.at_
      have hbt := HBB.out.go hb1
      go_wp2_with (first | (refine wpList_load_mid rfl 27 (.tmp 5) rfl _ 0 rfl [.int .i16 wd, .int .i8 ov] _ r1' Try.underlying27 rfl HI2.out ?_) | (go_at_call 71; refine (HR.out _ _ _ hat hbt).mono ?_; rintro e w3 ⟨v3, rfl, hv3, hb3⟩))
      go_wp2
      go_ret2
      exact ⟨rfl, hB1.trans (hb3.mono hB1.size)⟩

set_option maxRecDepth 100000 in
set_option maxHeartbeats 8000000 in
theorem implRestsOf_any (F : Fc) (hF : F.ok) (A : Option Addr) (c : Nat) (wd : Int) (hw : -32768 ≤ wd ∧ wd ≤ 32767) (ov : Int) (ho : i8ok ov) (s : ByteArray) (hs : s.size ≤ maxLen) (B : Option Addr) (ss : List Int) (cb : Nat) (hsn : ss.length ≤ maxLen) (w : World) (hG : Glob w) (hA : PairsAt w w.heap.size A F.ps) (hB : IntsAt w w.heap.size B ss) :
    Calls Try.prog 39 #[.agg (fc F (.slice A F.ps.length c)).toArray, .agg #[.int .i16 wd, .int .i8 ov], .string s, .slice B ss.length cb] w (IntsBack (roR F s.data.toList wd ov ss) (roC F s.data.toList wd ov ss) w) := by
  have b0 : Below w.heap.size w ((w.alloc (.cells (fc F (.slice A F.ps.length c)).toArray 40)).alloc (.cells #[.int .i16 wd, .int .i8 ov] 27)) := ((Below.refl _ _).alloc (Nat.le_refl _) _).alloc (by simp) _
  have r0 := World.rangeAt_alloc (rangeAt_new w (fc F (.slice A F.ps.length c)) 40) (.cells #[.int .i16 wd, .int .i8 ov] 27)
  have r1 := rangeAt_newg (w := w.alloc (.cells (fc F (.slice A F.ps.length c)).toArray 40)) (cs := #[.int .i16 wd, .int .i8 ov]) (t := 27) (g := w.heap.size + 1) (by simp) rfl
  have s0 : w.heap.size + 1 < ((w.alloc (.cells (fc F (.slice A F.ps.length c)).toArray 40)).alloc (.cells #[.int .i16 wd, .int .i8 ov] 27)).heap.size := by simp
  have HI29 := hide (show (Try.prog.info? 40).map (·.size) = some (fc F (.slice A F.ps.length c)).length from by rw [fc_length hF.len]; kernel_rfl)
  have HI2 := hide (show (Try.prog.info? 27).map (·.size) = some ([.int .i16 wd, .int .i8 ov] : List Value).length from by kernel_rfl)
  have HPF := hide (fun W h1 h2 => implPiecesFor_any F hF A c wd hw ov ho s hs W h1 h2)
  have HA := hide ((hA.below b0).mono b0.size)
  have HBB := hide ((hB.below b0).mono b0.size)
  have HG := hide (hG.below b0)
  have HRE := hide (fun (h : gpB F s.data.toList wd ov = true) A1 c1 W h1 h2 => rests_any wd ov A1 (pieL F s.data.toList ov) c1 B ss cb W (pieL_n (gp_parts h).2.1) (pieL_bd hF (gp_parts h).1 (gp_parts h).2.1 (gp_parts h).2.2.2) (gp_parts h).2.2.1 hsn h1 h2)
  unfold RestB at HRE
  unfold maxLen at hs hsn
  clear hA hB hG hw ho
  cases hb : gpB F s.data.toList wd ov
  · obtain ⟨e1, e2⟩ := gp_no hb
    obtain ⟨n1, n2, n3⟩ := ro_no (ss := ss) hb
    rw [n1, n2]
    rw [e1, e2] at HPF
    clear e1 e2 n1 n2 n3 hb HRE
    generalize fc F (.slice A F.ps.length c) = fcs at *
    go_enter Try.func39, Try.ntmps39
    repeat (first | (refine wpList_load_mid rfl 40 (.tmp 4) rfl _ 0 rfl fcs _ r0 Try.underlying40 rfl HI29.out ?_) | (refine wpList_load_mid rfl 27 (.tmp 5) rfl _ 0 rfl [.int .i16 wd, .int .i8 ov] _ r1 Try.underlying27 rfl HI2.out ?_) | go_step)
    refine (HPF.out _ HG.out HA.out).mono ?_
    rintro e w1 ⟨A1, c1, rfl, hI1, hb1⟩
    go_wp2
    go_ret2
    exact ⟨none, 0, rfl, IntsIn.empty _ _ _, b0.trans (hb1.mono b0.size)⟩
  · obtain ⟨e1, e2⟩ := gp_ok hb
    have HR := hide (HRE.out hb)
    have HNB := hide (fun h => ro_bad (F := F) (L := s.data.toList) (wd := wd) (ov := ov) (ss := ss) hb h)
    have HNO := hide (fun R h => ro_ok (F := F) (L := s.data.toList) (wd := wd) (ov := ov) (ss := ss) (R := R) hb h)
    rw [e1, e2] at HPF
    clear e1 e2 hb HRE
    generalize fc F (.slice A F.ps.length c) = fcs at *
    generalize roR F s.data.toList wd ov ss = RR at *
    generalize roC F s.data.toList wd ov ss = RC at *
    generalize ckB F s.data.toList wd ov ss = CK at *
    generalize rsO wd (pieL F s.data.toList ov) ss = O at *
    generalize pieL F s.data.toList ov = P at *
    cases O with
    | none =>
      obtain ⟨rfl, rfl, _⟩ := HNB.out rfl
      clear HNB HNO
      go_enter Try.func39, Try.ntmps39
      repeat (first | (refine wpList_load_mid rfl 40 (.tmp 4) rfl _ 0 rfl fcs _ r0 Try.underlying40 rfl HI29.out ?_) | (refine wpList_load_mid rfl 27 (.tmp 5) rfl _ 0 rfl [.int .i16 wd, .int .i8 ov] _ r1 Try.underlying27 rfl HI2.out ?_) | go_step)
      refine (HPF.out _ HG.out HA.out).mono ?_
      rintro e w1 ⟨A1, c1, rfl, hI1, hb1⟩
      have r1' := rangeAt_below r1 hb1 s0
      have hB1 := b0.trans (hb1.mono b0.size)
      have hat := hI1.at_
      have hbt := HBB.out.go hb1
      go_wp2_with (first | (refine wpList_load_mid rfl 27 (.tmp 5) rfl _ 0 rfl [.int .i16 wd, .int .i8 ov] _ r1' Try.underlying27 rfl HI2.out ?_) | (go_at_call 71; refine (HR.out _ _ _ hat hbt).mono ?_; rintro e w3 ⟨v3, rfl, hv3, hb3⟩))
      go_wp2
      go_ret2
      exact ⟨none, 0, rfl, IntsIn.empty _ _ _, hB1.trans (hb3.mono hB1.size)⟩
    | some R =>
      obtain ⟨rfl, rfl, _⟩ := HNO.out R rfl
      clear HNB HNO
      go_enter Try.func39, Try.ntmps39
      repeat (first | (refine wpList_load_mid rfl 40 (.tmp 4) rfl _ 0 rfl fcs _ r0 Try.underlying40 rfl HI29.out ?_) | (refine wpList_load_mid rfl 27 (.tmp 5) rfl _ 0 rfl [.int .i16 wd, .int .i8 ov] _ r1 Try.underlying27 rfl HI2.out ?_) | go_step)
      refine (HPF.out _ HG.out HA.out).mono ?_
      rintro e w1 ⟨A1, c1, rfl, hI1, hb1⟩
      have r1' := rangeAt_below r1 hb1 s0
      have hB1 := b0.trans (hb1.mono b0.size)
      have hat := hI1.at_
      have hbt := HBB.out.go hb1
      go_wp2_with (first | (refine wpList_load_mid rfl 27 (.tmp 5) rfl _ 0 rfl [.int .i16 wd, .int .i8 ov] _ r1' Try.underlying27 rfl HI2.out ?_) | (go_at_call 71; refine (HR.out _ _ _ hat hbt).mono ?_; rintro e w3 ⟨v3, rfl, hv3, hb3⟩))
      obtain ⟨A3, c3, rfl, hI3⟩ := hv3 _ rfl
      go_wp2
      go_ret2
      exact ⟨A3, c3, rfl, hI3.wider hB1.size, hB1.trans (hb3.mono hB1.size)⟩
end Go.Proofs.Ytjgcadohjccfaaa
