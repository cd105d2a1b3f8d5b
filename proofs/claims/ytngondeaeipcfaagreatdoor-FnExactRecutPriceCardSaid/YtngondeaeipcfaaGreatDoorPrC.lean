/- Gold for a line: the widths of its letters. · What letters cost, and a text: PriceOf of the program. · What a text costs: PriceOf of both. -/
import Derived.Test.YtngondeaeipcfaaGreatDoorGoA
import Derived.Test.YtngondeaeipcfaaGreatDoorGdB
import Derived.Deep.RegionHeld3
import Derived.Test.YtngondeaeipcfaaGreatDoorSumG
import Derived.Test.YtngondeaeipcfaaGreatDoorIvTx

namespace Go.Proofs.YtngondeaeipcfaaGreatDoor
open Go Go.RowKit

set_option maxRecDepth 100000 in
theorem meth_validL (v : Value) (w : World) : (method 468 261 v "loop.example/g01398/impl.isValid").run Tryz.prog w = .ok (325, v) w := by kernel_rfl
set_option maxRecDepth 100000 in
theorem meth_widesL (v : Value) (w : World) : (method 468 261 v "loop.example/g01398/impl.letterWides").run Tryz.prog w = .ok (326, v) w := by kernel_rfl
set_option maxRecDepth 100000 in
theorem assert_gln (v : Value) (w : World) : (Instr.typeAssert (.iface 261 v) 293 332 true).run Tryz.prog w = .ok (.tuple #[.agg #[.int .i8 0, .int .i8 0, .int .i8 0, .int .i8 0, .int .i8 0, .int .i8 0, .int .i8 0, .int .i8 0, .int .i8 0, .int .i8 0, .int .i8 0, .int .i8 0, .int .i8 0, .int .i8 0, .int .i8 0, .int .i8 0, .int .i8 0, .int .i8 0, .int .i8 0, .int .i8 0, .int .i8 0, .int .i8 0, .int .i8 0, .int .i8 0, .int .i8 0, .int .i8 0, .int .i8 0, .int .i8 0, .slice none 0 0, .string ⟨#[]⟩, .int .i16 0, .int .i8 0], .bool false]) w := by kernel_rfl

set_option maxRecDepth 100000 in
set_option maxHeartbeats 2000000 in
theorem overOf_gln (v : Value) (w : World) :
    Calls Tryz.prog 275 #[.iface 261 v] w fun e w' => e = .returned (.int .i64 0) ∧ w = w' := by
  have hta := fun w => assert_gln v w
  go_enter Tryz.func275, Tryz.ntmps275
  go_wp2
  go_ret
  exact ⟨rfl, rfl⟩

theorem map_add0 (R : List Int) : R.map (fun x => x + 0) = R := by
  have : (fun x : Int => x + 0) = id := by funext x; simp
  rw [this, List.map_id]
noncomputable def glB (F : Fc) (L : List UInt8) : Bool := vface F && vtext L
noncomputable def glC (F : Fc) (L : List UInt8) : Int := if glB F L = true then 0 else 1
noncomputable def glR (F : Fc) (L : List UInt8) : List Int := if glB F L = true then lwL F L else []
theorem gl_no {F : Fc} {L : List UInt8} (h : glB F L = false) : glC F L = 1 ∧ glR F L = [] := by unfold glC glR; rw [h]; exact ⟨rfl, rfl⟩
theorem gl_ok {F : Fc} {L : List UInt8} (h : glB F L = true) : glC F L = 0 ∧ glR F L = lwL F L := by unfold glC glR; rw [h]; exact ⟨rfl, rfl⟩
theorem gl_parts {F : Fc} {L : List UInt8} (h : glB F L = true) : vface F = true ∧ vtext L = true := by
  unfold glB at h; simpa only [Bool.and_eq_true] using h

set_option maxRecDepth 100000 in
set_option maxHeartbeats 8000000 in
theorem goldFor_gln (F : Fc) (hF : F.ok) (A : Option Addr) (c : Nat) (s : ByteArray) (hs : s.size ≤ maxLen) (w : World) (hG : Glob w) (hA : PairsAt w w.heap.size A F.ps) :
    Calls Tryz.prog 249 #[.iface 261 (.agg (gln F (.slice A F.ps.length c) s).toArray)] w (IntsBack (glR F s.data.toList) (glC F s.data.toList) w) := by
  have HV := hide (lineValid_any F hF A c s hs w hA)
  have hm1 := fun w => meth_validL (.agg (gln F (.slice A F.ps.length c) s).toArray) w
  have hm2 : ∀ w, (method 468 261 (.agg (gln F (.slice A F.ps.length c) s).toArray) "loop.example/g01398/impl.letterWides").run Tryz.prog w = .ok (326, .agg (gln F (.slice A F.ps.length c) s).toArray) w := fun w => meth_widesL _ w
  have HO := hide (fun W => overOf_gln (.agg (gln F (.slice A F.ps.length c) s).toArray) W)
  change Hid (Calls _ _ _ _ fun e w' => e = .returned (.bool (glB F s.data.toList)) ∧ Below w.heap.size w w') at HV
  cases hb : glB F s.data.toList
  · obtain ⟨e1, e2⟩ := gl_no hb
    rw [e1, e2]
    rw [hb] at HV
    clear hA hG e1 e2 hb hs
    generalize (gln F (.slice A F.ps.length c) s).toArray = cells at *
    go_enter Tryz.func249, Tryz.ntmps249
    go_wp2_with (go_at_call 325; refine HV.out.mono ?_; rintro e w1 ⟨rfl, hb1⟩)
    go_ret2
    exact ⟨none, 0, rfl, IntsIn.empty _ _ _, hb1⟩
  · obtain ⟨e1, e2⟩ := gl_ok hb
    obtain ⟨hv, ht⟩ := gl_parts hb
    rw [e1, e2]
    rw [hb] at HV
    have HLW := hide (fun W h => letterWides_any F hF A c s W ht h)
    have HG := hide hG
    have hn60 := lwL_n (F := F) ht
    have HBD := hide (lwL_bd hF hv ht)
    have HAA := hide (adT_all 0 (lwL F s.data.toList))
    have HAL := hide (adT_len 0 (lwL F s.data.toList))
    rw [map_add0] at HAA
    generalize lwL F s.data.toList = R at *
    clear hA hG e1 e2 hb hs hv ht
    generalize (gln F (.slice A F.ps.length c) s).toArray = cells at *
    obtain ⟨n, hN⟩ : ∃ n, R.length = n := ⟨_, rfl⟩
    have HN := hide hN
    rw [hN] at hn60 HAA HAL
    unfold IntsB at HLW
    rw [hN] at HLW
    clear hN
    go_enter Tryz.func249, Tryz.ntmps249
    go_wp2_with (first | (go_at_call 325; refine HV.out.mono ?_; rintro e w1 ⟨rfl, hb1⟩) | (go_at_call 326; refine (HLW.out _ (HG.out.below hb1)).mono ?_; rintro e w2 ⟨A2, c2, rfl, hc2, hI2, hb2⟩) | (go_at_call 275; refine (HO.out _).mono ?_; rintro e w3 ⟨rfl, rfl⟩))
    have hI3 := hI2
    have hB3 := hb1.trans (hb2.mono hb1.size)
    clear hI2 hb2
    go_loopw [16] (fun i wr => ∃ k : Nat, k ≤ n ∧ i = .int .i64 k ∧ IntsIn wr w1.heap.size A2 (adT 0 R k) ∧ Below w.heap.size w wr) (fun i _ => n - (intOf i).toNat)
    case atStart => exact ⟨0, Nat.zero_le _, rfl, by rw [adT_zero]; exact hI3, hB3⟩
    case round =>
      clear hI3 hB3
      obtain ⟨k, hk, rfl, hI, hB⟩ := hrel
      have hal := HAL.out k
      by_cases hlt : k < n
      · obtain ⟨b, o, rfl, hbl, hbl2, hxs, hth⟩ := hI (by intro e; rw [e] at hal; simp at hal; omega)
        obtain ⟨x, hx⟩ : ∃ x, R[k]? = some x := ⟨R[k]'(by rw [HN.out]; exact hlt), List.getElem?_eq_getElem _⟩
        obtain ⟨x1, x2⟩ := HBD.out x (List.mem_of_getElem? hx)
        have c0 := hxs k x (adT_get hx)
        have f0 := (hth k (by rw [hal]; exact hlt)).2
        have hi : (k : Int) < n := by omega
        have h0 : (0 : Int) ≤ k := by omega
        have HS := hide (adT_set (o := 0) hx)
        have hI4 := hI.put rfl (i := k) (by rw [hal]; exact hlt) (x + 0)
        rw [HS.out, Int.add_zero] at hI4
        have HI4 := hide hI4
        have hw1 := hb1.size
        clear hI hI4 hxs hth hx hal
        go_wp2
        exact ⟨⟨k + 1, by omega, by go_num, HI4.out, hB.setCell (p := ⟨b, o + k, none⟩) (by show w.heap.size ≤ b; omega) _⟩, by simp [intOf]; omega⟩
      · obtain rfl : k = n := by omega
        rw [HAA.out] at hI
        have HI := hide hI
        clear hI hal
        go_wp2
        go_ret2
        exact ⟨A2, c2, by rw [HN.out]; rfl, HI.out.wider hb1.size, hB⟩

end Go.Proofs.YtngondeaeipcfaaGreatDoor

namespace Go.Proofs.YtngondeaeipcfaaGreatDoor
open Go Go.RowKit

/-- What a letter costs; the letters of a text. -/
def lpr (F : Fc) (P : List Int) (b : UInt8) : Int := P.getD (b.toNat - 65) 0 + P.getD 26 0 * lwd F b
def lprL (F : Fc) (P : List Int) (L : List UInt8) : List Int := (lettL L).map (lpr F P)
theorem lpr_bd {F : Fc} (hF : F.ok) (h : vface F = true) {P : List Int} (hP : P.length = 29) (hv : vprc P = true) {L : List UInt8} (ht : vtext L = true) {b : UInt8} (hb : b ∈ lettL L) :
    (0 ≤ P.getD (b.toNat - 65) 0 ∧ P.getD (b.toNat - 65) 0 ≤ 1000) ∧ (0 ≤ P.getD 26 0 ∧ P.getD 26 0 ≤ 1000) ∧ (0 ≤ P.getD 26 0 * lwd F b ∧ P.getD 26 0 * lwd F b ≤ 40000) ∧ 0 ≤ lpr F P b ∧ lpr F P b ≤ 41000 := by
  have hc := lett_cap ht hb
  have h1 := vprc_at hv (k := b.toNat - 65) (by omega)
  have h2 := vprc_at hv (k := 26) (by omega)
  have h3 := lw_bd hF h ht b hb
  have h4 : 0 ≤ P.getD 26 0 * lwd F b := Int.mul_nonneg h2.1 (by omega)
  have h5 : P.getD 26 0 * lwd F b ≤ 1000 * 40 := Int.mul_le_mul h2.2 h3.2 (by omega) (by omega)
  unfold lpr
  omega
theorem lprL_bd {F : Fc} (hF : F.ok) (h : vface F = true) {P : List Int} (hP : P.length = 29) (hv : vprc P = true) {L : List UInt8} (ht : vtext L = true) : ∀ x ∈ lprL F P L, 0 ≤ x ∧ x ≤ 41000 := fun x hx => by
  obtain ⟨b, hb, rfl⟩ := List.mem_map.1 hx
  exact (lpr_bd hF h hP hv ht hb).2.2.2
theorem lprL_len (F : Fc) (P : List Int) (L : List UInt8) : (lprL F P L).length = (lettL L).length := List.length_map _
theorem lprL_n {F : Fc} {P : List Int} {L : List UInt8} (ht : vtext L = true) : (lprL F P L).length ≤ 60 := by rw [lprL_len]; exact Nat.le_trans (lettL_len L) (vtext_true.1 ht).1
/-- The prices of the first k letters, the widths of the others. -/
def pqT (F : Fc) (P : List Int) (M : List UInt8) (k : Nat) : List Int := (M.take k).map (lpr F P) ++ (M.drop k).map (lwd F)
theorem pqT_zero (F : Fc) (P : List Int) (M : List UInt8) : pqT F P M 0 = M.map (lwd F) := by simp [pqT]
theorem pqT_all (F : Fc) (P : List Int) (M : List UInt8) : pqT F P M M.length = M.map (lpr F P) := by simp [pqT]
theorem pqT_len (F : Fc) (P : List Int) (M : List UInt8) (k : Nat) : (pqT F P M k).length = M.length := by simp [pqT]; omega
theorem pqT_get {F : Fc} {P : List Int} {M : List UInt8} {k : Nat} {b : UInt8} (h : M[k]? = some b) : (pqT F P M k)[k]? = some (lwd F b) := by
  have hk := (List.getElem?_eq_some_iff.1 h).1
  unfold pqT
  rw [List.getElem?_append_right (by simp; omega)]
  simp only [List.length_map, List.length_take, Nat.min_eq_left (Nat.le_of_lt hk), Nat.sub_self, List.getElem?_map, List.getElem?_drop, Nat.add_zero]
  rw [h]; rfl
theorem pqT_set {F : Fc} {P : List Int} {M : List UInt8} {k : Nat} {b : UInt8} (h : M[k]? = some b) : (pqT F P M k).set k (lpr F P b) = pqT F P M (k + 1) := by
  obtain ⟨hk, e⟩ := List.getElem?_eq_some_iff.1 h
  unfold pqT
  rw [List.set_append_right _ _ (by simp; omega)]
  simp only [List.length_map, List.length_take, Nat.min_eq_left (Nat.le_of_lt hk), Nat.sub_self]
  rw [List.drop_eq_getElem_cons hk, List.map_cons, List.set_cons_zero, List.take_succ_eq_append_getElem hk, List.map_append, e]
  simp
noncomputable def ppB (F : Fc) (P : List Int) (L : List UInt8) : Bool := vface F && vtext L && vprc P
noncomputable def ppC (F : Fc) (P : List Int) (L : List UInt8) : Int := if ppB F P L = true then 0 else 1
noncomputable def ppR (F : Fc) (P : List Int) (L : List UInt8) : List Int := if ppB F P L = true then lprL F P L else []
noncomputable def ppV (F : Fc) (P : List Int) (L : List UInt8) : Int := if ppB F P L = true then P.getD 27 0 + sumT (lprL F P L) (lprL F P L).length else 0
theorem pp_no {F : Fc} {P : List Int} {L : List UInt8} (h : ppB F P L = false) : ppC F P L = 1 ∧ ppR F P L = [] ∧ ppV F P L = 0 := by unfold ppC ppR ppV; rw [h]; exact ⟨rfl, rfl, rfl⟩
theorem pp_ok {F : Fc} {P : List Int} {L : List UInt8} (h : ppB F P L = true) : ppC F P L = 0 ∧ ppR F P L = lprL F P L ∧ ppV F P L = P.getD 27 0 + sumT (lprL F P L) (lprL F P L).length := by unfold ppC ppR ppV; rw [h]; exact ⟨rfl, rfl, rfl⟩
theorem pp_parts {F : Fc} {P : List Int} {L : List UInt8} (h : ppB F P L = true) : vface F = true ∧ vtext L = true ∧ vprc P = true := by
  unfold ppB at h; simp only [Bool.and_eq_true] at h; exact ⟨h.1.1, h.1.2, h.2⟩

set_option maxRecDepth 100000 in
set_option maxHeartbeats 16000000 in
theorem letterPrices_any (F : Fc) (hF : F.ok) (A : Option Addr) (c : Nat) (P : List Int) (hP : P.length = 29) (hPx : ∀ x ∈ P, i16ok x) (s : ByteArray) (hs : s.size ≤ maxLen) (w : World) (hG : Glob w) (hA : PairsAt w w.heap.size A F.ps) :
    Calls Tryz.prog 191 #[.agg (fc F (.slice A F.ps.length c)).toArray, .agg (pw P).toArray, .string s] w (IntsBack (ppR F P s.data.toList) (ppC F P s.data.toList) w) := by
  have b0 : Below w.heap.size w ((w.alloc (.cells (fc F (.slice A F.ps.length c)).toArray 28)).alloc (.cells (pw P).toArray 90)) := ((Below.refl _ _).alloc (Nat.le_refl _) _).alloc (by simp) _
  have r0 := World.rangeAt_alloc (rangeAt_new w (fc F (.slice A F.ps.length c)) 28) (.cells (pw P).toArray 90)
  have r1 := rangeAt_newg (w := w.alloc (.cells (fc F (.slice A F.ps.length c)).toArray 28)) (cs := (pw P).toArray) (t := 90) (g := w.heap.size + 1) (l := pw P) (by simp) rfl
  have s0 : w.heap.size + 1 < ((w.alloc (.cells (fc F (.slice A F.ps.length c)).toArray 28)).alloc (.cells (pw P).toArray 90)).heap.size := by simp
  have HI29 := hide (show (Tryz.prog.info? 28).map (·.size) = some (fc F (.slice A F.ps.length c)).length from by rw [fc_length hF.len]; kernel_rfl)
  have HIP := hide (show (Tryz.prog.info? 90).map (·.size) = some (pw P).length from by rw [pw_length, hP]; kernel_rfl)
  have hbl := built_gln hF.len (.slice A F.ps.length c) s
  have HGO := hide (fun W h1 h2 => goldFor_gln F hF A c s hs W h1 h2)
  have HVP := hide (fun W => implValidPrices_any P hP hPx W)
  have HA := hide ((hA.below b0).mono b0.size)
  have HG := hide (hG.below b0)
  have HPB := hide (show ppB F P s.data.toList = (glB F s.data.toList && vprc P) from rfl)
  unfold maxLen at hs
  cases hg : glB F s.data.toList
  · obtain ⟨e1, e2⟩ := gl_no hg
    obtain ⟨d1, d2, _⟩ := pp_no (F := F) (P := P) (L := s.data.toList) (by rw [HPB.out, hg]; rfl)
    rw [d1, d2]
    rw [e1, e2] at HGO
    clear e1 e2 d1 d2 hg hA hG hPx
    generalize fc F (.slice A F.ps.length c) = fcs at *
    generalize (gln F (.slice A F.ps.length c) s).toArray = gcs at *
    go_enter Tryz.func191, Tryz.ntmps191
    repeat (first | (refine wpList_load_mid rfl 28 (.tmp 3) rfl _ 0 rfl fcs _ r0 Tryz.underlying28 rfl HI29.out ?_) | (refine wpList_build_eq rfl 261 _ rfl hbl (by first | (simp only [List.map_toArray, List.map_cons, List.map_nil]; rfl) | kernel_rfl) ?_) | go_step)
    refine (HGO.out _ HG.out HA.out).mono ?_
    rintro e w1 ⟨A1, c1, rfl, hI1, hb1⟩
    go_wp2
    go_ret2
    exact ⟨none, 0, rfl, IntsIn.empty _ _ _, b0.trans (hb1.mono b0.size)⟩
  · obtain ⟨e1, e2⟩ := gl_ok hg
    cases hp : vprc P
    · obtain ⟨d1, d2, _⟩ := pp_no (F := F) (P := P) (L := s.data.toList) (by rw [HPB.out, hg, hp]; rfl)
      rw [d1, d2]
      rw [e1, e2] at HGO
      rw [hp] at HVP
      clear e1 e2 d1 d2 hg hA hG hPx hp
      generalize fc F (.slice A F.ps.length c) = fcs at *
      generalize (gln F (.slice A F.ps.length c) s).toArray = gcs at *
      go_enter Tryz.func191, Tryz.ntmps191
      repeat (first | (refine wpList_load_mid rfl 28 (.tmp 3) rfl _ 0 rfl fcs _ r0 Tryz.underlying28 rfl HI29.out ?_) | (refine wpList_build_eq rfl 261 _ rfl hbl (by first | (simp only [List.map_toArray, List.map_cons, List.map_nil]; rfl) | kernel_rfl) ?_) | go_step)
      refine (HGO.out _ HG.out HA.out).mono ?_
      rintro e w1 ⟨A1, c1, rfl, hI1, hb1⟩
      have r1' := rangeAt_below r1 hb1 s0
      have hB1 := b0.trans (hb1.mono b0.size)
      go_wp2_with (first | (refine wpList_load_mid_g rfl 90 (.tmp 4) rfl _ 0 rfl (pw P) _ r1' Tryz.underlying90 rfl HIP.out ?_) | (go_at_call 250; refine (HVP.out _).mono ?_; rintro e w2 ⟨rfl, hb2⟩))
      go_ret2
      exact ⟨none, 0, rfl, IntsIn.empty _ _ _, hB1.trans (hb2.mono hB1.size)⟩
    · obtain ⟨d1, d2, _⟩ := pp_ok (F := F) (P := P) (L := s.data.toList) (by rw [HPB.out, hg, hp]; rfl)
      obtain ⟨hv, ht⟩ := gl_parts hg
      rw [d1, d2]
      rw [e1, e2] at HGO
      rw [hp] at HVP
      have hs60 : s.size ≤ 60 := by have := (vtext_true.1 ht).1; simpa using this
      have HLB := hide (fun b hb => lpr_bd hF hv hP hp ht (b := b) hb)
      have HCAP := hide (fun b hb => lett_cap ht (b := b) hb)
      have HL := hide (fun W hW => lettersOf_any s W (by omega) hW)
      have HPP := hide hP
      have HPQ0 := hide (pqT_zero F P (lettL s.data.toList))
      change Hid (_ = lwL F s.data.toList) at HPQ0
      have HPQA := hide (pqT_all F P (lettL s.data.toList))
      change Hid (_ = lprL F P s.data.toList) at HPQA
      have HPQL := hide (pqT_len F P (lettL s.data.toList))
      have HWL := hide (lwL_len F s.data.toList)
      have HRL := hide (lprL_len F P s.data.toList)
      have hm60 : (lettL s.data.toList).length ≤ 60 := by have := lettL_len s.data.toList; have e : s.data.toList.length = s.size := by simp
                                                          omega
      generalize lwL F s.data.toList = LW at *
      generalize lprL F P s.data.toList = LP at *
      generalize lettL s.data.toList = M at *
      obtain ⟨n, hN⟩ : ∃ n, M.length = n := ⟨_, rfl⟩
      have HN := hide hN
      rw [hN] at HPQA HPQL HWL HRL hm60
      clear e1 e2 d1 d2 hg hA hG hPx hp hv ht hN hP
      generalize fc F (.slice A F.ps.length c) = fcs at *
      generalize (gln F (.slice A F.ps.length c) s).toArray = gcs at *
      go_enter Tryz.func191, Tryz.ntmps191
      repeat (first | (refine wpList_load_mid rfl 28 (.tmp 3) rfl _ 0 rfl fcs _ r0 Tryz.underlying28 rfl HI29.out ?_) | (refine wpList_build_eq rfl 261 _ rfl hbl (by first | (simp only [List.map_toArray, List.map_cons, List.map_nil]; rfl) | kernel_rfl) ?_) | go_step)
      refine (HGO.out _ HG.out HA.out).mono ?_
      rintro e w1 ⟨A1, c1, rfl, hI1, hb1⟩
      rw [HWL.out]
      have r1' := rangeAt_below r1 hb1 s0
      have hB1 := b0.trans (hb1.mono b0.size)
      go_wp2_with (first | (refine wpList_load_mid_g rfl 90 (.tmp 4) rfl _ 0 rfl (pw P) _ r1' Tryz.underlying90 rfl HIP.out ?_) | (go_at_call 250; refine (HVP.out _).mono ?_; rintro e w2 ⟨rfl, hb2⟩))
      have hB2 := hB1.trans (hb2.mono hB1.size)
      refine (HL.out _ ((HG.out.below hb1).below hb2)).mono ?_
      rintro e w3 ⟨rfl, hb3⟩
      obtain ⟨W4, c4, hcv, hb4, hcells4, hlt4⟩ := bytes_new2 ⟨M.toArray⟩ w3
      have hMS : (⟨M.toArray⟩ : ByteArray).size = M.length := by simp [ByteArray.size]
      rw [hMS, HN.out] at hcv
      have HBL := hide (fun b o (e : A1 = some ⟨b, o, none⟩) (hn : 0 < n) => show b < w3.heap.size from by
        obtain ⟨b', o', e', _, h2, _⟩ := hI1 (by intro h; have := HWL.out; rw [h] at this; simp at this; omega)
        rw [e] at e'; injection e' with e'; injection e' with e1 _; subst e1
        exact Nat.lt_of_lt_of_le h2 (Nat.le_trans hb2.size hb3.size))
      have hb34 := hb3.trans (hb4.mono hb3.size)
      have hb24 := hb2.trans (hb34.mono hb2.size)
      have hb14 := hb1.trans (hb24.mono hb1.size)
      have hI4 := hI1.go hb24
      have HB4 := hide (b0.trans (hb14.mono b0.size))
      have HR4 := hide (rangeAt_below r1 hb14 s0)
      have HCE := hide hcells4
      have hz4 : w.heap.size + 1 < W4.heap.size := Nat.lt_of_lt_of_le s0 hb14.size
      have hz3 : w3.heap.size ≤ W4.heap.size := hb4.size
      have hwL : w.heap.size + 2 = ((w.alloc (.cells fcs.toArray 28)).alloc (.cells (pw P).toArray 90)).heap.size := by simp
      have hz34 : w.heap.size + 2 ≤ w3.heap.size := by rw [hwL]; exact Nat.le_trans hb1.size (Nat.le_trans hb2.size hb3.size)
      have hbw := b0.size
      have hI4' := hI4.wider (L' := w.heap.size + 2) (by omega)
      have HI4 := hide hI4'
      clear hb1 hb2 hb3 hb4 hb34 hb24 hb14 hI1 hI4 hI4' hB1 hB2 r0 r1 r1' b0 hcells4 HA HG HGO HVP HL hbl
      have hws4 : w3.heap.size < W4.heap.size := hlt4
      clear hlt4 hMS
      go_wp2
      go_loopw [31] (fun i wr => ∃ k : Nat, k ≤ n ∧ i = .int .i64 k ∧ IntsIn wr (w.heap.size + 2) A1 (pqT F P M k) ∧ Below (w.heap.size + 2) W4 wr ∧ BytesAt wr w3.heap.size M) (fun i _ => n - (intOf i).toNat)
      case atStart => exact ⟨0, Nat.zero_le _, rfl, by rw [HPQ0.out]; exact HI4.out, Below.refl _ _, HCE.out⟩
      case round =>
        obtain ⟨k, hk, rfl, hI, hB, hby⟩ := hrel
        have hpl := HPQL.out k
        have HBY := hide hby
        have hbs := hB.size
        clear hby hcv
        by_cases hlt : k < n
        · obtain ⟨b, o, rfl, hbl, hbl2, hxs, hth⟩ := hI (by intro e; rw [e] at hpl; simp at hpl; omega)
          have hbb := HBL.out b o rfl (by omega)
          obtain ⟨bt, hbt⟩ : ∃ bt, M[k]? = some bt := ⟨M[k]'(by rw [HN.out]; exact hlt), List.getElem?_eq_getElem _⟩
          have hmem := List.mem_of_getElem? hbt
          obtain ⟨h65, h90⟩ := HCAP.out bt hmem
          obtain ⟨⟨p1, p2⟩, ⟨g1, g2⟩, ⟨m1, m2⟩, t1, t2⟩ := HLB.out bt hmem
          have hbx : byteAt M k = (bt.toNat : Int) := by simp [byteAt, List.getD, hbt]
          have cb : wr.cell? ⟨w3.heap.size, k, none⟩ = some (.int .u8 (bt.toNat : Int)) := by
            rw [← hbx]; exact (HBY.out k (by rw [HN.out]; exact hlt)).1
          have cx := hxs k _ (pqT_get hbt)
          have fx := (hth k (by rw [hpl]; exact hlt)).2
          have hrP := rangeAt_below HR4.out hB (by omega)
          obtain ⟨j, hj⟩ : ∃ j : Nat, bt.toNat = j + 65 := ⟨bt.toNat - 65, by omega⟩
          have hj26 : j < 26 := by omega
          have cP := rangeAt_cell hrP (pw_get (k := j) (by rw [HPP.out]; omega))
          have cG := rangeAt_cell hrP (pw_get (k := 26) (by rw [HPP.out]; omega))
          have HS := hide (pqT_set (F := F) (P := P) hbt)
          have hI4 := hI.put rfl (i := k) (by rw [hpl]; exact hlt) (lpr F P bt)
          rw [HS.out] at hI4
          have HI5 := hide hI4
          have hcp : cap (bt.toNat : Int) = true := cap_true.2 (by omega)
          have HIX := hide (fun W => index_any (bt.toNat : Int) W hcp)
          have e1 : (bt.toNat : Int) - 65 = j := by omega
          rw [e1] at HIX
          have e2 : bt.toNat - 65 = j := by omega
          have HLP : Hid (lpr F P bt = P.getD j 0 + P.getD 26 0 * lwd F bt) := hide (by unfold lpr; rw [e2])
          rw [HLP.out] at t1 t2
          rw [e2] at p1 p2
          generalize P.getD j 0 = pj at *
          generalize P.getD 26 0 = pg at *
          generalize lwd F bt = lw at *
          generalize (bt.toNat : Int) = x at cb HIX
          have hi : (k : Int) < n := by omega
          have hk0 : (0 : Int) ≤ k := by omega
          have hji : (j : Int) < 26 := by omega
          have hj0 : (0 : Int) ≤ j := by omega
          have hw1 := IntWalk.i64_in pj ⟨by omega, by omega⟩
          have hw2 := IntWalk.i64_in pg ⟨by omega, by omega⟩
          have hw3 := IntWalk.i64_in (pg * lw) ⟨by omega, by omega⟩
          have hw4 := IntWalk.i64_in (pj + pg * lw) ⟨by omega, by omega⟩
          clear hI hI4 hxs hth hbt hmem h65 h90 hbx hrP hj hcp e1 e2 hpl
          go_wp2
          go_region_law (first | (go_simp; go_at_call 213; refine (HIX.out _).mono ?_; rintro e w7 ⟨rfl, rfl⟩))
          all_goals
            go_wp2
            refine ⟨⟨k + 1, by omega, by go_num, ?_, ?_, ?_⟩, by simp [intOf]; omega⟩
            · have := HI5.out; rw [HLP.out] at this; exact this.go ((Below.refl _ _).drew)
            · exact (hB.setCell (p := ⟨b, o + k, none⟩) hbl _).drew
            · intro t ht
              have hh := HBY.out t ht
              refine ⟨(World.cell?_setCell_other _ _ _ _ (by intro he; injection he with he1 he2; omega)).trans hh.1, ?_⟩
              show (World.setCell _ _ _).frozen? _ = false
              rw [World.frozen?_setCell]; exact hh.2
        · obtain rfl : k = n := by omega
          rw [HPQA.out] at hI
          have HI := hide hI
          clear hI hpl
          go_wp2
          go_ret2
          exact ⟨A1, c1, by rw [HRL.out]; rfl, HI.out.wider (by omega), HB4.out.trans (hB.mono (by omega))⟩
end Go.Proofs.YtngondeaeipcfaaGreatDoor

namespace Go.Proofs.YtngondeaeipcfaaGreatDoor
open Go Go.RowKit

/-! The program -/
set_option maxRecDepth 100000 in
set_option maxHeartbeats 8000000 in
theorem implPriceOf_any (F : Fc) (hF : F.ok) (A : Option Addr) (c : Nat) (P : List Int) (hP : P.length = 29) (hPx : ∀ x ∈ P, i16ok x) (s : ByteArray) (hs : s.size ≤ maxLen) (w : World) (hG : Glob w) (hA : PairsAt w w.heap.size A F.ps) :
    Calls Tryz.prog 96 #[.agg (fc F (.slice A F.ps.length c)).toArray, .agg (pw P).toArray, .string s] w fun e w' => e = .returned (.tuple #[.int .i64 (ppV F P s.data.toList), .int .i64 (ppC F P s.data.toList)]) ∧ Below w.heap.size w w' := by
  have b0 : Below w.heap.size w ((w.alloc (.cells (fc F (.slice A F.ps.length c)).toArray 28)).alloc (.cells (pw P).toArray 90)) := ((Below.refl _ _).alloc (Nat.le_refl _) _).alloc (by simp) _
  have r0 := World.rangeAt_alloc (rangeAt_new w (fc F (.slice A F.ps.length c)) 28) (.cells (pw P).toArray 90)
  have r1 := rangeAt_newg (w := w.alloc (.cells (fc F (.slice A F.ps.length c)).toArray 28)) (cs := (pw P).toArray) (t := 90) (g := w.heap.size + 1) (l := pw P) (by simp) rfl
  have s0 : w.heap.size + 1 < ((w.alloc (.cells (fc F (.slice A F.ps.length c)).toArray 28)).alloc (.cells (pw P).toArray 90)).heap.size := by simp
  have HI29 := hide (show (Tryz.prog.info? 28).map (·.size) = some (fc F (.slice A F.ps.length c)).length from by rw [fc_length hF.len]; kernel_rfl)
  have HIP := hide (show (Tryz.prog.info? 90).map (·.size) = some (pw P).length from by rw [pw_length, hP]; kernel_rfl)
  have HLP := hide (fun W h1 h2 => letterPrices_any F hF A c P hP hPx s hs W h1 h2)
  have HA := hide ((hA.below b0).mono b0.size)
  have HG := hide (hG.below b0)
  have c27 := rangeAt_cell r1 (pw_get (k := 27) (by rw [hP]; omega))
  unfold maxLen at hs
  cases hb : ppB F P s.data.toList
  · obtain ⟨e1, e2, e3⟩ := pp_no hb
    rw [e1, e3]
    rw [e1, e2] at HLP
    clear e1 e2 e3 hb hA hG hPx c27
    generalize fc F (.slice A F.ps.length c) = fcs at *
    go_enter Tryz.func96, Tryz.ntmps96
    repeat (first | (refine wpList_load_mid rfl 28 (.tmp 3) rfl _ 0 rfl fcs _ r0 Tryz.underlying28 rfl HI29.out ?_) | (refine wpList_load_mid rfl 90 (.tmp 4) rfl _ 0 rfl (pw P) _ r1 Tryz.underlying90 rfl HIP.out ?_) | go_step)
    refine (HLP.out _ HG.out HA.out).mono ?_
    rintro e w1 ⟨A1, c1, rfl, hI1, hb1⟩
    go_wp2
    go_ret2
    exact ⟨rfl, b0.trans (hb1.mono b0.size)⟩
  · obtain ⟨e1, e2, e3⟩ := pp_ok hb
    obtain ⟨hv, ht, hp⟩ := pp_parts hb
    rw [e1, e3]
    rw [e1, e2] at HLP
    have hbd := lprL_bd hF hv hP hp ht
    have hn60 := lprL_n (F := F) (P := P) ht
    have hsb := sumT_bd hbd (lprL F P s.data.toList).length (Nat.le_refl _)
    have HSU := hide (fun A c W h => sumOfG_any A (lprL F P s.data.toList) c W hn60 (fun x hx => by have := hbd x hx; omega) h)
    obtain ⟨b1, b2⟩ := vprc_at hp (k := 27) (by omega)
    have hsb2 : sumT (lprL F P s.data.toList) (lprL F P s.data.toList).length ≤ 2460000 := by omega
    obtain ⟨hsb1, _⟩ := hsb
    clear e1 e2 e3 hb hA hG hPx hv ht hp hbd
    generalize fc F (.slice A F.ps.length c) = fcs at *
    generalize sumT (lprL F P s.data.toList) (lprL F P s.data.toList).length = S at *
    generalize lprL F P s.data.toList = LP at *
    generalize P.getD 27 0 = pb at *
    have hw1 := IntWalk.i64_in pb ⟨by omega, by omega⟩
    have hw2 := IntWalk.i64_in (pb + S) ⟨by omega, by omega⟩
    go_enter Tryz.func96, Tryz.ntmps96
    repeat (first | (refine wpList_load_mid rfl 28 (.tmp 3) rfl _ 0 rfl fcs _ r0 Tryz.underlying28 rfl HI29.out ?_) | (refine wpList_load_mid rfl 90 (.tmp 4) rfl _ 0 rfl (pw P) _ r1 Tryz.underlying90 rfl HIP.out ?_) | go_step)
    refine (HLP.out _ HG.out HA.out).mono ?_
    rintro e w1 ⟨A1, c1, rfl, hI1, hb1⟩
    have cB := (hb1.cell (p := ⟨w.heap.size + 1, 27, none⟩) s0).trans c27
    have hcs := Over.get (W := w1) cB
    have hB1 := b0.trans (hb1.mono b0.size)
    have HSV := hide (fun W (h : Below w1.heap.size w1 W) => HSU.out A1 c1 W (hI1.at_.go h))
    clear c27 r0 r1 hb1 cB
    go_wp2
    refine wp_region_over (by kernel_rfl) (by kernel_rfl) ?_
    repeat (go_big_quiet_step ((go_at_call 193; exact over_same (HSV.out _ (Over.h _)))))
    refine wpQuiet_nil ?_
    intro w2 hb2
    go_wp2
    go_ret2
    exact ⟨rfl, hB1.trans (hb2.mono hB1.size)⟩

/-! The model -/
/-- Letters come back. -/
def LtB (M : List UInt8) (w : World) : Ending → World → Prop := fun e w' => ∃ v, e = .returned v ∧ w'.ownsRow w.heap.size 5 1 v M.length (Lib.byteCells M) ∧ Below w.heap.size w w'

set_option maxRecDepth 100000 in
set_option maxHeartbeats 8000000 in
theorem l06Letters_any (s : ByteArray) (w : World) (hs : s.size ≤ 1048576) :
    Calls Tryz.prog 196 #[.string s] w (LtB (lettL s.data.toList) w) := by
  obtain ⟨i0, hi0, hz0, hz1, hz2⟩ := info_parts Tryz.infoU8
  have HLN : Hid (∀ k, (lettL (s.data.toList.take k)).length ≤ k) := hide (fun k => Nat.le_trans (lettL_len _) (by simp; omega))
  have HTA : Hid (s.data.toList.take s.size = s.data.toList) := hide (by have : s.size = s.data.toList.length := by simp
                                                                         rw [this]; exact List.take_length)
  have HGET := hide (fun (k : Nat) (h : k < s.size) => show s.data.toList[k]? = some s[k] from by
    have h' : k < s.data.toList.length := by simpa using h
    rw [List.getElem?_eq_getElem h']; rfl)
  go_enter Tryz.func196, Tryz.ntmps196
  go_wp2
  go_loopw [3, 4] (fun br i wr => ∃ k : Nat, k ≤ s.size ∧ i = .int .i64 k ∧ wr.ownsRow w.heap.size 5 1 br (lettL (s.data.toList.take k)).length (Lib.byteCells (lettL (s.data.toList.take k))) ∧ Below w.heap.size w wr)
    (fun _ i _ => s.size - (intOf i).toNat)
  case atStart => exact ⟨0, Nat.zero_le _, rfl, World.ownsRow_made w _ 0 (Nat.le_refl _) (by unfold maxLen; omega) rfl, (Below.refl _ _).alloc (Nat.le_refl _) _⟩
  case round =>
    obtain ⟨k, hk, rfl, hown, hB⟩ := hrel
    obtain ⟨Ab, cbb, rfl, hcap, _⟩ := cellsIn_of_own hown (by omega)
    have hbs := hB.size
    have HOWN := hide hown
    have hln := HLN.out k
    clear hown
    by_cases hlt : k < s.size
    · have hi : (k : Int) < s.size := by omega
      have hk0 : (0 : Int) ≤ k := by omega
      have hg := HGET.out k hlt
      cases h32 : ((s[k].toNat : Int) == 32)
      · have hne : ((s[k].toNat : Int) != 32) = true := by simp [bne, h32]
        have hn32 : s[k] ≠ 32 := by intro e; rw [e] at h32; simp at h32
        have HE : Hid (lettL (s.data.toList.take (k + 1)) = lettL (s.data.toList.take k) ++ [s[k]]) := hide (by unfold lettL; rw [List.take_add_one, hg]; simp [hn32])
        clear hg hn32
        go_wp2_with (at_builtin; refine wpList_append_own _ rfl (.tmp 16) (.tmp 20) 22 rfl w.heap.size 5 i0 (.int .u8 0) 1 1 Tryz.underlying22 hi0 hz0 hz1 hz2 rfl (by decide) _ (lettL (s.data.toList.take k)).length _ rfl (HOWN.out.alloc _) ⟨wr.heap.size, 0, none⟩ 1 1 [.int .u8 (s[k].toNat : Int)] rfl rfl (one_cell _) (one_one rfl) ?h1 ?h2 ?h3 ?_)
        case h1 => unfold maxLen; omega
        case h2 => omega
        case h3 => simp; omega
        intro v' w4 hown4 hg4 _
        obtain ⟨A4, c4, rfl, _, _⟩ := cellsIn_of_own hown4 (by omega)
        have H4 := hide hown4
        have hg34 : wr.grownBy w4 _ := grown_trans (World.grownBy_alloc wr _ _) hg4
        have hB4 := hB.trans (grown_toBelow hg34 (by omega) (fun k hk => (HOWN.out.lt k hk).1))
        clear hown4 hg4 hg34
        go_wp2
        refine ⟨⟨k + 1, by omega, by go_num, ?_, hB4⟩, by simp [intOf]; omega⟩
        rw [HE.out, Lib.byteCells_append, List.length_append]
        exact H4.out
      · have hne : ((s[k].toNat : Int) != 32) = false := by simp [bne, h32]
        have he32 : s[k] = 32 := UInt8.toNat_inj.1 (by have := eq_of_beq h32; show s[k].toNat = 32; omega)
        have HE : Hid (lettL (s.data.toList.take (k + 1)) = lettL (s.data.toList.take k)) := hide (by unfold lettL; rw [List.take_add_one, hg, he32]; simp)
        clear hg he32
        go_wp2
        refine ⟨⟨k + 1, by omega, by go_num, ?_, hB⟩, by simp [intOf]; omega⟩
        rw [HE.out]
        exact HOWN.out
    · obtain rfl : k = s.size := by omega
      rw [HTA.out] at HOWN
      go_wp2
      go_ret
      rw [HTA.out]
      exact ⟨_, rfl, HOWN.out, hB⟩

set_option maxRecDepth 100000 in
set_option maxHeartbeats 8000000 in
theorem l06Letter_any (F : Fc) (hF : F.ok) (b : Nat) (sl : Value) (P : List Int) (hP : P.length = 29) (b2 : Nat) (bt : UInt8) (w : World) (hc : 65 ≤ bt.toNat ∧ bt.toNat ≤ 90)
    (hb1 : 0 ≤ P.getD (bt.toNat - 65) 0 ∧ P.getD (bt.toNat - 65) 0 ≤ 1000) (hb2 : 0 ≤ P.getD 26 0 ∧ P.getD 26 0 ≤ 1000) (hb3 : 0 ≤ P.getD 26 0 * lwd F bt ∧ P.getD 26 0 * lwd F bt ≤ 40000) (hb4 : 1 ≤ lwd F bt ∧ lwd F bt ≤ 40)
    (hr : w.rangeAt b 0 (fc F sl)) (hr2 : w.rangeAt b2 0 (pw P)) :
    Calls Tryz.prog 197 #[.pointer (some ⟨b, 0, none⟩), .pointer (some ⟨b2, 0, none⟩), .int .u8 (bt.toNat : Int)] w fun e w' => e = .returned (.int .i64 (lpr F P bt)) ∧ Below w.heap.size w w' := by
  obtain ⟨j, hj⟩ : ∃ j : Nat, bt.toNat = j + 65 := ⟨bt.toNat - 65, by omega⟩
  have hj26 : j < 26 := by omega
  have e2 : bt.toNat - 65 = j := by omega
  have HLP : Hid (lpr F P bt = P.getD j 0 + P.getD 26 0 * lwd F bt) := hide (by unfold lpr; rw [e2])
  have cP := rangeAt_cell hr2 (pw_get (k := j) (by rw [hP]; omega))
  have cG := rangeAt_cell hr2 (pw_get (k := 26) (by rw [hP]; omega))
  have cW := rangeAt_cell hr (fc_W hF.len sl hj26)
  have hlw : F.W.getD j 0 = lwd F bt := by unfold lwd; rw [e2]
  rw [hlw] at cW
  rw [e2] at hb1
  obtain ⟨p1, p2⟩ := hb1
  obtain ⟨g1, g2⟩ := hb2
  obtain ⟨m1, m2⟩ := hb3
  obtain ⟨l1, l2⟩ := hb4
  rw [HLP.out]
  generalize P.getD j 0 = pj at *
  generalize P.getD 26 0 = pg at *
  generalize lwd F bt = lw at *
  have hxj : (bt.toNat : Int) - 65 = j := by omega
  have hw0 := IntWalk.u8_in ((bt.toNat : Int) - 65) ⟨by omega, by omega⟩
  rw [hxj] at hw0
  have hji : (j : Int) < 26 := by omega
  have hj0 : (0 : Int) ≤ j := by omega
  have hw1 := IntWalk.i64_in pj ⟨by omega, by omega⟩
  have hw2 := IntWalk.i64_in pg ⟨by omega, by omega⟩
  have hw3 := IntWalk.i64_in (pg * lw) ⟨by omega, by omega⟩
  have hw4 := IntWalk.i64_in (pj + pg * lw) ⟨by omega, by omega⟩
  have hw5 := IntWalk.i64_in lw ⟨by omega, by omega⟩
  clear hr hr2 hlw e2 hj HLP hP hc
  generalize (bt.toNat : Int) = x at *
  go_enter Tryz.func197, Tryz.ntmps197
  go_wp2
  go_quiet (fail)
  go_wp2
  go_ret
  exact ⟨rfl, below_drewN (Below.refl _ _) _⟩

theorem lpr_sum_bd {F : Fc} (hF : F.ok) (h : vface F = true) {P : List Int} (hP : P.length = 29) (hv : vprc P = true) {L : List UInt8} (ht : vtext L = true) : ∀ k, k ≤ (lettL L).length → 0 ≤ sumT (lprL F P L) k ∧ sumT (lprL F P L) k ≤ 2460000 := fun k hk => by
  have h1 := sumT_bd (lprL_bd hF h hP hv ht) k (by rw [lprL_len]; exact hk)
  have h2 := lprL_n (F := F) (P := P) ht
  rw [lprL_len] at h2
  omega

end Go.Proofs.YtngondeaeipcfaaGreatDoor
