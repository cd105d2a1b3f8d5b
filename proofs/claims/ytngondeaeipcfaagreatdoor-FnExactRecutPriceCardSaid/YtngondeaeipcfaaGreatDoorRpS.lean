/- What it costs to cut a line again: the program's. · What it costs to cut a line again: the model's. -/
import Derived.Test.YtngondeaeipcfaaGreatDoorRpP
import Derived.Test.YtngondeaeipcfaaGreatDoorGs
import Derived.Test.YtngondeaeipcfaaGreatDoorBsS
import Derived.Test.YtngondeaeipcfaaGreatDoorKpM
import Derived.Test.YtngondeaeipcfaaGreatDoorBsK
import Derived.Test.YtngondeaeipcfaaGreatDoorHasI
import Derived.Test.YtngondeaeipcfaaGreatDoorTk

namespace Go.Proofs.YtngondeaeipcfaaGreatDoor
open Go Go.RowKit

theorem IntsIn.set {w : World} {L b o k : Nat} {xs : List Int} (h : IntsIn w L (some ⟨b, o, none⟩) xs) (hk : k < xs.length) (v : Int) : IntsIn (w.setCell ⟨b, o + k, none⟩ (.int .i64 v)) L (some ⟨b, o, none⟩) (xs.set k v) := fun _ => by
  obtain ⟨b', o', e, h1, h2, h3, h4⟩ := h (by intro e; rw [e] at hk; simp at hk)
  injection e with e; injection e with e1 e2
  subst e1 e2
  refine ⟨b, o, rfl, h1, by rw [size_setCell]; exact h2, fun j x hx => ?_, by rw [List.length_set]; exact there_set h4 _ _⟩
  by_cases e : k = j
  · subst e
    rw [List.getElem?_set_self hk] at hx
    injection hx with hx
    subst hx
    exact World.cell?_setCell_same' _ _ _ (h4 k hk).1
  · rw [List.getElem?_set_ne e] at hx
    rw [World.cell?_setCell_other _ _ _ _ (by intro he; injection he with _ he; exact e (by omega))]
    exact h3 j x hx

set_option maxRecDepth 100000 in
set_option maxHeartbeats 16000000 in
theorem implRecutPrice_any (F : Fc) (hF : F.ok) (A : Option Addr) (c : Nat) (P : List Int) (hP : P.length = 29) (hPx : ∀ x ∈ P, i16ok x) (s : ByteArray) (hs : s.size ≤ maxLen) (t : ByteArray) (ht : t.size ≤ maxLen) (w : World) (hG : Glob w) (hA : PairsAt w w.heap.size A F.ps) :
    Calls Tryz.prog 92 #[.agg (fc F (.slice A F.ps.length c)).toArray, .agg (pw P).toArray, .string s, .string t] w fun e w' => e = .returned (.tuple #[.int .i64 (rcV F P s.data.toList t.data.toList), .int .i64 (rcC F P s.data.toList t.data.toList)]) ∧ Below w.heap.size w w' := by
  obtain ⟨W0, hW0⟩ : ∃ W0, W0 = ((w.alloc (.cells (fc F (.slice A F.ps.length c)).toArray 28)).alloc (.cells (pw P).toArray 90)) := ⟨_, rfl⟩
  have b0 : Below w.heap.size w W0 := by rw [hW0]; exact ((Below.refl _ _).alloc (Nat.le_refl _) _).alloc (by simp) _
  have r0 : W0.rangeAt w.heap.size 0 (fc F (.slice A F.ps.length c)) := by rw [hW0]; exact World.rangeAt_alloc (rangeAt_new w (fc F (.slice A F.ps.length c)) 28) _
  have r1 : W0.rangeAt (w.heap.size + 1) 0 (pw P) := by rw [hW0]; exact rangeAt_newg (by simp) rfl
  have s0 : W0.heap.size = w.heap.size + 2 := by rw [hW0]; simp
  have HI29 := hide (show (Tryz.prog.info? 28).map (·.size) = some (fc F (.slice A F.ps.length c)).length from by rw [fc_length hF.len]; kernel_rfl)
  have HIP := hide (show (Tryz.prog.info? 90).map (·.size) = some (pw P).length from by rw [pw_length, hP]; kernel_rfl)
  have hA0 := (hA.below b0).mono b0.size
  have hG0 := hG.below b0
  have HLP := hide (letterPrices_any F hF A c P hP hPx t ht W0 hG0 hA0)
  have HS := hide (fun W => implValidText_any s W hs)
  have HW0 := hide hW0
  have HRB := hide (show rcB F P s.data.toList t.data.toList = (vface F && (vtext s.data.toList && vtext t.data.toList) && vprc P) from rfl)
  have HPB := hide (show ppB F P t.data.toList = (vface F && vtext t.data.toList && vprc P) from rfl)
  have HPP := hide (@pp_parts F P t.data.toList)
  have HNO := hide (@rc_no F P s.data.toList t.data.toList)
  have HOK := hide (@rc_ok F P s.data.toList t.data.toList)
  have HPL := hide (fun (hv : vface F = true) (x : ByteArray) (hx : vtext x.data.toList = true) W (hW : Below W0.heap.size W0 W) => placedIn_any F hF A c x W hv hx (hG0.below hW) (hA0.go hW (Nat.le_refl _)))
  have HBS := hide (fun (hv : vface F = true) (h1 : vtext s.data.toList = true) (h2 : vtext t.data.toList = true) A1 c1 A2 c2 W hA hY =>
    bestShift_any A1 (psL F s.data.toList) c1 A2 (psL F t.data.toList) c2 W (psL_n h1) (psL_n h2) (psL_bd hF hv h1) (psL_bd hF hv h2) (psL_sorted hF hv h1) hA hY)
  have HKA := hide (fun (hv : vface F = true) (h1 : vtext s.data.toList = true) (h2 : vtext t.data.toList = true) A1 c1 A2 c2 W hA hY =>
    keptAt_any A1 (psL F s.data.toList) c1 A2 (psL F t.data.toList) c2 (bsG (cntS (psL F s.data.toList) (psL F t.data.toList)) 400).1 W (psL_n h1) (psL_n h2) (psL_bd hF hv h2) (by have := (bsG_best (cntS (psL F s.data.toList) (psL F t.data.toList)) 400).1.1; omega) hA hY)
  have HCK := hide (fun (hv : vface F = true) (h1 : vtext s.data.toList = true) => show (bsG (cntS (psL F s.data.toList) (psL F t.data.toList)) 400).2 = ((rcK F s.data.toList t.data.toList).length : Nat) from by
    rw [(bsG_best (cntS (psL F s.data.toList) (psL F t.data.toList)) 400).1.2, cnt_kept (psL_incr hF hv h1)]; rfl)
  have HLB := hide (fun (hv : vface F = true) (hp : vprc P = true) (h2 : vtext t.data.toList = true) => lprL_bd hF hv hP hp h2)
  have HVP := hide (fun (h : vprc P = true) => And.intro (vprc_at h (k := 27) (by omega)) (vprc_at h (k := 28) (by omega)))
  have hsm := hs
  have htm := ht
  unfold maxLen at hsm htm
  clear hW0 hA hG hA0 hG0 hs ht hPx
  generalize fc F (.slice A F.ps.length c) = fcs at *
  cases hb : ppB F P t.data.toList
  · obtain ⟨e1, e2, e3⟩ := pp_no hb
    rw [e1, e2] at HLP
    obtain ⟨f1, f2⟩ := HNO.out (by
      rw [HPB.out] at hb
      rw [HRB.out]
      revert hb
      cases vface F <;> cases vtext t.data.toList <;> cases vprc P <;> simp)
    rw [f1, f2]
    clear e1 e2 e3 f1 f2 HPL HBS HKA HCK HLB HPP
    go_enter Tryz.func92, Tryz.ntmps92
    repeat (first | (rw [← HW0.out]) | (refine wpList_load_mid rfl 28 (.tmp 4) rfl _ 0 rfl fcs _ r0 Tryz.underlying28 rfl HI29.out ?_) | (refine wpList_load_mid rfl 90 (.tmp 5) rfl _ 0 rfl (pw P) _ r1 Tryz.underlying90 rfl HIP.out ?_) | go_step)
    refine HLP.out.mono ?_
    rintro e w1 ⟨A1, c1, rfl, hI1, hb1⟩
    go_wp2
    go_ret2
    exact ⟨rfl, b0.trans (hb1.mono b0.size)⟩
  obtain ⟨e1, e2, e3⟩ := pp_ok hb
  rw [e1, e2] at HLP
  obtain ⟨hv, h2, hp⟩ := HPP.out hb
  cases h1 : vtext s.data.toList
  · rw [h1] at HS
    obtain ⟨f1, f2⟩ := HNO.out (by rw [HRB.out, h1]; simp)
    rw [f1, f2]
    clear e1 e2 e3 f1 f2 HPL HBS HKA HCK HLB HPP
    go_enter Tryz.func92, Tryz.ntmps92
    repeat (first | (rw [← HW0.out]) | (refine wpList_load_mid rfl 28 (.tmp 4) rfl _ 0 rfl fcs _ r0 Tryz.underlying28 rfl HI29.out ?_) | (refine wpList_load_mid rfl 90 (.tmp 5) rfl _ 0 rfl (pw P) _ r1 Tryz.underlying90 rfl HIP.out ?_) | go_step)
    refine HLP.out.mono ?_
    rintro e w1 ⟨A1, c1, rfl, hI1, hb1⟩
    have hB1 := b0.trans (hb1.mono b0.size)
    go_wp2_with fail
    refine (HS.out _).mono ?_
    rintro e w2 ⟨rfl, hb2⟩
    go_wp2
    go_ret2
    exact ⟨rfl, hB1.trans (hb2.mono hB1.size)⟩
  rw [h1] at HS
  obtain ⟨f1, f2⟩ := HOK.out (by rw [HRB.out, hv, h1, h2, hp]; rfl)
  rw [f1, f2]
  have HP1 := hide (HPL.out hv s h1)
  have HP2 := hide (HPL.out hv t h2)
  have HBB := hide (HBS.out hv h1 h2)
  have HKK := hide (HKA.out hv h1 h2)
  have HCC := hide (HCK.out hv h1)
  have hlx : (psL F s.data.toList).length = (lettL s.data.toList).length := psL_len _ _
  have hly : (psL F t.data.toList).length = (lettL t.data.toList).length := psL_len _ _
  have hlp : (lprL F P t.data.toList).length = (lettL t.data.toList).length := lprL_len _ _ _
  have hx60 := psL_n (F := F) h1
  have hy60 := psL_n (F := F) h2
  have HLL := hide (HLB.out hv hp h2)
  have HKM := hide (show ∀ x ∈ rcK F s.data.toList t.data.toList, ∃ k : Nat, x = (k : Int) ∧ k < (psL F t.data.toList).length from fun x hx => kpL_mem hx)
  have hkl : (rcK F s.data.toList t.data.toList).length ≤ (psL F t.data.toList).length := kpL_len _ _ _
  have HKR : Hid (kpL (psL F s.data.toList) (psL F t.data.toList) (bsG (cntS (psL F s.data.toList) (psL F t.data.toList)) 400).1 = rcK F s.data.toList t.data.toList) := hide rfl
  have hv27 := HVP.out hp
  unfold PlB at HP1 HP2
  unfold IntsB at HKK
  rw [HKR.out] at HKK
  rw [HCC.out] at HBB
  clear e1 e2 e3 f1 f2 HPL HBS HKA HCK HLB HPP HNO HOK HRB HPB hv h1 h2 hp HKR HVP HCC hb
  generalize rcK F s.data.toList t.data.toList = K at *
  generalize psL F s.data.toList = xs at *
  generalize psL F t.data.toList = ys at *
  generalize lprL F P t.data.toList = ps at *
  rw [← hlx, ← hly]
  rw [← hly] at hlp
  generalize (bsG (cntS xs ys) 400).1 = sh at *
  have HZB := hide (fun k => zrL_bd (K := K.take k) (show (0 : Int) ≤ 41000 by decide) HLL.out)
  have HZL := hide (fun k => zrL_len (K.take k) ps)
  have HZS := hide (fun (k : Nat) (q : Nat) (hk : K[k]? = some (q : Int)) (hq : q < ps.length) => show (zrL (K.take k) ps).set q 0 = zrL (K.take (k + 1)) ps from by rw [zrL_set hq, List.take_add_one, hk]; rfl)
  have HZ0 : Hid (zrL (K.take 0) ps = ps) := hide (zrL_nil ps)
  have HZN : Hid (zrL (K.take K.length) ps = zrL K ps) := hide (by rw [List.take_length])
  have HKG := hide (fun k (h : k < K.length) => (⟨K[k], List.getElem?_eq_getElem h⟩ : ∃ x, K[k]? = some x))
  have HKE := hide (fun k x (h : K[k]? = some x) => HKM.out x (List.mem_of_getElem? h))
  have HSU := hide (fun A1 c1 W (hA : IntsAt W W.heap.size A1 (zrL K ps)) => show Calls Tryz.prog 193 #[.slice A1 ps.length c1] W fun e w' => e = .returned (.int .i64 (sumT (zrL K ps) ps.length)) ∧ W = w' from by
    have h := sumOfG_any A1 (zrL K ps) c1 W (by rw [zrL_len]; omega) (fun x hx => by have := zrL_bd (show (0 : Int) ≤ 41000 by decide) HLL.out x hx; omega) hA
    rwa [zrL_len] at h)
  have hsb : 0 ≤ sumT (zrL K ps) ps.length ∧ sumT (zrL K ps) ps.length ≤ 41000 * (ps.length : Nat) := by
    have h := sumT_bd (xs := zrL K ps) (zrL_bd (show (0 : Int) ≤ 41000 by decide) HLL.out) ps.length (by rw [zrL_len]; exact Nat.le_refl _)
    exact h
  rw [← hlp] at hkl hy60 ⊢
  clear HLL HKM hlx hly
  generalize hVV : sumT (zrL K ps) ps.length = V at *
  have HVV := hide hVV
  have hlp' := hlp
  clear hVV hlp
  obtain ⟨n, hN⟩ : ∃ n, xs.length = n := ⟨_, rfl⟩
  obtain ⟨m, hM⟩ : ∃ m, ps.length = m := ⟨_, rfl⟩
  obtain ⟨q, hQ⟩ : ∃ q, K.length = q := ⟨_, rfl⟩
  unfold IntsBack at HLP
  rw [hM] at hlp'
  rw [hN] at hx60 HP1 HBB HKK ⊢
  rw [hM] at hkl hy60 HLP HSU HZL HZS hsb
  rw [← hlp'] at HP2 HBB HKK HKE
  rw [hQ] at hkl HBB HKK HZN HKG ⊢
  clear hN hM hQ hlp'
  have c27 := rangeAt_cell r1 (pw_get (k := 27) (by rw [hP]; omega))
  have c28 := rangeAt_cell r1 (pw_get (k := 28) (by rw [hP]; omega))
  generalize P.getD 27 0 = pb at *
  generalize P.getD 28 0 = pf at *
  have hpr : -60000 ≤ pf * ((n : Int) - q) ∧ pf * ((n : Int) - q) ≤ 60000 := by
    have h1 : -60 ≤ (n : Int) - q ∧ (n : Int) - q ≤ 60 := by omega
    generalize (n : Int) - q = z at *
    constructor
    · have := Int.mul_le_mul_of_nonneg_left h1.1 hv27.2.1
      have h3 := hv27.2.2
      omega
    · have := Int.mul_le_mul_of_nonneg_left h1.2 hv27.2.1
      have h3 := hv27.2.2
      omega
  have hw1 := IntWalk.i64_in ((n : Int) - q) ⟨by omega, by omega⟩
  have hw2 := IntWalk.i64_in (pf * ((n : Int) - q)) ⟨by omega, by omega⟩
  have hw3 := IntWalk.i64_in (pb + pf * ((n : Int) - q)) ⟨by omega, by omega⟩
  have hw4 := IntWalk.i64_in (pb + pf * ((n : Int) - q) + V) ⟨by omega, by omega⟩
  go_enter Tryz.func92, Tryz.ntmps92
  repeat (first | (rw [← HW0.out]) | (refine wpList_load_mid rfl 28 (.tmp 4) rfl _ 0 rfl fcs _ r0 Tryz.underlying28 rfl HI29.out ?_) | (refine wpList_load_mid rfl 90 (.tmp 5) rfl _ 0 rfl (pw P) _ r1 Tryz.underlying90 rfl HIP.out ?_) | go_step)
  refine HLP.out.mono ?_
  rintro e w1 ⟨A1, c1, rfl, hI1, hb1⟩
  have z1 := hb1.size
  have HBP := hide (blkI_bd hI1)
  go_wp2_with fail
  refine (HS.out _).mono ?_
  rintro e w2 ⟨rfl, hb2⟩
  have hB2 := hb1.trans (hb2.mono hb1.size)
  have hz2 := hB2.size
  have h12 := hb2.size
  have r2 := rangeAt_below r0 hB2 (by omega)
  have hI2 := hI1.go hb2
  go_wp2_with fail
  have HR2 := hide (fun w' (hb : Below w2.heap.size w2 w') => rangeAt_below r2 hb (by omega))
  clear hb1 r0 r2 hI1
  refine wp_region_script [(0, true), (1, true), (3, true), (4, true), (2, false), (5, false), (6, false), (7, false)]
    (fun w' => Below w2.heap.size w2 w') (by kernel_rfl) (by kernel_rfl) (of_decide_eq_true (by kernel_rfl)) (by kernel_rfl) (fun _ _ d _ _ h => by cases d <;> exact h) ((Below.refl _ _).drew) ?_
  refine sc_take (.agg fcs.toArray) rfl (yieldsIf_load_mid (by rfl) _ (.tmp 4) rfl _ 0 rfl _ _ (fun w h => HR2.out w h) Tryz.underlying28 rfl HI29.out) ?_
  refine sc_take (.string s) rfl (.inl ⟨rfl, fun w _ => by kernel_rfl⟩) ?_
  refine sc_take (.agg fcs.toArray) rfl (yieldsIf_load_mid (by rfl) _ (.tmp 4) rfl _ 0 rfl _ _ (fun w h => HR2.out w h) Tryz.underlying28 rfl HI29.out) ?_
  refine sc_take (.string t) rfl (.inl ⟨rfl, fun w _ => by kernel_rfl⟩) ?_
  simp only [List.getElem_toArray, List.getElem_cons_succ, List.getElem_cons_zero, Act.put, List.setIfInBounds_toArray, List.set_cons_zero, List.set_cons_succ]
  refine sc_step rfl ?_
  go_wp2_with fail
  refine (HP1.out _ (hB2.trans (((Below.refl _ _).drew).mono hz2))).mono ?_
  rintro e w5 ⟨Ax, cx, rfl, hcx, hIx, hb5⟩
  replace hb5 := (Below.refl _ _).drew.trans hb5
  change Below w2.heap.size w2 w5 at hb5
  go_wp2_with fail
  refine ⟨hb5, sc_step rfl ?_⟩
  go_wp2_with fail
  refine (HP2.out _ (hB2.trans (hb5.mono hz2))).mono ?_
  rintro e w6 ⟨Ay, cy, rfl, hcy, hIy, hb6⟩
  have hB6 := hb5.trans (hb6.mono hb5.size)
  go_wp2_with fail
  refine ⟨hB6, sc_step rfl ?_⟩
  go_wp2_with fail
  refine ⟨hB6, sc_step rfl ?_⟩
  go_wp2_with fail
  refine ⟨hB6, sc_nil ?_⟩
  have hz6 := hB6.size
  have hzx := hb6.size
  have hIx6 := hIx.go hb6
  have hI6 := hI2.go hB6
  have hBB6 := hB2.trans (hB6.mono hz2)
  clear hb5 hb6 hB6 hB2 hb2 HP1 HP2 HS HLP HR2 hI2 hIx
  go_wp2_with fail
  refine (HBB.out Ax cx Ay cy _ hIx6.at_ hIy.at_).mono ?_
  rintro e w7 ⟨rfl, hb7⟩
  have hz7 := hb7.size
  have hIx7 := hIx6.go hb7
  have hIy7 := hIy.go hb7
  have hI7 := hI6.go hb7
  have hBB7 := hBB6.trans (hb7.mono hBB6.size)
  clear hb7 hIx6 hIy hI6 hBB6 HBB
  go_wp2_with fail
  refine (HKK.out Ax cx Ay cy _ hIx7.at_ hIy7.at_).mono ?_
  rintro e w8 ⟨AK, cK, rfl, hcK, hIK, hb8⟩
  have hz8 := hb8.size
  have HI8 := hide (hI7.go hb8)
  have hBB8 := hBB7.trans (hb8.mono hBB7.size)
  have HIK := hide hIK
  clear hb8 hIx7 hIy7 hI7 hBB7 HKK hIK hcK
  go_wp2
  go_loopw [50] (fun i wr => ∃ k : Nat, k ≤ q ∧ i = .int .i64 k ∧ Hid (IntsIn wr W0.heap.size A1 (zrL (K.take k) ps)) ∧ Hid (∀ a : Addr, w1.heap.size ≤ a.block → a.block < w8.heap.size → wr.cell? a = w8.cell? a) ∧ w8.heap.size ≤ wr.heap.size ∧ Below W0.heap.size W0 wr)
    (fun i _ => q - (intOf i).toNat)
  case atStart => exact ⟨0, by omega, rfl, hide (by rw [HZ0.out]; exact HI8.out), hide (fun _ _ _ => rfl), Nat.le_refl _, hBB8⟩
  case round =>
    obtain ⟨k, hk, rfl, HZ, HF, hsz, hB⟩ := hrel
    clear HI8 hBB8
    by_cases hlt : k < q
    · obtain ⟨x, hx⟩ := HKG.out k hlt
      obtain ⟨j, rfl, hj⟩ := HKE.out k x hx
      obtain ⟨bp, op, rfl, g1, g2, gc, gt⟩ := HZ.out (by intro e; have h := HZL.out k; rw [e] at h; simp at h; omega)
      obtain ⟨bK, oK, rfl, k1, k2, kc, _⟩ := HIK.out (by intro e; rw [e] at hx; simp at hx)
      have cK := (HF.out ⟨bK, oK + k, none⟩ (by show w1.heap.size ≤ bK; omega) k2).trans (kc k _ hx)
      have hbp := (HBP.out bp (blkI_some (by intro e; have h := HZL.out k; rw [e] at h; simp [zrL] at h; omega))).2
      have hpz : (zrL (K.take k) ps)[j]? = some ((zrL (K.take k) ps).getD j 0) := by
        rw [List.getD_eq_getElem?_getD, List.getElem?_eq_getElem (by rw [HZL.out k]; exact hj)]; rfl
      have cz := gc j _ hpz
      have fz := (gt j (by rw [HZL.out k]; exact hj)).2
      have hi : (k : Int) < q := by omega
      have h0 : (0 : Int) ≤ k := by omega
      have hjm : (j : Int) < m := by omega
      have hj0 : (0 : Int) ≤ j := by omega
      have HS1 := hide (HZ.out.set (k := j) (by rw [HZL.out k]; exact hj) 0)
      have HSE := hide (HZS.out k j hx hj)
      generalize (zrL (K.take k) ps).getD j 0 = v at *
      clear hpz gc gt kc hx HZ
      go_wp2
      refine ⟨⟨k + 1, by omega, by go_num, hide (by rw [← HSE.out]; exact HS1.out), hide (fun a h1 h2 => (World.cell?_setCell_other _ _ _ _ (by intro he; subst he; simp only at h1; omega)).trans (HF.out a h1 h2)), by rw [size_setCell]; exact hsz, hB.setCell (p := ⟨bp, op + j, none⟩) (by show W0.heap.size ≤ bp; omega) _⟩, by simp [intOf]; omega⟩
    · obtain rfl : k = q := by omega
      rw [HZN.out] at HZ
      have hfin := b0.trans (hB.mono b0.size)
      have d27 := (hB.cell (p := ⟨w.heap.size + 1, 27, none⟩) (by show w.heap.size + 1 < _; omega)).trans c27
      have d28 := (hB.cell (p := ⟨w.heap.size + 1, 28, none⟩) (by show w.heap.size + 1 < _; omega)).trans c28
      have HC := hide (fun W (h : Below wr.heap.size wr W) => HSU.out A1 c1 W (HZ.out.go h).at_)
      have e27 := Over.get d27
      have e28 := Over.get d28
      clear d27 d28 c27 c28 hB HF HZ
      go_wp2
      refine wp_region_over (by kernel_rfl) (by kernel_rfl) ?_
      repeat (go_big_quiet_step ((go_at_call 193; exact over_same (HC.out _ (Over.h _)))))
      refine wpQuiet_nil ?_
      intro w9 hb9
      go_wp2
      go_ret2
      exact ⟨rfl, hfin.trans (hb9.mono hfin.size)⟩
end Go.Proofs.YtngondeaeipcfaaGreatDoor

namespace Go.Proofs.YtngondeaeipcfaaGreatDoor
open Go Go.RowKit

set_option maxRecDepth 100000 in
set_option maxHeartbeats 16000000 in
theorem specRecutPrice_any (F : Fc) (hF : F.ok) (A : Option Addr) (c : Nat) (P : List Int) (hP : P.length = 29) (hPx : ∀ x ∈ P, i16ok x) (s : ByteArray) (hs : s.size ≤ maxLen) (t : ByteArray) (ht : t.size ≤ maxLen) (w : World) (hA : PairsAt w w.heap.size A F.ps) :
    Calls Tryz.prog 93 #[.agg (fc F (.slice A F.ps.length c)).toArray, .agg (pw P).toArray, .string s, .string t] w fun e w' => e = .returned (.tuple #[.int .i64 (rcV F P s.data.toList t.data.toList), .int .i64 (rcC F P s.data.toList t.data.toList)]) ∧ Below w.heap.size w w' := by
  obtain ⟨W0, hW0⟩ : ∃ W0, W0 = ((w.alloc (.cells (fc F (.slice A F.ps.length c)).toArray 28)).alloc (.cells (pw P).toArray 90)) := ⟨_, rfl⟩
  have b0 : Below w.heap.size w W0 := by rw [hW0]; exact ((Below.refl _ _).alloc (Nat.le_refl _) _).alloc (by simp) _
  have r0 : W0.rangeAt w.heap.size 0 (fc F (.slice A F.ps.length c)) := by rw [hW0]; exact World.rangeAt_alloc (rangeAt_new w (fc F (.slice A F.ps.length c)) 28) _
  have r1 : W0.rangeAt (w.heap.size + 1) 0 (pw P) := by rw [hW0]; exact rangeAt_newg (by simp) rfl
  have s0 : W0.heap.size = w.heap.size + 2 := by rw [hW0]; simp
  have hA0 := (hA.below b0).mono b0.size
  have HPR := hide (l06Prices_any P hP hPx (w.heap.size + 1) W0 r1)
  have HLI := hide (l06Lines_any F hF w.heap.size A c s t hs ht true W0 r0 hA0)
  have HW0 := hide hW0
  clear hW0
  have HNO := hide (@rc_no F P s.data.toList t.data.toList)
  have HOK := hide (@rc_ok F P s.data.toList t.data.toList)
  have HRB := hide (show rcB F P s.data.toList t.data.toList = (ktB F s.data.toList t.data.toList && vprc P) from rfl)
  cases hp : vprc P
  · rw [hp] at HPR
    obtain ⟨f1, f2⟩ := HNO.out (by rw [HRB.out, hp]; simp)
    rw [f1, f2]
    clear r0 r1 hA hA0 f1 f2 hPx
    generalize fc F (.slice A F.ps.length c) = fcs at *
    go_enter Tryz.func93, Tryz.ntmps93
    repeat (first | (rw [← HW0.out]) | go_step)
    refine HPR.out.mono ?_
    rintro e w1 ⟨rfl, rfl⟩
    go_wp2
    go_ret2
    exact ⟨rfl, b0⟩
  rw [hp] at HPR
  cases hb : ktB F s.data.toList t.data.toList
  · rw [hb] at HLI
    obtain ⟨f1, f2⟩ := HNO.out (by rw [HRB.out, hb]; rfl)
    rw [f1, f2]
    clear r0 r1 hA hA0 f1 f2 hPx
    generalize fc F (.slice A F.ps.length c) = fcs at *
    go_enter Tryz.func93, Tryz.ntmps93
    repeat (first | (rw [← HW0.out]) | go_step)
    refine HPR.out.mono ?_
    rintro e w1 ⟨rfl, rfl⟩
    go_wp2_with fail
    refine HLI.out.mono ?_
    rintro e w1 ⟨rfl, hb1⟩
    go_wp2
    go_ret2
    exact ⟨rfl, b0.trans (hb1.mono b0.size)⟩
  rw [hb] at HLI
  obtain ⟨f1, f2⟩ := HOK.out (by rw [HRB.out, hb, hp]; rfl)
  rw [f1, f2]
  obtain ⟨hv, h1, h2⟩ := kt_parts hb
  have hs1 : s.size ≤ 60 := by have := (vtext_true.1 h1).1; simpa using this
  have ht1 : t.size ≤ 60 := by have := (vtext_true.1 h2).1; simpa using this
  have HSH := hide (fun W (hW : Below W0.heap.size W0 W) => l06Shift_any F hF w.heap.size A c s t W hv h1 h2 (rangeAt_below r0 hW (by omega)) (by have := hW.size; omega) (hA0.go hW (Nat.le_refl _)))
  have HKE := hide (fun W (hW : Below W0.heap.size W0 W) => l06Kept_any F hF w.heap.size A c s t (bsG (cntS (psL F s.data.toList) (psL F t.data.toList)) 400).1 W hv h1 h2 (by have := (bsG_best (cntS (psL F s.data.toList) (psL F t.data.toList)) 400).1.1; omega) (rangeAt_below r0 hW (by omega)) (by have := hW.size; omega) (hA0.go hW (Nat.le_refl _)))
  have HL1 := hide (fun W => l06Letters_any s W (by omega))
  have HL2 := hide (fun W => l06Letters_any t W (by omega))
  have HKR : Hid (kpL (psL F s.data.toList) (psL F t.data.toList) (bsG (cntS (psL F s.data.toList) (psL F t.data.toList)) 400).1 = rcK F s.data.toList t.data.toList) := hide rfl
  have hkl : (rcK F s.data.toList t.data.toList).length ≤ (lettL t.data.toList).length := by rw [← psL_len F]; exact kpL_len _ _ _
  have hx60 : (lettL s.data.toList).length ≤ 60 := Nat.le_trans (lettL_len _) (vtext_true.1 h1).1
  have hy60 : (lettL t.data.toList).length ≤ 60 := Nat.le_trans (lettL_len _) (vtext_true.1 h2).1
  have HLB := hide (fun bt hbt => lpr_bd hF hv hP hp h2 (b := bt) hbt)
  have HLW := hide (fun bt hbt => lw_bd hF hv h2 bt hbt)
  have HCAP := hide (fun bt hbt => lett_cap h2 (b := bt) hbt)
  have HLE := hide (fun bt q1 q2 q3 q4 q5 W (hW : Below W0.heap.size W0 W) => l06Letter_any F hF w.heap.size (.slice A F.ps.length c) P hP (w.heap.size + 1) bt W q1 q2 q3 q4 q5 (rangeAt_below r0 hW (by omega)) (rangeAt_below r1 hW (by omega)))
  have HSS := hide (fun k (bt : UInt8) (h : (lettL t.data.toList)[k]? = some bt) => show sumT (zrL (rcK F s.data.toList t.data.toList) (lprL F P t.data.toList)) (k + 1) = sumT (zrL (rcK F s.data.toList t.data.toList) (lprL F P t.data.toList)) k + (if ((k : Nat) : Int) ∈ rcK F s.data.toList t.data.toList then 0 else lpr F P bt) from by
    have hk : k < (lprL F P t.data.toList).length := by rw [lprL_len]; exact (List.getElem?_eq_some_iff.1 h).1
    have e : (lprL F P t.data.toList).getD k 0 = lpr F P bt := by unfold lprL; rw [List.getD_eq_getElem?_getD, List.getElem?_map, h]; rfl
    rw [sumT_succ (zrL_get hk), e])
  have HSB := hide (fun k (hk : k ≤ (lettL t.data.toList).length) => sumT_bd (xs := zrL (rcK F s.data.toList t.data.toList) (lprL F P t.data.toList)) (zrL_bd (show (0 : Int) ≤ 41000 by decide) (lprL_bd hF hv hP hp h2)) k (by rw [zrL_len, lprL_len]; exact hk))
  have hv27 := And.intro (vprc_at hp (k := 27) (by omega)) (vprc_at hp (k := 28) (by omega))
  have c27 := rangeAt_cell r1 (pw_get (k := 27) (by rw [hP]; omega))
  have c28 := rangeAt_cell r1 (pw_get (k := 28) (by rw [hP]; omega))
  have HS0 := hide (show sumT (zrL (rcK F s.data.toList t.data.toList) (lprL F P t.data.toList)) 0 = 0 from rfl)
  rw [HKR.out] at HKE
  unfold IntsB at HKE
  unfold LtB at HL1 HL2
  clear f1 f2 HNO HOK HRB hb hp hv h1 h2 hA hA0 r0 r1 HKR hPx
  generalize rcK F s.data.toList t.data.toList = K at *
  generalize sumT (zrL K (lprL F P t.data.toList)) = S at *
  generalize lettL s.data.toList = X at *
  generalize lettL t.data.toList = M at *
  generalize bsG (cntS (psL F s.data.toList) (psL F t.data.toList)) 400 = V at *
  generalize P.getD 27 0 = pb at *
  generalize P.getD 28 0 = pf at *
  generalize fc F (.slice A F.ps.length c) = fcs at *
  have HHA := hide (fun A' c' v W h => l00Has_any A' K c' v W (by unfold maxLen; omega) h)
  obtain ⟨n, hN⟩ : ∃ n, X.length = n := ⟨_, rfl⟩
  obtain ⟨m, hM⟩ : ∃ m, M.length = m := ⟨_, rfl⟩
  obtain ⟨q, hQ⟩ : ∃ q, K.length = q := ⟨_, rfl⟩
  have HM := hide hM
  rw [hN] at hx60 HL1 ⊢
  rw [hM] at hkl hy60 HL2 HSB ⊢
  rw [hQ] at hkl HKE HHA ⊢
  clear hN hM hQ
  have hpr : -60000 ≤ pf * ((n : Int) - q) ∧ pf * ((n : Int) - q) ≤ 60000 := by
    have h1 : -60 ≤ (n : Int) - q ∧ (n : Int) - q ≤ 60 := by omega
    generalize (n : Int) - q = z at *
    constructor
    · have := Int.mul_le_mul_of_nonneg_left h1.1 hv27.2.1
      have h3 := hv27.2.2
      omega
    · have := Int.mul_le_mul_of_nonneg_left h1.2 hv27.2.1
      have h3 := hv27.2.2
      omega
  have hw1 := IntWalk.i64_in ((n : Int) - q) ⟨by omega, by omega⟩
  have hw2 := IntWalk.i64_in (pf * ((n : Int) - q)) ⟨by omega, by omega⟩
  have hw3 := IntWalk.i64_in (pb + pf * ((n : Int) - q)) ⟨by omega, by omega⟩
  have hwb := IntWalk.i64_in pb ⟨by omega, by omega⟩
  have hwf := IntWalk.i64_in pf ⟨by omega, by omega⟩
  go_enter Tryz.func93, Tryz.ntmps93
  repeat (first | (rw [← HW0.out]) | go_step)
  refine HPR.out.mono ?_
  rintro e w1 ⟨rfl, rfl⟩
  go_wp2_with fail
  refine HLI.out.mono ?_
  rintro e w2 ⟨rfl, hb2⟩
  go_wp2_with fail
  refine (HSH.out _ hb2).mono ?_
  rintro e w3 ⟨rfl, hb3⟩
  have hB3 := hb2.trans (hb3.mono hb2.size)
  clear hb2 hb3
  go_wp2_with fail
  refine (HKE.out _ hB3).mono ?_
  rintro e w4 ⟨AK, cK, rfl, hcK, hIK, hb4⟩
  have hB4 := hB3.trans (hb4.mono hB3.size)
  clear hb4 hB3
  go_wp2_with fail
  refine (HL2.out _).mono ?_
  rintro e w5 ⟨v5, rfl, hy5, hb5⟩
  have hB5 := hB4.trans (hb5.mono hB4.size)
  have hIK5 := hIK.go hb5
  have hz5 := hB5.size
  obtain ⟨Ay, cy, rfl, _, _⟩ := cellsIn_of_own hy5 (by omega)
  have HIK := hide hIK5
  have HY := hide hy5
  clear hb5 hB4 hIK hIK5 hy5 hcK
  go_wp2_with fail
  have d27 := (hB5.cell (p := ⟨w.heap.size + 1, 27, none⟩) (by show w.heap.size + 1 < _; omega)).trans c27
  have d28 := (hB5.cell (p := ⟨w.heap.size + 1, 28, none⟩) (by show w.heap.size + 1 < _; omega)).trans c28
  have HD27 := hide (fun w' (hb : Below w5.heap.size w5 w') => (hb.cell (p := ⟨w.heap.size + 1, 27, none⟩) (by show w.heap.size + 1 < _; omega)).trans d27)
  have HD28 := hide (fun w' (hb : Below w5.heap.size w5 w') => (hb.cell (p := ⟨w.heap.size + 1, 28, none⟩) (by show w.heap.size + 1 < _; omega)).trans d28)
  clear d27 d28 c27 c28
  refine wp_region_script [(0, true), (1, true), (2, true), (3, true), (4, true), (5, true), (6, true), (9, true), (10, true), (7, false), (8, false), (11, false), (12, false), (13, false), (14, false)]
    (fun w' => Below w5.heap.size w5 w') (by kernel_rfl) (by kernel_rfl) (of_decide_eq_true (by kernel_rfl)) (by kernel_rfl) (fun _ _ d _ _ h => by cases d <;> exact h) ((Below.refl _ _).drew) ?_
  refine sc_take (.pointer (some ⟨w.heap.size + 1, 27, none⟩)) rfl (.inl ⟨rfl, fun w _ => by kernel_rfl⟩) ?_
  refine sc_take (.int .i16 pb) rfl (yi_cell rfl rfl rfl (fun _ => by kernel_rfl) (fun w h => HD27.out w h)) ?_
  refine sc_take (.int .i64 pb) rfl (yi_conv rfl rfl rfl Tryz.underlying87 Tryz.underlying2 hwb) ?_
  refine sc_take (.pointer (some ⟨w.heap.size + 1, 28, none⟩)) rfl (.inl ⟨rfl, fun w _ => by kernel_rfl⟩) ?_
  refine sc_take (.int .i16 pf) rfl (yi_cell rfl rfl rfl (fun _ => by kernel_rfl) (fun w h => HD28.out w h)) ?_
  refine sc_take (.int .i64 pf) rfl (yi_conv rfl rfl rfl Tryz.underlying87 Tryz.underlying2 hwf) ?_
  refine sc_take (.string s) rfl (.inl ⟨rfl, fun w _ => by kernel_rfl⟩) ?_
  refine sc_take (.slice AK q cK) rfl (.inl ⟨rfl, fun w _ => by kernel_rfl⟩) ?_
  refine sc_take (.int .i64 (q : Int)) rfl (.inl ⟨rfl, fun w _ => by kernel_rfl⟩) ?_
  simp only [List.getElem_toArray, List.getElem_cons_succ, List.getElem_cons_zero, Act.put, List.setIfInBounds_toArray, List.set_cons_zero, List.set_cons_succ]
  refine sc_step rfl ?_
  go_wp2_with fail
  refine (HL1.out _).mono ?_
  rintro e w6 ⟨v6, rfl, hx6, hb6⟩
  obtain ⟨Ax, cx, rfl, _, _⟩ := cellsIn_of_own hx6 (by omega)
  replace hb6 := (Below.refl _ _).drew.trans hb6
  change Below w5.heap.size w5 w6 at hb6
  clear hx6
  go_wp2_with fail
  refine ⟨hb6, sc_step rfl ?_⟩
  go_wp2_with fail
  refine ⟨hb6, sc_step rfl ?_⟩
  go_wp2_with fail
  refine ⟨hb6, sc_step rfl ?_⟩
  go_wp2_with fail
  refine ⟨hb6, sc_step rfl ?_⟩
  go_wp2_with fail
  refine ⟨hb6, sc_step rfl ?_⟩
  go_wp2_with fail
  refine ⟨hb6, sc_nil ?_⟩
  have hB6 := hB5.trans (hb6.mono hz5)
  have hz6 := hB6.size
  have HIK6 := hide (HIK.out.go hb6)
  have HY6 := hide (own_go HY.out hb6)
  clear hb6 hB5 HIK HY HD27 HD28
  obtain ⟨K0, hK0⟩ : ∃ K0, pb + pf * ((n : Int) - q) = K0 := ⟨_, rfl⟩
  have hK0b : -60000 ≤ K0 ∧ K0 ≤ 61000 := by omega
  rw [hK0]
  have HK0 := hide hK0
  clear hK0 hw1 hw2 hw3 hpr
  go_wp2
  go_loopw [15, 16] (fun v i wr => ∃ k : Nat, k ≤ m ∧ i = .int .i64 k ∧ v = .int .i64 (K0 + S k) ∧ Below w6.heap.size w6 wr) (fun _ i _ => m - (intOf i).toNat)
  case atStart => exact ⟨0, Nat.zero_le _, rfl, by rw [HS0.out, Int.add_zero], Below.refl _ _⟩
  case round =>
    obtain ⟨k, hk, rfl, rfl, hB⟩ := hrel
    by_cases hlt : k < m
    · obtain ⟨g, cap, e, hgb, hgs⟩ := HY6.out.form (by omega)
      injection e with e1 e2 e3
      subst e1 e3
      obtain ⟨bt, hbt⟩ : ∃ bt, M[k]? = some bt := ⟨M[k]'(by rw [HM.out]; exact hlt), List.getElem?_eq_getElem _⟩
      have hmem := List.mem_of_getElem? hbt
      obtain ⟨q1, q2, q3, q4⟩ := HLB.out bt hmem
      have cb : wr.cell? ⟨g, k, none⟩ = some (.int .u8 (bt.toNat : Int)) := (hB.cell (p := ⟨g, k, none⟩) hgs).trans ((HY6.out.cellAt k (by omega)).trans (by unfold Lib.byteCells; rw [List.getElem?_map, hbt]; rfl))
      have HC := hide (fun W (h : Below wr.heap.size wr W) => HLE.out bt (HCAP.out bt hmem) q1 q2 q3 (HLW.out bt hmem) W (hB6.trans ((hB.trans (h.mono hB.size)).mono hz6)))
      have HH := hide (HHA.out AK cK (k : Int) wr (HIK6.out.go hB).at_)
      have HS := hide (HSS.out k bt hbt)
      obtain ⟨s1, s2⟩ := HSB.out k hk
      obtain ⟨s3, s4⟩ := HSB.out (k + 1) (by omega)
      have hi : (k : Int) < m := by omega
      have hk0 : (0 : Int) ≤ k := by omega
      by_cases hin : (k : Int) ∈ K
      · rw [decide_eq_true hin] at HH
        rw [if_pos hin] at HS
        clear hbt hmem q1 q2 q3 q4 HC
        generalize S k = sk at *
        go_wp2_with (go_at_call 155; refine HH.out.mono ?_; rintro e w2 ⟨rfl, hb2'⟩)
        exact ⟨⟨k + 1, by omega, by go_num, by rw [HS.out]; simp, hB.trans (hb2'.mono hB.size)⟩, by simp [intOf]; omega⟩
      · rw [decide_eq_false hin] at HH
        rw [if_neg hin] at HS
        rw [HS.out] at s3 s4
        obtain ⟨t1, t2⟩ := q4
        generalize lpr F P bt = y at *
        generalize (bt.toNat : Int) = x at *
        have hw5 := IntWalk.i64_in (K0 + S k + y) ⟨by omega, by omega⟩
        clear hbt hmem q1 q2 q3
        generalize S k = sk at *
        go_wp2_with fail
        refine HH.out.mono ?_
        rintro e w2 ⟨rfl, hb2'⟩
        have cb2 := (hb2'.cell (p := ⟨g, k, none⟩) (by have := hB.size; show g < _; omega)).trans cb
        go_wp2_with fail
        refine (HC.out _ hb2').mono ?_
        rintro e w3 ⟨rfl, hb3'⟩
        have hb4' := hb2'.trans (hb3'.mono hb2'.size)
        go_wp2
        exact ⟨⟨k + 1, by omega, by go_num, by rw [HS.out, Int.add_assoc], hB.trans (hb4'.mono hB.size)⟩, by simp [intOf]; omega⟩
    · obtain rfl : k = m := by omega
      have hfin := b0.trans ((hB6.trans (hB.mono hz6)).mono b0.size)
      go_wp2
      go_ret2
      exact ⟨by first | (rw [HK0.out]; done) | (rw [HK0.out]; rfl), hfin⟩
end Go.Proofs.YtngondeaeipcfaaGreatDoor
