/- CheapestOf of the program. -/
import Derived.Test.YtjgcadohjccfaaaDoorCpS
namespace Go.Proofs.YtjgcadohjccfaaaDoor
open Go Go.RowKit

theorem Tryd.infoCh : (Tryd.prog.info? 93).map (fun i => (i.zero, i.size, i.bytes)) = some (some (.agg #[.int .i64 0, .int .i64 0]), 2, 16) := by kernel_rfl

set_option maxRecDepth 100000 in
set_option maxHeartbeats 8000000 in
theorem implCheapestOf_any (F : Fc) (hF : F.ok) (A : Option Addr) (c : Nat) (P : List Int) (hP : P.length = 29) (hPx : ∀ x ∈ P, i16ok x) (T : Option Addr) (ts : List ByteArray) (ct : Nat) (htn : ts.length ≤ maxLen) (htx : ∀ x ∈ ts, x.size ≤ maxLen) (w : World) (hG : Glob w) (hA : PairsAt w w.heap.size A F.ps) (hT : StrsAt w w.heap.size T ts) :
    Calls Tryd.prog 21 #[.agg (fc F (.slice A F.ps.length c)).toArray, .agg (pw P).toArray, .slice T ts.length ct] w fun e w' => e = .returned (.tuple #[.int .i64 (cpR F P ts).1, .int .i64 (cpR F P ts).2.1, .int .i64 (cpR F P ts).2.2]) ∧ Below w.heap.size w w' := by
  obtain ⟨i0, hi0, hz0, hz1, hz2⟩ := info_parts Tryd.infoCh
  obtain ⟨W2, hW2⟩ : ∃ W2, W2 = ((w.alloc (.cells (fc F (.slice A F.ps.length c)).toArray 36)).alloc (.cells (pw P).toArray 38)) := ⟨_, rfl⟩
  have b0 : Below w.heap.size w W2 := by rw [hW2]; exact ((Below.refl _ _).alloc (Nat.le_refl _) _).alloc (by simp) _
  have r0 : W2.rangeAt w.heap.size 0 (fc F (.slice A F.ps.length c)) := by rw [hW2]; exact World.rangeAt_alloc (rangeAt_new w (fc F (.slice A F.ps.length c)) 36) (.cells (pw P).toArray 38)
  have r1 : W2.rangeAt (w.heap.size + 1) 0 (pw P) := by rw [hW2]; exact rangeAt_newg (w := w.alloc (.cells (fc F (.slice A F.ps.length c)).toArray 36)) (cs := (pw P).toArray) (t := 38) (g := w.heap.size + 1) (l := pw P) (by simp) rfl
  have s0 : w.heap.size + 2 = W2.heap.size := by rw [hW2]; simp
  have HI29 := hide (show (Tryd.prog.info? 36).map (·.size) = some (fc F (.slice A F.ps.length c)).length from by rw [fc_length hF.len]; kernel_rfl)
  have HIP := hide (show (Tryd.prog.info? 38).map (·.size) = some (pw P).length from by rw [pw_length, hP]; kernel_rfl)
  have hA2 := (hA.below b0).mono b0.size
  have hG2 := hG.below b0
  have HT := hide ((hT.below b0).mono b0.size)
  have HVF := hide (implValidFace_any F hF A c W2 hA2)
  have HVP := hide (fun W => implValidPrices_any P hP hPx W)
  have HAL := hide (fun W (h : Below W2.heap.size W2 W) => areAllT_any 56 (enters_of Tryd.func56 (by kernel_rfl) rfl) txB T ts ct W htn (HT.out.go h) (fun x hx W _ => implValidText_any x W (htx x hx)))
  have HPR := hide (fun (x : ByteArray) (hx : x ∈ ts) W (h : Below W2.heap.size W2 W) => implPriceOf_any F hF A c P hP hPx x (htx x hx) W (hG2.below h) (hA2.go h (Nat.le_refl _)))
  have HW2 := hide hW2
  have HP := hide (show cpB F P ts = (vface F && (vprc P && ts.all txB)) from rfl)
  have HNO := hide (@cp_no F P ts)
  have HBIG := hide (@cp_big F P ts)
  have HOK := hide (@cp_ok F P ts)
  have HCO := hide (fun (k : Nat) (x : ByteArray) (h : ts[k]? = some x) => @cpO_at F P ts k x h)
  have HR0 := hide (fun W (h : Below W2.heap.size W2 W) => (⟨rangeAt_below r0 h (by omega), rangeAt_below r1 h (by omega)⟩ : W.rangeAt w.heap.size 0 (fc F (.slice A F.ps.length c)) ∧ W.rangeAt (w.heap.size + 1) 0 (pw P)))
  have htn' := htn
  unfold maxLen at htn'
  clear hW2 hA hT hPx hG r1 htx htn hP hA2 hG2
  generalize fc F (.slice A F.ps.length c) = fcs at *
  cases hv : vface F
  · rw [hv] at HVF
    have HV : Hid (cpR F P ts = (0, 0, 1)) := hide (HNO.out (by rw [HP.out, hv]; rfl))
    generalize cpR F P ts = V at *
    clear hv
    go_enter Tryd.func21, Tryd.ntmps21
    repeat (first | (rw [← HW2.out]) | (refine wpList_load_mid rfl 36 (.tmp 3) rfl _ 0 rfl fcs _ r0 Tryd.underlying36 rfl HI29.out ?_) | go_step)
    refine HVF.out.mono ?_
    rintro e w1 ⟨rfl, hb1⟩
    go_wp2
    go_ret3
    exact ⟨rt3_of HV.out, b0.trans (hb1.mono b0.size)⟩
  rw [hv] at HVF
  cases hp : vprc P
  · rw [hp] at HVP
    have HV : Hid (cpR F P ts = (0, 0, 1)) := hide (HNO.out (by rw [HP.out, hv, hp]; rfl))
    generalize cpR F P ts = V at *
    clear hv hp
    go_enter Tryd.func21, Tryd.ntmps21
    repeat (first | (rw [← HW2.out]) | (refine wpList_load_mid rfl 36 (.tmp 3) rfl _ 0 rfl fcs _ r0 Tryd.underlying36 rfl HI29.out ?_) | go_step)
    refine HVF.out.mono ?_
    rintro e w1 ⟨rfl, hb1⟩
    have r1' := (HR0.out w1 hb1).2
    go_wp2_with (first | (refine wpList_load_mid_g rfl 38 (.tmp 4) rfl _ 0 rfl (pw P) _ r1' Tryd.underlying38 rfl HIP.out ?_) | (go_at_call 54; refine (HVP.out _).mono ?_; rintro e w2 ⟨rfl, hb2⟩))
    go_ret3
    have hF1 := b0.trans (hb1.mono b0.size)
    exact ⟨rt3_of HV.out, hF1.trans (hb2.mono hF1.size)⟩
  rw [hp] at HVP
  have HPB : Hid (cpB F P ts = ts.all txB) := hide (by rw [HP.out, hv, hp]; rfl)
  have HPP := hide (fun (ha : ts.all txB = true) x (hx : x ∈ ts) => show ppC F P x.data.toList = 0 from (pp_ok (pp_all hv hp (List.all_eq_true.1 ha x hx))).1)
  clear HP hv hp
  obtain ⟨n, hL⟩ : ∃ n, ts.length = n := ⟨_, rfl⟩
  have HL := hide hL
  have HAN := hide (allC_len (cpO F P ts))
  have HZ0 : Hid (allC (cpO F P ts) 0 = []) := hide rfl
  have HSU := hide (allC_succ (cpO F P ts))
  rw [hL] at htn' HBIG HOK HAL ⊢
  generalize cpR F P ts = V at *
  generalize cpO F P ts = O at *
  clear hL
  cases ha : ts.all txB
  · rw [ha] at HAL HPB
    have HV := hide (HNO.out HPB.out)
    go_enter Tryd.func21, Tryd.ntmps21
    repeat (first | (rw [← HW2.out]) | (refine wpList_load_mid rfl 36 (.tmp 3) rfl _ 0 rfl fcs _ r0 Tryd.underlying36 rfl HI29.out ?_) | go_step)
    refine HVF.out.mono ?_
    rintro e w1 ⟨rfl, hb1⟩
    have r1' := (HR0.out w1 hb1).2
    go_wp2_with (refine wpList_load_mid_g rfl 38 (.tmp 4) rfl _ 0 rfl (pw P) _ r1' Tryd.underlying38 rfl HIP.out ?_)
    refine (HVP.out _).mono ?_
    rintro e w2 ⟨rfl, hb2⟩
    have hB2 := hb1.trans (hb2.mono hb1.size)
    go_wp2_with fail
    refine (HAL.out _ hB2).mono ?_
    rintro e w3 ⟨rfl, hb3⟩
    have hB3 := b0.trans ((hB2.trans (hb3.mono hB2.size)).mono b0.size)
    go_wp2
    go_ret3
    exact ⟨rt3_of HV.out, hB3⟩
  rw [ha] at HAL HPB
  have HPC := hide (HPP.out ha)
  clear ha HPP
  go_enter Tryd.func21, Tryd.ntmps21
  repeat (first | (rw [← HW2.out]) | (refine wpList_load_mid rfl 36 (.tmp 3) rfl _ 0 rfl fcs _ r0 Tryd.underlying36 rfl HI29.out ?_) | go_step)
  refine HVF.out.mono ?_
  rintro e w1 ⟨rfl, hb1⟩
  have r1' := (HR0.out w1 hb1).2
  go_wp2_with (refine wpList_load_mid_g rfl 38 (.tmp 4) rfl _ 0 rfl (pw P) _ r1' Tryd.underlying38 rfl HIP.out ?_)
  refine (HVP.out _).mono ?_
  rintro e w2 ⟨rfl, hb2⟩
  have hB2 := hb1.trans (hb2.mono hb1.size)
  go_wp2_with fail
  refine (HAL.out _ hB2).mono ?_
  rintro e w4 ⟨rfl, hb3⟩
  have hB4 := hB2.trans (hb3.mono hB2.size)
  have hfin := b0.trans (hB4.mono b0.size)
  have hws := hB4.size
  clear r0 r1' hb1 hb2 hb3 hB2
  by_cases h20 : 20 < n
  · have HV := hide (HBIG.out HPB.out h20)
    have hd : decide ((20 : Int) < n) = true := by simp; omega
    have hd' : decide (20 < n) = true := by simp; omega
    go_wp2
    go_ret3
    exact ⟨rt3_of HV.out, hfin⟩
  have HV := hide (HOK.out HPB.out h20)
  have hd : decide ((20 : Int) < n) = false := by simp; omega
  have hd' : decide (20 < n) = false := by simp; omega
  clear HNO HBIG HOK HPB
  go_wp2
  go_loopw [9, 32] (fun br i wr => ∃ k : Nat, k ≤ n ∧ i = .int .i64 k ∧ wr.ownsRow w4.heap.size 93 2 br (allC O k).length ((fl (allC O k)).map (.int .i64)) ∧ Below w4.heap.size w4 wr)
    (fun _ i _ => n - (intOf i).toNat)
  case atStart => exact ⟨0, by omega, rfl, by rw [HZ0.out]; exact World.ownsRow_nil _ _ _ _, Below.refl _ _⟩
  case round =>
    obtain ⟨k, hk, rfl, hown, hB⟩ := hrel
    have hln : (allC O k).length ≤ k := Nat.le_of_eq (HAN.out k)
    obtain ⟨Ab, cbb, rfl, hcap, _⟩ := cellsIn_of_own hown (by omega)
    have hbs := hB.size
    have HOWN := hide hown
    clear hown
    have hB3 := hB4.trans (hB.mono hB4.size)
    by_cases hlt : k < n
    · obtain ⟨b, o, rfl, hb, hxs⟩ := HT.out (by intro e; rw [e] at HL; have := HL.out; simp at this; omega)
      obtain ⟨m, hmk⟩ : ∃ m, ts[k]? = some m := ⟨ts[k]'(by rw [HL.out]; exact hlt), List.getElem?_eq_getElem _⟩
      have c0 : wr.cell? ⟨b, o + k, none⟩ = some (.string m) := (hB3.cell (p := ⟨b, o + k, none⟩) hb).trans (hxs k m hmk)
      have hi : (k : Int) < n := by omega
      have h0 : (0 : Int) ≤ k := by omega
      have HOF := hide (HPR.out m (List.mem_of_getElem? hmk) wr hB3)
      rw [← HCO.out k m hmk, HPC.out m (List.mem_of_getElem? hmk)] at HOF
      have HE := hide (HSU.out k)
      obtain ⟨q0, q1⟩ := HR0.out wr hB3
      clear hxs hmk
      generalize O k = U at *
      go_wp2_with (first | (refine wpList_load_mid rfl 36 (.tmp 3) rfl _ 0 rfl fcs _ q0 Tryd.underlying36 rfl HI29.out ?_) | (refine wpList_load_mid rfl 38 (.tmp 4) rfl _ 0 rfl (pw P) _ q1 Tryd.underlying38 rfl HIP.out ?_))
      refine HOF.out.mono ?_
      rintro e w5 ⟨rfl, hb5⟩
      have hown5 := own_go HOWN.out hb5
      have hB5 := hB.trans (hb5.mono hbs)
      have hs5 := hB5.size
      clear c0 q0 q1 hb5
      go_wp2_with (at_builtin; refine wpList_append_own _ rfl (.tmp 44) (.tmp 48) 91 rfl w4.heap.size 93 i0 (.agg #[.int .i64 0, .int .i64 0]) 2 16 Tryd.underlying91 hi0 hz0 hz1 hz2 rfl (by decide) _ (allC O k).length _ rfl (hown5.alloc _) ⟨w5.heap.size, 0, none⟩ 1 1 [.int .i64 (k : Int), .int .i64 U] rfl rfl (two_cell _ _) (two_one rfl rfl) ?h1 ?h2 ?h3 ?_)
      case h1 => unfold maxLen; omega
      case h2 => omega
      case h3 => simp; omega
      intro v' w6 hown6 hg6 _
      obtain ⟨A6, c6, rfl, _, _⟩ := cellsIn_of_own hown6 (by omega)
      have H6 := hide hown6
      have hg56 : w5.grownBy w6 _ := grown_trans (World.grownBy_alloc w5 _ _) hg6
      have hB6 := hB5.trans (grown_toBelow hg56 (by omega) (fun k hk => (hown5.lt k hk).1))
      clear hown6 hg6 hg56 hown5
      go_wp2
      refine ⟨⟨k + 1, by omega, by go_num, ?_, hB6⟩, by simp [intOf]; omega⟩
      rw [HE.out, fl_app, List.map_append, List.length_append]
      exact H6.out
    · obtain rfl : k = n := by omega
      obtain ⟨Ag, cg, e, _, hI⟩ := p2In_of_own HOWN.out
      injection e with e1' e2' e3'
      subst e1' e3'
      have HLC := hide (leastChoice_any Ab (allC O k) cbb wr (by omega) hI.at_)
      rw [← HV.out] at HLC
      have hfin2 := hfin.trans (hB.mono hfin.size)
      clear hI hln hcap
      generalize (allC O k).length = nn at *
      go_wp2_with fail
      refine HLC.out.mono ?_
      rintro e w7 ⟨rfl, hb7⟩
      go_wp2
      go_ret3
      exact ⟨rfl, hfin2.trans (hb7.mono hfin2.size)⟩
end Go.Proofs.YtjgcadohjccfaaaDoor
