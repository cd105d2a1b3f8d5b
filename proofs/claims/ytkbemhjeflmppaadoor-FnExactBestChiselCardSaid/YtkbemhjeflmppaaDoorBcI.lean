/- BestChisel of the program. -/
import Derived.Test.YtkbemhjeflmppaaDoorBcS
import Derived.Test.YtkbemhjeflmppaaDoorChQ
namespace Go.Proofs.YtkbemhjeflmppaaDoor
open Go Go.RowKit

theorem Tryd.infoCs : (Tryd.prog.info? 84).map (fun i => (i.zero, i.size, i.bytes)) = some (some (.agg #[.int .i64 0, .int .i64 0]), 2, 16) := by kernel_rfl
set_option maxRecDepth 100000 in
set_option maxHeartbeats 8000000 in
theorem implBestChisel_any (S : List Int) (hS : S.length = 26) (hSx : ∀ x ∈ S, i8ok x) (K : Option Addr) (ks : List (Int × Int)) (ck : Nat) (hkn : ks.length ≤ maxLen) (hkx : ∀ x ∈ ks, chok x) (s : ByteArray) (hs : s.size ≤ maxLen) (w : World) (hG : Glob w) (hK : ChsAt w w.heap.size K ks) :
    Calls Tryd.prog 33 #[.agg (wc S).toArray, .slice K ks.length ck, .string s] w fun e w' => e = .returned (.tuple #[.int .i64 (bcR S ks s.data.toList).1, .int .i64 (bcR S ks s.data.toList).2.1, .int .i64 (bcR S ks s.data.toList).2.2]) ∧ Below w.heap.size w w' := by
  obtain ⟨i0, hi0, hz0, hz1, hz2⟩ := info_parts Tryd.infoCs
  have hi : (Tryd.prog.info? 26).map (·.size) = some (wc S).length := by rw [wc_length, hS]; kernel_rfl
  have HI := hide hi
  have r0 := rangeAt_new w (wc S) 26
  have b0 : Below w.heap.size w (w.alloc (.cells (wc S).toArray 26)) := (Below.refl _ _).alloc (Nat.le_refl _) _
  have s0 : w.heap.size < (w.alloc (.cells (wc S).toArray 26)).heap.size := by simp
  have HG := hide (hG.below b0)
  have HC := hide (fun W => implValidStrokes_any S hS hSx W)
  have HT1 := hide (fun W => implValidText_any s W hs)
  have HKK := hide ((hK.below b0).mono b0.size)
  have HAL := hide (fun W (h : Below (w.alloc (.cells (wc S).toArray 26)).heap.size (w.alloc (.cells (wc S).toArray 26)) W) => areAllC_any K ks ck W hkn hkx (((hK.below b0).mono b0.size).go h))
  have HBB := hide (show bcB S ks s.data.toList = (vstr S && (ks.all vcp && vtext s.data.toList)) from rfl)
  have HLI := hide (fun W (h2 : vtext s.data.toList = true) hW => strokesIn_any S hS hSx s W h2 hW)
  have HTI := hide (fun (h1 : vstr S = true) (h2 : vtext s.data.toList = true) h p hh hp A c W hA => timeFor_any h p hh hp A (stkL S s.data.toList) c W (stk_n h2) (fun x hx => by have := stk_bd hS h1 h2 x hx; omega) hA)
  have HAT := hide (fun k h p => @bcO_at S ks s.data.toList k h p)
  have HLIM := hide (bc_lim (S := S) (ks := ks) (L := s.data.toList))
  have HOK := hide (bc_ok (S := S) (ks := ks) (L := s.data.toList))
  have HNO := hide (bc_no (S := S) (ks := ks) (L := s.data.toList))
  have HLN := hide (fun k => allC_len (bcO S ks s.data.toList) k)
  have HC0 : Hid (allC (bcO S ks s.data.toList) 0 = []) := hide rfl
  have HI2 := hide (show (Tryd.prog.info? 35).map (·.size) = some 2 from by kernel_rfl)
  unfold IntsB at HLI
  obtain ⟨n, hL⟩ : ∃ n, ks.length = n := ⟨_, rfl⟩
  have HL := hide hL
  have HVC := hide (fun (h : ks.all vcp = true) x (hx : x ∈ ks) => List.all_eq_true.1 h x hx)
  rw [hL] at hkn HLIM HOK HAL ⊢
  unfold maxLen at hkn
  generalize bcR S ks s.data.toList = V at *
  generalize bcO S ks s.data.toList = O at *
  generalize bcB S ks s.data.toList = BB at *
  generalize stkL S s.data.toList = xs at *
  clear hK hL hkx hS hSx hi hG
  cases h1 : vstr S
  · have HP := hide (HNO.out (by rw [HBB.out, h1]; rfl))
    rw [h1] at HC
    clear h1
    go_enter Tryd.func33, Tryd.ntmps33
    go_wp2_with (refine wpList_load_mid rfl 26 (.tmp 3) rfl _ 0 rfl (wc S) _ r0 Tryd.underlying26 rfl HI.out ?_)
    generalize (w.alloc (.cells (wc S).toArray 26)) = W0 at *
    refine (HC.out _).mono ?_
    rintro e w1 ⟨rfl, hb1⟩
    go_wp2
    go_ret3
    exact ⟨rt3_of HP.out, b0.trans (hb1.mono b0.size)⟩
  · rw [h1] at HC
    cases h2 : ks.all vcp
    · have HP := hide (HNO.out (by rw [HBB.out, h1, h2]; rfl))
      rw [h2] at HAL
      clear h1 h2
      go_enter Tryd.func33, Tryd.ntmps33
      go_wp2_with (refine wpList_load_mid rfl 26 (.tmp 3) rfl _ 0 rfl (wc S) _ r0 Tryd.underlying26 rfl HI.out ?_)
      generalize (w.alloc (.cells (wc S).toArray 26)) = W0 at *
      refine (HC.out _).mono ?_
      rintro e w1 ⟨rfl, hb1⟩
      go_wp2_with fail
      refine (HAL.out _ hb1).mono ?_
      rintro e w2 ⟨rfl, hb2⟩
      have hB2 := hb1.trans (hb2.mono hb1.size)
      go_wp2
      go_ret3
      exact ⟨rt3_of HP.out, b0.trans (hB2.mono b0.size)⟩
    · rw [h2] at HAL
      cases h3 : vtext s.data.toList
      · have HP := hide (HNO.out (by rw [HBB.out, h1, h2, h3]; rfl))
        rw [h3] at HT1
        clear h1 h2 h3
        go_enter Tryd.func33, Tryd.ntmps33
        go_wp2_with (refine wpList_load_mid rfl 26 (.tmp 3) rfl _ 0 rfl (wc S) _ r0 Tryd.underlying26 rfl HI.out ?_)
        generalize (w.alloc (.cells (wc S).toArray 26)) = W0 at *
        refine (HC.out _).mono ?_
        rintro e w1 ⟨rfl, hb1⟩
        go_wp2_with fail
        refine (HAL.out _ hb1).mono ?_
        rintro e w2 ⟨rfl, hb2⟩
        have hB2 := hb1.trans (hb2.mono hb1.size)
        go_wp2_with fail
        refine (HT1.out _).mono ?_
        rintro e w3 ⟨rfl, hb3⟩
        have hB3 := hB2.trans (hb3.mono hB2.size)
        go_wp2
        go_ret3
        exact ⟨rt3_of HP.out, b0.trans (hB3.mono b0.size)⟩
      · rw [h3] at HT1
        have hB : BB = true := by rw [HBB.out, h1, h2, h3]; rfl
        by_cases h12 : 20 < n
        · have HP := hide (HLIM.out hB h12)
          have hi : (20 : Int) < n := by omega
          clear h1 h2 h3 hB
          go_enter Tryd.func33, Tryd.ntmps33
          go_wp2_with (refine wpList_load_mid rfl 26 (.tmp 3) rfl _ 0 rfl (wc S) _ r0 Tryd.underlying26 rfl HI.out ?_)
          generalize (w.alloc (.cells (wc S).toArray 26)) = W0 at *
          refine (HC.out _).mono ?_
          rintro e w1 ⟨rfl, hb1⟩
          go_wp2_with fail
          refine (HAL.out _ hb1).mono ?_
          rintro e w2 ⟨rfl, hb2⟩
          have hB2 := hb1.trans (hb2.mono hb1.size)
          go_wp2_with fail
          refine (HT1.out _).mono ?_
          rintro e w3 ⟨rfl, hb3⟩
          have hB3 := hB2.trans (hb3.mono hB2.size)
          go_wp2
          go_ret3
          exact ⟨rt3_of HP.out, b0.trans (hB3.mono b0.size)⟩
        · have HP := hide (HOK.out hB h12)
          have hi : ¬ (20 : Int) < n := by omega
          have HT := hide (HTI.out h1 h3)
          have HLL := hide (fun W => HLI.out W h3)
          have HVD := hide (HVC.out h2)
          clear h1 h2 h3 hB HTI HLI HVC
          go_enter Tryd.func33, Tryd.ntmps33
          go_wp2_with (refine wpList_load_mid rfl 26 (.tmp 3) rfl _ 0 rfl (wc S) _ r0 Tryd.underlying26 rfl HI.out ?_)
          generalize (w.alloc (.cells (wc S).toArray 26)) = W0 at *
          refine (HC.out _).mono ?_
          rintro e w1 ⟨rfl, hb1⟩
          go_wp2_with fail
          refine (HAL.out _ hb1).mono ?_
          rintro e w2 ⟨rfl, hb2⟩
          have hB2 := hb1.trans (hb2.mono hb1.size)
          go_wp2_with fail
          refine (HT1.out _).mono ?_
          rintro e w3 ⟨rfl, hb3⟩
          have hB3 := hB2.trans (hb3.mono hB2.size)
          have r3 := rangeAt_below r0 hB3 s0
          clear hb1 hb2 hb3 hB2 r0 HAL HC HT1
          go_wp2_with (refine wpList_load_mid rfl 26 (.tmp 3) rfl _ 0 rfl (wc S) _ r3 Tryd.underlying26 rfl HI.out ?_)
          refine (HLL.out _ (HG.out.below hB3)).mono ?_
          rintro e w4 ⟨A4, c4, rfl, hc4, hI4, hb4'⟩
          have hB4 := hB3.trans (hb4'.mono hB3.size)
          have HI4 := hide hI4.at_
          have hb4 := b0.trans (hB4.mono b0.size)
          have hz4 := hb4.size
          clear hI4 hb4' r3
          go_wp2
          go_loopw [10, 34] (fun br i wr => ∃ k : Nat, k ≤ n ∧ i = .int .i64 k ∧ wr.ownsRow w4.heap.size 84 2 br k ((fl (allC O k)).map (.int .i64)) ∧ Below w4.heap.size w4 wr)
            (fun _ i _ => n - (intOf i).toNat)
          case atStart => exact ⟨0, by omega, rfl, by rw [HC0.out]; exact World.ownsRow_nil _ _ _ _, Below.refl _ _⟩
          case round =>
            obtain ⟨k, hk, rfl, hown, hB⟩ := hrel
            have hln := HLN.out k
            obtain ⟨Ab, cbb, rfl, hcap, _⟩ := cellsIn_of_own hown (by omega)
            have hbs := hB.size
            have HOWN := hide hown
            clear hown
            have hBw := hB4.trans (hB.mono hB4.size)
            by_cases hlt : k < n
            · obtain ⟨b, o, rfl, hb, hxs⟩ := HKK.out (by intro e; rw [e] at HL; have := HL.out; simp at this; omega)
              obtain ⟨x, hmk⟩ : ∃ x, ks[k]? = some x := ⟨ks[k]'(by rw [HL.out]; exact hlt), List.getElem?_eq_getElem _⟩
              have hrow := rangeAt_below (hxs k x hmk) hBw hb
              have hv := HVD.out x (List.mem_of_getElem? hmk)
              obtain ⟨h, p⟩ := x
              have hvc := vchi_true.1 (show vchi h p = true from hv)
              have d0 : wr.cell? ⟨b, o + k * 2, none⟩ = some (.int .i16 h) := hrow 0 _ rfl
              have d1 : wr.cell? ⟨b, o + k * 2 + 1, none⟩ = some (.int .i8 p) := hrow 1 _ rfl
              have hi' : (k : Int) < n := by omega
              have h0 : (0 : Int) ≤ k := by omega
              have hbA : Below wr.heap.size wr (wr.alloc (.cells #[.int .i16 h, .int .i8 p] 35)) := (Below.refl _ _).alloc (Nat.le_refl _) _
              have hBA := hB.trans (hbA.mono hbs)
              have HCK := hide (HT.out h p hvc.1 hvc.2 A4 c4 (wr.alloc (.cells #[.int .i16 h, .int .i8 p] 35)) (HI4.out.go hBA))
              rw [← HAT.out k h p hmk] at HCK
              have HBA := hide hBA
              have HOA := hide (own_go HOWN.out hbA)
              clear hxs hmk hrow hv hvc hbA hBA
              generalize hU : O k = U at *
              have HUV := hide hU
              clear hU
              go_wp2_with fail
              refine HCK.out.mono ?_
              rintro e w5 ⟨rfl, hb5⟩
              have hown5 := own_go HOA.out hb5
              have hB5 := HBA.out.trans (hb5.mono HBA.out.size)
              have hs5 := hB5.size
              clear d0 d1 hb5
              go_wp2_with (at_builtin; refine wpList_append_own _ rfl (.tmp 39) (.tmp 45) 82 rfl w4.heap.size 84 i0 (.agg #[.int .i64 0, .int .i64 0]) 2 16 Tryd.underlying82 hi0 hz0 hz1 hz2 rfl (by decide) _ k _ rfl (hown5.alloc _) ⟨w5.heap.size, 0, none⟩ 1 1 [.int .i64 (k : Int), .int .i64 U] rfl rfl (two_cell _ _) (two_one rfl rfl) ?h1 ?h2 ?h3 ?_)
              case h1 => unfold maxLen; omega
              case h2 => omega
              case h3 => simp; omega
              intro v' w6 hown6 hg6 _
              obtain ⟨A6, c6, rfl, _, _⟩ := cellsIn_of_own hown6 (by omega)
              have H6 := hide hown6
              have hg56 : w5.grownBy w6 _ := grown_trans (World.grownBy_alloc w5 _ _) hg6
              have hB6 := hB5.trans (grown_toBelow hg56 (by omega) (fun k hk => (hown5.lt k hk).1))
              clear hown6 hg6 hg56 hown5
              go_wp2
              refine ⟨⟨k + 1, by omega, by go_num, ?_, hB6⟩, by simp [intOf]; omega⟩
              rw [allC_succ, HUV.out, fl_app, List.map_append]
              exact H6.out
            · obtain rfl : k = n := by omega
              obtain ⟨Ag, cg, e, _, hI⟩ := p2In_of_own HOWN.out
              injection e with e1' e2' e3'
              subst e1' e3'
              have HLC := hide (leastChoice_any Ab (allC O k) cbb wr (by rw [hln]; omega) hI.at_)
              rw [← HP.out, hln] at HLC
              have hfin := hb4.trans (hB.mono hb4.size)
              clear hI
              go_wp2_with fail
              refine HLC.out.mono ?_
              rintro e w7 ⟨rfl, hb7⟩
              go_wp2
              go_ret3
              exact ⟨rfl, hfin.trans (hb7.mono hfin.size)⟩
end Go.Proofs.YtkbemhjeflmppaaDoor
