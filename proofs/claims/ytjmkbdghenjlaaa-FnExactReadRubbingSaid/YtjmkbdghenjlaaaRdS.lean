/- ReadRubbing of the model. -/
import Derived.Test.YtjmkbdghenjlaaaRdA
namespace Go.Proofs.Ytjmkbdghenjlaaa
open Go Go.RowKit

set_option maxRecDepth 100000 in
set_option maxHeartbeats 16000000 in
theorem specReadRubbing_any (s : ByteArray) (hs : s.size ≤ 1048576) (w : World) :
    Calls Try.prog 11 #[.string s] w fun e w' => e = .returned (.tuple #[.agg (rwc (rdV s.data.toList)).toArray, .int .i64 (rdC s.data.toList)]) ∧ Below w.heap.size w w' := by
  have b0 : Below w.heap.size w (w.alloc (.cells #[.int .u16 0, .int .u16 0, .int .u16 0, .int .u16 0, .int .u16 0, .int .u16 0, .int .u16 0, .int .u16 0] 26)) := (Below.refl _ _).alloc (Nat.le_refl _) _
  have t0 : (w.alloc (.cells #[.int .u16 0, .int .u16 0, .int .u16 0, .int .u16 0, .int .u16 0, .int .u16 0, .int .u16 0, .int .u16 0] 26)).there w.heap.size 0 8 := there_newg rfl rfl
  have s0 : (w.alloc (.cells #[.int .u16 0, .int .u16 0, .int .u16 0, .int .u16 0, .int .u16 0, .int .u16 0, .int .u16 0, .int .u16 0] 26)).heap.size = w.heap.size + 1 := by simp
  have HSP := hide (l01SplitT_any s (w.alloc (.cells #[.int .u16 0, .int .u16 0, .int .u16 0, .int .u16 0, .int .u16 0, .int .u16 0, .int .u16 0, .int .u16 0] 26)) hs)
  have HB0 := hide b0
  have HY := hide (@rd_yes s.data.toList)
  have HN := hide (@rd_no s.data.toList)
  have HTX := hide (@ok_text s.data.toList)
  have HLN := hide (fun x y hx hy h => @ok_ln s.data.toList h x y hx hy)
  have hne := splitT_ne s.data.toList
  have hsl : s.data.toList.length = s.size := by simp
  have hSn : (splitT s.data.toList).length ≤ 1048577 := by have := splitT_len s.data.toList; omega
  obtain ⟨S, hS⟩ : ∃ S, splitT s.data.toList = S := ⟨_, rfl⟩
  rw [hS] at HSP HY HN HLN hne hSn
  have HS := hide hS
  clear b0 hS hsl
  go_enter Try.func11, Try.ntmps11
  go_wp2_with fail
  generalize (w.alloc (.cells #[.int .u16 0, .int .u16 0, .int .u16 0, .int .u16 0, .int .u16 0, .int .u16 0, .int .u16 0, .int .u16 0] 26)) = W0 at *
  refine HSP.out.mono ?_
  rintro e w1 ⟨A, c, rfl, _, hI, hb1⟩
  obtain ⟨b, o, rfl, hb2, hb3, hx, _⟩ := hI (by intro e; exact hne (List.map_eq_nil_iff.1 e))
  have hX := hide (fun y (hy : y < S.length) => show w1.cell? ⟨b, o + y, none⟩ = some (.string ⟨(S.getD y []).toArray⟩) from by
    refine hx y _ ?_
    rw [List.getElem?_map, List.getElem?_eq_getElem hy, List.getD_eq_getElem?_getD, List.getElem?_eq_getElem hy]; rfl)
  have ht1 := there_below t0 hb1 (by omega)
  have hB1 := HB0.out.trans (hb1.mono HB0.out.size)
  clear hx hI t0 hb1 hne
  by_cases h9 : S.length = 9
  rotate_left
  · obtain ⟨e1, e2⟩ := HN.out (ok_len h9)
    have HE1 := hide e1
    have HE2 := hide e2
    have hd : ((S.length : Int) != 9) = true := by simp; omega
    clear h9 e1 e2 HY HN HTX HLN
    go_wp2_with (refine wpList_store_mid rfl 26 (.tmp 2) (.tmp 19) rfl w.heap.size 0 (rwc zRd).toArray rfl rfl ht1 (rub_info zRd_ok.1) (rwc_one _) ?_)
    refine bodyPost_ret (results_midD rfl _ _ w.heap.size 0 (rwc zRd) _ rfl (World.rangeAt_setCells_same _ _ _ _ ht1) Try.underlying26 rfl (rub_info' zRd_ok.1)) rfl ⟨by rw [HE1.out, HE2.out]; rfl, ?_⟩
    exact below_setCells _ _ _ _ hB1 (Nat.le_refl _)
  have hd : ((S.length : Int) != 9) = false := by simp; omega
  have c8 := hX.out 8 (by omega)
  have h98 : (8 : Int) < S.length := by omega
  have HT := hide (show S.getD 8 [] ≠ [] → ¬ okT S from ok_last)
  have HROW := hide (fun y hy h => @ok_row S y hy h)
  have HDOT := hide (fun y hy c hc h1 h2 => @ok_dot S y hy c hc h1 h2)
  have HOKD := hide (fun h1 h2 h3 => (⟨h1, h2, h3⟩ : okT S))
  have H9 := hide h9
  obtain ⟨T, hT⟩ : ∃ T, S.getD 8 [] = T := ⟨_, rfl⟩
  rw [hT] at c8 HT
  cases T with
  | cons d r =>
    obtain ⟨e1, e2⟩ := HN.out (HT.out (by simp))
    have HE1 := hide e1
    have HE2 := hide e2
    clear h9 e1 e2 HY HN HTX HLN HT HROW HDOT HOKD hT
    go_wp2_with (refine wpList_store_mid rfl 26 (.tmp 2) (.tmp 19) rfl w.heap.size 0 (rwc zRd).toArray rfl rfl ht1 (rub_info zRd_ok.1) (rwc_one _) ?_)
    refine bodyPost_ret (results_midD rfl _ _ w.heap.size 0 (rwc zRd) _ rfl (World.rangeAt_setCells_same _ _ _ _ ht1) Try.underlying26 rfl (rub_info' zRd_ok.1)) rfl ⟨by rw [HE1.out, HE2.out]; rfl, ?_⟩
    exact below_setCells _ _ _ _ hB1 (Nat.le_refl _)
  | nil =>
  have H8 := hide hT
  have hw1s : w.heap.size < w1.heap.size := by
    have := (World.block_lt_of_cell? w1 _ c8); omega
  have hsz1 := hB1.size
  have z0 := rangeAt_new' w1 #[.int .u16 0, .int .u16 0, .int .u16 0, .int .u16 0, .int .u16 0, .int .u16 0, .int .u16 0, .int .u16 0] 26
  have bZ : Below w1.heap.size w1 (w1.alloc (.cells #[.int .u16 0, .int .u16 0, .int .u16 0, .int .u16 0, .int .u16 0, .int .u16 0, .int .u16 0, .int .u16 0] 26)) := (Below.refl _ _).alloc (Nat.le_refl _) _
  have HZ0 := hide (show (w1.alloc (.cells #[.int .u16 0, .int .u16 0, .int .u16 0, .int .u16 0, .int .u16 0, .int .u16 0, .int .u16 0, .int .u16 0] 26)).rangeAt w1.heap.size 0 (rwc (rubT (lnF S) 0 0)) from by rw [rubT_zero]; exact z0)
  have HTZ := hide (show (w1.alloc (.cells #[.int .u16 0, .int .u16 0, .int .u16 0, .int .u16 0, .int .u16 0, .int .u16 0, .int .u16 0, .int .u16 0] 26)).there w1.heap.size 0 8 from there_newg rfl rfl)
  have HTW := hide (show (w1.alloc (.cells #[.int .u16 0, .int .u16 0, .int .u16 0, .int .u16 0, .int .u16 0, .int .u16 0, .int .u16 0, .int .u16 0] 26)).there w.heap.size 0 8 from World.there_alloc ht1 _)
  have HBZ := hide bZ
  have HSZ := hide (show w1.heap.size < (w1.alloc (.cells #[.int .u16 0, .int .u16 0, .int .u16 0, .int .u16 0, .int .u16 0, .int .u16 0, .int .u16 0, .int .u16 0] 26)).heap.size by simp)
  have c8' : w1.cell? ⟨b, o + 8, none⟩ = some (.string ⟨#[]⟩) := c8
  clear h9 hT z0 bZ ht1 c8
  go_wp2
  generalize (w1.alloc (.cells #[.int .u16 0, .int .u16 0, .int .u16 0, .int .u16 0, .int .u16 0, .int .u16 0, .int .u16 0, .int .u16 0] 26)) = W2 at *
  go_loopw [6] (fun i wr => ∃ y : Nat, y ≤ 8 ∧ i = .int .i64 y ∧ Hid (∀ j, j < y → (S.getD j []).length = 16 ∧ ∀ c ∈ S.getD j [], c = 35 ∨ c = 46) ∧ Hid (wr.rangeAt w1.heap.size 0 (rwc (rubT (lnF S) y 0))) ∧ Hid (wr.there w1.heap.size 0 8) ∧ Hid (wr.there w.heap.size 0 8) ∧ Below w1.heap.size w1 wr ∧ w1.heap.size < wr.heap.size) (fun i _ => 8 - (intOf i).toNat)
  case atStart => exact ⟨0, by omega, rfl, hide (fun j hj => by omega), HZ0, HTZ, HTW, HBZ.out, HSZ.out⟩
  case round =>
    clear HZ0 HTZ HTW HBZ HSZ
    obtain ⟨y, hy, rfl, HALL, HR, HT1, HT0, hB, hsz⟩ := hrel
    have hBw := hB1.trans (hB.mono hsz1)
    by_cases hlt : y < 8
    · have hiy : (y : Int) < 8 := by omega
      have h0y : (0 : Int) ≤ y := by omega
      have hyS : (y : Int) < S.length := by have := H9.out; omega
      have cy := (hB.cell (p := ⟨b, o + y, none⟩) hb3).trans (hX.out y (by have := H9.out; omega))
      obtain ⟨T, hT⟩ : ∃ T, S.getD y [] = T := ⟨_, rfl⟩
      have HTY := hide hT
      rw [hT] at cy
      obtain ⟨ts, hts⟩ : ∃ ts : ByteArray, (⟨T.toArray⟩ : ByteArray) = ts := ⟨_, rfl⟩
      have hsT : ts.size = T.length := by rw [← hts]; simp [ByteArray.size]
      have HCH := hide (fun x (hx : x < ts.size) => show T[x]? = some ts[x] from by subst hts; rw [List.getElem?_eq_getElem (by rw [← hsT]; exact hx)]; rfl)
      rw [hts] at cy
      have HCY := hide (fun W (hW : Below w1.heap.size w1 W) => show W.cell? ⟨b, o + y, none⟩ = some (.string ts) from by
        have := (hW.cell (p := ⟨b, o + y, none⟩) hb3).trans (hX.out y (by have := H9.out; omega))
        rw [hT, hts] at this; exact this)
      clear hts
      by_cases h16 : T.length = 16
      rotate_left
      · obtain ⟨e1, e2⟩ := HN.out (HROW.out y hlt (by rw [hT]; exact h16))
        have HE1 := hide e1
        have HE2 := hide e2
        have hd : ((ts.size : Int) != 16) = true := by simp; omega
        have ht0 := HT0.out
        clear h16 e1 e2 HY HN HTX HLN HT HROW HDOT HOKD hT HALL HR HT1 hsT HCH
        go_wp2_with (refine wpList_store_mid rfl 26 (.tmp 2) (.tmp 31) rfl w.heap.size 0 (rwc zRd).toArray rfl rfl ht0 (rub_info zRd_ok.1) (rwc_one _) ?_)
        refine bodyPost_ret (results_midD rfl _ _ w.heap.size 0 (rwc zRd) _ rfl (World.rangeAt_setCells_same _ _ _ _ ht0) Try.underlying26 rfl (rub_info' zRd_ok.1)) rfl ⟨by rw [HE1.out, HE2.out]; rfl, ?_⟩
        exact below_setCells _ _ _ _ hBw (Nat.le_refl _)
      have hd : ((ts.size : Int) != 16) = false := by simp; omega
      have hts16 : ts.size = 16 := by omega
      have hdT : ((T.length : Int) != 16) = false := by simp; omega
      clear h16
      go_wp2
      go_loopw [7] (fun i wr => ∃ x : Nat, x ≤ 16 ∧ i = .int .i64 x ∧ Hid (∀ j c, j < x → T[j]? = some c → c = 35 ∨ c = 46) ∧ Hid (wr.rangeAt w1.heap.size 0 (rwc (rubT (lnF S) y x))) ∧ Hid (wr.there w1.heap.size 0 8) ∧ Hid (wr.there w.heap.size 0 8) ∧ Below w1.heap.size w1 wr ∧ w1.heap.size < wr.heap.size) (fun i _ => 16 - (intOf i).toNat)
      case atStart => exact ⟨0, by omega, rfl, hide (fun j c hj => by omega), HR, HT1, HT0, hB, hsz⟩
      case round =>
        clear HR HT1 HT0 hB hsz hBw cy
        obtain ⟨x, hx, rfl, HAX, HR, HT1, HT0, hB, hsz⟩ := hrel
        have hBw := hB1.trans (hB.mono hsz1)
        by_cases hltx : x < 16
        · have hix : (x : Int) < ts.size := by omega
          have hix6 : (x : Int) < 16 := by omega
          have h0x : (0 : Int) ≤ x := by omega
          have hxts : x < ts.size := by omega
          have HCX := hide (HCH.out x hxts)
          have hcy := HCY.out wr hB
          by_cases h35 : ts[x] = 35
          · have hd1 : ((ts[x].toNat : Int) == 35) = true := by rw [h35]; rfl
            have hb : lnF S x y = true := by unfold lnF; rw [HTY.out, HCX.out, h35]; rfl
            have HS := hide (rubT_set hlt hb)
            have HOR := hide (u16_orbit (rowF_lt16 (fun x => lnF S x y) hx) hltx)
            have hmin : min (x : Int).toNat 16 = x := u16_min (by omega)
            have hcw : IntKind.u64.wrap (x : Int) = x := by simp [IntKind.wrap, IntKind.bits, IntKind.signed] <;> omega
            have hc := rangeAt_cell HR.out (rwc_get (k := y) (by rw [rubT_len]; exact hlt))
            rw [rubT_get (lnF S) hlt] at hc
            have hf2 := (HT1.out y hlt).2
            simp only [Nat.zero_add] at hf2
            have HAX2 : Hid (∀ j c, j < x + 1 → T[j]? = some c → c = 35 ∨ c = 46) := hide (fun j c' hj hjc => by
              by_cases e : j = x
              · rw [e, HCX.out] at hjc; injection hjc with hjc; exact .inl (hjc.symm.trans h35)
              · exact HAX.out j c' (by omega) hjc)
            generalize rowF (fun x => lnF S x y) x = m at *
            clear h35 hb HAX
            go_wp2
            refine ⟨⟨x + 1, by omega, by go_num, HAX2, hide ?_, hide (there_set HT1.out _ _), hide (there_set HT0.out _ _), hB.setCell (p := ⟨w1.heap.size, y, none⟩) (Nat.le_refl _) _, by rw [size_setCell]; exact hsz⟩, by simp [intOf]; omega⟩
            rw [HOR.out, ← HS.out, ← rwc_set]
            exact rangeAt_set HR.out y _ (by rw [rwc_length, rubT_len]; exact hlt)
          · have hd1 : ((ts[x].toNat : Int) == 35) = false := by
              cases hq : ((ts[x].toNat : Int) == 35)
              · rfl
              · exact absurd (UInt8.toNat_inj.1 (by have : (ts[x].toNat : Int) = 35 := by simpa using hq
                                                    show ts[x].toNat = 35; omega)) h35
            by_cases h46 : ts[x] = 46
            · have hd2 : ((ts[x].toNat : Int) == 46) = true := by rw [h46]; rfl
              have hb : lnF S x y = false := by unfold lnF; rw [HTY.out, HCX.out, h46]; rfl
              have HO := hide (rubT_off (y := y) hb)
              have HAX2 : Hid (∀ j c, j < x + 1 → T[j]? = some c → c = 35 ∨ c = 46) := hide (fun j c' hj hjc => by
                by_cases e : j = x
                · rw [e, HCX.out] at hjc; injection hjc with hjc; exact .inr (hjc.symm.trans h46)
                · exact HAX.out j c' (by omega) hjc)
              clear h35 h46 hb HAX
              go_wp2
              exact ⟨⟨x + 1, by omega, by go_num, HAX2, by rw [HO.out]; exact HR, HT1, HT0, hB, hsz⟩, by simp [intOf]; omega⟩
            · have hd2 : ((ts[x].toNat : Int) == 46) = false := by
                cases hq : ((ts[x].toNat : Int) == 46)
                · rfl
                · exact absurd (UInt8.toNat_inj.1 (by have : (ts[x].toNat : Int) = 46 := by simpa using hq
                                                      show ts[x].toNat = 46; omega)) h46
              obtain ⟨e1, e2⟩ := HN.out (HDOT.out y hlt ts[x] (by rw [HTY.out]; exact List.mem_of_getElem? HCX.out) h35 h46)
              have HE1 := hide e1
              have HE2 := hide e2
              have ht0 := HT0.out
              clear h35 h46 e1 e2 HY HN HTX HLN HT HROW HDOT HOKD HALL HR HT1 HCH HAX HCX
              go_wp2_with (refine wpList_store_mid rfl 26 (.tmp 2) (.tmp 42) rfl w.heap.size 0 (rwc zRd).toArray rfl rfl ht0 (rub_info zRd_ok.1) (rwc_one _) ?_)
              refine bodyPost_ret (results_midD rfl _ _ w.heap.size 0 (rwc zRd) _ rfl (World.rangeAt_setCells_same _ _ _ _ ht0) Try.underlying26 rfl (rub_info' zRd_ok.1)) rfl ⟨by rw [HE1.out, HE2.out]; rfl, ?_⟩
              exact below_setCells _ _ _ _ hBw (Nat.le_refl _)
        · obtain rfl : x = 16 := by omega
          have HALL2 : Hid (∀ j, j < y + 1 → (S.getD j []).length = 16 ∧ ∀ c ∈ S.getD j [], c = 35 ∨ c = 46) := hide (fun j hj => by
            by_cases e : j = y
            · rw [e, HTY.out]
              refine ⟨by omega, fun c hc => ?_⟩
              obtain ⟨i, hi⟩ := List.getElem?_of_mem hc
              exact HAX.out i c (by have := (List.getElem?_eq_some_iff.1 hi).1; omega) hi
            · exact HALL.out j (by omega))
          have HR2 := HR
          rw [rubT_next] at HR2
          clear HALL HAX HR
          go_wp2
          exact ⟨⟨y + 1, by omega, by go_num, HALL2, HR2, HT1, HT0, hB, hsz⟩, by simp [intOf]; omega⟩
    · obtain rfl : y = 8 := by omega
      have hok := HOKD.out H9.out H8.out HALL.out
      obtain ⟨e1, e2⟩ := HY.out hok
      have HE1 := hide e1
      have HE2 := hide e2
      have hrr : rubT (lnF S) 8 0 = rdR s.data.toList := by
        rw [rubT_all]; exact rubF_congr fun x y hx hy => HLN.out x y hx hy hok
      have hr := HR.out
      rw [hrr] at hr
      have ht0 := HT0.out
      have HRO := hide (show rok (rdR s.data.toList) from rubF_ok _)
      have ht0' : wr.there w.heap.size 0 (rwc (rdR s.data.toList)).toArray.size := by simp only [List.size_toArray]; rw [rwc_length, HRO.out.1]; exact ht0
      clear hok e1 e2 HY HN HTX HLN HT HROW HDOT HOKD HALL HR HT1 hrr
      generalize rdR s.data.toList = R at *
      go_wp2_with (first
        | (refine wpList_load_mid rfl 26 (.tmp 5) rfl w1.heap.size 0 rfl (rwc R) _ hr Try.underlying26 rfl (rub_info' HRO.out.1) ?_)
        | (refine wpList_store_mid rfl 26 (.tmp 2) (.tmp 56) rfl w.heap.size 0 (rwc R).toArray rfl rfl ht0' (rub_info HRO.out.1) (rwc_one _) ?_))
      refine bodyPost_ret (results_midD rfl _ _ w.heap.size 0 (rwc R) _ rfl (World.rangeAt_setCells_same _ _ _ _ ht0') Try.underlying26 rfl (rub_info' HRO.out.1)) rfl ⟨by rw [HE1.out, HE2.out]; rfl, ?_⟩
      exact below_setCells _ _ _ _ hBw (Nat.le_refl _)
end Go.Proofs.Ytjmkbdghenjlaaa
