/- LetterAt: the program's. -/
import Derived.Test.YtnanminbnfgcfaaDoorLaS
import Derived.Test.YtnanminbnfgcfaaDoorChL
namespace Go.Proofs.YtnanminbnfgcfaaDoor
open Go Go.RowKit

set_option maxRecDepth 100000 in
set_option maxHeartbeats 8000000 in
theorem implLetterAt_any (F : Fc) (hF : F.ok) (A : Option Addr) (c : Nat) (s : ByteArray) (hs : s.size ≤ maxLen) (x : Int) (w : World) (hG : Glob w) (hA : PairsAt w w.heap.size A F.ps) :
    Calls Tryd.prog 10 #[.agg (fc F (.slice A F.ps.length c)).toArray, .string s, .int .i64 x] w fun e w' => e = .returned (.tuple #[.int .i64 (laV F s.data.toList x), .int .i64 (laC F s.data.toList x)]) ∧ Below w.heap.size w w' := by
  have hW := hide hF.len
  have hr := rangeAt_new w (fc F (.slice A F.ps.length c)) 32
  have hb : Below w.heap.size w (w.alloc (.cells (fc F (.slice A F.ps.length c)).toArray 32)) := (Below.refl _ _).alloc (Nat.le_refl _) _
  have hs0 : w.heap.size < (w.alloc (.cells (fc F (.slice A F.ps.length c)).toArray 32)).heap.size := by simp
  have BA := (hA.below hb).mono hb.size
  have HGW := hide (hG.below hb)
  have HII := hide (show ∀ sl, (Tryd.prog.info? 32).map (·.size) = some (fc F sl).length from fun sl => by rw [fc_length hW.out]; kernel_rfl)
  have HV := hide (implValidFace_any F hF A c _ BA)
  have HT := hide (fun W => implValidText_any s W hs)
  cases hv : vface F
  · have hno : askC F s.data.toList true = 1 := ask_no (fun h => by rw [hv] at h; cases h.1)
    obtain ⟨e1, e2⟩ := la_no (x := x) hno
    rw [e1, e2]
    rw [hv] at HV
    clear hA BA hv hno hG HGW e1 e2
    go_enter Tryd.func10, Tryd.ntmps10
    go_wp2_with (refine wpList_load_mid rfl 32 (.tmp 3) rfl _ 0 rfl _ _ hr Tryd.underlying32 rfl (HII.out _) ?_)
    refine HV.out.mono ?_
    rintro e w1 ⟨rfl, hb1⟩
    go_wp2
    go_ret2
    exact ⟨rfl, hb.trans (hb1.mono hb.size)⟩
  · cases ht : vtext s.data.toList
    · have hno : askC F s.data.toList true = 1 := ask_no (fun h => by rw [ht] at h; cases h.2)
      obtain ⟨e1, e2⟩ := la_no (x := x) hno
      rw [e1, e2]
      rw [hv] at HV
      rw [ht] at HT
      clear hA BA hv hno ht hG HGW e1 e2
      go_enter Tryd.func10, Tryd.ntmps10
      go_wp2_with (refine wpList_load_mid rfl 32 (.tmp 3) rfl _ 0 rfl _ _ hr Tryd.underlying32 rfl (HII.out _) ?_)
      refine HV.out.mono ?_
      rintro e w1 ⟨rfl, hb1⟩
      go_wp2_with fail
      refine (HT.out _).mono ?_
      rintro e w2 ⟨rfl, hb2⟩
      go_wp2
      go_ret2
      exact ⟨rfl, hb.trans ((hb1.trans (hb2.mono hb1.size)).mono hb.size)⟩
    · have hok : askC F s.data.toList true = 0 := by rw [ask_ok hv ht]; rfl
      rw [hv] at HV
      rw [ht] at HT
      have hwl := words_len ht
      have hs60 : s.size ≤ 1048576 := by have := (vtext_true.1 ht).1; simp at this; omega
      obtain ⟨q1, q2⟩ := lineL_bd hF hv (fun x hx => words_mem ht hx) hwl
      have HIN := hide (fun W => between_any x 0 (lineL F (wordsL s.data.toList) - 1) W)
      have hQ : inB x 0 (lineL F (wordsL s.data.toList) - 1) = laIn F s.data.toList x := rfl
      rw [hQ] at HIN
      have HLW := hide (fun W (h : Below (w.alloc (.cells (fc F (.slice A F.ps.length c)).toArray 32)).heap.size (w.alloc (.cells (fc F (.slice A F.ps.length c)).toArray 32)) W) => lineWide_any F hF A c s W hv ht ((BA.below h).mono h.size))
      have HPL := hide (fun W (h : Below (w.alloc (.cells (fc F (.slice A F.ps.length c)).toArray 32)).heap.size (w.alloc (.cells (fc F (.slice A F.ps.length c)).toArray 32)) W) => placesOf_any F hF A c s W hv ht ((BA.below h).mono h.size))
      have HLE := hide (fun W hW => lettersOf_any s W hs60 hW)
      have HPB := hide (plL_bd hF hv ht)
      have HWB := hide (lw_bd hF hv ht)
      have HWD := hide (wdL_lett F s.data.toList)
      have HPN := hide (plL_lett F s.data.toList)
      have hn60 : (lettL s.data.toList).length ≤ 60 := Nat.le_trans (lettL_len _) (vtext_true.1 ht).1
      have HCAP := hide (fun (b : UInt8) (hb : b ∈ lettL s.data.toList) => lett_cap ht hb)
      have HSO := hide (fun k => hit_some (ps := plL F (wordsL s.data.toList)) (ws := wdL F (wordsL s.data.toList)) (x := x) (k := k))
      have HNO := hide (hit_none (ps := plL F (wordsL s.data.toList)) (ws := wdL F (wordsL s.data.toList)) (x := x))
      have HO := hide (show laO F s.data.toList x = hitL (plL F (wordsL s.data.toList)) (wdL F (wordsL s.data.toList)) x from rfl)
      have HLT := hide (fun z W h => letterWide_any F hF (.slice A F.ps.length c) z W h)
      cases hin : laIn F s.data.toList x
      · obtain ⟨e1, e2⟩ := la_out hok hin
        rw [e1, e2]
        rw [hin] at HIN
        generalize lineL F (wordsL s.data.toList) = LN at *
        clear hA BA hv ht hok hs60 HPB HWB HSO HNO HO hQ e1 e2 HWD HPN HPL HCAP hG HGW HLE HLT
        go_enter Tryd.func10, Tryd.ntmps10
        go_wp2_with (refine wpList_load_mid rfl 32 (.tmp 3) rfl _ 0 rfl _ _ hr Tryd.underlying32 rfl (HII.out _) ?_)
        generalize (w.alloc (.cells (fc F (.slice A F.ps.length c)).toArray 32)) = W0 at *
        refine HV.out.mono ?_
        rintro e w1 ⟨rfl, hb1⟩
        go_wp2_with fail
        refine (HT.out _).mono ?_
        rintro e w2 ⟨rfl, hb2⟩
        have hB2 := hb1.trans (hb2.mono hb1.size)
        have r2 := rangeAt_over hr hB2 hs0
        have hB3 := hb.trans (hB2.mono hb.size)
        clear hr hb1 hb2 HV HT
        go_wp2_with (refine wpList_load_mid rfl 32 (.tmp 3) rfl _ 0 rfl _ _ r2 Tryd.underlying32 rfl (HII.out _) ?_)
        refine (HLW.out _ hB2).mono ?_
        rintro e w4 ⟨rfl, hb4⟩
        go_wp2_with (go_at_call 34; refine (HIN.out _).mono ?_; rintro e w5 ⟨rfl, rfl⟩)
        go_ret2
        exact ⟨rfl, hB3.trans (hb4.mono hB3.size)⟩
      · obtain ⟨e1, e2⟩ := la_in hok hin
        rw [e1, e2, HO.out]
        rw [hin] at HIN
        generalize lineL F (wordsL s.data.toList) = LN at *
        generalize plL F (wordsL s.data.toList) = PL at *
        generalize wdL F (wordsL s.data.toList) = WD at *
        generalize lettL s.data.toList = M at *
        clear hA BA hv ht hok hs60 hQ e1 e2 HO hG
        go_enter Tryd.func10, Tryd.ntmps10
        go_wp2_with (refine wpList_load_mid rfl 32 (.tmp 3) rfl _ 0 rfl _ _ hr Tryd.underlying32 rfl (HII.out _) ?_)
        generalize (w.alloc (.cells (fc F (.slice A F.ps.length c)).toArray 32)) = W0 at *
        refine HV.out.mono ?_
        rintro e w1 ⟨rfl, hb1⟩
        go_wp2_with fail
        refine (HT.out _).mono ?_
        rintro e w2 ⟨rfl, hb2⟩
        have hB2 := hb1.trans (hb2.mono hb1.size)
        have r2 := rangeAt_over hr hB2 hs0
        clear hb1 hb2 HV HT
        go_wp2_with (refine wpList_load_mid rfl 32 (.tmp 3) rfl _ 0 rfl _ _ r2 Tryd.underlying32 rfl (HII.out _) ?_)
        refine (HLW.out _ hB2).mono ?_
        rintro e w4 ⟨rfl, hb4⟩
        have hB4 := hB2.trans (hb4.mono hB2.size)
        clear hb4
        go_wp2_with (go_at_call 34; refine (HIN.out _).mono ?_; rintro e w5 ⟨rfl, rfl⟩)
        refine (HLE.out _ (HGW.out.below hB4)).mono ?_
        rintro e w6 ⟨rfl, hb6⟩
        have hB6 := hB4.trans (hb6.mono hB4.size)
        have r6 := rangeAt_over hr hB6 hs0
        clear hb6
        go_wp2_with (refine wpList_load_mid rfl 32 (.tmp 3) rfl _ 0 rfl _ _ r6 Tryd.underlying32 rfl (HII.out _) ?_)
        refine (HPL.out _ hB6).mono ?_
        rintro e w7 ⟨A7, c7, rfl, hc7, hI7, hb7⟩
        have hB7 := hB6.trans (hb7.mono hB6.size)
        have r7 := rangeAt_over hr hB7 hs0
        have hB0 := hb.trans (hB7.mono hb.size)
        have HI7 := hide hI7.at_
        have hz7 : w.heap.size < w7.heap.size := Nat.lt_of_lt_of_le hs0 hB7.size
        obtain ⟨s', hs'⟩ : ∃ s' : ByteArray, s' = ⟨M.toArray⟩ := ⟨_, rfl⟩
        rw [← hs']
        have hX : s'.data.toList = M := congrArg (fun b : ByteArray => b.data.toList) hs'
        have hsz : s'.size = M.length := congrArg ByteArray.size hs'
        clear hb7 r2 r6 hr hI7 hs' HLE HPL HLW HGW
        obtain ⟨n, hn⟩ : ∃ n, M.length = n := ⟨_, rfl⟩
        have hpn : PL.length = n := by rw [HPN.out, hn]
        rw [hn] at hn60 hsz
        rw [hpn]
        go_wp2
        go_loopw [32] (fun i wr => ∃ k : Nat, k ≤ n ∧ i = .int .i64 k ∧ (∀ j, j < k → hitB PL WD x j = false) ∧ Below w7.heap.size w7 wr)
          (fun i _ => n - (intOf i).toNat)
        case atStart => exact ⟨0, Nat.zero_le _, rfl, fun j hj => by omega, Below.refl _ _⟩
        case round =>
          obtain ⟨k, hk, rfl, hno, hB⟩ := hrel
          have HN := hide hno
          clear hno
          by_cases hlt : k < n
          · obtain ⟨p, hp⟩ : ∃ p, PL[k]? = some p := ⟨PL[k]'(by omega), List.getElem?_eq_getElem _⟩
            obtain ⟨b7, o7, rfl, hb7, hx7⟩ := HI7.out (by intro e; rw [e] at hpn; simp at hpn; omega)
            have c7 := (hB.cell (p := ⟨b7, o7 + k, none⟩) hb7).trans (hx7 k p hp)
            obtain ⟨p1, p2⟩ := HPB.out p (List.mem_of_getElem? hp)
            have hks : k < s'.size := by omega
            have hmk : M[k]? = some s'[k] := by
              have h' : k < s'.data.toList.length := by rw [hX, hn]; exact hlt
              rw [← hX, List.getElem?_eq_getElem h']; rfl
            have hbm := List.mem_of_getElem? hmk
            obtain ⟨y, hy⟩ : ∃ y, lwd F s'[k] = y := ⟨_, rfl⟩
            have hyw : WD[k]? = some y := by rw [HWD.out, List.getElem?_map, hmk, ← hy]; rfl
            obtain ⟨y1, y2⟩ := HWB.out _ hbm
            rw [hy] at y1 y2
            obtain ⟨h65, h90⟩ := HCAP.out _ hbm
            have HLK := hide (fun W => HLT.out (s'[k].toNat : Int) W (cap_true.2 (by omega)))
            have hly : F.W.getD ((s'[k].toNat : Int) - 65).toNat 0 = y := by
              rw [← hy]; unfold lwd
              have : ((s'[k].toNat : Int) - 65).toNat = s'[k].toNat - 65 := by omega
              rw [this]
            rw [hly] at HLK
            have HH := hide (hit_at (x := x) hp hyw)
            have HBT := hide (fun W => between_any x p (p + y - 1) W)
            have hi : (k : Int) < n := by omega
            have his : (k : Int) < s'.size := by omega
            have hk0 : (0 : Int) ≤ k := by omega
            have rr := rangeAt_below r7 hB hz7
            have HROW := hide (over_row rr (Nat.lt_of_lt_of_le hz7 hB.size))
            clear hx7 hp hyw hmk hbm hy hly h65 h90 rr
            cases hh : inB x p (p + y - 1)
            · rw [hh] at HBT HH
              clear hh
              go_wp2
              refine wp_region_over (by kernel_rfl) (by kernel_rfl) ?_
              repeat (first | (refine wpQuiet_load_row rfl 32 (.tmp 3) rfl _ 0 rfl _ _ HROW.out Tryd.underlying32 rfl (HII.out _) ?_; simp only [Act.put, List.setIfInBounds_toArray, List.set_cons_zero, List.set_cons_succ]) | go_big_quiet_step ((first | (go_at_call 38; exact over_call (HLK.out _)) | (go_at_call 34; exact over_same (HBT.out _)))))
              refine wpQuiet_nil ?_
              intro w9 hb9
              go_wp2
              refine ⟨⟨k + 1, by omega, by go_num, fun j hj => ?_, hB.trans (hb9.mono hB.size)⟩, by simp [intOf]; omega⟩
              by_cases e : j = k
              · subst e; exact HH.out
              · exact HN.out j (by omega)
            · rw [hh] at HBT HH
              clear hh
              have HS := hide (HSO.out k (by omega) HH.out HN.out)
              go_wp2
              refine wp_region_over (by kernel_rfl) (by kernel_rfl) ?_
              repeat (first | (refine wpQuiet_load_row rfl 32 (.tmp 3) rfl _ 0 rfl _ _ HROW.out Tryd.underlying32 rfl (HII.out _) ?_; simp only [Act.put, List.setIfInBounds_toArray, List.set_cons_zero, List.set_cons_succ]) | go_big_quiet_step ((first | (go_at_call 38; exact over_call (HLK.out _)) | (go_at_call 34; exact over_same (HBT.out _)))))
              refine wpQuiet_nil ?_
              intro w9 hb9
              go_wp2
              go_ret2
              have hBB := hB.trans (hb9.mono hB.size)
              exact ⟨by rw [HS.out]; rfl, hB0.trans (hBB.mono hB0.size)⟩
          · obtain rfl : k = n := by omega
            have HS := hide (HNO.out (fun j hj => HN.out j (by omega)))
            go_wp2
            go_ret2
            exact ⟨by rw [HS.out]; rfl, hB0.trans (hB.mono hB0.size)⟩
end Go.Proofs.YtnanminbnfgcfaaDoor
