/- The code of hands, and the nearest one, of the model. -/
import Derived.Test.YtjmkbdghenjlaaaDoorHnP
namespace Go.Proofs.YtjmkbdghenjlaaaDoor
open Go Go.RowKit

theorem lst_formH (o : Nat → Int) : ∀ k, 0 < k → ∃ j, j < k ∧ lstO (allC o k) = some ((j : Int), o j)
  | 0, h => absurd h (Nat.lt_irrefl _)
  | 1, _ => ⟨0, by omega, rfl⟩
  | k + 2, _ => by
    obtain ⟨j, hj, e⟩ := lst_formH o (k + 1) (by omega)
    have := lst_next o (k + 1) _ e
    rw [this]
    split
    · exact ⟨k + 1, by omega, rfl⟩
    · exact ⟨j, by omega, rfl⟩

set_option maxRecDepth 100000 in
set_option maxHeartbeats 4000000 in
theorem l07Hands_any (A : Option Addr) (ls : List Iss) (c : Nat) (w : World) (hn : ls.length ≤ maxLen) (hl : IssOk w ls) (hA : IssAt w w.heap.size A ls) :
    Calls Tryd.prog 51 #[.slice A ls.length c] w fun e w' => e = .returned (.int .i64 (hdC (issD ls))) ∧ w = w' := by
  unfold maxLen at hn
  have HCH := hide (fun l (h : l ∈ ls) => l07Gaps_any l.1 l.2.1 l.2.2 w (hl l h).1 (hl l h).2)
  have HBAD := hide (fun k l h h' => (allG_iss ls).symm.trans (@allG_bad ls k l h h'))
  have HTK := hide (fun k l h => @allG_take ls k l h)
  have HTA : Hid (allG (ls.take ls.length) = allH (issD ls)) := hide (by rw [List.take_length]; exact allG_iss ls)
  have HNO := hide (@hd_no (issD ls))
  have HLO := hide (@hd_long (issD ls))
  have HOK := hide (@hd_ok (issD ls))
  have HA := hide hA
  obtain ⟨n, hN⟩ : ∃ n, ls.length = n := ⟨_, rfl⟩
  have HN := hide hN
  rw [issD_len, hN] at HLO HOK
  rw [hN] at hn HTA ⊢
  generalize hdC (issD ls) = V at *
  clear hN hA hl
  go_enter Tryd.func51, Tryd.ntmps51
  go_wp2
  go_loop [3] (fun i => ∃ k : Nat, k ≤ n ∧ i = .int .i64 k ∧ Hid (allG (ls.take k) = true)) (fun i => n - (intOf i).toNat)
  case atStart => exact ⟨0, Nat.zero_le _, rfl, hide rfl⟩
  case round =>
    obtain ⟨k, hk, rfl, HG⟩ := hrel
    by_cases hlt : k < n
    · obtain ⟨b, o, rfl, hb, hxs⟩ := HA.out (by intro e; rw [e] at HN; have := HN.out; simp at this; omega)
      obtain ⟨l, hlk⟩ : ∃ l, ls[k]? = some l := ⟨ls[k]'(by rw [HN.out]; exact hlt), List.getElem?_eq_getElem _⟩
      have hc := hxs k l hlk
      have HC := hide (HCH.out l (List.mem_of_getElem? hlk))
      have HX := hide hlk
      have hi : (k : Int) < n := by omega
      have h0 : (0 : Int) ≤ k := by omega
      clear hxs hlk
      cases hg : gvB l.2.1
      · rw [hg] at HC
        have HE := hide (HNO.out (HBAD.out k l HX.out hg))
        go_wp2_with fail
        refine HC.out.mono ?_
        rintro e w' ⟨rfl, rfl⟩
        go_wp2
        go_ret
        exact ⟨ret_int HE.out.symm, rfl⟩
      · rw [hg] at HC
        have HG2 : Hid (allG (ls.take (k + 1)) = true) := hide (by rw [HTK.out k l HX.out, HG.out, hg]; rfl)
        go_wp2_with fail
        refine HC.out.mono ?_
        rintro e w' ⟨rfl, rfl⟩
        go_wp2
        exact ⟨⟨k + 1, by omega, by go_num, HG2⟩, by simp [intOf]; omega⟩
    · obtain rfl : k = n := by omega
      have hall := HTA.out.symm.trans HG.out
      by_cases h8 : 8 < k
      · have HE := hide (HLO.out hall h8)
        have hd : decide ((8 : Int) < k) = true := by simp; omega
        have hd' : decide (8 < k) = true := by simpa using h8
        clear hall
        go_wp2
        go_ret
        exact ⟨ret_int HE.out.symm, rfl⟩
      · have HE := hide (HOK.out hall h8)
        have hd : decide ((8 : Int) < k) = false := by simp; omega
        have hd' : decide (8 < k) = false := by simpa using h8
        clear hall
        go_wp2
        go_ret
        exact ⟨ret_int HE.out.symm, rfl⟩

set_option maxRecDepth 100000 in
set_option maxHeartbeats 8000000 in
theorem specNearestHand_any (A : Option Addr) (ls : List Iss) (c : Nat) (hn : ls.length ≤ maxLen) (B : Option Addr) (gs : List Int) (d : Nat) (hm : gs.length ≤ maxLen) (w : World) (hl : IssOk w ls) (hA : IssAt w w.heap.size A ls) (hB : IntsAt w w.heap.size B gs) :
    Calls Tryd.prog 19 #[.slice A ls.length c, .slice B gs.length d] w fun e w' => e = .returned (.tuple #[.int .i64 (nhR (issD ls) gs).1, .int .i64 (nhR (issD ls) gs).2.1, .int .i64 (nhR (issD ls) gs).2.2]) ∧ Below w.heap.size w w' := by
  have HG := hide (l07Gaps_any B gs d w hm hB)
  have HH := hide (l07Hands_any A ls c w hn hl hA)
  unfold maxLen at hn
  cases hg : gvB gs
  · have HV := hide (nh_g (hs := issD ls) hg)
    rw [hg] at HG
    generalize nhR (issD ls) gs = V at *
    clear hA hB hn hm hl hg
    go_enter Tryd.func19, Tryd.ntmps19
    go_wp2_with fail
    refine HG.out.mono ?_
    rintro e w' ⟨rfl, rfl⟩
    go_wp2
    go_ret3
    exact ⟨rt3_of HV.out, Below.refl _ _⟩
  rw [hg] at HG
  cases hh : allH (issD ls)
  · have HV := hide (nh_h (gs := gs) hh)
    rw [hd_no hh] at HH
    generalize nhR (issD ls) gs = V at *
    clear hA hB hn hm hl hg hh
    go_enter Tryd.func19, Tryd.ntmps19
    go_wp2_with fail
    refine HG.out.mono ?_
    rintro e w' ⟨rfl, rfl⟩
    go_wp2_with fail
    refine HH.out.mono ?_
    rintro e w' ⟨rfl, rfl⟩
    go_wp2
    go_ret3
    exact ⟨rt3_of HV.out, Below.refl _ _⟩
  by_cases h8 : 8 < (issD ls).length
  · have HV := hide (nh_l hg hh h8)
    rw [hd_long hh h8] at HH
    generalize nhR (issD ls) gs = V at *
    clear hA hB hn hm hl hg hh h8
    go_enter Tryd.func19, Tryd.ntmps19
    go_wp2_with fail
    refine HG.out.mono ?_
    rintro e w' ⟨rfl, rfl⟩
    go_wp2_with fail
    refine HH.out.mono ?_
    rintro e w' ⟨rfl, rfl⟩
    go_wp2
    go_ret3
    exact ⟨rt3_of HV.out, Below.refl _ _⟩
  have HV := hide (nh_ok hg hh h8)
  rw [hd_ok hh h8] at HH
  have hall := (allG_iss ls).trans hh
  rw [issD_len] at h8
  have HAP := hide (fun l (h : l ∈ ls) W (hW : Below w.heap.size w W) => l07Apart_any l.1 l.2.1 l.2.2 B gs d W (gv_true (allG_mem hall h)) (gv_true hg) ((hl l h).2.go hW) (hB.go hW))
  have HO := hide (fun k l (h : ls[k]? = some l) => show nhO (issD ls) gs k = apV l.2.1 gs by unfold nhO; rw [issD_get h])
  have HA := hide hA
  obtain ⟨n, hN⟩ : ∃ n, ls.length = n := ⟨_, rfl⟩
  have HN := hide hN
  rw [issD_len] at HV
  rw [hN] at hn h8 HV HH ⊢
  generalize nhR (issD ls) gs = V at *
  generalize nhO (issD ls) gs = O at *
  clear hN hA hB hl hg hh hall hm
  by_cases h00 : n = 0
  · have HV0 : Hid (V = (0, 0, 6)) := hide (by rw [HV.out, h00]; rfl)
    have hz : ((n : Int) == 0) = true := by simp; omega
    clear h00 HO HAP HA hn h8
    go_enter Tryd.func19, Tryd.ntmps19
    go_wp2_with fail
    refine HG.out.mono ?_
    rintro e w' ⟨rfl, rfl⟩
    go_wp2_with fail
    refine HH.out.mono ?_
    rintro e w' ⟨rfl, rfl⟩
    go_wp2
    go_ret3
    exact ⟨rt3_of HV0.out, Below.refl _ _⟩
  have hz : ((n : Int) == 0) = false := by simp; omega
  have HNX := hide (lst_next O)
  have HONE : Hid (lstO (allC O 1) = some (((0 : Nat) : Int), O 0)) := hide rfl
  obtain ⟨b, o, rfl, hb, hxs⟩ := HA.out (by intro e; rw [e] at HN; have := HN.out; simp at this; omega)
  obtain ⟨l0, hl0⟩ : ∃ l, ls[0]? = some l := ⟨ls[0]'(by rw [HN.out]; omega), List.getElem?_eq_getElem _⟩
  have hc : w.cell? ⟨b, o, none⟩ = some (.slice l0.1 l0.2.1.length l0.2.2) := hxs 0 l0 hl0
  have HC := hide (HAP.out l0 (List.mem_of_getElem? hl0) w (Below.refl _ _))
  rw [← HO.out 0 l0 hl0] at HC
  have HXS := hide hxs
  have hn0 : (0 : Int) < n := by omega
  have hn1 : 1 ≤ n := by omega
  clear hxs hl0 h00 h8
  have hn1 := hide hn1
  go_enter Tryd.func19, Tryd.ntmps19
  go_wp2_with fail
  refine HG.out.mono ?_
  rintro e w' ⟨rfl, rfl⟩
  go_wp2_with fail
  refine HH.out.mono ?_
  rintro e w' ⟨rfl, rfl⟩
  go_wp2_with fail
  refine HC.out.mono ?_
  rintro e w1 ⟨rfl, hb1⟩
  have hws := hb1.size
  clear hc
  go_wp2
  go_loopw [8, 9, 10] (fun q m i wr => ∃ k j : Nat, k ≤ n ∧ i = .int .i64 k ∧ q = .int .i64 j ∧ m = .int .i64 (O j) ∧ Hid (lstO (allC O k) = some ((j : Int), O j)) ∧ Below w.heap.size w wr) (fun _ _ i _ => n - (intOf i).toNat)
  case atStart => exact ⟨1, 0, hn1.out, rfl, rfl, rfl, HONE, hb1⟩
  case round =>
    obtain ⟨k, j, hk, rfl, rfl, rfl, hq, hB⟩ := hrel
    by_cases hlt : k < n
    · obtain ⟨l, hlk⟩ : ∃ l, ls[k]? = some l := ⟨ls[k]'(by rw [HN.out]; exact hlt), List.getElem?_eq_getElem _⟩
      have c0 : wr.cell? ⟨b, o + k, none⟩ = some (.slice l.1 l.2.1.length l.2.2) := (hB.cell (p := ⟨b, o + k, none⟩) hb).trans (HXS.out k l hlk)
      have HKm := hide (HAP.out l (List.mem_of_getElem? hlk) wr hB)
      rw [← HO.out k l hlk] at HKm
      have HN2 := hide (HNX.out k _ hq.out)
      have hi : (k : Int) < n := by omega
      have h0 : (0 : Int) ≤ k := by omega
      clear hlk
      generalize hOk : O k = ok at *
      generalize hOj : O j = oj at *
      by_cases hlt2 : ok < oj
      · have hd2 : decide (ok < oj) = true := by simpa using hlt2
        have HE : Hid (lstO (allC O (k + 1)) = some ((k : Int), O k)) := hide (by rw [HN2.out, if_pos hlt2, hOk])
        have HOK2 := hide hOk
        clear hOk hOj hlt2
        go_wp2_with fail
        refine HKm.out.mono ?_
        rintro e w3 ⟨rfl, hb3⟩
        go_wp2
        exact ⟨⟨k + 1, k, by omega, by go_num, rfl, by rw [HOK2.out], HE, hB.trans (hb3.mono hB.size)⟩, by simp [intOf]; omega⟩
      · have hd2 : decide (ok < oj) = false := by simpa using hlt2
        have HE : Hid (lstO (allC O (k + 1)) = some ((j : Int), O j)) := hide (by rw [HN2.out, if_neg hlt2, hOj])
        have HOJ2 := hide hOj
        clear hOk hOj hlt2
        go_wp2_with fail
        refine HKm.out.mono ?_
        rintro e w3 ⟨rfl, hb3⟩
        go_wp2
        exact ⟨⟨k + 1, j, by omega, by go_num, rfl, by rw [HOJ2.out], HE, hB.trans (hb3.mono hB.size)⟩, by simp [intOf]; omega⟩
    · obtain rfl : k = n := by omega
      have HVF : Hid (V = ((j : Int), O j, 0)) := hide (by rw [HV.out]; unfold chR; rw [hq.out])
      go_wp2
      go_ret3
      exact ⟨rt3_of HVF.out, hB⟩
end Go.Proofs.YtjmkbdghenjlaaaDoor
