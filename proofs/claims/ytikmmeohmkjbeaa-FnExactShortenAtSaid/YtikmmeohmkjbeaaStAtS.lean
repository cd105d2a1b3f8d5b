/- ShortenAt: the model's. -/
import Derived.Test.YtikmmeohmkjbeaaStAtI
namespace Go.Proofs.Ytikmmeohmkjbeaa
open Go Go.RowKit Go.Shelf Go.Sort Go.Maps

set_option maxRecDepth 100000 in
set_option maxHeartbeats 8000000 in
theorem specShortenAt_any (s : ByteArray) (hs : s.size ≤ maxLen) (S : Option Addr) (ss : List Sh) (cs : Nat) (hsn : ss.length ≤ maxLen) (hsx : ∀ x ∈ ss, x.1.size ≤ maxLen ∧ x.2.size ≤ maxLen) (B : Option Addr) (bs : List Int) (cb : Nat) (hbn : bs.length ≤ maxLen) (w : World) (hcb : bs.length ≤ cb) (hS : ShsAt w w.heap.size S ss) (hB : IntsAt w w.heap.size B bs) :
    Calls Try.prog 47 #[.string s, .slice S ss.length cs, .slice B bs.length cb] w fun e w' => e = .returned (.tuple #[.string (stT s.data.toList ss bs), .int .i64 (stC s.data.toList ss bs)]) ∧ Below w.heap.size w w' := by
  have HA := hide (l02Asked_any s hs S ss cs hsn hsx w hS)
  cases hok : okTS s.data.toList ss
  · obtain ⟨e1, e2⟩ := st_no (bs := bs) hok
    rw [(sa_no hok).2.2] at HA
    rw [e1, e2]
    clear e1 e2 hS hsn hsx hok hB hbn
    generalize ss.length = n at *
    generalize bs.length = m at *
    go_enter Try.func47, Try.ntmps47
    go_wp2_with (go_at_call 109; refine HA.out.mono ?_; rintro e w1 ⟨rfl, hb1⟩)
    go_ret2
    exact ⟨rfl, hb1⟩
  · obtain ⟨ht, hv⟩ := okTS_true.1 hok
    have e1 := st_ok (bs := bs) hok
    rw [(sa_ok hok).2.2] at HA
    have HTK := hide (@stT_ok s.data.toList ss bs)
    have HTN := hide (@stT_no s.data.toList ss bs)
    rw [e1] at HTK HTN ⊢
    have hs60 : s.size ≤ 1048576 := by have := (vtext_true.1 ht).1; simp at this; omega
    have HC := hide (fun W => l01Words_any s W hs60)
    have hsm := small_words ht
    have hwl := words_len ht
    have hbl : (bas (wordsL s.data.toList)).length = (wordsL s.data.toList).length := List.length_map _
    rw [← hbl] at hwl
    generalize bas (wordsL s.data.toList) = xs at *
    have HOF := hide (fun x W (h : Below w.heap.size w W) => l02Of_any S ss cs x W hsn (hS.go h))
    have HSH := hide (fun (h0 : ixC ss xs bs = 0) A2 c2 W (h : Below w.heap.size w W) (hX : StrsAt W W.heap.size A2 xs) =>
      l02At_any A2 xs c2 S ss cs B bs cb W hsn (by omega) hbn (rg_idx (ix_zero h0).1) hX (hS.go h) (hB.go h))
    have hrl : (rp ss xs bs bs.length).length = xs.length := rp_len _ _ _ _
    have HJ := hide (fun A c W h => joinedB_any A (rp ss xs bs bs.length) c W (small_rp hsm hv _) (by rw [hrl]; exact hwl) h)
    have HRL := hide hrl
    have HRG := hide (@ix_rg ss xs bs)
    have HND := hide (@ix_nd ss xs bs)
    have HHS := hide (@ix_hs ss xs bs)
    have HOK := hide (@ix_ok ss xs bs)
    have HHN := hide (fun k (v : Int) (hv : bs[k]? = some v) (h : (ofS ss (xs.getD v.toNat ⟨#[]⟩)).isSome = false) => show ¬ hsTo ss xs bs bs.length from fun hh => by
      rw [hh k v (List.getElem?_eq_some_iff.1 hv).1 hv] at h; cases h)
    have HHAS := hide (fun k (v : Int) (b o c : Nat) (W : World) (hk : k ≤ bs.length) (h : ∀ (j : Nat) x, bs[j]? = some x → W.cell? ⟨b, o + j, none⟩ = some (.int .i64 x)) (hb : b < W.heap.size) => by
      have h1 : (bs.take k).length = k := by rw [List.length_take]; omega
      have := l00Has_any (some ⟨b, o, none⟩) (bs.take k) c v W (by rw [h1]; omega) (fun _ => ⟨b, o, rfl, hb, fun j x hx => h j x (by
        have hjk : j < k := by have := (List.getElem?_eq_some_iff.1 hx).1; omega
        rwa [List.getElem?_take_of_lt hjk] at hx)⟩)
      rwa [h1] at this)
    unfold StrsBk at HSH
    unfold maxLen at hbn
    clear e1 ht hS hsn hsx hv hsm hbl hrl hok
    generalize hRR : rp ss xs bs bs.length = RR at *
    generalize ixC ss xs bs = R at *
    generalize stT s.data.toList ss bs = T at *
    rw [HRL.out] at HSH
    clear hRR
    obtain ⟨n, hL⟩ : ∃ n, xs.length = n := ⟨_, rfl⟩
    have HL := hide hL
    obtain ⟨m, hM⟩ : ∃ m, bs.length = m := ⟨_, rfl⟩
    have HM := hide hM
    have HBAD := hide (fun k (v : Int) => @rg_at n bs k v)
    have HNB := hide (fun k (v : Int) => @nd_bad bs k v)
    rw [hL] at hwl HC HRG HND HHS HOK HSH HRL
    rw [hM] at hbn hcb HRG HND HHS HOK HHN HSH HHAS HBAD HNB ⊢
    clear hL hM
    generalize ss.length = r at *
    have e0 := IntWalk.i64_in ((n : Int) - 1) ⟨by omega, by omega⟩
    go_enter Try.func47, Try.ntmps47
    go_wp2_with fail
    refine HA.out.mono ?_
    rintro e w1 ⟨rfl, hb1⟩
    go_wp2_with fail
    refine (HC.out _).mono ?_
    rintro e w4 ⟨A, c, rfl, hP, hb4⟩
    have hB4 := hb1.trans (hb4.mono hb1.size)
    have hX4 := hide hP.at_
    have hbs4 := hB4.size
    clear hP hb1 hb4
    go_wp2
    go_loopw [10] (fun i wr => ∃ k : Nat, k ≤ m ∧ i = .int .i64 k ∧ Hid (rgTo n bs k) ∧ Below w4.heap.size w4 wr)
      (fun i _ => m - (intOf i).toNat)
    case atStart => exact ⟨0, by omega, rfl, hide (rgTo_zero _ _), Below.refl _ _⟩
    case round =>
      obtain ⟨k, hk, rfl, hg, hBl⟩ := hrel
      have hBw := hB4.trans (hBl.mono hbs4)
      by_cases hlt : k < m
      · obtain ⟨b, o, rfl, hb, hps⟩ := hB (by intro e; rw [e] at HM; have := HM.out; simp at this; omega)
        obtain ⟨v, hv⟩ : ∃ v, bs[k]? = some v := ⟨bs[k]'(by rw [HM.out]; exact hlt), List.getElem?_eq_getElem _⟩
        have c0 := (hBw.cell (p := ⟨b, o + k, none⟩) hb).trans (hps k _ hv)
        have hi : (k : Int) < m := by omega
        have h0 : (0 : Int) ≤ k := by omega
        have HV := hide hv
        clear hps hv
        cases hin : inB v 0 ((n : Int) - 1)
        · have HF := hide (HRG.out (HBAD.out k v HV.out hin))
          have HTT := hide (HTN.out (by rw [HF.out]; decide))
          go_wp2_with (go_at_call 92; refine (l00In_any _ _ _ _).mono ?_; rintro e w' ⟨rfl, rfl⟩; simp only [hin])
          go_ret2
          exact ⟨ret_si HTT.out.symm HF.out.symm, hBw⟩
        · have hgo := hide (rgTo_succ hg.out HV.out (by have := inB_true.1 hin; omega))
          go_wp2_with (go_at_call 92; refine (l00In_any _ _ _ _).mono ?_; rintro e w' ⟨rfl, rfl⟩; simp only [hin])
          exact ⟨⟨k + 1, by omega, by go_num, hgo, hBl⟩, by simp [intOf]; omega⟩
      · obtain rfl : k = m := by omega
        have HRGK := hg
        go_wp2
        go_loopw [11] (fun i wr => ∃ j : Nat, j ≤ k ∧ i = .int .i64 j ∧ Hid (ndTo bs j) ∧ Below w4.heap.size w4 wr)
          (fun i _ => k - (intOf i).toNat)
        case atStart => exact ⟨0, by omega, rfl, hide (ndTo_zero _), hBl⟩
        case round =>
          obtain ⟨j, hj, rfl, hnd, hBl2⟩ := hrel
          have hBw2 := hB4.trans (hBl2.mono hbs4)
          have hbs2 := hBw2.size
          have hbs5 := hBl2.size
          by_cases hlt : j < k
          · obtain ⟨b, o, rfl, hb, hps⟩ := hB (by intro e; rw [e] at HM; have := HM.out; simp at this; omega)
            obtain ⟨v, hv⟩ : ∃ v, bs[j]? = some v := ⟨bs[j]'(by rw [HM.out]; exact hlt), List.getElem?_eq_getElem _⟩
            have hce : ∀ (j : Nat) x, bs[j]? = some x → wr.cell? ⟨b, o + j, none⟩ = some (.int .i64 x) := fun j x hx => (hBw2.cell (p := ⟨b, o + j, none⟩) hb).trans (hps j _ hx)
            have c0 := Over.get (hce j v hv)
            have HHH := hide (fun (c : Nat) (W : World) (hW : Below wr.heap.size wr W) => HHAS.out j v b o c W (by omega) (fun i x hx => (hW.cell (p := ⟨b, o + i, none⟩) (Nat.lt_of_lt_of_le hb hbs2)).trans (hce i x hx)) (Nat.lt_of_lt_of_le (Nat.lt_of_lt_of_le hb hbs2) hW.size))
            have hi : (j : Int) < k := by omega
            have h0 : (0 : Int) ≤ j := by omega
            have h1 : (j : Int) ≤ cb := by omega
            have HV := hide hv
            clear hps hv hce
            by_cases hmem : v ∈ bs.take j
            · have hd : decide (v ∈ bs.take j) = true := by simpa using hmem
              rw [hd] at HHH
              have HF := hide (HND.out HRGK.out (HNB.out j _ HV.out hmem))
              have HTT := hide (HTN.out (by rw [HF.out]; decide))
              clear hmem hd
              go_wp2
              refine wp_region_over (by kernel_rfl) (by kernel_rfl) ?_
              repeat (go_big_quiet_step (first | (go_at_call 110; exact over_call (HHH.out _ _ (Over.h _)))))
              refine wpQuiet_nil ?_
              intro w5 hb5
              have hBf := hBw2.trans (hb5.mono hbs2)
              clear hb5 c0 HHH
              go_wp2
              go_ret2
              exact ⟨ret_si HTT.out.symm HF.out.symm, hBf⟩
            · have hd : decide (v ∈ bs.take j) = false := by simpa using hmem
              rw [hd] at HHH
              have hgo := hide (ndTo_succ hnd.out HV.out hmem)
              clear hmem hd
              go_wp2
              refine wp_region_over (by kernel_rfl) (by kernel_rfl) ?_
              repeat (go_big_quiet_step (first | (go_at_call 110; exact over_call (HHH.out _ _ (Over.h _)))))
              refine wpQuiet_nil ?_
              intro w5 hb5
              have hBf := hBl2.trans (hb5.mono hbs5)
              clear hb5 c0 HHH
              go_wp2
              exact ⟨⟨j + 1, by omega, by go_num, hgo, hBf⟩, by simp [intOf]; omega⟩
          · obtain rfl : j = k := by omega
            have HNDK := hnd
            go_wp2
            go_loopw [12] (fun i wr => ∃ p : Nat, p ≤ j ∧ i = .int .i64 p ∧ Hid (hsTo ss xs bs p) ∧ Below w4.heap.size w4 wr)
              (fun i _ => j - (intOf i).toNat)
            case atStart => exact ⟨0, by omega, rfl, hide (hsTo_zero _ _ _), hBl2⟩
            case round =>
              obtain ⟨p, hp, rfl, hhs, hBl3⟩ := hrel
              have hbs3 := hBl3.size
              have hBw3 := hB4.trans (hBl3.mono hbs4)
              by_cases hlt : p < j
              · obtain ⟨b, o, rfl, hb, hps⟩ := hB (by intro e; rw [e] at HM; have := HM.out; simp at this; omega)
                obtain ⟨v, hv⟩ : ∃ v, bs[p]? = some v := ⟨bs[p]'(by rw [HM.out]; exact hlt), List.getElem?_eq_getElem _⟩
                obtain ⟨v0, v1⟩ := HRGK.out p v hlt hv
                obtain ⟨i, rfl⟩ : ∃ i : Nat, v = i := ⟨v.toNat, by omega⟩
                obtain ⟨b2, o2, rfl, hb2, hxs⟩ := hX4.out (by intro e; rw [e] at HL; have := HL.out; simp at this; omega)
                obtain ⟨x, hx⟩ : ∃ x, xs[i]? = some x := ⟨xs[i]'(by rw [HL.out]; omega), List.getElem?_eq_getElem _⟩
                have c0 := (hBw3.cell (p := ⟨b, o + p, none⟩) hb).trans (hps p _ hv)
                have c1 := (hBl3.cell (p := ⟨b2, o2 + i, none⟩) hb2).trans (hxs i _ hx)
                have hi : (p : Int) < j := by omega
                have h0 : (0 : Int) ≤ p := by omega
                have HV := hide hv
                have HX := hide (getD_get hx)
                have HCC := hide (HOF.out x _ hBw3)
                clear hps hv hxs hx
                cases hs : (ofS ss x).isSome
                · have HF := hide (HHS.out HRGK.out HNDK.out (HHN.out p _ HV.out (by rw [Int.toNat_natCast, HX.out]; exact hs)))
                  have HTT := hide (HTN.out (by rw [HF.out]; decide))
                  rw [hs] at HCC
                  go_wp2_with (go_at_call 111; refine HCC.out.mono ?_; rintro e w5 ⟨rfl, hb5⟩)
                  go_ret2
                  exact ⟨ret_si HTT.out.symm HF.out.symm, hBw3.trans (hb5.mono hBw3.size)⟩
                · have hgo := hide (hsTo_succ hhs.out HV.out (by rw [Int.toNat_natCast, HX.out]; exact hs))
                  rw [hs] at HCC
                  go_wp2_with (go_at_call 111; refine HCC.out.mono ?_; rintro e w5 ⟨rfl, hb5⟩)
                  exact ⟨⟨p + 1, by omega, by go_num, hgo, hBl3.trans (hb5.mono hbs3)⟩, by simp [intOf]; omega⟩
              · obtain rfl : p = j := by omega
                have HF := hide (HOK.out HRGK.out HNDK.out hhs.out)
                have HTT := hide (HTK.out HF.out)
                have HSS := hide (HSH.out HF.out A c wr hBw3 (hX4.out.go hBl3))
                go_wp2_with fail
                refine HSS.out.mono ?_
                rintro e w7 ⟨A7, c7, rfl, hc7, hP7, hb7⟩
                have hB7 := hBw3.trans (hb7.mono hBw3.size)
                have hX7 := hide (HJ.out A7 c7 w7 hP7.at_)
                rw [HRL.out] at hX7
                clear hP7 hb7
                go_wp2_with fail
                refine hX7.out.mono ?_
                rintro e w8 ⟨rfl, hb8⟩
                go_wp2
                go_ret2
                exact ⟨ret_si HTT.out.symm HF.out.symm, hB7.trans (hb8.mono hB7.size)⟩
end Go.Proofs.Ytikmmeohmkjbeaa
