/- ShortenAt: the program's. -/
import Derived.Test.YtikmmeohmkjbeaaStAtW
namespace Go.Proofs.Ytikmmeohmkjbeaa
open Go Go.RowKit Go.Shelf Go.Sort Go.Maps

theorem Try.infoBool : (Try.prog.info? 4).map (fun i => (i.zero, i.size, i.bytes)) = some (some (.bool false), 1, 1) := by kernel_rfl
theorem come_next {w : World} {g n i : Nat} {bs : List Int} {k : Nat} (hv : bs[k]? = some (i : Int)) (ht : w.there g 0 n) (hi : i < n) (h : ∀ j : Nat, j < n → w.cell? ⟨g, j, none⟩ = some (.bool (decide ((j : Int) ∈ bs.take k)))) :
    ∀ j : Nat, j < n → (w.setCell ⟨g, i, none⟩ (.bool true)).cell? ⟨g, j, none⟩ = some (.bool (decide ((j : Int) ∈ bs.take (k + 1)))) := fun j hj => by
  have e : bs.take (k + 1) = bs.take k ++ [(i : Int)] := by rw [List.take_add_one, hv]; rfl
  by_cases hij : j = i
  · subst hij
    rw [World.cell?_setCell_same' _ _ _ (by have := (ht j hj).1; rwa [Nat.zero_add] at this), e]
    simp
  · rw [World.cell?_setCell_other _ _ _ _ (by intro he; injection he with _ he; exact hij he.symm), h j hj, e]
    congr 2
    simp only [List.mem_append, List.mem_singleton]
    apply decide_eq_decide.2
    constructor
    · intro hm; exact .inl hm
    · rintro (hm | hm)
      · exact hm
      · exact absurd (by omega) hij

set_option maxRecDepth 100000 in
set_option maxHeartbeats 8000000 in
theorem checkIndices_any (B : Option Addr) (bs : List Int) (cb : Nat) (ps : List Sh) (xs : List ByteArray) (C : Option Addr) (cc : Nat) (w : World) (hbn : bs.length ≤ maxLen) (hxn : xs.length ≤ 61) (hB : IntsAt w w.heap.size B bs) (hC : IntsAt w w.heap.size C (canL ps xs)) :
    Calls Try.prog 115 #[.slice B bs.length cb, .int .i64 xs.length, .slice C (canL ps xs).length cc] w fun e w' => e = .returned (.int .i64 (ixC ps xs bs)) ∧ Below w.heap.size w w' := by
  have hcl := canL_len ps xs
  have HCN := hide (fun v W (hW : Below w.heap.size w W) => containsI_any C (canL ps xs) cc v W (by unfold maxLen; omega) (hC.go hW))
  have HMC := hide (fun (i : Nat) (hi : i < xs.length) => @mem_canL ps xs i hi)
  have HRG := hide (@ix_rg ps xs bs)
  have HND := hide (@ix_nd ps xs bs)
  have HHS := hide (@ix_hs ps xs bs)
  have HOK := hide (@ix_ok ps xs bs)
  have HHN := hide (fun k (v : Int) (hv : bs[k]? = some v) (h : (ofS ps (xs.getD v.toNat ⟨#[]⟩)).isSome = false) => show ¬ hsTo ps xs bs bs.length from fun hh => by
    rw [hh k v (List.getElem?_eq_some_iff.1 hv).1 hv] at h; cases h)
  generalize ixC ps xs bs = R at *
  generalize canL ps xs = CC at *
  unfold maxLen at hbn
  obtain ⟨i0, hi0, hz0, hz1, hz2⟩ := info_parts Try.infoBool
  obtain ⟨n, hL⟩ : ∃ n, xs.length = n := ⟨_, rfl⟩
  have HL := hide hL
  obtain ⟨m, hM⟩ : ∃ m, bs.length = m := ⟨_, rfl⟩
  have HM := hide hM
  have HBAD := hide (fun k (v : Int) => @rg_at n bs k v)
  have HNB := hide (fun k (v : Int) => @nd_bad bs k v)
  rw [hL] at hxn hcl HMC HRG HND HHS HOK ⊢
  rw [hM] at hbn HRG HND HHS HOK HHN HBAD HNB ⊢
  clear hL hC hM
  generalize CC.length = q at *
  have hmk := fun W => run_make_rowN (P := Try.prog) 194 4 i0 _ Try.underlying194 hi0 hz0 .i64 .i64 n n (Nat.le_refl _) (by rw [hz2]; omega) (by omega) W
  rw [hz1] at hmk
  have e0 := IntWalk.i64_in ((n : Int) - 1) ⟨by omega, by omega⟩
  go_enter Try.func115, Try.ntmps115
  go_wp2
  go_loopw [16] (fun i wr => ∃ k : Nat, k ≤ m ∧ i = .int .i64 k ∧ Hid (rgTo n bs k) ∧ Below w.heap.size w wr)
    (fun i _ => m - (intOf i).toNat)
  case atStart => exact ⟨0, by omega, rfl, hide (rgTo_zero _ _), Below.refl _ _⟩
  case round =>
    obtain ⟨k, hk, rfl, hg, hBl⟩ := hrel
    by_cases hlt : k < m
    · obtain ⟨b, o, rfl, hb, hps⟩ := hB (by intro e; rw [e] at HM; have := HM.out; simp at this; omega)
      obtain ⟨v, hv⟩ : ∃ v, bs[k]? = some v := ⟨bs[k]'(by rw [HM.out]; exact hlt), List.getElem?_eq_getElem _⟩
      have c0 := (hBl.cell (p := ⟨b, o + k, none⟩) hb).trans (hps k _ hv)
      have hi : (k : Int) < m := by omega
      have h0 : (0 : Int) ≤ k := by omega
      have HV := hide hv
      clear hps hv
      cases hin : inB v 0 ((n : Int) - 1)
      · have HF := hide (HRG.out (HBAD.out k v HV.out hin))
        go_wp2_with (go_at_call 97; refine (between_any _ _ _ _).mono ?_; rintro e w' ⟨rfl, rfl⟩; simp only [hin])
        go_ret
        exact ⟨ret_int HF.out.symm, hBl⟩
      · have hgo := hide (rgTo_succ hg.out HV.out (by have := inB_true.1 hin; omega))
        go_wp2_with (go_at_call 97; refine (between_any _ _ _ _).mono ?_; rintro e w' ⟨rfl, rfl⟩; simp only [hin])
        exact ⟨⟨k + 1, by omega, by go_num, hgo, hBl⟩, by simp [intOf]; omega⟩
    · obtain rfl : k = m := by omega
      have HRGK := hg
      obtain ⟨W1, hW1⟩ : ∃ W1, W1 = wr := ⟨_, rfl⟩
      subst hW1
      have hbs := hBl.size
      have hB1 : Below w.heap.size w (W1.alloc (.cells (madeCells #[.bool false] n) 4)) := hBl.alloc hbs _
      have hth : (W1.alloc (.cells (madeCells #[.bool false] n) 4)).there W1.heap.size 0 n := there_newg rfl (by rw [size_madeCells])
      have hce : ∀ j : Nat, j < n → (W1.alloc (.cells (madeCells #[.bool false] n) 4)).cell? ⟨W1.heap.size, j, none⟩ = some (.bool (decide ((j : Int) ∈ bs.take 0))) := fun j hj => by
        have := rangeAt_newg (w := W1) (t := 4) (g := W1.heap.size) rfl (toList_madeCells_one (Value.bool false) n) j (.bool false) (by simp [hj])
        rw [Nat.zero_add] at this
        simpa using this
      have hs1 : W1.heap.size < (W1.alloc (.cells (madeCells #[.bool false] n) 4)).heap.size := by simp
      have HTH := hide hth
      have HCE := hide hce
      clear hth hce
      go_wp2
      generalize (W1.alloc (.cells (madeCells #[.bool false] n) 4)) = W2 at *
      go_loopw [30] (fun i wr => ∃ j : Nat, j ≤ k ∧ i = .int .i64 j ∧ Hid (ndTo bs j) ∧ Below w.heap.size w wr ∧ W1.heap.size < wr.heap.size ∧ Hid (wr.there W1.heap.size 0 n) ∧ Hid (∀ i : Nat, i < n → wr.cell? ⟨W1.heap.size, i, none⟩ = some (.bool (decide ((i : Int) ∈ bs.take j)))))
        (fun i _ => k - (intOf i).toNat)
      case atStart => exact ⟨0, by omega, rfl, hide (ndTo_zero _), hB1, hs1, HTH, HCE⟩
      case round =>
        obtain ⟨j, hj, rfl, hnd, hBl2, hs2, hth, hce⟩ := hrel
        by_cases hlt : j < k
        · obtain ⟨b, o, rfl, hb, hps⟩ := hB (by intro e; rw [e] at HM; have := HM.out; simp at this; omega)
          obtain ⟨v, hv⟩ : ∃ v, bs[j]? = some v := ⟨bs[j]'(by rw [HM.out]; exact hlt), List.getElem?_eq_getElem _⟩
          obtain ⟨v0, v1⟩ := HRGK.out j v hlt hv
          obtain ⟨i, rfl⟩ : ∃ i : Nat, v = i := ⟨v.toNat, by omega⟩
          have c0 := (hBl2.cell (p := ⟨b, o + j, none⟩) hb).trans (hps j _ hv)
          have c1 := hce.out i (by omega)
          obtain ⟨u, hu, hfu⟩ := there_some hth.out (j := i) (by omega)
          simp only [Nat.zero_add] at hu hfu
          have hi : (j : Int) < k := by omega
          have h0 : (0 : Int) ≤ j := by omega
          have HV := hide hv
          clear hps hv hu
          by_cases hmem : (i : Int) ∈ bs.take j
          · have hd : decide ((i : Int) ∈ bs.take j) = true := by simpa using hmem
            rw [hd] at c1
            have HF := hide (HND.out HRGK.out (HNB.out j _ HV.out hmem))
            go_wp2
            go_ret
            exact ⟨ret_int HF.out.symm, hBl2⟩
          · have hd : decide ((i : Int) ∈ bs.take j) = false := by simpa using hmem
            rw [hd] at c1
            have hgo := hide (ndTo_succ hnd.out HV.out hmem)
            have HC2 := hide (come_next HV.out hth.out (by omega) hce.out)
            clear hmem hd
            go_wp2
            exact ⟨⟨j + 1, by omega, by go_num, hgo, hBl2.setCell (p := ⟨W1.heap.size, i, none⟩) hbs _, by rw [size_setCell]; exact hs2, hide (there_set hth.out _ _), HC2⟩, by simp [intOf]; omega⟩
        · obtain rfl : j = k := by omega
          have HNDK := hnd
          clear HTH HCE hth hce hB1
          go_wp2
          go_loopw [44] (fun i wr => ∃ p : Nat, p ≤ j ∧ i = .int .i64 p ∧ Hid (hsTo ps xs bs p) ∧ Below w.heap.size w wr)
            (fun i _ => j - (intOf i).toNat)
          case atStart => exact ⟨0, by omega, rfl, hide (hsTo_zero _ _ _), hBl2⟩
          case round =>
            obtain ⟨p, hp, rfl, hhs, hBl3⟩ := hrel
            have hbs3 := hBl3.size
            by_cases hlt : p < j
            · obtain ⟨b, o, rfl, hb, hps⟩ := hB (by intro e; rw [e] at HM; have := HM.out; simp at this; omega)
              obtain ⟨v, hv⟩ : ∃ v, bs[p]? = some v := ⟨bs[p]'(by rw [HM.out]; exact hlt), List.getElem?_eq_getElem _⟩
              obtain ⟨v0, v1⟩ := HRGK.out p v hlt hv
              obtain ⟨i, rfl⟩ : ∃ i : Nat, v = i := ⟨v.toNat, by omega⟩
              have c0 := (hBl3.cell (p := ⟨b, o + p, none⟩) hb).trans (hps p _ hv)
              have hi : (p : Int) < j := by omega
              have h0 : (0 : Int) ≤ p := by omega
              have HV := hide hv
              have HCC := hide (HCN.out i _ hBl3)
              have hmm := HMC.out i (by omega)
              clear hps hv
              cases hs : (ofS ps (xs.getD i ⟨#[]⟩)).isSome
              · have hd : decide ((i : Int) ∈ CC) = false := by rw [hs] at hmm; simpa using hmm
                have HF := hide (HHS.out HRGK.out HNDK.out (HHN.out p _ HV.out hs))
                rw [hd] at HCC
                clear hmm hd
                go_wp2_with (go_at_call 161; refine HCC.out.mono ?_; rintro e w4 ⟨rfl, hb4⟩)
                go_ret
                exact ⟨ret_int HF.out.symm, hBl3.trans (hb4.mono hbs3)⟩
              · have hd : decide ((i : Int) ∈ CC) = true := by rw [hs] at hmm; simpa using hmm
                have hgo := hide (hsTo_succ hhs.out HV.out hs)
                rw [hd] at HCC
                clear hmm hd
                go_wp2_with (go_at_call 161; refine HCC.out.mono ?_; rintro e w4 ⟨rfl, hb4⟩)
                exact ⟨⟨p + 1, by omega, by go_num, hgo, hBl3.trans (hb4.mono hbs3)⟩, by simp [intOf]; omega⟩
            · obtain rfl : p = j := by omega
              have HF := hide (HOK.out HRGK.out HNDK.out hhs.out)
              go_wp2
              go_ret
              exact ⟨ret_int HF.out.symm, hBl3⟩

noncomputable def stC (L : List UInt8) (ps : List Sh) (bs : List Int) : Int := if okTS L ps = true then ixC ps (bas (wordsL L)) bs else 1
noncomputable def stT (L : List UInt8) (ps : List Sh) (bs : List Int) : ByteArray := if stC L ps bs = 0 then TJ (rp ps (bas (wordsL L)) bs bs.length) else ⟨#[]⟩
theorem st_no {L : List UInt8} {ps : List Sh} {bs : List Int} (h : okTS L ps = false) : stT L ps bs = ⟨#[]⟩ ∧ stC L ps bs = 1 := by
  have e : stC L ps bs = 1 := by unfold stC; rw [h]; rfl
  exact ⟨by unfold stT; rw [e]; rfl, e⟩
theorem st_ok {L : List UInt8} {ps : List Sh} {bs : List Int} (h : okTS L ps = true) : stC L ps bs = ixC ps (bas (wordsL L)) bs := by unfold stC; rw [if_pos h]
theorem stT_ok {L : List UInt8} {ps : List Sh} {bs : List Int} (h : stC L ps bs = 0) : stT L ps bs = TJ (rp ps (bas (wordsL L)) bs bs.length) := by unfold stT; rw [if_pos h]
theorem stT_no {L : List UInt8} {ps : List Sh} {bs : List Int} (h : stC L ps bs ≠ 0) : stT L ps bs = ⟨#[]⟩ := by unfold stT; rw [if_neg h]

set_option maxRecDepth 100000 in
set_option maxHeartbeats 4000000 in
theorem implShortenAt_any (s : ByteArray) (hs : s.size ≤ maxLen) (S : Option Addr) (ss : List Sh) (cs : Nat) (hsn : ss.length ≤ maxLen) (hsx : ∀ x ∈ ss, x.1.size ≤ maxLen ∧ x.2.size ≤ maxLen) (B : Option Addr) (bs : List Int) (cb : Nat) (hbn : bs.length ≤ maxLen) (w : World) (hS : ShsAt w w.heap.size S ss) (hB : IntsAt w w.heap.size B bs) :
    Calls Try.prog 48 #[.string s, .slice S ss.length cs, .slice B bs.length cb] w fun e w' => e = .returned (.tuple #[.string (stT s.data.toList ss bs), .int .i64 (stC s.data.toList ss bs)]) ∧ Below w.heap.size w w' := by
  have HT := hide (implValidText_any s w hs)
  have HV := hide (fun W (h : Below w.heap.size w W) => implValidShorts_any S ss cs hsn hsx W (hS.go h))
  cases ht : vtext s.data.toList
  · obtain ⟨e1, e2⟩ := st_no (L := s.data.toList) (ps := ss) (bs := bs) (by simp [okTS, ht])
    rw [e1, e2]
    rw [ht] at HT
    clear e1 e2 ht hS hsn hsx hB hbn
    generalize ss.length = n at *
    generalize bs.length = m at *
    go_enter Try.func48, Try.ntmps48
    go_wp2_with (go_at_call 96; refine HT.out.mono ?_; rintro e w1 ⟨rfl, hb1⟩)
    go_ret2
    exact ⟨rfl, hb1⟩
  · cases hv : vshorts ss
    · obtain ⟨e1, e2⟩ := st_no (L := s.data.toList) (ps := ss) (bs := bs) (by simp [okTS, hv])
      rw [e1, e2]
      rw [ht] at HT
      rw [hv] at HV
      clear e1 e2 ht hS hsn hsx hv hB hbn
      generalize ss.length = n at *
      generalize bs.length = m at *
      go_enter Try.func48, Try.ntmps48
      go_wp2_with fail
      refine HT.out.mono ?_
      rintro e w1 ⟨rfl, hb1⟩
      go_wp2_with (go_at_call 45; refine (HV.out _ hb1).mono ?_; rintro e w2 ⟨rfl, hb2⟩)
      go_ret2
      exact ⟨rfl, hb1.trans (hb2.mono hb1.size)⟩
    · have e1 := st_ok (L := s.data.toList) (ps := ss) (bs := bs) (by simp [okTS, hv, ht])
      have HTK := hide (@stT_ok s.data.toList ss bs)
      have HTN := hide (@stT_no s.data.toList ss bs)
      rw [e1] at HTK HTN ⊢
      have hs60 : s.size ≤ 1048576 := by have := (vtext_true.1 ht).1; simp at this; omega
      have HC := hide (collect_wordsC s hs60)
      rw [itW_words ht] at HC
      have hsm := small_words ht
      have hwl := words_len ht
      have hbl : (bas (wordsL s.data.toList)).length = (wordsL s.data.toList).length := List.length_map _
      rw [← hbl] at hwl HC
      generalize bas (wordsL s.data.toList) = xs at *
      have HSB := hide (fun A2 c2 W (h : Below w.heap.size w W) (hX : StrsAt W W.heap.size A2 xs) => shortable_any A2 xs c2 S ss cs W hsn (by omega) hX (hS.go h))
      have HCK := hide (fun C cc W (h : Below w.heap.size w W) (hC : IntsAt W W.heap.size C (canL ss xs)) => checkIndices_any B bs cb ss xs C cc W hbn hwl (hB.go h) hC)
      have HSH := hide (fun (h0 : ixC ss xs bs = 0) A2 c2 W (h : Below w.heap.size w W) (hX : StrsAt W W.heap.size A2 xs) =>
        shorten_any A2 xs c2 S ss cs B bs cb W hsn (by omega) hbn (rg_idx (ix_zero h0).1) (nd_idx (ix_zero h0).1 (ix_zero h0).2) hX (hS.go h) (hB.go h))
      have hrl : (rp ss xs bs bs.length).length = xs.length := rp_len _ _ _ _
      have HJ := hide (fun A c W (hc : (rp ss xs bs bs.length).length ≤ c) h => joinB_any A (rp ss xs bs bs.length) c W (small_rp hsm hv _) (by rw [hrl]; exact hwl) hc h)
      have HRL := hide hrl
      unfold StrsBk at HSH
      unfold IntsBk at HSB
      rw [ht] at HT
      rw [hv] at HV
      clear e1 ht hS hsn hsx hv hsm hbl hrl hB hbn
      generalize rp ss xs bs bs.length = RR at *
      generalize canL ss xs = CC at *
      generalize ixC ss xs bs = R at *
      generalize stT s.data.toList ss bs = T at *
      rw [HRL.out] at HJ HSH
      generalize xs.length = n at *
      generalize ss.length = r at *
      generalize bs.length = m at *
      generalize CC.length = q at *
      go_enter Try.func48, Try.ntmps48
      go_wp2_with fail
      refine HT.out.mono ?_
      rintro e w1 ⟨rfl, hb1⟩
      go_wp2_with fail
      refine (HV.out _ hb1).mono ?_
      rintro e w2 ⟨rfl, hb2⟩
      have hB2 := hb1.trans (hb2.mono hb1.size)
      go_wp2_with fail
      refine (wordsIn_any s _).mono ?_
      rintro e w3 ⟨rfl, HB3, hb3⟩
      have hB3 := hB2.trans (hb3.mono hB2.size)
      go_wp2_with fail
      refine (HC.out _ _ HB3.out.1 HB3.out.2).mono ?_
      rintro e w4 ⟨A, c, rfl, hc, hP, hb4⟩
      have hB4 := hB3.trans (hb4.mono hB3.size)
      have hX4 := hide hP.at_
      clear hP hb1 hb2 hb3 hb4 hB2 hB3 HB3
      go_wp2_with fail
      refine (HSB.out _ _ _ hB4 hX4.out).mono ?_
      rintro e w5 ⟨A5, c5, rfl, hc5, hI, hb5⟩
      have hB5 := hB4.trans (hb5.mono hB4.size)
      have hI5 := hide hI.at_
      have hX5 := hide (hX4.out.go hb5)
      clear hI hb5
      go_wp2_with fail
      refine (HCK.out _ _ _ hB5 hI5.out).mono ?_
      rintro e w6 ⟨rfl, hb6⟩
      have hB6 := hB5.trans (hb6.mono hB5.size)
      have hX6 := hide (hX5.out.go hb6)
      clear hb6
      by_cases h0 : R = 0
      · have HTT := hide (HTK.out h0)
        have HSS := hide (HSH.out h0)
        have hd : (R != 0) = false := by simpa using h0
        subst h0
        clear HTK HTN hd
        go_wp2_with fail
        refine (HSS.out _ _ _ hB6 hX6.out).mono ?_
        rintro e w7 ⟨A7, c7, rfl, hc7, hP7, hb7⟩
        have hB7 := hB6.trans (hb7.mono hB6.size)
        have hX7 := hide hP7.at_
        clear hP7 hb7
        go_wp2_with fail
        refine (HJ.out _ _ _ hc7 hX7.out).mono ?_
        rintro e w8 ⟨rfl, hb8⟩
        go_wp2
        go_ret2
        exact ⟨ret_si HTT.out.symm rfl, hB7.trans (hb8.mono hB7.size)⟩
      · have HTT := hide (HTN.out h0)
        have hd : (R != 0) = true := by simpa using h0
        clear HTK HTN HSH h0
        go_wp2
        go_ret2
        exact ⟨ret_si HTT.out.symm rfl, hB6⟩
end Go.Proofs.Ytikmmeohmkjbeaa
