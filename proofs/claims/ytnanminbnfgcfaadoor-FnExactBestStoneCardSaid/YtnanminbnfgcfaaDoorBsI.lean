/- BestStone, of both. -/
import Derived.Test.YtnanminbnfgcfaaDoorCaI
import Derived.Test.YtnanminbnfgcfaaDoorBfI
import Derived.Test.YtnanminbnfgcfaaDoorIvIA
import Derived.Test.YtnanminbnfgcfaaDoorOpenStrs
namespace Go.Proofs.YtnanminbnfgcfaaDoor
open Go Go.RowKit

/-- All choices. -/
def allC (o : Nat → Int) : Nat → List Pr
  | 0 => []
  | k + 1 => allC o k ++ [((k : Int), o k)]
theorem allC_succ (o : Nat → Int) (k : Nat) : allC o (k + 1) = allC o k ++ [((k : Int), o k)] := rfl
theorem allC_len (o : Nat → Int) : ∀ k, (allC o k).length = k
  | 0 => rfl
  | k + 1 => by rw [allC, List.length_append, allC_len o k]; rfl
/-- How many letters are to be cut on a stone. -/
def bsO (ts : List ByteArray) (s : ByteArray) (k : Nat) : Int := cutL (ts.getD k ⟨#[]⟩).data.toList s.data.toList
theorem bsO_at {ts : List ByteArray} {s m : ByteArray} {k : Nat} (h : ts[k]? = some m) : bsO ts s k = cutL m.data.toList s.data.toList := by simp [bsO, List.getD, h]
noncomputable def vt (x : ByteArray) : Bool := vtext x.data.toList
noncomputable def bsB (ts : List ByteArray) (s : ByteArray) : Bool := vt s && ts.all vt
noncomputable def bsR (ts : List ByteArray) (s : ByteArray) : Int × Int × Int :=
  if bsB ts s = true then (if 12 < ts.length then (0, 0, 3) else chR (allC (bsO ts s) ts.length)) else (0, 0, 1)
theorem bs_no {ts : List ByteArray} {s : ByteArray} (h : bsB ts s = false) : bsR ts s = (0, 0, 1) := by unfold bsR; rw [h]; rfl
theorem bs_lim {ts : List ByteArray} {s : ByteArray} (h : bsB ts s = true) (h2 : 12 < ts.length) : bsR ts s = (0, 0, 3) := by unfold bsR; rw [h, if_pos rfl, if_pos h2]
theorem bs_ok {ts : List ByteArray} {s : ByteArray} (h : bsB ts s = true) (h2 : ¬ 12 < ts.length) : bsR ts s = chR (allC (bsO ts s) ts.length) := by unfold bsR; rw [h, if_pos rfl, if_neg h2]
theorem lst_next (o : Nat → Int) (k : Nat) (q : Pr) (h : lstO (allC o k) = some q) : lstO (allC o (k + 1)) = if o k < q.2 then some ((k : Int), o k) else some q := by
  rw [allC, lstO_app, h]; rfl

set_option maxRecDepth 100000 in
set_option maxHeartbeats 8000000 in
theorem specBestStone_any (T : Option Addr) (ts : List ByteArray) (ct : Nat) (htn : ts.length ≤ maxLen) (htx : ∀ x ∈ ts, x.size ≤ maxLen) (s : ByteArray) (hs : s.size ≤ maxLen) (w : World) (hT : StrsAt w w.heap.size T ts) :
    Calls Tryd.prog 20 #[.slice T ts.length ct, .string s] w fun e w' => e = .returned (.tuple #[.int .i64 (bsR ts s).1, .int .i64 (bsR ts s).2.1, .int .i64 (bsR ts s).2.2]) ∧ Below w.heap.size w w' := by
  have HT1 := hide (fun W => l01Text_any s W hs)
  have HT2 := hide (fun (x : ByteArray) (h : x ∈ ts) W => l01Text_any x W (htx x h))
  have HTT := hide hT
  cases hv : vtext s.data.toList
  · have HP := hide (bs_no (ts := ts) (s := s) (by unfold bsB vt; rw [hv]; rfl))
    rw [hv] at HT1
    generalize bsR ts s = V at *
    clear hT htx
    go_enter Tryd.func20, Tryd.ntmps20
    go_wp2_with fail
    refine (HT1.out _).mono ?_
    rintro e w1 ⟨rfl, rfl⟩
    go_wp2
    go_ret3
    exact ⟨rt3_of HP.out, Below.refl _ _⟩
  · rw [hv] at HT1
    have HNO := hide (fun x (h : x ∈ ts) (h2 : vtext x.data.toList = false) => bs_no (ts := ts) (s := s) (by
      unfold bsB
      have : ts.all vt = false := by
        cases e : ts.all vt
        · rfl
        · have := List.all_eq_true.1 e x h
          unfold vt at this
          rw [h2] at this; cases this
      rw [this, Bool.and_false]))
    have HYES : Hid ((∀ x ∈ ts, vtext x.data.toList = true) → bsB ts s = true) := hide (fun h => by
      unfold bsB
      rw [Bool.and_eq_true]
      exact ⟨hv, List.all_eq_true.2 h⟩)
    have HLIM := hide (bs_lim (ts := ts) (s := s))
    have HOK := hide (bs_ok (ts := ts) (s := s))
    have HCU := hide (fun (x : ByteArray) (h : vtext x.data.toList = true) W => l04Cut_any x s (vt60 h) (vt60 hv) W)
    have HAT := hide (fun k m => @bsO_at ts s m k)
    have HLN := hide (lst_next (bsO ts s))
    have HL1 : Hid (lstO (allC (bsO ts s) 1) = some (0, bsO ts s 0)) := hide rfl
    have HL0 : Hid (chR (allC (bsO ts s) 0) = (0, 0, 6)) := hide rfl
    obtain ⟨n, hL⟩ : ∃ n, ts.length = n := ⟨_, rfl⟩
    have HL := hide hL
    rw [hL] at htn HLIM HOK ⊢
    unfold maxLen at htn
    generalize bsR ts s = V at *
    generalize bsO ts s = O at *
    generalize bsB ts s = BB at *
    clear hT hL hv htx
    go_enter Tryd.func20, Tryd.ntmps20
    go_wp2_with fail
    refine (HT1.out _).mono ?_
    rintro e w1 ⟨rfl, rfl⟩
    go_wp2
    go_loop [7] (fun i => ∃ k : Nat, k ≤ n ∧ i = .int .i64 k ∧ Hid (∀ j x, j < k → ts[j]? = some x → vtext x.data.toList = true)) (fun i => n - (intOf i).toNat)
    case atStart => exact ⟨0, Nat.zero_le _, rfl, hide (fun j x h => by omega)⟩
    case round =>
      obtain ⟨k, hk, rfl, hvd⟩ := hrel
      by_cases hlt : k < n
      · obtain ⟨b, o, rfl, hb, hxs⟩ := HTT.out (by intro e; rw [e] at HL; have := HL.out; simp at this; omega)
        obtain ⟨m, hmk⟩ : ∃ m, ts[k]? = some m := ⟨ts[k]'(by rw [HL.out]; exact hlt), List.getElem?_eq_getElem _⟩
        have c0 := hxs k m hmk
        have hi : (k : Int) < n := by omega
        have h0 : (0 : Int) ≤ k := by omega
        have hm := List.mem_of_getElem? hmk
        have HTM := hide (HT2.out m hm)
        have HMK := hide hmk
        clear hxs hmk
        cases hvm : vtext m.data.toList
        · have HP := hide (HNO.out m hm hvm)
          rw [hvm] at HTM
          clear hm hvm
          go_wp2_with fail
          refine (HTM.out _).mono ?_
          rintro e w1 ⟨rfl, rfl⟩
          go_wp2
          go_ret3
          exact ⟨rt3_of HP.out, Below.refl _ _⟩
        · have HVM := hide hvm
          rw [hvm] at HTM
          clear hm hvm
          go_wp2_with fail
          refine (HTM.out _).mono ?_
          rintro e w1 ⟨rfl, rfl⟩
          go_wp2
          refine ⟨⟨k + 1, by omega, by go_num, hide (fun j x hj hx => ?_)⟩, by simp [intOf]; omega⟩
          by_cases e : j = k
          · subst e
            have := hx.symm.trans HMK.out
            injection this with this
            subst this
            exact HVM.out
          · exact hvd.out j x (by omega) hx
      · obtain rfl : k = n := by omega
        have hB := HYES.out (fun x hx => by
          obtain ⟨j, hj, hjx⟩ := List.getElem_of_mem hx
          exact hvd.out j x (by rw [← HL.out]; exact hj) (by rw [List.getElem?_eq_getElem hj, hjx]))
        by_cases h12 : 12 < k
        · have HP := hide (HLIM.out hB h12)
          have hi : (12 : Int) < k := by omega
          clear hB
          go_wp2
          go_ret3
          exact ⟨rt3_of HP.out, Below.refl _ _⟩
        · have HP := hide (HOK.out hB h12)
          have hi : ¬ (12 : Int) < k := by omega
          clear hB
          cases k with
          | zero =>
            rw [HL0.out] at HP
            go_wp2
            go_ret3
            exact ⟨rt3_of HP.out, Below.refl _ _⟩
          | succ m =>
            have hz : (((m + 1 : Nat) : Int) == 0) = false := by simp; omega
            have hz' : ((m : Int) + 1 == 0) = false := by simp; omega
            have h00 : (0 : Int) < ((m + 1 : Nat) : Int) := by omega
            obtain ⟨b, o, rfl, hb, hxs⟩ := HTT.out (by intro e; rw [e] at HL; have := HL.out; simp at this)
            obtain ⟨x0, hx0⟩ : ∃ x0, ts[0]? = some x0 := ⟨ts[0]'(by rw [HL.out]; omega), List.getElem?_eq_getElem _⟩
            have c0 := hxs 0 x0 hx0
            rw [Nat.add_zero] at c0
            have HC0 := hide (HCU.out x0 (hvd.out 0 x0 (by omega) hx0))
            rw [← HAT.out 0 x0 hx0] at HC0
            have HX := hide hxs
            have HB := hide hb
            generalize hn1 : m + 1 = n1 at *
            clear hxs hb hx0 hn1
            go_wp2_with fail
            refine (HC0.out _).mono ?_
            rintro e w2 ⟨rfl, hb2⟩
            clear HC0
            go_wp2
            go_loopw [8, 9, 10] (fun b1 b2 I wr => ∃ (k : Nat) (q : Pr), 1 ≤ k ∧ k ≤ n1 ∧ I = .int .i64 k ∧ b1 = .int .i64 q.1 ∧ b2 = .int .i64 q.2 ∧ Hid (lstO (allC O k) = some q) ∧ Below w.heap.size w wr)
              (fun _ _ I _ => n1 - (intOf I).toNat)
            case atStart => exact ⟨1, (0, O 0), Nat.le_refl _, by omega, rfl, rfl, rfl, hide HL1.out, hb2⟩
            case round =>
              obtain ⟨k, q, hk1, hk, rfl, rfl, rfl, hq, hBw⟩ := hrel
              by_cases hlt2 : k < n1
              · obtain ⟨x, hx⟩ : ∃ x, ts[k]? = some x := ⟨ts[k]'(by rw [HL.out]; exact hlt2), List.getElem?_eq_getElem _⟩
                have c1 := (hBw.cell (p := ⟨b, o + k, none⟩) HB.out).trans (HX.out k x hx)
                have HCK := hide (HCU.out x (hvd.out k x hlt2 hx) wr)
                rw [← HAT.out k x hx] at HCK
                have HN := hide (HLN.out k q hq.out)
                have i1 : (k : Int) < n1 := by omega
                have i0 : (0 : Int) ≤ k := by omega
                obtain ⟨q1, q2⟩ := q
                clear hx
                generalize hOk : O k = U at *
                by_cases hU : U < q2
                · have HN2 := hide (HN.out.trans (if_pos hU))
                  go_wp2_with fail
                  refine HCK.out.mono ?_
                  rintro e w3 ⟨rfl, hb3⟩
                  go_wp2
                  exact ⟨⟨k + 1, ((k : Int), U), by omega, by omega, by go_num, rfl, rfl, HN2, hBw.trans (hb3.mono hBw.size)⟩, by simp [intOf]; omega⟩
                · have HN2 := hide (HN.out.trans (if_neg hU))
                  go_wp2_with fail
                  refine HCK.out.mono ?_
                  rintro e w3 ⟨rfl, hb3⟩
                  go_wp2
                  exact ⟨⟨k + 1, (q1, q2), by omega, by omega, by go_num, rfl, rfl, HN2, hBw.trans (hb3.mono hBw.size)⟩, by simp [intOf]; omega⟩
              · obtain rfl : k = n1 := by omega
                have HP2 := hide (HP.out.trans (show chR (allC O k) = (q.1, q.2, 0) by unfold chR; rw [hq.out]))
                go_wp2
                go_ret3
                exact ⟨rt3_of HP2.out, hBw⟩

theorem Tryd.infoCs : (Tryd.prog.info? 75).map (fun i => (i.zero, i.size, i.bytes)) = some (some (.agg #[.int .i64 0, .int .i64 0]), 2, 16) := by kernel_rfl
set_option maxRecDepth 100000 in
set_option maxHeartbeats 8000000 in
theorem implBestStone_any (T : Option Addr) (ts : List ByteArray) (ct : Nat) (htn : ts.length ≤ maxLen) (htx : ∀ x ∈ ts, x.size ≤ maxLen) (s : ByteArray) (hs : s.size ≤ maxLen) (w : World) (hG : Glob w) (hT : StrsAt w w.heap.size T ts) :
    Calls Tryd.prog 22 #[.slice T ts.length ct, .string s] w fun e w' => e = .returned (.tuple #[.int .i64 (bsR ts s).1, .int .i64 (bsR ts s).2.1, .int .i64 (bsR ts s).2.2]) ∧ Below w.heap.size w w' := by
  obtain ⟨i0, hi0, hz0, hz1, hz2⟩ := info_parts Tryd.infoCs
  have HT1 := hide (fun W => implValidText_any s W hs)
  have HTT := hide hT
  have HG := hide hG
  have HAL := hide (fun W (h : Below w.heap.size w W) => areAllS_any 33 (enters_of Tryd.func33 (by kernel_rfl) rfl) vt T ts ct W htn ((hT.below h).mono h.size) (fun x hx W _ => implValidText_any x W (htx x hx)))
  cases hv : vtext s.data.toList
  · have HP := hide (bs_no (ts := ts) (s := s) (by unfold bsB vt; rw [hv]; rfl))
    rw [hv] at HT1
    generalize bsR ts s = V at *
    clear hT htx hG
    go_enter Tryd.func22, Tryd.ntmps22
    go_wp2_with fail
    refine (HT1.out _).mono ?_
    rintro e w1 ⟨rfl, hb1⟩
    go_wp2
    go_ret3
    exact ⟨rt3_of HP.out, hb1⟩
  · rw [hv] at HT1
    cases hall : ts.all vt
    · have HP := hide (bs_no (ts := ts) (s := s) (by unfold bsB; rw [hall, Bool.and_false]))
      rw [hall] at HAL
      generalize bsR ts s = V at *
      clear hT htx hG
      go_enter Tryd.func22, Tryd.ntmps22
      go_wp2_with fail
      refine (HT1.out _).mono ?_
      rintro e w1 ⟨rfl, hb1⟩
      go_wp2_with fail
      refine (HAL.out _ hb1).mono ?_
      rintro e w2 ⟨rfl, hb2⟩
      go_wp2
      go_ret3
      exact ⟨rt3_of HP.out, hb1.trans (hb2.mono hb1.size)⟩
    · have hB : bsB ts s = true := by unfold bsB; rw [hall]; unfold vt; rw [hv]; rfl
      rw [hall] at HAL
      have HVD := hide (fun x (h : x ∈ ts) => List.all_eq_true.1 hall x h)
      by_cases h12 : 12 < ts.length
      · have HP := hide (bs_lim hB h12)
        have hi : (12 : Int) < ts.length := by omega
        generalize bsR ts s = V at *
        clear hT htx hG hB
        go_enter Tryd.func22, Tryd.ntmps22
        go_wp2_with fail
        refine (HT1.out _).mono ?_
        rintro e w1 ⟨rfl, hb1⟩
        go_wp2_with fail
        refine (HAL.out _ hb1).mono ?_
        rintro e w2 ⟨rfl, hb2⟩
        go_wp2
        go_ret3
        exact ⟨rt3_of HP.out, hb1.trans (hb2.mono hb1.size)⟩
      · have HP := hide (bs_ok hB h12)
        have hi : ¬ (12 : Int) < ts.length := by omega
        have HCU := hide (fun (x : ByteArray) (h : vtext x.data.toList = true) W hW => toCut_any x s (vt60 h) (vt60 hv) W hW)
        have HAT := hide (fun k m => @bsO_at ts s m k)
        have HLN := hide (fun k => allC_len (bsO ts s) k)
        have HC0 : Hid (allC (bsO ts s) 0 = []) := hide rfl
        obtain ⟨n, hL⟩ : ∃ n, ts.length = n := ⟨_, rfl⟩
        have HL := hide hL
        rw [hL] at htn h12 hi HP HAL ⊢
        unfold maxLen at htn
        generalize bsR ts s = V at *
        generalize bsO ts s = O at *
        clear hT hL hv htx hG hall hB
        go_enter Tryd.func22, Tryd.ntmps22
        go_wp2_with fail
        refine (HT1.out _).mono ?_
        rintro e w1 ⟨rfl, hb1⟩
        go_wp2_with fail
        refine (HAL.out _ hb1).mono ?_
        rintro e w4 ⟨rfl, hb2⟩
        have hb4 := hb1.trans (hb2.mono hb1.size)
        have hz4 := hb4.size
        clear hb1 hb2 HAL HT1
        go_wp2
        go_loopw [7, 23] (fun br i wr => ∃ k : Nat, k ≤ n ∧ i = .int .i64 k ∧ wr.ownsRow w4.heap.size 75 2 br k ((fl (allC O k)).map (.int .i64)) ∧ Below w4.heap.size w4 wr)
          (fun _ i _ => n - (intOf i).toNat)
        case atStart => exact ⟨0, by omega, rfl, by rw [HC0.out]; exact World.ownsRow_nil _ _ _ _, Below.refl _ _⟩
        case round =>
          obtain ⟨k, hk, rfl, hown, hB⟩ := hrel
          have hln := HLN.out k
          obtain ⟨Ab, cbb, rfl, hcap, _⟩ := cellsIn_of_own hown (by omega)
          have hbs := hB.size
          have HOWN := hide hown
          clear hown
          have hB3 := hb4.trans (hB.mono hb4.size)
          by_cases hlt : k < n
          · obtain ⟨b, o, rfl, hb, hxs⟩ := HTT.out (by intro e; rw [e] at HL; have := HL.out; simp at this; omega)
            obtain ⟨m, hmk⟩ : ∃ m, ts[k]? = some m := ⟨ts[k]'(by rw [HL.out]; exact hlt), List.getElem?_eq_getElem _⟩
            have c0 : wr.cell? ⟨b, o + k, none⟩ = some (.string m) := (hB3.cell (p := ⟨b, o + k, none⟩) hb).trans (hxs k m hmk)
            have hi' : (k : Int) < n := by omega
            have h0 : (0 : Int) ≤ k := by omega
            have HCK := hide (HCU.out m (HVD.out m (List.mem_of_getElem? hmk)) wr (HG.out.below hB3))
            rw [← HAT.out k m hmk] at HCK
            clear hxs hmk
            generalize hU : O k = U at *
            have HUV := hide hU
            clear hU
            go_wp2_with fail
            refine HCK.out.mono ?_
            rintro e w5 ⟨rfl, hb5⟩
            have hown5 := own_go HOWN.out hb5
            have hB5 := hB.trans (hb5.mono hbs)
            have hs5 := hB5.size
            clear c0 hb5
            go_wp2_with (at_builtin; refine wpList_append_own _ rfl (.tmp 28) (.tmp 34) 73 rfl w4.heap.size 75 i0 (.agg #[.int .i64 0, .int .i64 0]) 2 16 Tryd.underlying73 hi0 hz0 hz1 hz2 rfl (by decide) _ k _ rfl (hown5.alloc _) ⟨w5.heap.size, 0, none⟩ 1 1 [.int .i64 (k : Int), .int .i64 U] rfl rfl (two_cell _ _) (two_one rfl rfl) ?h1 ?h2 ?h3 ?_)
            case h1 => unfold maxLen; omega
            case h2 => omega
            case h3 => simp; omega
            intro v' w6 hown6 hg6 _
            obtain ⟨A6, c6, rfl, _, _⟩ := cellsIn_of_own hown6 (by omega)
            have H6 := hide hown6
            have hg56 : w5.grownBy w6 _ := grown_trans (World.grownBy_alloc w5 _ _) hg6
            have hB6 := hB5.trans (grown_toBelow hg56 (by omega) (fun k hk => (hown5.lt k hk).1))
            clear hown6 hg6 hg56 hown5
            go_wp2
            refine ⟨⟨k + 1, by omega, by go_num, ?_, hB6⟩, by simp [intOf]; omega⟩
            rw [allC_succ, HUV.out, fl_app, List.map_append]
            exact H6.out
          · obtain rfl : k = n := by omega
            obtain ⟨Ag, cg, e, _, hI⟩ := p2In_of_own HOWN.out
            injection e with e1' e2' e3'
            subst e1' e3'
            have HLC := hide (leastChoice_any Ab (allC O k) cbb wr (by rw [hln]; omega) hI.at_)
            rw [← HP.out, hln] at HLC
            have hfin := hb4.trans (hB.mono hb4.size)
            clear hI
            go_wp2_with fail
            refine HLC.out.mono ?_
            rintro e w7 ⟨rfl, hb7⟩
            go_wp2
            go_ret3
            exact ⟨rfl, hfin.trans (hb7.mono hfin.size)⟩
end Go.Proofs.YtnanminbnfgcfaaDoor
