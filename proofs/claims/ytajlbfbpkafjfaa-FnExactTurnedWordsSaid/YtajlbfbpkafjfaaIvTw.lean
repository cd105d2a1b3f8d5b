/- TurnedWords, of both. -/
import Derived.Test.YtajlbfbpkafjfaaPrL
import Derived.Test.YtajlbfbpkafjfaaIvTx
import Derived.Test.YtajlbfbpkafjfaaIvSA
namespace Go.Proofs.Ytajlbfbpkafjfaa
open Go.RowKit

theorem lw_vtext {x : ByteArray} (h : lw x = true) : vtext x.data.toList = true := by
  unfold lw lword at h
  simp only [Bool.and_eq_true] at h
  have := h.1
  rw [vword_spec, Bool.and_eq_true] at this
  exact this.1
def wAt (xs : List ByteArray) (x : Int) : ByteArray := xs.getD x.toNat ⟨#[]⟩
theorem wAt_at {xs : List ByteArray} {k : Nat} {x : ByteArray} (h : xs[k]? = some x) : wAt xs ((k : Nat) : Int) = x := by simp [wAt, List.getD, h]
/-- Of these two words one is the other one turned. -/
noncomputable def twP (xs : List ByteArray) (p : Pr) : Bool := decide (p.1 ≤ p.2) && allOn ableB (wAt xs p.1).data.toList && ((tdS (wAt xs p.1).data.toList).toList == (wAt xs p.2).toList)
noncomputable def twR (xs : List ByteArray) : List Pr := if vlist xs = true then (prsL xs.length).filter (twP xs) else []
noncomputable def twC (xs : List ByteArray) : Int := if vlist xs = true then 0 else 1
theorem tw_no {xs : List ByteArray} (h : vlist xs = false) : twR xs = [] ∧ twC xs = 1 := by unfold twR twC; rw [h]; exact ⟨rfl, rfl⟩
theorem tw_ok {xs : List ByteArray} (h : vlist xs = true) : twR xs = (prsL xs.length).filter (twP xs) ∧ twC xs = 0 := by unfold twR twC; rw [h]; exact ⟨rfl, rfl⟩
theorem filter_prs_len (n : Nat) (p : Pr → Bool) (h : n ≤ 12) : ((prsL n).filter p).length ≤ 144 := by
  refine Nat.le_trans (List.length_filter_le _ _) ?_
  rw [prsL_len]
  exact Nat.mul_le_mul h h
theorem twR_len (xs : List ByteArray) : (twR xs).length ≤ 1048577 := by
  cases h : vlist xs
  · rw [(tw_no h).1]; simp
  · rw [(tw_ok h).1]; have := filter_prs_len xs.length (twP xs) (vlist_true.1 h).1; omega
/-- Nothing holds in this part of the row. -/
theorem filter_row {n i a : Nat} {p : Pr → Bool} : ∀ b, a ≤ b → (∀ j, a ≤ j → j < b → p ((i : Int), (j : Int)) = false) → (ptTo n i b).filter p = (ptTo n i a).filter p := by
  intro b
  induction b with
  | zero => intro hab _; obtain rfl : a = 0 := by omega
            rfl
  | succ b ih =>
    intro hab h
    by_cases e : a = b + 1
    · subst e; rfl
    · rw [ptTo_succ, List.filter_append, ih (by omega) (fun j h1 h2 => h j h1 (by omega))]
      simp [h b (by omega) (by omega)]
theorem filter_app {n i j : Nat} {p : Pr → Bool} (h : p ((i : Int), (j : Int)) = true) : (ptTo n i (j + 1)).filter p = (ptTo n i j).filter p ++ [((i : Int), (j : Int))] := by
  rw [ptTo_succ, List.filter_append]; simp [h]
theorem filter_skip {n i j : Nat} {p : Pr → Bool} (h : p ((i : Int), (j : Int)) = false) : (ptTo n i (j + 1)).filter p = (ptTo n i j).filter p := by
  rw [ptTo_succ, List.filter_append]; simp [h]

set_option maxRecDepth 100000 in
set_option maxHeartbeats 4000000 in
theorem turnedW1_any (Q b o n c i j : Nat) (x y : ByteArray) (w : World) (hx : lw x = true) (hy : lw y = true) (hi : i < n) (hj : j < n)
    (hQ : w.cell? ⟨Q, 0, none⟩ = some (.slice (some ⟨b, o, none⟩) n c)) (c1 : w.cell? ⟨b, o + i, none⟩ = some (.string x)) (c2 : w.cell? ⟨b, o + j, none⟩ = some (.string y)) :
    Calls Try.prog 107 (#[.agg #[.int .i64 (i : Int), .int .i64 (j : Int)]] ++ #[.pointer (some ⟨Q, 0, none⟩)]) w fun e w' =>
      e = .returned (.bool (decide ((i : Int) ≤ (j : Int)) && allOn ableB x.data.toList && ((tdS x.data.toList).toList == y.toList))) ∧ Below w.heap.size w w' := by
  have hii : (i : Int) < n := by omega
  have hi0 : (0 : Int) ≤ i := by omega
  have hji : (j : Int) < n := by omega
  have hj0 : (0 : Int) ≤ j := by omega
  have hxs : x.size ≤ 1048576 := by have := (lw_true hx).2.1; omega
  have HCT := hide (fun W => implCanTurn_any x hxs W)
  have hct : canT x.data.toList = allOn ableB x.data.toList := by unfold canT; rw [lw_vtext hx]; rfl
  rw [hct] at HCT
  have HTU := hide (fun W => turn_any x W hxs (vtext_cap (lw_vtext hx)))
  have HTD := hide (fun h => @tdS_ok x.data.toList h)
  generalize allOn ableB x.data.toList = A at *
  generalize tdS x.data.toList = T at *
  have hb0 : Below w.heap.size w (w.alloc (.cells #[.int .i64 (i : Int), .int .i64 (j : Int)] 108)) := (Below.refl _ _).alloc (Nat.le_refl _) _
  have e0 := rangeAt_new' w #[.int .i64 (i : Int), .int .i64 (j : Int)] 108
  have d0 : (w.alloc (.cells #[.int .i64 (i : Int), .int .i64 (j : Int)] 108)).cell? ⟨w.heap.size, 0, none⟩ = some (.int .i64 (i : Int)) := e0 0 _ rfl
  have d1 : (w.alloc (.cells #[.int .i64 (i : Int), .int .i64 (j : Int)] 108)).cell? ⟨w.heap.size, 1, none⟩ = some (.int .i64 (j : Int)) := e0 1 _ rfl
  have k0 : ∀ (b o : Nat) v, w.cell? ⟨b, o, none⟩ = some v → (w.alloc (.cells #[.int .i64 (i : Int), .int .i64 (j : Int)] 108)).cell? ⟨b, o, none⟩ = some v := fun b o v h => (hb0.cell (p := ⟨b, o, none⟩) (World.block_lt_of_cell? w _ h)).trans h
  have q0 := k0 _ _ _ hQ
  have q1 := k0 _ _ _ c1
  have q2 := k0 _ _ _ c2
  clear k0 hQ c1 c2 e0 hct
  have hle' : decide (i ≤ j) = decide ((i : Int) ≤ (j : Int)) := by rw [Bool.eq_iff_iff]; simp
  cases hle : decide ((i : Int) ≤ (j : Int))
  · rw [hle] at hle'
    go_enter Try.func107, Try.ntmps107
    go_wp2
    generalize (w.alloc (.cells #[.int .i64 (i : Int), .int .i64 (j : Int)] 108)) = W0 at *
    go_quiet (fail)
    go_wp2
    go_ret
    exact ⟨ret_bool (by simp), below_drewN hb0 _⟩
  · rw [hle] at hle'
    cases A
    · go_enter Try.func107, Try.ntmps107
      go_wp2
      generalize (w.alloc (.cells #[.int .i64 (i : Int), .int .i64 (j : Int)] 108)) = W0 at *
      go_quiet (fail)
      go_wp2_with (go_at_call 50; refine (HCT.out _).mono ?_; rintro e w1 ⟨rfl, hb1⟩)
      go_ret
      exact ⟨ret_bool (by simp), (below_drewN hb0 _).trans (hb1.mono hb0.size)⟩
    · rw [← HTD.out rfl] at HTU
      go_enter Try.func107, Try.ntmps107
      go_wp2
      generalize (w.alloc (.cells #[.int .i64 (i : Int), .int .i64 (j : Int)] 108)) = W0 at *
      go_quiet (fail)
      go_wp2_with (first | (go_at_call 50; refine (HCT.out _).mono ?_; rintro e w1 ⟨rfl, hb1⟩) | (go_at_call 106; refine (HTU.out _).mono ?_; rintro e w2 ⟨rfl, hb2⟩))
      go_ret
      exact ⟨ret_bool (by simp), (below_drewN hb0 _).trans ((hb1.trans (hb2.mono hb1.size)).mono hb0.size)⟩

set_option maxRecDepth 100000 in
set_option maxHeartbeats 4000000 in
theorem implTurnedWords_any (A : Option Addr) (xs : List ByteArray) (c : Nat) (hn : xs.length ≤ maxLen) (hx : ∀ x ∈ xs, x.size ≤ maxLen) (w : World) (hA : StrsAt w w.heap.size A xs) :
    Calls Try.prog 54 #[.slice A xs.length c] w (P2Back (twR xs) (twC xs) w) := by
  have hb0 : Below w.heap.size w (w.alloc (.cells #[.slice A xs.length c] 22)) := (Below.refl _ _).alloc (Nat.le_refl _) _
  have hz0 : w.heap.size < (w.alloc (.cells #[.slice A xs.length c] 22)).heap.size := by simp
  have hc0 : (w.alloc (.cells #[.slice A xs.length c] 22)).cell? ⟨w.heap.size, 0, none⟩ = some (.slice A xs.length c) := by simp
  have hA0 := hA.below hb0
  have HVL := hide (fun W h => implValidList_any A xs c hn hx W h)
  cases hv : vlist xs
  · obtain ⟨e1, e2⟩ := tw_no hv
    rw [e1, e2]
    rw [hv] at HVL
    go_enter Try.func54, Try.ntmps54
    go_wp2_with fail
    generalize (w.alloc (.cells #[.slice A xs.length c] 22)) = W0 at *
    refine (HVL.out W0 (hA0.mono hb0.size)).mono ?_
    rintro e w1 ⟨rfl, hb1⟩
    go_wp2
    go_ret2
    exact ⟨none, 0, rfl, P2In.empty _ _ _, hb0.trans (hb1.mono hb0.size)⟩
  · obtain ⟨e1, e2⟩ := tw_ok hv
    rw [e1, e2]
    rw [hv] at HVL
    obtain ⟨hl, hall⟩ := vlist_true.1 hv
    have HTH := hide (fun B (cb : Nat) W (hW : Below w.heap.size w W) (h0 : ∀ V, Below W.heap.size W V → V.cell? ⟨w.heap.size, 0, none⟩ = some (.slice A xs.length c)) (hB : P2At W W.heap.size B (prsL xs.length)) =>
      thoseP_any 107 (enters_of Try.func107 (by kernel_rfl) rfl) #[.pointer (some ⟨w.heap.size, 0, none⟩)] (twP xs) B (prsL xs.length) cb W (by rw [prsL_len]; have := Nat.mul_le_mul hl hl; omega) hB
        (fun x y hxm V hV => by
          obtain ⟨i, j, hi, hj, e⟩ := prsL_mem hxm
          injection e with ex ey
          subst ex ey
          obtain ⟨b, o, rfl, hb, hxs⟩ := hA (by intro e; rw [e] at hi; simp at hi)
          have hxi := List.getElem?_eq_getElem hi
          have hxj := List.getElem?_eq_getElem hj
          have hBV := hW.trans (hV.mono hW.size)
          have hget : twP xs ((i : Int), (j : Int)) = (decide ((i : Int) ≤ (j : Int)) && allOn ableB (xs[i]).data.toList && ((tdS (xs[i]).data.toList).toList == (xs[j]).toList)) := by
            unfold twP; rw [wAt_at hxi, wAt_at hxj]
          rw [hget]
          exact turnedW1_any w.heap.size b o xs.length c i j _ _ V (lw_mem hall (List.getElem_mem hi)) (lw_mem hall (List.getElem_mem hj)) hi hj (h0 V hV)
            ((hBV.cell (p := ⟨b, o + i, none⟩) hb).trans (hxs i _ hxi)) ((hBV.cell (p := ⟨b, o + j, none⟩) hb).trans (hxs j _ hxj))))
    have HPR := hide (fun W => pairsOfS_any A xs.length c W (by omega))
    have HPL := hide (prsL_len xs.length)
    rw [prsL_len] at HTH
    clear hA
    go_enter Try.func54, Try.ntmps54
    go_wp2_with fail
    generalize (w.alloc (.cells #[.slice A xs.length c] 22)) = W0 at *
    refine (HVL.out W0 (hA0.mono hb0.size)).mono ?_
    rintro e w1 ⟨rfl, hb1⟩
    have H00 := hide hc0
    have hc0' : w1.cell? ⟨w.heap.size, 0, none⟩ = some (.slice A xs.length c) := (hb1.cell (p := ⟨w.heap.size, 0, none⟩) hz0).trans hc0
    clear hc0
    go_wp2_with fail
    refine (HPR.out _).mono ?_
    rintro e w3 ⟨A3, c3, rfl, hc3, hI3, hb3⟩
    rw [HPL.out] at hc3 ⊢
    have hb03 := hb1.trans (hb3.mono hb1.size)
    have hB3 := hb0.trans (hb03.mono hb0.size)
    clear hc0' hb3
    go_wp2_with fail
    refine (HTH.out A3 c3 w3 hB3 (fun V hV => ((hb03.trans (hV.mono hb03.size)).cell (p := ⟨w.heap.size, 0, none⟩) hz0).trans H00.out) hI3.at_).mono ?_
    rintro e w4 ⟨A4, c4, rfl, hc4, hI4, hb4⟩
    go_wp2
    go_ret2
    exact ⟨A4, c4, rfl, hI4.wider hB3.size, hB3.trans (hb4.mono hB3.size)⟩

set_option maxRecDepth 100000 in
set_option maxHeartbeats 8000000 in
theorem specTurnedWords_any (A : Option Addr) (xs : List ByteArray) (c : Nat) (hn : xs.length ≤ maxLen) (hx : ∀ x ∈ xs, x.size ≤ maxLen) (w : World) (hA : StrsAt w w.heap.size A xs) :
    Calls Try.prog 53 #[.slice A xs.length c] w (P2Back (twR xs) (twC xs) w) := by
  obtain ⟨i0, hi0, hz0, hz1, hz2⟩ := info_parts Try.infoA2
  have hb0 : Below w.heap.size w (w.alloc (.cells #[] 108)) := (Below.refl _ _).alloc (Nat.le_refl _) _
  have HO := hide (World.ownsRow_lit w #[] 0 (Nat.le_refl _) (by unfold maxLen; omega) rfl : (w.alloc (.cells #[] 108)).ownsRow w.heap.size 108 2 (.slice (some ⟨w.heap.size, 0, none⟩) 0 0) 0 [])
  have HVL := hide (fun W h => l04List_any A xs c W hn hx h)
  have hA0 := hA.below hb0
  cases hv : vlist xs
  · obtain ⟨e1, e2⟩ := tw_no hv
    rw [e1, e2]
    go_enter Try.func53, Try.ntmps53
    go_wp2_with (go_at_call 69; refine (HVL.out _ (hA0.mono hb0.size)).mono ?_; rintro e w1 ⟨rfl, rfl⟩; simp only [hv])
    go_ret2
    exact ⟨_, 0, rfl, P2In.empty _ _ _, hb0⟩
  · obtain ⟨e1, e2⟩ := tw_ok hv
    rw [e1, e2]
    have HALL := hide (vlist_true.1 hv).2
    have hl := (vlist_true.1 hv).1
    have HLN : Hid (∀ i j, i ≤ xs.length → j ≤ xs.length → ((ptTo xs.length i j).filter (twP xs)).length ≤ 200) := hide (fun i j hi hj => by
      refine Nat.le_trans (List.length_filter_le _ _) ?_
      rw [ptTo_len]
      have := Nat.mul_le_mul (Nat.le_trans hi hl) hl
      omega)
    have HW : Hid (∀ (i j : Nat) (xi xj : ByteArray), xs[i]? = some xi → xs[j]? = some xj → twP xs ((i : Int), (j : Int)) = (decide ((i : Int) ≤ (j : Int)) && allOn ableB xi.data.toList && ((tdS xi.data.toList).toList == xj.toList))) := hide (fun i j xi xj h1 h2 => by
      unfold twP; rw [wAt_at h1, wAt_at h2])
    have HF1 := hide (fun i j => @filter_app xs.length i j (twP xs))
    have HF2 := hide (fun i j => @filter_skip xs.length i j (twP xs))
    have HF3 := hide (fun i a => @filter_row xs.length i a (twP xs))
    have HRW := hide (fun i => ptTo_row xs.length i)
    have HX := hide hA
    unfold prsL
    have hzz : ptTo xs.length 0 0 = [] := ptTo_zero _
    have HZZ := hide hzz
    obtain ⟨n, hL⟩ : ∃ n, xs.length = n := ⟨_, rfl⟩
    have HL := hide hL
    rw [hL] at hl HVL HLN HF1 HF2 HF3 HRW HZZ ⊢
    clear hL hA hzz
    go_enter Try.func53, Try.ntmps53
    go_wp2_with fail
    refine (HVL.out _ (hA0.mono hb0.size)).mono ?_
    rintro e w1 ⟨rfl, rfl⟩
    simp only [hv]
    clear hA0
    go_wp2
    go_loopw [4, 5] (fun br i wr => ∃ k : Nat, k ≤ n ∧ i = .int .i64 k ∧ wr.ownsRow w.heap.size 108 2 br ((ptTo n k 0).filter (twP xs)).length ((fl ((ptTo n k 0).filter (twP xs))).map (.int .i64)) ∧ Below w.heap.size w wr)
      (fun _ i _ => n - (intOf i).toNat)
    case atStart => exact ⟨0, by omega, rfl, by rw [HZZ.out]; exact HO.out, hb0⟩
    case round =>
      obtain ⟨k, hk, rfl, hown, hB⟩ := hrel
      obtain ⟨Ab, cbb, rfl, hcap, _⟩ := cellsIn_of_own hown (by omega)
      have hbs := hB.size
      have HOWN := hide hown
      clear hown
      by_cases hlt : k < n
      · obtain ⟨b, o, rfl, hb, hxs⟩ := HX.out (by intro e; rw [e] at HL; have := HL.out; simp at this; omega)
        obtain ⟨x, hxk⟩ : ∃ x, xs[k]? = some x := ⟨xs[k]'(by rw [HL.out]; exact hlt), List.getElem?_eq_getElem _⟩
        have c0 : wr.cell? ⟨b, o + k, none⟩ = some (.string x) := (hB.cell (p := ⟨b, o + k, none⟩) hb).trans (hxs k x hxk)
        have hi : (k : Int) < n := by omega
        have h0 : (0 : Int) ≤ k := by omega
        have hlx := lw_true (lw_mem HALL.out (List.mem_of_getElem? hxk))
        have HTD := hide (fun W => l04Turned_any x (by omega) W)
        have HXK := hide hxk
        have HXS := hide hxs
        clear hxs hxk hlx
        obtain ⟨W1, hW1⟩ : ∃ W1, W1 = wr := ⟨_, rfl⟩
        subst hW1
        go_wp2_with fail
        refine (HTD.out _).mono ?_
        rintro e w2 ⟨rfl, hb2⟩
        have HO2 := hide (own_go HOWN.out hb2)
        have hB2 := hB.trans (hb2.mono hbs)
        have hbs2 := hB2.size
        clear c0 hb2
        cases hA : allOn ableB x.data.toList
        · have HNO := hide (HF3.out k 0 n (by omega) (fun j _ hj => by
            obtain ⟨y, hy⟩ : ∃ y, xs[j]? = some y := ⟨xs[j]'(by rw [HL.out]; exact hj), List.getElem?_eq_getElem _⟩
            rw [HW.out k j x y HXK.out hy, hA]; simp))
          go_wp2
          go_loopw [4, 8] (fun br i wr => br = .slice Ab ((ptTo n k 0).filter (twP xs)).length cbb ∧ i = .int .i64 (k : Int) ∧ wr = w2) (fun _ _ _ => 0)
          case atStart => exact ⟨rfl, rfl, rfl⟩
          case round =>
            obtain ⟨rfl, rfl, rfl⟩ := hrel
            go_wp2
            refine ⟨⟨k + 1, by omega, by go_num, ?_, hB2⟩, by simp [intOf]; omega⟩
            rw [← HRW.out, HNO.out]
            exact HO2.out
        · have HST := hide (HF3.out k 0 k (by omega) (fun j _ hj => by
            obtain ⟨y, hy⟩ : ∃ y, xs[j]? = some y := ⟨xs[j]'(by rw [HL.out]; omega), List.getElem?_eq_getElem _⟩
            rw [HW.out k j x y HXK.out hy]
            have : decide ((k : Int) ≤ (j : Int)) = false := by simp; omega
            rw [this]; rfl))
          go_wp2
          go_loopw [4, 8] (fun br i wr => ∃ j : Nat, k ≤ j ∧ j ≤ n ∧ i = .int .i64 j ∧ wr.ownsRow w.heap.size 108 2 br ((ptTo n k j).filter (twP xs)).length ((fl ((ptTo n k j).filter (twP xs))).map (.int .i64)) ∧ Below w.heap.size w wr)
            (fun _ i _ => n - (intOf i).toNat)
          case atStart => exact ⟨k, by omega, by omega, rfl, by rw [HST.out]; exact HO2.out, hB2⟩
          case round =>
            obtain ⟨j, hkj, hj, rfl, hown, hB'⟩ := hrel
            obtain ⟨Ab', cbb', rfl, hcap', _⟩ := cellsIn_of_own hown (by omega)
            have HOWN2 := hide hown
            have hbs' := hB'.size
            clear hown
            by_cases hlt2 : j < n
            · obtain ⟨y, hy⟩ : ∃ y, xs[j]? = some y := ⟨xs[j]'(by rw [HL.out]; exact hlt2), List.getElem?_eq_getElem _⟩
              have c2 : wr.cell? ⟨b, o + j, none⟩ = some (.string y) := (hB'.cell (p := ⟨b, o + j, none⟩) hb).trans (HXS.out j y hy)
              have hji : (j : Int) < n := by omega
              have hj0 : (0 : Int) ≤ j := by omega
              have hln := HLN.out k j hk hj
              have HWW := hide (HW.out k j x y HXK.out hy)
              have hle : decide ((k : Int) ≤ (j : Int)) = true := by simp; omega
              have HLE := hide hle
              clear hle hy
              cases heq : ((tdS x.data.toList).toList == y.toList)
              · have HS := hide (HF2.out k j (by rw [HWW.out, HLE.out, hA, heq]; rfl))
                go_wp2
                refine ⟨⟨j + 1, by omega, by omega, by go_num, ?_, hB'⟩, by simp [intOf]; omega⟩
                rw [HS.out]
                exact HOWN2.out
              · have HS := hide (HF1.out k j (by rw [HWW.out, HLE.out, hA, heq]; rfl))
                go_wp2_with (at_builtin; refine wpList_append_own _ rfl (.tmp 44) (.tmp 48) 48 rfl w.heap.size 108 i0 (.agg #[.int .i64 0, .int .i64 0]) 2 16 Try.underlying48 hi0 hz0 hz1 hz2 rfl (by decide) _ ((ptTo n k j).filter (twP xs)).length _ rfl (HOWN2.out.alloc _) ⟨wr.heap.size, 0, none⟩ 1 1 [.int .i64 (k : Int), .int .i64 (j : Int)] rfl rfl (two_cell _ _) (two_one rfl rfl) ?h1 ?h2 ?h3 ?_)
                case h1 => unfold maxLen; omega
                case h2 => omega
                case h3 => simp; omega
                intro v' w4 hown4 hg4 _
                obtain ⟨A4, c4, rfl, _, _⟩ := cellsIn_of_own hown4 (by omega)
                have H4 := hide hown4
                have hg34 : wr.grownBy w4 _ := grown_trans (World.grownBy_alloc wr _ _) hg4
                have hB4 := hB'.trans (grown_toBelow hg34 (by omega) (fun k hk => (HOWN2.out.lt k hk).1))
                clear hown4 hg4 hg34
                go_wp2
                refine ⟨⟨j + 1, by omega, by omega, by go_num, ?_, hB4⟩, by simp [intOf]; omega⟩
                rw [HS.out, fl_app, List.map_append, List.length_append]
                exact H4.out
            · obtain rfl : j = n := by omega
              go_wp2
              refine ⟨⟨k + 1, by omega, by go_num, ?_, hB'⟩, by simp [intOf]; omega⟩
              rw [← HRW.out]
              exact HOWN2.out
      · obtain rfl : k = n := by omega
        obtain ⟨Ag, cg, e, _, hI⟩ := p2In_of_own HOWN.out
        injection e with e1' e2' e3'
        subst e1' e3'
        have HI := hide hI
        clear hI
        go_wp2
        go_ret2
        exact ⟨Ab, cbb, rfl, HI.out, hB⟩
end Go.Proofs.Ytajlbfbpkafjfaa
