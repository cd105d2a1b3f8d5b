/- The shift that keeps the most letters: the model's. -/
import Derived.Test.YtngondeaeipcfaaGreatDoorKpK
import Derived.Test.YtngondeaeipcfaaGreatDoorCtP
import Derived.Test.YtngondeaeipcfaaGreatDoorG6
namespace Go.Proofs.YtngondeaeipcfaaGreatDoor
open Go Go.RowKit

theorem made801 (W : World) : Sem.run Tryz.prog (Instr.makeSlice 33 (.int .i64 801) (.int .i64 801)) W = .ok (.slice (some ⟨W.heap.size, 0, none⟩) 801 801) (W.alloc (.cells (tbC fun _ => 0).toArray 2)) := by
  obtain ⟨i0, hi0, hz0, hz1, hz2⟩ := info_parts Tryz.infoI64
  have h := run_make_rowN (P := Tryz.prog) 33 2 i0 _ Tryz.underlying33 hi0 hz0 .i64 .i64 801 801 (Nat.le_refl _) (by rw [hz2]; omega) (by omega) W
  rw [hz1] at h
  have hc : (Value.int IntKind.i64 0).cells = #[.int .i64 0] := rfl
  have e : madeCells #[Value.int IntKind.i64 0] (801 * 1) = (tbC fun _ => 0).toArray := by
    apply Array.ext
    · simp [madeCells, tbC]
    · intro i h1 h2
      simp [madeCells, tbC, Nat.mod_one]
  rw [hc, e] at h
  exact h

set_option maxRecDepth 100000 in
set_option maxHeartbeats 16000000 in
theorem l06Shift_any (F : Fc) (hF : F.ok) (b : Nat) (A : Option Addr) (c : Nat) (s1 s2 : ByteArray) (w : World) (hv : vface F = true) (ht1 : vtext s1.data.toList = true) (ht2 : vtext s2.data.toList = true)
    (hr : w.rangeAt b 0 (fc F (.slice A F.ps.length c))) (hb : b < w.heap.size) (hA : PairsAt w w.heap.size A F.ps) :
    Calls Tryz.prog 190 #[.pointer (some ⟨b, 0, none⟩), .string s1, .string s2] w fun e w' => e = .returned (.tuple #[.int .i64 (bsG (cntS (psL F s1.data.toList) (psL F s2.data.toList)) 400).1, .int .i64 (bsG (cntS (psL F s1.data.toList) (psL F s2.data.toList)) 400).2]) ∧ Below w.heap.size w w' := by
  have hs1 : s1.size ≤ 60 := by have := (vtext_true.1 ht1).1; simpa using this
  have hs2 : s2.size ≤ 60 := by have := (vtext_true.1 ht2).1; simpa using this
  have HW1 := hide (fun w => l01WordsC_any s1 w (by omega))
  have HW2 := hide (fun w => l01WordsC_any s2 w (by omega))
  have HBL := hide (fun L => show (bas (wordsL L)).length = (wordsL L).length from List.length_map _)
  have HP1 := hide (fun A2 c2 W (hB : Below w.heap.size w W) hS => l01Places_any F hF b A c (wordsL s1.data.toList) A2 c2 W hv (fun x hx => words_mem ht1 hx) (words_len ht1) (rangeAt_below hr hB hb) (Nat.lt_of_lt_of_le hb hB.size) ((hA.below hB).mono hB.size) hS)
  have HP2 := hide (fun A2 c2 W (hB : Below w.heap.size w W) hS => l01Places_any F hF b A c (wordsL s2.data.toList) A2 c2 W hv (fun x hx => words_mem ht2 hx) (words_len ht2) (rangeAt_below hr hB hb) (Nat.lt_of_lt_of_le hb hB.size) ((hA.below hB).mono hB.size) hS)
  have HL1 := hide (fun W => l06Letters_any s1 W (by omega))
  have HL2 := hide (fun W => l06Letters_any s2 W (by omega))
  have hn1 := plL_lett F s1.data.toList
  have hn2 := plL_lett F s2.data.toList
  have hx60 : (lettL s1.data.toList).length ≤ 60 := Nat.le_trans (lettL_len _) (vtext_true.1 ht1).1
  have hy60 : (lettL s2.data.toList).length ≤ 60 := Nat.le_trans (lettL_len _) (vtext_true.1 ht2).1
  have hbd := plL_bd hF hv ht2
  have hbda := plL_bd hF hv ht1
  unfold PlBack at HP1 HP2
  unfold LtB at HL1 HL2
  unfold psL
  generalize lettL s1.data.toList = X at *
  generalize lettL s2.data.toList = Y at *
  generalize plL F (wordsL s1.data.toList) = pa at *
  generalize plL F (wordsL s2.data.toList) = pb at *
  generalize wdL F (wordsL s1.data.toList) = wa at *
  generalize wdL F (wordsL s2.data.toList) = wb at *
  have HXC := hide (fun k (h : k < X.length) => byte_cell h)
  have HYC := hide (fun k (h : k < Y.length) => byte_cell h)
  have HAC := hide (fun k (h : k < X.length) => getD_some (a := pa) (k := k) (by omega))
  have HBC := hide (fun k (h : k < Y.length) => getD_some (a := pb) (k := k) (by omega))
  have HAD := hide (fun k (h : k < X.length) => getD_bd hbda (k := k) (by omega))
  have HBD := hide (fun k (h : k < Y.length) => getD_bd hbd (k := k) (by omega))
  have HXP := hide (fun k (h : k < X.length) => psT_get (X := X) (a := pa) h)
  have HYP := hide (fun k (h : k < Y.length) => psT_get (X := Y) (a := pb) h)
  have hlx := psT_len X pa X.length
  have hly := psT_len Y pb Y.length
  generalize psT X pa X.length = xs at *
  generalize psT Y pb Y.length = ys at *
  obtain ⟨n, hN⟩ : ∃ n, X.length = n := ⟨_, rfl⟩
  obtain ⟨m, hM⟩ : ∃ m, Y.length = m := ⟨_, rfl⟩
  rw [hN] at hlx hx60 HL1 HXC HAC HAD HXP
  rw [hM] at hly hy60 HL2 HYC HBC HBD HYP
  rw [hn1, hN] at HP1
  rw [hn2, hM] at HP2
  have HLE := hide (fun i k d => cpt_le kpR xs ys (by omega) (by omega) i k d)
  have HC0 : Hid (tbC (fun _ => 0) = tbC (cpt kpR xs ys 0 0)) := hide (tbC_same fun d _ _ => (cpt_zero _ _ _ d).symm)
  have HCR := hide (fun i (h : i < n) => show tbC (cpt kpR xs ys i m) = tbC (cpt kpR xs ys (i + 1) 0) from tbC_same fun d _ _ => by rw [cpt_row (HXP.out i h), hly])
  have HCN := hide (fun i k (hi : i < n) (hk : k < m) (d : Int) => cpt_succ (R := kpR) (HXP.out i hi) (HYP.out k hk) d)
  have HCE : Hid (∀ d, ((cpt kpR xs ys n 0 d : Nat) : Int) = cntS xs ys d) := hide (fun d => by rw [← hlx, cpt_end]; rfl)
  clear hn1 hn2 hbd hbda hv ht1 ht2 hr hA hN hM hs1 hs2 hlx hly HXP HYP
  generalize cntS xs ys = CS at *
  go_enter Tryz.func190, Tryz.ntmps190
  go_wp2_with fail
  rw [made801]
  have r0 : (w.alloc (.cells (tbC fun _ => 0).toArray 2)).rangeAt w.heap.size 0 (tbC (cpt kpR xs ys 0 0)) := by rw [← HC0.out]; exact rangeAt_new w _ _
  have t0 : (w.alloc (.cells (tbC fun _ => 0).toArray 2)).there w.heap.size 0 801 := there_newg rfl (by rw [List.size_toArray, tbC_len])
  have s0 : (w.alloc (.cells (tbC fun _ => 0).toArray 2)).heap.size = w.heap.size + 1 := by simp
  have b0 : Below w.heap.size w (w.alloc (.cells (tbC fun _ => 0).toArray 2)) := (Below.refl _ _).alloc (Nat.le_refl _) _
  generalize (w.alloc (.cells (tbC fun _ => 0).toArray 2)) = W0 at *
  go_wp2_with fail
  refine (HW1.out _).mono ?_
  rintro e w1 ⟨A1, c1, rfl, hc1, hI1, hb1⟩
  rw [HBL.out]
  have g1 := hb1.size
  have hB1 := b0.trans (hb1.mono b0.size)
  have r1 := rangeAt_below r0 hb1 (by omega)
  have t1 := there_below t0 hb1 (by omega)
  have HS1 := hide hI1.at_
  clear r0 t0 hI1 hb1
  go_wp2_with fail
  refine (HP1.out A1 c1 _ hB1 HS1.out).mono ?_
  rintro e w2 ⟨Aa, ca, A3, c3, rfl, hca, hIa, _, hb2⟩
  have g2 := hb2.size
  have hB2 := hB1.trans (hb2.mono hB1.size)
  have r2 := rangeAt_below r1 hb2 (by omega)
  have t2 := there_below t1 hb2 (by omega)
  clear r1 t1 hb2
  go_wp2_with fail
  refine (HW2.out _).mono ?_
  rintro e w3 ⟨A4, c4, rfl, hc4, hI4, hb3⟩
  rw [HBL.out]
  have g3 := hb3.size
  have hB3 := hB2.trans (hb3.mono hB2.size)
  have r3 := rangeAt_below r2 hb3 (by omega)
  have t3 := there_below t2 hb3 (by omega)
  have hIa3 := hIa.go hb3
  have HS2 := hide hI4.at_
  clear r2 t2 hb3 hI4 hIa
  go_wp2_with fail
  refine (HP2.out A4 c4 _ hB3 HS2.out).mono ?_
  rintro e w4 ⟨Ab, cb, A5, c5, rfl, hcb, hIb, _, hb4⟩
  have g4 := hb4.size
  have hB4 := hB3.trans (hb4.mono hB3.size)
  have r4 := rangeAt_below r3 hb4 (by omega)
  have t4 := there_below t3 hb4 (by omega)
  have hIa4 := hIa3.go hb4
  clear r3 t3 hb4 hIa3
  go_wp2_with fail
  refine (HL1.out _).mono ?_
  rintro e w5 ⟨v5, rfl, hx5, hb5⟩
  have g5 := hb5.size
  have hB5 := hB4.trans (hb5.mono hB4.size)
  have r5 := rangeAt_below r4 hb5 (by omega)
  have t5 := there_below t4 hb5 (by omega)
  have hIa5 := hIa4.go hb5
  have hIb5 := hIb.go hb5
  clear r4 t4 hb5 hIa4 hIb
  go_wp2_with fail
  refine (HL2.out _).mono ?_
  rintro e w6 ⟨v6, rfl, hy6, hb6⟩
  have hB6 := hB5.trans (hb6.mono hB5.size)
  have r6 := rangeAt_below r5 hb6 (by omega)
  have t6 := there_below t5 hb6 (by omega)
  have hIa6 := hIa5.go hb6
  have hIb6 := hIb5.go hb6
  have hx6 := own_go hx5 hb6
  have y0 := hb6.size
  obtain ⟨Ax, cx, rfl, _, _⟩ := cellsIn_of_own hx6 (by omega)
  obtain ⟨Ay, cy, rfl, _, _⟩ := cellsIn_of_own hy6 (by omega)
  have HX6 := hide hx6
  have HY6 := hide hy6
  have HA6 := hide (hIa6.wider (show w.heap.size + 1 ≤ w1.heap.size by omega))
  have HB6 := hide (hIb6.wider (show w.heap.size + 1 ≤ w3.heap.size by omega))
  have hws := hB6.size
  clear r5 t5 hb6 hIa5 hIb5 hx5 hx6 hy6 hIa6 hIb6 b0
  go_wp2
  go_loopw [15] (fun i wr => ∃ k : Nat, k ≤ n ∧ i = .int .i64 k ∧ wr.rangeAt w.heap.size 0 (tbC (cpt kpR xs ys k 0)) ∧ wr.there w.heap.size 0 801 ∧ Hid (∀ a : Addr, w.heap.size < a.block → a.block < w6.heap.size → wr.cell? a = w6.cell? a) ∧ w6.heap.size ≤ wr.heap.size ∧ Below w.heap.size w wr)
    (fun i _ => n - (intOf i).toNat)
  case atStart => exact ⟨0, by omega, rfl, r6, t6, hide (fun _ _ _ => rfl), Nat.le_refl _, hB6⟩
  case round =>
    obtain ⟨k, hk, rfl, hrr, htt, HFAR, hsz, hB⟩ := hrel
    clear r6 t6 hB6
    by_cases hlt : k < n
    · have hi : (k : Int) < n := by omega
      have h0 : (0 : Int) ≤ k := by omega
      obtain ⟨gx, cxp, e, hxb, hxs⟩ := HX6.out.form (by omega)
      injection e with e1 e2 e3
      subst e1 e3
      obtain ⟨ba, oa, rfl, la1, la2, hca, _⟩ := HA6.out (by intro e; have := HAC.out k hlt; rw [e] at this; simp at this)
      have CX := hide ((HX6.out.cellAt k (by omega)).trans (HXC.out k hlt))
      have CA := hide (hca k _ (HAC.out k hlt))
      obtain ⟨x1, x2⟩ := HAD.out k hlt
      have HCNk := hide (fun j h => HCN.out k j hlt h)
      have HCRk := hide (HCR.out k hlt)
      clear hca
      generalize byteAt X k = l at *
      generalize pa.getD k 0 = x at *
      go_wp2
      go_loopw [16] (fun i wq => ∃ j : Nat, j ≤ m ∧ i = .int .i64 j ∧ wq.rangeAt w.heap.size 0 (tbC (cpt kpR xs ys k j)) ∧ wq.there w.heap.size 0 801 ∧ Hid (∀ a : Addr, w.heap.size < a.block → a.block < w6.heap.size → wq.cell? a = w6.cell? a) ∧ w6.heap.size ≤ wq.heap.size ∧ Below w.heap.size w wq)
        (fun i _ => m - (intOf i).toNat)
      case atStart => exact ⟨0, by omega, rfl, hrr, htt, HFAR, hsz, hB⟩
      case round =>
        obtain ⟨j, hj, rfl, hr8, ht8, HF8, hs8, hB8⟩ := hrel
        clear hrr htt HFAR hsz hB
        by_cases hlt2 : j < m
        · have hji : (j : Int) < m := by omega
          have hj0 : (0 : Int) ≤ j := by omega
          obtain ⟨gy, cyp, e, hyb, hys⟩ := HY6.out.form (by omega)
          injection e with e1 e2 e3
          subst e1 e3
          obtain ⟨bb, ob, rfl, lb1, lb2, hcb, _⟩ := HB6.out (by intro e; have := HBC.out j hlt2; rw [e] at this; simp at this)
          have cx1 := (HF8.out ⟨gx, k, none⟩ (by show w.heap.size < gx; omega) hxs).trans CX.out
          have ca1 := (HF8.out ⟨ba, oa + k, none⟩ (by show w.heap.size < ba; omega) la2).trans CA.out
          have cy1 := (HF8.out ⟨gy, j, none⟩ (by show w.heap.size < gy; omega) hys).trans ((HY6.out.cellAt j (by omega)).trans (HYC.out j hlt2))
          have cb1 := (HF8.out ⟨bb, ob + j, none⟩ (by show w.heap.size < bb; omega) lb2).trans (hcb j _ (HBC.out j hlt2))
          obtain ⟨y1, y2⟩ := HBD.out j hlt2
          have hw1 := IntWalk.i64_in (x - pb.getD j 0) ⟨by omega, by omega⟩
          have HS := hide (fun d => HCNk.out j hlt2 d)
          have hle := HLE.out k j (x - pb.getD j 0)
          have HR8 := hide hr8
          have HT8 := hide ht8
          clear hcb hr8 ht8
          generalize byteAt Y j = l2 at *
          generalize pb.getD j 0 = y at *
          by_cases hxy : l = l2
          · subst hxy
            have hd1 : (l == l) = true := by simp
            cases hin : inB (x - y) (-400) 400
            · have HE : Hid (tbC (cpt kpR xs ys k (j + 1)) = tbC (cpt kpR xs ys k j)) := hide (tbC_same fun d d1 d2 => by
                rw [HS.out]
                have hk0 : kpR (l, x) (l, y) d = false := by
                  rcases inB_false.1 hin with h | h <;> simp [kpR] <;> omega
                rw [hk0]; rfl)
              go_wp2
              go_quiet (fail)
              go_wp2
              go_quiet ((go_at_call 119; first | exact quiet_left (l00In_any _ _ _ _) | exact quiet_add_left (l00In_any _ _ _ _)))
              go_wp2
              exact ⟨⟨j + 1, by omega, by go_num, by rw [HE.out]; exact HR8.out, HT8.out, HF8, hs8, below_drewN hB8 _⟩, by simp [intOf]; omega⟩
            · obtain ⟨i1, i2⟩ := inB_true.1 hin
              obtain ⟨q, hq⟩ : ∃ q : Nat, (q : Int) = x - y + 400 := ⟨(x - y + 400).toNat, by omega⟩
              have hq8 : q < 801 := by omega
              have HE : Hid (tbC (cpt kpR xs ys k (j + 1)) = (tbC (cpt kpR xs ys k j)).set q (.int .i64 ((cpt kpR xs ys k j (x - y) : Nat) + 1 : Int))) := hide (tbC_hit ⟨i1, i2⟩ (fun d => by
                rw [HS.out]
                by_cases hd : d = x - y
                · subst hd; simp [kpR]
                · have hk0 : kpR (l, x) (l, y) d = false := by simp [kpR]; omega
                  rw [hk0, if_neg hd]; rfl) hq)
              have ct0 : wr.cell? ⟨w.heap.size, q, none⟩ = some (.int .i64 ((cpt kpR xs ys k j (x - y) : Nat) : Int)) := by
                have := rangeAt_cell HR8.out (tbC_get (cpt kpR xs ys k j) hq8)
                rw [show (q : Int) - 400 = x - y by omega] at this
                exact this
              have f1 := (HT8.out q hq8).2
              rw [Nat.zero_add] at f1
              have hw2 := IntWalk.i64_in (x - y + 400) ⟨by omega, by omega⟩
              have hw3 := IntWalk.i64_in (((cpt kpR xs ys k j (x - y) : Nat) : Int) + 1) ⟨by omega, by omega⟩
              have h0q : (0 : Int) ≤ x - y + 400 := by omega
              have hiq : x - y + 400 < 801 := by omega
              have hqn : q = (x - y + 400).toNat := by omega
              rw [hqn] at ct0 f1
              have HQ := hide hqn
              clear hqn hq
              generalize cpt kpR xs ys k j (x - y) = V at *
              go_wp2
              go_quiet (fail)
              go_wp2
              go_quiet ((go_at_call 119; first | exact quiet_left (l00In_any _ _ _ _) | exact quiet_add_left (l00In_any _ _ _ _)))
              go_wp2
              refine ⟨⟨j + 1, by omega, by go_num, ?_, ?_, ?_, ?_, ?_⟩, by simp [intOf]; omega⟩
              · rw [HE.out, ← HQ.out]; exact rangeAt_set (show (wr.drewN _).rangeAt _ 0 _ from HR8.out) q _ (by rw [tbC_len]; exact hq8)
              · exact there_set (show (wr.drewN _).there _ 0 801 from HT8.out) _ _
              · exact hide (fun a h1 h2 => (World.cell?_setCell_other _ _ _ _ (by intro he; subst he; exact absurd h1 (Nat.lt_irrefl _))).trans (HF8.out a h1 h2))
              · simpa using hs8
              · exact (below_drewN hB8 _).setCell (by simp) _
          · have hd1 : (l == l2) = false := by simp [hxy]
            have HE : Hid (tbC (cpt kpR xs ys k (j + 1)) = tbC (cpt kpR xs ys k j)) := hide (tbC_same fun d d1 d2 => by
              rw [HS.out]
              have hk0 : kpR (l, x) (l2, y) d = false := by simp [kpR, hd1]
              rw [hk0]; rfl)
            go_wp2
            go_quiet (fail)
            go_wp2
            go_quiet ((go_at_call 119; first | exact quiet_left (l00In_any _ _ _ _) | exact quiet_add_left (l00In_any _ _ _ _)))
            go_wp2
            exact ⟨⟨j + 1, by omega, by go_num, by rw [HE.out]; exact HR8.out, HT8.out, HF8, hs8, below_drewN hB8 _⟩, by simp [intOf]; omega⟩
        · obtain rfl : j = m := by omega
          rw [HCRk.out] at hr8
          go_wp2
          exact ⟨⟨k + 1, by omega, by go_num, hr8, ht8, HF8, hs8, hB8⟩, by simp [intOf]; omega⟩
    · obtain rfl : k = n := by omega
      have HG := hide (fun (q : Nat) (hq : q < 801) => show wr.cell? ⟨w.heap.size, q, none⟩ = some (.int .i64 (CS ((q : Int) - 400))) from by
        rw [← HCE.out]; exact rangeAt_cell hrr (tbC_get (cpt kpR xs ys k 0) hq))
      have c4 : wr.cell? ⟨w.heap.size, 400, none⟩ = some (.int .i64 (CS 0)) := HG.out 400 (by omega)
      clear hrr htt HFAR HCE HCR HCN HLE HC0
      clear HW1 HW2 HP1 HP2 HL1 HL2 HA6 HB6 HX6 HY6 HXC HYC HAC HBC HAD HBD HBL HS1 HS2
      go_wp2
      go_loopw [18, 19, 20] (fun be mo i wq => ∃ t : Nat, t ≤ 400 ∧ be = .int .i64 (bsG CS t).1 ∧ mo = .int .i64 (bsG CS t).2 ∧ i = .int .i64 ((t : Int) + 1) ∧ wq = wr)
        (fun _ _ i _ => 401 - (intOf i).toNat)
      case atStart => exact ⟨0, by omega, rfl, rfl, rfl, rfl⟩
      case round =>
        obtain ⟨t, ht, rfl, rfl, rfl, rfl⟩ := hrel
        by_cases hlt3 : t < 400
        · have hi4 : (t : Int) + 1 ≤ 400 := by omega
          obtain ⟨N1, hN1⟩ : ∃ N1 : Nat, (N1 : Int) = 400 + ((t : Int) + 1) := ⟨401 + t, by omega⟩
          obtain ⟨N2, hN2⟩ : ∃ N2 : Nat, (N2 : Int) = 400 - ((t : Int) + 1) := ⟨399 - t, by omega⟩
          have q1 := HG.out N1 (by omega)
          have q2 := HG.out N2 (by omega)
          rw [show (N1 : Int) - 400 = (t : Int) + 1 by omega] at q1
          rw [show (N2 : Int) - 400 = -((t : Int) + 1) by omega] at q2
          have hwa := (IntWalk.i64_in (400 + ((t : Int) + 1)) ⟨by omega, by omega⟩).trans hN1.symm
          have hwb := (IntWalk.i64_in (400 - ((t : Int) + 1)) ⟨by omega, by omega⟩).trans hN2.symm
          have z1 : (0 : Int) ≤ N1 := by omega
          have z2 : (N1 : Int) < 801 := by omega
          have z3 : (0 : Int) ≤ N2 := by omega
          have z4 : (N2 : Int) < 801 := by omega
          clear hN1 hN2
          have HST : Hid (bsG CS (t + 1) = bsStep CS (bsStep CS (bsG CS t) ((t : Int) + 1)) (-((t : Int) + 1))) := hide rfl
          have HSD : Hid (∀ s d, bsStep CS s d = if s.2 < CS d then (d, CS d) else s) := hide (fun _ _ => rfl)
          rw [HSD.out, HSD.out] at HST
          generalize CS ((t : Int) + 1) = v1 at *
          generalize CS (-((t : Int) + 1)) = v2 at *
          generalize bsG CS t = so at *
          obtain ⟨p, o⟩ := so
          dsimp only at HST ⊢
          by_cases g1 : o < v1
          · rw [if_pos g1] at HST
            dsimp only at HST
            by_cases g2 : v1 < v2
            · rw [if_pos g2] at HST
              go_wp2
              exact ⟨⟨t + 1, by omega, by rw [HST.out], by rw [HST.out], by go_num, by first | rfl | trivial⟩, by simp [intOf]; omega⟩
            · rw [if_neg g2] at HST
              go_wp2
              exact ⟨⟨t + 1, by omega, by rw [HST.out], by rw [HST.out], by go_num, by first | rfl | trivial⟩, by simp [intOf]; omega⟩
          · rw [if_neg g1] at HST
            dsimp only at HST
            by_cases g2 : o < v2
            · rw [if_pos g2] at HST
              go_wp2
              exact ⟨⟨t + 1, by omega, by rw [HST.out], by rw [HST.out], by go_num, by first | rfl | trivial⟩, by simp [intOf]; omega⟩
            · rw [if_neg g2] at HST
              go_wp2
              exact ⟨⟨t + 1, by omega, by rw [HST.out], by rw [HST.out], by go_num, by first | rfl | trivial⟩, by simp [intOf]; omega⟩
        · obtain rfl : t = 400 := by omega
          go_wp2
          go_ret2
          first | exact ⟨rfl, hB⟩ | exact hB | (refine ⟨?_, hB⟩; simp)
end Go.Proofs.YtngondeaeipcfaaGreatDoor
