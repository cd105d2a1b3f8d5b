/- What is kept with a shift: the model's. -/
import Derived.Test.YtngondeaeipcfaaGreatDoorKpK
import Derived.Maps.AppendAt
import Derived.Deep.AppendLies
namespace Go.Proofs.YtngondeaeipcfaaGreatDoor
open Go Go.RowKit

theorem mem_succ {X : List UInt8} {a : List Int} {i : Nat} {v : Pr} : v ∈ psT X a (i + 1) ↔ v ∈ psT X a i ∨ v = (byteAt X i, a.getD i 0) := by rw [psT_succ, List.mem_append, List.mem_singleton]
set_option maxRecDepth 100000 in
set_option maxHeartbeats 16000000 in
theorem l06Kept_any (F : Fc) (hF : F.ok) (b : Nat) (A : Option Addr) (c : Nat) (s1 s2 : ByteArray) (sh : Int) (w : World) (hv : vface F = true) (ht1 : vtext s1.data.toList = true) (ht2 : vtext s2.data.toList = true) (hs : -400 ≤ sh ∧ sh ≤ 400)
    (hr : w.rangeAt b 0 (fc F (.slice A F.ps.length c))) (hb : b < w.heap.size) (hA : PairsAt w w.heap.size A F.ps) :
    Calls Tryz.prog 195 #[.pointer (some ⟨b, 0, none⟩), .string s1, .string s2, .int .i64 sh] w (IntsB (kpL (psL F s1.data.toList) (psL F s2.data.toList) sh) w) := by
  obtain ⟨i0, hi0, hz0, hz1, hz2⟩ := info_parts Tryz.infoI64
  have hs1 : s1.size ≤ 60 := by have := (vtext_true.1 ht1).1; simpa using this
  have hs2 : s2.size ≤ 60 := by have := (vtext_true.1 ht2).1; simpa using this
  have HW1 := hide (fun w => l01WordsC_any s1 w (by omega))
  have HW2 := hide (fun w => l01WordsC_any s2 w (by omega))
  have HBL := hide (fun L => show (bas (wordsL L)).length = (wordsL L).length from List.length_map _)
  have HP1 := hide (fun A2 c2 W (hB : Below w.heap.size w W) hS => l01Places_any F hF b A c (wordsL s1.data.toList) A2 c2 W hv (fun x hx => words_mem ht1 hx) (words_len ht1) (rangeAt_below hr hB hb) (Nat.lt_of_lt_of_le hb hB.size) ((hA.below hB).mono hB.size) hS)
  have HP2 := hide (fun A2 c2 W (hB : Below w.heap.size w W) hS => l01Places_any F hF b A c (wordsL s2.data.toList) A2 c2 W hv (fun x hx => words_mem ht2 hx) (words_len ht2) (rangeAt_below hr hB hb) (Nat.lt_of_lt_of_le hb hB.size) ((hA.below hB).mono hB.size) hS)
  have HL1 := hide (fun W => l06Letters_any s1 W (by omega))
  have HL2 := hide (fun W => l06Letters_any s2 W (by omega))
  have hn1 := plL_lett F s1.data.toList
  have hn2 := plL_lett F s2.data.toList
  have hx60 : (lettL s1.data.toList).length ≤ 60 := Nat.le_trans (lettL_len _) (vtext_true.1 ht1).1
  have hy60 : (lettL s2.data.toList).length ≤ 60 := Nat.le_trans (lettL_len _) (vtext_true.1 ht2).1
  have hbd := plL_bd hF hv ht2
  have hbda := plL_bd hF hv ht1
  unfold PlBack at HP1 HP2
  unfold LtB at HL1 HL2
  unfold psL
  generalize lettL s1.data.toList = X at *
  generalize lettL s2.data.toList = Y at *
  generalize plL F (wordsL s1.data.toList) = pa at *
  generalize plL F (wordsL s2.data.toList) = pb at *
  generalize wdL F (wordsL s1.data.toList) = wa at *
  generalize wdL F (wordsL s2.data.toList) = wb at *
  have HXC := hide (fun k (h : k < X.length) => byte_cell h)
  have HYC := hide (fun k (h : k < Y.length) => byte_cell h)
  have HAC := hide (fun k (h : k < X.length) => getD_some (a := pa) (k := k) (by omega))
  have HBC := hide (fun k (h : k < Y.length) => getD_some (a := pb) (k := k) (by omega))
  have HBD := hide (fun k (h : k < Y.length) => getD_bd hbd (k := k) (by omega))
  have HMS := hide (fun i v => @mem_succ X pa i v)
  have HKP := hide (fun k (h : k < Y.length) => show kpP (psT X pa X.length) (psT Y pb Y.length) sh (k : Int) = decide ((byteAt Y k, pb.getD k 0 + sh) ∈ psT X pa X.length) from kpP_at (psT_get h))
  have HKL : Hid (kpL (psT X pa X.length) (psT Y pb Y.length) sh = (idxL Y.length).filter (kpP (psT X pa X.length) (psT Y pb Y.length) sh)) := hide (by unfold kpL; rw [psT_len])
  have HM0 : Hid (∀ v, ¬ v ∈ psT X pa 0) := hide (fun v h => by simp [psT] at h)
  rw [HKL.out]
  obtain ⟨n, hN⟩ : ∃ n, X.length = n := ⟨_, rfl⟩
  obtain ⟨m, hM⟩ : ∃ m, Y.length = m := ⟨_, rfl⟩
  have HPA := hide (hn1.trans hN)
  have HPB := hide (hn2.trans hM)
  rw [hN] at hx60 HL1 HXC HAC HKP
  rw [hM] at hy60 HL2 HYC HBC HBD HKP
  rw [hn1, hN] at HP1
  rw [hn2, hM] at HP2
  have HFL : Hid (∀ k : Nat, ((idxL k).filter (kpP (psT X pa n) (psT Y pb m) sh)).length ≤ k) := hide (fun k => Nat.le_trans (List.length_filter_le _ _) (by rw [idxL_len]; exact Nat.le_refl _))
  have HFY : Hid (∀ k : Nat, kpP (psT X pa n) (psT Y pb m) sh (k : Int) = true → (idxL (k + 1)).filter (kpP (psT X pa n) (psT Y pb m) sh) = (idxL k).filter (kpP (psT X pa n) (psT Y pb m) sh) ++ [(k : Int)]) := hide (fun k h => by rw [idxL_succ, List.filter_append]; simp [h])
  have HFN : Hid (∀ k : Nat, kpP (psT X pa n) (psT Y pb m) sh (k : Int) = false → (idxL (k + 1)).filter (kpP (psT X pa n) (psT Y pb m) sh) = (idxL k).filter (kpP (psT X pa n) (psT Y pb m) sh)) := hide (fun k h => by rw [idxL_succ, List.filter_append]; simp [h])
  have HF0 : Hid ((idxL 0).filter (kpP (psT X pa n) (psT Y pb m) sh) = []) := hide rfl
  rw [hN, hM]
  obtain ⟨z1, z2⟩ := hs
  clear HKL hn1 hn2 hbd hbda hv ht1 ht2 hr hA hN hM hs1 hs2
  generalize kpP (psT X pa n) (psT Y pb m) sh = KP at *
  have hown0 : (w.alloc (.cells #[] 2)).ownsRow w.heap.size 2 1 (.slice (some ⟨w.heap.size, 0, none⟩) 0 0) 0 [] := World.ownsRow_made w #[] 0 (Nat.le_refl _) (by unfold maxLen; omega) rfl
  have s0 : (w.alloc (.cells #[] 2)).heap.size = w.heap.size + 1 := by simp
  have b0 : Below w.heap.size w (w.alloc (.cells #[] 2)) := (Below.refl _ _).alloc (Nat.le_refl _) _
  go_enter Tryz.func195, Tryz.ntmps195
  go_wp2_with fail
  generalize (w.alloc (.cells #[] 2)) = W0 at *
  refine (HW1.out _).mono ?_
  rintro e w1 ⟨A1, c1, rfl, hc1, hI1, hb1⟩
  rw [HBL.out]
  have g1 := hb1.size
  have hB1 := b0.trans (hb1.mono b0.size)
  have o1 := own_go hown0 hb1
  have HS1 := hide hI1.at_
  clear hown0 hI1 hb1
  go_wp2_with fail
  refine (HP1.out A1 c1 _ hB1 HS1.out).mono ?_
  rintro e w2 ⟨Aa, ca, A3, c3, rfl, hca, hIa, _, hb2⟩
  have g2 := hb2.size
  have hB2 := hB1.trans (hb2.mono hB1.size)
  have o2 := own_go o1 hb2
  clear o1 hb2
  go_wp2_with fail
  refine (HW2.out _).mono ?_
  rintro e w3 ⟨A4, c4, rfl, hc4, hI4, hb3⟩
  rw [HBL.out]
  have g3 := hb3.size
  have hB3 := hB2.trans (hb3.mono hB2.size)
  have o3 := own_go o2 hb3
  have hIa3 := hIa.go hb3
  have HS2 := hide hI4.at_
  clear o2 hb3 hI4 hIa
  go_wp2_with fail
  refine (HP2.out A4 c4 _ hB3 HS2.out).mono ?_
  rintro e w4 ⟨Ab, cb, A5, c5, rfl, hcb, hIb, _, hb4⟩
  have g4 := hb4.size
  have hB4 := hB3.trans (hb4.mono hB3.size)
  have o4 := own_go o3 hb4
  have hIa4 := hIa3.go hb4
  clear o3 hb4 hIa3
  go_wp2_with fail
  refine (HL1.out _).mono ?_
  rintro e w5 ⟨v5, rfl, hx5, hb5⟩
  have g5 := hb5.size
  have hB5 := hB4.trans (hb5.mono hB4.size)
  have o5 := own_go o4 hb5
  have hIa5 := hIa4.go hb5
  have hIb5 := hIb.go hb5
  clear o4 hb5 hIa4 hIb
  go_wp2_with fail
  refine (HL2.out _).mono ?_
  rintro e w6 ⟨v6, rfl, hy6, hb6⟩
  have hB6 := hB5.trans (hb6.mono hB5.size)
  have o6 := own_go o5 hb6
  have hIa6 := hIa5.go hb6
  have hIb6 := hIb5.go hb6
  have hx6 := own_go hx5 hb6
  have z1 := s0
  have y0 := hb6.size
  obtain ⟨Ax, cx, rfl, _, _⟩ := cellsIn_of_own hx6 (by omega)
  obtain ⟨Ay, cy, rfl, _, _⟩ := cellsIn_of_own hy6 (by omega)
  have HX6 := hide hx6
  have HY6 := hide hy6
  have HA6 := hide (hIa6.wider (show w.heap.size + 1 ≤ w1.heap.size by omega))
  have HB6 := hide (hIb6.wider (show w.heap.size + 1 ≤ w3.heap.size by omega))
  have hws := hB6.size
  clear o5 hb6 hIa5 hIb5 hx5 hx6 hy6 hIa6 hIb6 b0
  go_wp2
  go_loopw [9, 16] (fun br i wr => ∃ k : Nat, k ≤ m ∧ i = .int .i64 k ∧ wr.ownsRow w.heap.size 2 1 br ((idxL k).filter KP).length (((idxL k).filter KP).map (.int .i64)) ∧ Hid (∀ a : Addr, w.heap.size < a.block → a.block < w6.heap.size → wr.cell? a = w6.cell? a) ∧ Hid (∀ g, br.ownBlock = some g → g = w.heap.size ∨ w6.heap.size ≤ g) ∧ w6.heap.size ≤ wr.heap.size ∧ Below w.heap.size w6 wr)
    (fun _ i _ => m - (intOf i).toNat)
  case atStart => exact ⟨0, by omega, rfl, by rw [HF0.out]; exact o6, hide (fun _ _ _ => rfl), hide (fun g h => .inl (by simp [Value.ownBlock] at h; exact h.symm)), Nat.le_refl _, Below.refl _ _⟩
  case round =>
    obtain ⟨k, hk, rfl, hown, HFAR, HBLK, hsz, hB⟩ := hrel
    obtain ⟨Ao, co, rfl, hcap, _⟩ := cellsIn_of_own hown (by omega)
    have HOWN := hide hown
    have hln := HFL.out k
    clear hown
    by_cases hlt : k < m
    · have HKK := hide (HKP.out k hlt)
      obtain ⟨gy, cyp, e, hgb, hgs⟩ := HY6.out.form (by omega)
      injection e with e1 e2 e3
      subst e1 e3
      obtain ⟨bb, ob, rfl, lb1, lb2, hcb, _⟩ := HB6.out (by intro e; have := HBC.out k hlt; rw [e] at this; simp at this)
      have cy0 := (HFAR.out ⟨gy, k, none⟩ (by show w.heap.size < gy; omega) hgs).trans ((HY6.out.cellAt k (by omega)).trans (HYC.out k hlt))
      have cb0 := (HFAR.out ⟨bb, ob + k, none⟩ (by show w.heap.size < bb; omega) lb2).trans (hcb k _ (HBC.out k hlt))
      obtain ⟨y1, y2⟩ := HBD.out k hlt
      have hw1 := IntWalk.i64_in (pb.getD k 0 + sh) ⟨by omega, by omega⟩
      have hi : (k : Int) < m := by omega
      have h0 : (0 : Int) ≤ k := by omega
      have HY := hide (HFY.out k)
      have HN := hide (HFN.out k)
      have gyl : gy < wr.heap.size := by omega
      have bbl : bb < wr.heap.size := by omega
      have CY := hide cy0
      have CB := hide cb0
      clear hcb cy0 cb0
      generalize byteAt Y k = l at *
      generalize pb.getD k 0 = y at *
      obtain ⟨V, hV⟩ : ∃ V, V = wr := ⟨_, rfl⟩
      subst hV
      go_wp2
      go_loopw [17, 18] (fun kp i w8 => ∃ j : Nat, j ≤ n ∧ i = .int .i64 j ∧ kp = .bool (decide ((l, y + sh) ∈ psT X pa j)) ∧ Below V.heap.size V w8) (fun _ i _ => n - (intOf i).toNat)
      case atStart => exact ⟨0, by omega, rfl, by rw [decide_eq_false (HM0.out _)], Below.refl _ _⟩
      case round =>
        obtain ⟨j, hj, rfl, rfl, hB8⟩ := hrel
        by_cases hlt2 : j < n
        · obtain ⟨gx, cxp, e, hxb, hxs⟩ := HX6.out.form (by omega)
          injection e with e1 e2 e3
          subst e1 e3
          obtain ⟨ba, oa, rfl, la1, la2, hca, _⟩ := HA6.out (by intro e; have := HAC.out j hlt2; rw [e] at this; simp at this)
          have cx1 := (hB8.cell (p := ⟨gx, j, none⟩) (by show gx < V.heap.size; omega)).trans ((HFAR.out ⟨gx, j, none⟩ (by show w.heap.size < gx; omega) hxs).trans ((HX6.out.cellAt j (by omega)).trans (HXC.out j hlt2)))
          have ca1 := (hB8.cell (p := ⟨ba, oa + j, none⟩) (by show ba < V.heap.size; omega)).trans ((HFAR.out ⟨ba, oa + j, none⟩ (by show w.heap.size < ba; omega) la2).trans (hca j _ (HAC.out j hlt2)))
          have cy1 := (hB8.cell (p := ⟨gy, k, none⟩) gyl).trans CY.out
          have cb1 := (hB8.cell (p := ⟨bb, ob + k, none⟩) bbl).trans CB.out
          have hji : (j : Int) < n := by omega
          have hj0 : (0 : Int) ≤ j := by omega
          have HM := hide (HMS.out j (l, y + sh))
          have HB8 := hide hB8
          clear hca hB8
          generalize byteAt X j = xj at *
          generalize pa.getD j 0 = aj at *
          by_cases hdec : (l, y + sh) ∈ psT X pa j
          · have HE : Hid (decide ((l, y + sh) ∈ psT X pa (j + 1)) = true) := hide (decide_eq_true (HM.out.2 (.inl hdec)))
            have hde := decide_eq_true hdec
            rw [hde]
            clear hde
            go_wp2
            go_quiet (fail)
            go_wp2
            exact ⟨⟨j + 1, by omega, by go_num, by rw [HE.out], below_drewN HB8.out _⟩, by simp [intOf]; omega⟩
          · have hde := decide_eq_false hdec
            rw [hde]
            clear hde
            by_cases hxy : xj = l
            · subst hxy
              have hd1 : (xj == xj) = true := by simp
              by_cases hay : aj = y + sh
              · have HE : Hid (decide ((xj, y + sh) ∈ psT X pa (j + 1)) = true) := hide (decide_eq_true (HM.out.2 (.inr (by rw [hay]))))
                have hd2 : (aj == y + sh) = true := by simp [hay]
                clear hay
                go_wp2
                go_quiet (fail)
                go_wp2
                exact ⟨⟨j + 1, by omega, by go_num, by rw [HE.out], below_drewN HB8.out _⟩, by simp [intOf]; omega⟩
              · have HE : Hid (decide ((xj, y + sh) ∈ psT X pa (j + 1)) = false) := hide (decide_eq_false (fun h => by
                  rcases HM.out.1 h with h | h
                  · exact hdec h
                  · injection h with _ h; exact hay h.symm))
                have hd2 : (aj == y + sh) = false := by simp [hay]
                go_wp2
                go_quiet (fail)
                go_wp2
                exact ⟨⟨j + 1, by omega, by go_num, by rw [HE.out], below_drewN HB8.out _⟩, by simp [intOf]; omega⟩
            · have HE : Hid (decide ((l, y + sh) ∈ psT X pa (j + 1)) = false) := hide (decide_eq_false (fun h => by
                rcases HM.out.1 h with h | h
                · exact hdec h
                · injection h with h _; exact hxy h.symm))
              have hd1 : (xj == l) = false := by simp [hxy]
              go_wp2
              go_quiet (fail)
              go_wp2
              exact ⟨⟨j + 1, by omega, by go_num, by rw [HE.out], below_drewN HB8.out _⟩, by simp [intOf]; omega⟩
        · obtain rfl : j = n := by omega
          have own8 := own_go HOWN.out hB8
          have hs8 := hB8.size
          have HF8 : Hid (∀ a : Addr, w.heap.size < a.block → a.block < w6.heap.size → wr.cell? a = w6.cell? a) := hide (fun a h1 h2 => (hB8.cell (p := a) (by omega)).trans (HFAR.out a h1 h2))
          have hB9 := hB.trans (hB8.mono (Nat.le_trans hws (by omega)))
          rw [← HKK.out]
          cases hkp : KP (k : Int)
          · have HE := hide (HN.out hkp)
            go_wp2
            refine ⟨⟨k + 1, by omega, by go_num, ?_, HF8, HBLK, by omega, hB9⟩, by simp [intOf]; omega⟩
            rw [HE.out]
            exact own8
          · have HE := hide (HY.out hkp)
            have HO8 := hide own8
            clear own8
            go_wp2_with (at_builtin; refine wpList_append_own_at _ rfl (.tmp 76) (.tmp 78) 33 rfl w.heap.size 2 i0 (.int .i64 0) 1 8 Tryz.underlying33 hi0 hz0 hz1 hz2 rfl (by decide) _ ((idxL k).filter KP).length _ rfl (HO8.out.alloc _) ⟨wr.heap.size, 0, none⟩ 1 1 [.int .i64 (k : Int)] rfl rfl (one_cell _) (one_one rfl) ?h1 ?h2 ?h3 ?_)
            case h1 => unfold maxLen; omega
            case h2 => omega
            case h3 => simp; omega
            intro v' w9 hown9 hg9 _ hblk9
            obtain ⟨A9, c9, rfl, _, _⟩ := cellsIn_of_own hown9 (by omega)
            have H9 := hide hown9
            have hBLK9 : ∀ g, (Value.slice A9 (((idxL k).filter KP).length + 1) c9).ownBlock = some g → g = w.heap.size ∨ w6.heap.size ≤ g := fun g h => by
              rcases hblk9 with e | e
              · exact HBLK.out g (e.symm.trans h)
              · rw [e] at h; injection h with h; right; first | omega | (simp at h; omega)
            have hF9 : ∀ a : Addr, w.heap.size < a.block → a.block < w6.heap.size → w9.cell? a = w6.cell? a := fun a h1 h2 =>
              (hg9.cell_far a (by simp; omega) (fun e => by rcases HBLK.out a.block e.symm with h | h <;> omega)).trans (((Below.alloc (Below.refl _ _) (Nat.le_refl _) _).cell (p := a) (show a.block < wr.heap.size by omega)).trans (HF8.out a h1 h2))
            have hg89 : wr.grownBy w9 _ := grown_trans (World.grownBy_alloc wr _ _) hg9
            have hz9 := hg89.size
            have hB10 := hB9.trans (grown_toBelow hg89 (by omega) (fun k hk => (HO8.out.lt k hk).1))
            have HB9 := hide hBLK9
            have HF9 := hide hF9
            clear hown9 hg9 hg89 hblk9 hBLK9 hF9
            go_wp2
            refine ⟨⟨k + 1, by omega, by go_num, ?_, HF9, ?_, by omega, hB10⟩, by simp [intOf]; omega⟩
            · rw [HE.out, List.map_append, List.length_append]; exact H9.out
            · exact HB9
    · obtain rfl : k = m := by omega
      obtain ⟨Ag, cg, e, _, hI⟩ := intsIn_of_own HOWN.out
      injection e with e1 e2 e3
      subst e1 e3
      have HI := hide hI
      clear hI
      go_wp2
      go_ret
      exact ⟨Ao, co, rfl, hcap, HI.out, hB6.trans hB⟩
end Go.Proofs.YtngondeaeipcfaaGreatDoor
