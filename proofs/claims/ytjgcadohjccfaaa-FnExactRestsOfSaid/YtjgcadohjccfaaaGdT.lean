/- What is left of sheets: the program's; CheckSheets and RestsOf of both. -/
import Derived.Test.YtjgcadohjccfaaaGdR
namespace Go.Proofs.Ytjgcadohjccfaaa
open Go Go.RowKit

set_option maxRecDepth 100000 in
set_option maxHeartbeats 16000000 in
theorem rests_any (wd ov : Int) (A1 : Option Addr) (ps : List Int) (c1 : Nat) (A2 : Option Addr) (ss : List Int) (c2 : Nat) (w : World) (hn : ps.length ≤ 60) (hx : ∀ x ∈ ps, 1 ≤ x ∧ x ≤ 50) (hw : 1 ≤ wd ∧ wd ≤ 400) (hsn : ss.length ≤ maxLen) (h1 : IntsAt w w.heap.size A1 ps) (h2 : IntsAt w w.heap.size A2 ss) :
    Calls Try.prog 71 #[.agg #[.int .i16 wd, .int .i8 ov], .slice A1 ps.length c1, .slice A2 ss.length c2] w (RestB (rsO wd ps ss) w) := by
  obtain ⟨i0, hi0, hz0, hz1, hz2⟩ := info_parts Try.infoI64
  unfold maxLen at hsn
  have b0 : Below w.heap.size w (w.alloc (.cells #[.int .i16 wd, .int .i8 ov] 27)) := (Below.refl _ _).alloc (Nat.le_refl _) _
  have r0 := rangeAt_newg (w := w) (cs := #[.int .i16 wd, .int .i8 ov]) (t := 27) (g := w.heap.size) rfl rfl
  have s0 : w.heap.size < (w.alloc (.cells #[.int .i16 wd, .int .i8 ov] 27)).heap.size := by simp
  have HI2 := hide (show (Try.prog.info? 27).map (·.size) = some ([.int .i16 wd, .int .i8 ov] : List Value).length from by kernel_rfl)
  have HWI := hide (fun W => sheetWide_any wd ov ⟨by omega, by omega⟩ W)
  by_cases hl : ss.length = ps.length
  · have HO := hide (rsO_all (wd := wd) hl)
    have HBD := hide (rsT_bd hw (ps := ps) (ss := ss) hx)
    have HNO := hide (fun k h m hm => rsT_none (wd := wd) (ps := ps) (ss := ss) (k := k) h m hm)
    have HOUT := hide (fun k R v x h hv hx hb => rsT_out (wd := wd) (ps := ps) (ss := ss) (R := R) (k := k) (v := v) (x := x) h hv hx hb)
    have HLOW := hide (fun k R j x h hv hx hb hl => rsT_low (wd := wd) (ps := ps) (ss := ss) (R := R) (k := k) (j := j) (x := x) h hv hx hb hl)
    have HFIT := hide (fun k R j x h hv hx hb hl => rsT_fit (wd := wd) (ps := ps) (ss := ss) (R := R) (k := k) (j := j) (x := x) h hv hx hb hl)
    have HX := hide hx
    have H1 := hide ((h1.below b0).mono b0.size)
    have H2 := hide ((h2.below b0).mono b0.size)
    obtain ⟨n, hN⟩ : ∃ n, ps.length = n := ⟨_, rfl⟩
    have HN1 := hide hN
    have HN2 := hide (hl.trans hN)
    rw [hl, hN] at HO ⊢
    rw [hN] at hn
    rw [hN] at HBD
    rw [HN2.out] at HBD
    have HZ : Hid (rsT wd ps ss 0 = some []) := hide rfl
    clear hN hl hx h1 h2 hsn
    obtain ⟨hw1, hw2⟩ := hw
    go_enter Try.func71, Try.ntmps71
    go_wp2
    generalize (w.alloc (.cells #[.int .i16 wd, .int .i8 ov] 27)) = W0 at *
    have hws := b0.size
    go_loopw [8, 18] (fun br i wr => ∃ (k : Nat) (R : List Int), k ≤ n ∧ i = .int .i64 k ∧ Hid (rsT wd ps ss k = some R) ∧ wr.ownsRow W0.heap.size 2 1 br R.length (R.map (.int .i64)) ∧ Below W0.heap.size W0 wr)
      (fun _ i _ => n - (intOf i).toNat)
    case atStart => exact ⟨0, [], Nat.zero_le _, rfl, HZ, World.ownsRow_nil _ _ _ _, Below.refl _ _⟩
    case round =>
      obtain ⟨k, R, hk, rfl, hT, hown, hB⟩ := hrel
      obtain ⟨hr60, hry⟩ := HBD.out k R hk hk hT.out
      obtain ⟨Ab, cbb, rfl, hcap, _⟩ := cellsIn_of_own hown (by omega)
      have hbs := hB.size
      have HOWN := hide hown
      clear hown
      by_cases hlt : k < n
      · obtain ⟨b1, o1, rfl, hb1, hps⟩ := H1.out (by intro e; rw [e] at HN1; have := HN1.out; simp at this; omega)
        obtain ⟨b2, o2, rfl, hb2, hss⟩ := H2.out (by intro e; rw [e] at HN2; have := HN2.out; simp at this; omega)
        obtain ⟨x, hxk⟩ : ∃ x, ps[k]? = some x := ⟨ps[k]'(by rw [HN1.out]; exact hlt), List.getElem?_eq_getElem _⟩
        obtain ⟨v, hvk⟩ : ∃ v, ss[k]? = some v := ⟨ss[k]'(by rw [HN2.out]; exact hlt), List.getElem?_eq_getElem _⟩
        have cv : wr.cell? ⟨b2, o2 + k, none⟩ = some (.int .i64 v) := (hB.cell (p := ⟨b2, o2 + k, none⟩) hb2).trans (hss k v hvk)
        obtain ⟨x1, x2⟩ := HX.out x (List.mem_of_getElem? hxk)
        have hi : (k : Int) < n := by omega
        have hk0 : (0 : Int) ≤ k := by omega
        have HXK := hide hxk
        have HVK := hide hvk
        have HPS := hide hps
        clear hxk hvk hps hss
        cases hv : inB v 0 59
        · have HE := hide (HO.out.trans (HNO.out (k + 1) (HOUT.out k R v x hT.out HVK.out HXK.out hv) n (by omega)))
          go_wp2_with (go_at_call 50; refine (between_any _ _ _ _).mono ?_; rintro e w' ⟨rfl, rfl⟩; simp only [hv])
          go_ret2
          exact ⟨_, by rw [HE.out]; rfl, fun R h => (by rw [HE.out] at h; cases h), b0.trans (hB.mono b0.size)⟩
        · obtain ⟨j1, j2⟩ := inB_true.1 hv
          obtain ⟨j, rfl⟩ : ∃ j : Nat, v = j := ⟨v.toNat, by omega⟩
          have HV := hide hv
          obtain ⟨W5, hW5⟩ : ∃ W5, W5 = wr := ⟨_, rfl⟩
          subst hW5
          go_wp2_with (go_at_call 50; refine (between_any _ _ _ _).mono ?_; rintro e w' ⟨rfl, rfl⟩; simp only [hv])
          go_loopw [8] (fun br wq => ∃ m : Nat, R.length ≤ m ∧ m ≤ max R.length (j + 1) ∧ wq.ownsRow W0.heap.size 2 1 br m ((R ++ List.replicate (m - R.length) wd).map (.int .i64)) ∧ Below W0.heap.size W0 wq)
            (fun br _ => (j + 1) - slLen br)
          case atStart => exact ⟨R.length, Nat.le_refl _, by omega, by rw [Nat.sub_self, List.replicate_zero, List.append_nil]; exact HOWN.out, hB⟩
          case round =>
            clear hB cv HOWN hcap hbs
            obtain ⟨m, hm1, hm2, hown, hB⟩ := hrel
            obtain ⟨Ab, cbb, rfl, hcap, _⟩ := cellsIn_of_own hown (by omega)
            have hbs := hB.size
            have HOWN := hide hown
            have rw0 := rangeAt_below r0 hB s0
            clear hown
            by_cases hmj : m ≤ j
            · have hd : decide ((m : Int) ≤ j) = true := by simpa using hmj
              have hd' : decide (m ≤ j) = true := by simpa using hmj
              go_wp2_with (refine wpList_load_mid rfl 27 (.tmp 3) rfl _ 0 rfl [.int .i16 wd, .int .i8 ov] _ rw0 Try.underlying27 rfl HI2.out ?_)
              refine (HWI.out _).mono ?_
              rintro e w3 ⟨rfl, hb3⟩
              have hown3 := own_go HOWN.out hb3
              have hB3 := hB.trans (hb3.mono hbs)
              have hs3 := hB3.size
              clear hb3 rw0
              go_wp2_with (at_builtin; refine wpList_append_own _ rfl (.tmp 30) (.tmp 33) 35 rfl W0.heap.size 2 i0 (.int .i64 0) 1 8 Try.underlying35 hi0 hz0 hz1 hz2 rfl (by decide) _ m _ rfl (hown3.alloc _) ⟨w3.heap.size, 0, none⟩ 1 1 [.int .i64 wd] rfl rfl (one_cell _) (one_one rfl) ?h1 ?h2 ?h3 ?_)
              case h1 => unfold maxLen; omega
              case h2 => omega
              case h3 => first | omega | (simp; omega) | simp
              intro v' w4 hown4 hg4 _
              obtain ⟨A4, c4, rfl, _, _⟩ := cellsIn_of_own hown4 (by omega)
              have H4 := hide hown4
              have hg34 : w3.grownBy w4 _ := grown_trans (World.grownBy_alloc w3 _ _) hg4
              have hB4 := hB3.trans (grown_toBelow hg34 (by omega) (fun k hk => (hown3.lt k hk).1))
              clear hown4 hg4 hg34 hown3
              go_wp2
              refine ⟨⟨m + 1, by omega, by omega, ?_, hB4⟩, by simp [slLen]; omega⟩
              rw [show m + 1 - R.length = (m - R.length) + 1 by omega, List.replicate_succ', ← List.append_assoc, List.map_append, List.map_append, List.map_replicate, List.append_assoc]
              exact H4.out
            · have hd : decide ((m : Int) ≤ j) = false := by simp; omega
              have hd' : decide (m ≤ j) = false := by simpa using hmj
              have hml : (rsG wd R j).length = m := by rw [rsG_len]; omega
              have hmr : R ++ List.replicate (m - R.length) wd = rsG wd R j := by unfold rsG; congr 2; omega
              rw [hmr] at HOWN
              have hjm : j < m := by omega
              have hyj : (rsG wd R j)[j]? = some ((rsG wd R j).getD j 0) := by rw [List.getD_eq_getElem?_getD, List.getElem?_eq_getElem (rsG_lt wd R j)]; rfl
              have hyb : 0 ≤ (rsG wd R j).getD j 0 ∧ (rsG wd R j).getD j 0 ≤ wd := by
                rcases rsG_mem (List.mem_of_getElem? hyj) with h | h
                · exact hry _ h
                · omega
              have HLO := hide (fun hl => HLOW.out k R j x hT.out HVK.out HXK.out HV.out hl)
              have HFI := hide (fun hl => HFIT.out k R j x hT.out HVK.out HXK.out HV.out hl)
              have HML := hide hml
              obtain ⟨g, cap, e, hgb, hgs⟩ := HOWN.out.form (by omega)
              injection e with e1 e2 e3
              subst e1 e3
              have cy : wr.cell? ⟨g, j, none⟩ = some (.int .i64 ((rsG wd R j).getD j 0)) := by
                rw [HOWN.out.cellAt j (by omega), List.getElem?_map, hyj]; rfl
              have fy := HOWN.out.frozenAt j
              have cx : wr.cell? ⟨b1, o1 + k, none⟩ = some (.int .i64 x) := (hB.cell (p := ⟨b1, o1 + k, none⟩) hb1).trans (HPS.out k _ HXK.out)
              generalize rsG wd R j = G at *
              generalize G.getD j 0 = y at *
              obtain ⟨y1, y2⟩ := hyb
              have hwy := IntWalk.i64_in (y - x) ⟨by omega, by omega⟩
              have hjm' : (j : Int) < m := by omega
              obtain ⟨W6, hW6⟩ : ∃ W6, W6 = (wr.setCell ⟨g, j, none⟩ (.int .i64 (y - x))).drew := ⟨_, rfl⟩
              have c6 : W6.cell? ⟨g, j, none⟩ = some (.int .i64 (y - x)) := by rw [hW6]; exact World.cell?_setCell_same' _ _ _ (by rw [cy]; rfl)
              have o6 := HOWN.out.stored j (.int .i64 (y - x))
              have hB6 : Below W0.heap.size W0 W6 := by rw [hW6]; exact (hB.setCell (p := ⟨g, j, none⟩) hgb _).drew
              have o6' : W6.ownsRow W0.heap.size 2 1 (.slice (some ⟨g, 0, none⟩) m cbb) (G.set j (y - x)).length ((G.set j (y - x)).map (.int .i64)) := by rw [hW6, List.length_set, HML.out, List.map_set]; exact own_go o6.1 ((Below.refl _ _).drew)
              have HW6 := hide hW6
              have HO6 := hide o6'
              have hsl : (G.set j (y - x)).length = m := by rw [List.length_set, HML.out]
              have HSL := hide hsl
              clear hml hmr hyj hm1 hm2 hW6 o6 o6' hsl rw0
              cases hneg : decide (y - x < 0)
              · have HF := hide (HFI.out (by simpa using hneg))
                go_wp2
                go_still_tail 10, (by kernel_rfl)
                change wpList _ _ _ _ _ wr.drew
                repeat (first | (rw [← HW6.out]) | go_step)
                refine ⟨⟨k + 1, G.set j (y - x), by omega, by go_num, HF, ?_, hB6⟩, by simp [intOf]; omega⟩
                rw [HSL.out]
                have := HO6.out
                rw [HSL.out] at this
                exact this
              · have HE := hide (HO.out.trans (HNO.out (k + 1) (HLO.out (by simpa using hneg)) n (by omega)))
                go_wp2
                go_still_tail 10, (by kernel_rfl)
                change wpList _ _ _ _ _ wr.drew
                repeat (first | (rw [← HW6.out]) | go_step)
                go_ret2
                exact ⟨_, by rw [HE.out]; rfl, fun R h => (by rw [HE.out] at h; cases h), b0.trans (hB6.mono b0.size)⟩
      · obtain rfl : k = n := by omega
        have HE := hide (HO.out.trans hT.out)
        obtain ⟨Ag, cg, e, _, hI⟩ := intsIn_of_own HOWN.out
        injection e with e1 e2 e3
        subst e1 e3
        have HI := hide hI
        clear hI
        go_wp2
        go_ret2
        exact ⟨_, by rw [HE.out]; rfl, fun R' h => (by rw [HE.out] at h; injection h with h; subst h; exact ⟨Ab, cbb, rfl, HI.out.wider hws⟩), b0.trans (hB.mono b0.size)⟩
  · have HE := hide (rsO_len (wd := wd) hl)
    have hd : ((ss.length : Int) != (ps.length : Int)) = true := by simp; omega
    clear hl h1 h2 hx
    go_enter Try.func71, Try.ntmps71
    go_wp2
    go_ret2
    exact ⟨_, by rw [HE.out]; rfl, fun R h => (by rw [HE.out] at h; cases h), b0⟩
end Go.Proofs.Ytjgcadohjccfaaa
