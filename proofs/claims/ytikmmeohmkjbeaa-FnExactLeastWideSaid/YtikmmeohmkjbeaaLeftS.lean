/- What is left in each line, and the model's UnevenOf, CheckBreaks and RightRoom. -/
import Derived.Test.YtikmmeohmkjbeaaRightS
import Derived.Maps.AppendAt
namespace Go.Proofs.Ytikmmeohmkjbeaa
open Go Go.RowKit Go.Maps

/-- The lines, whether there are words or none. -/
def LinesCutS (ws : List (List UInt8)) (A' : Option Addr) (bs : List Int) (w : World) : Ending → World → Prop := fun e w' =>
  ∃ A2 c2 vs, e = .returned (.slice A2 (bs.length + 1) c2) ∧ CellsIn w' w.heap.size A2 vs ∧ (∀ k, k ≤ bs.length → ∃ Ak ck, vs[k]? = some (.slice Ak (enL ws.length bs k - stL bs k) ck) ∧ enL ws.length bs k - stL bs k ≤ ck ∧ ∀ wr, StrsAt wr wr.heap.size A' (bas ws) → StrsAt wr wr.heap.size Ak (bas (seg ws (stL bs k) (enL ws.length bs k)))) ∧ Below w.heap.size w w'
theorem l02Lines_both (ws : List (List UInt8)) (A' : Option Addr) (c' : Nat) (B : Option Addr) (bs : List Int) (cb : Nat) (w : World) (hn : ws.length ≤ 61) (hc' : ws.length ≤ c') (ht : toldP ws.length bs) (hS : StrsAt w w.heap.size A' (bas ws)) (hB : IntsAt w w.heap.size B bs) :
    Calls Try.prog 78 #[.slice A' ws.length c', .slice B bs.length cb] w (LinesCutS ws A' bs w) := by
  have hl := told_len ht
  rcases Nat.eq_zero_or_pos ws.length with h0 | h0
  · have hb0 : bs.length = 0 := by omega
    rw [h0, hb0]
    refine (l02Lines_zero A' c' B cb w).mono fun e w' ⟨A2, c2, Ap, cp, he, hI, hb⟩ => ⟨A2, c2, _, by rw [hb0]; exact he, hI, fun k hk => ?_, hb⟩
    have hk0 : k = 0 := by omega
    subst hk0
    have e1 : enL ws.length bs 0 - stL bs 0 = 0 := by unfold enL stL; rw [if_neg (by omega), if_pos rfl, h0]
    have e2 : seg ws (stL bs 0) (enL ws.length bs 0) = [] := seg_nil ws (by omega)
    rw [e1, e2]
    exact ⟨Ap, cp, rfl, by omega, fun wr _ => StrsAt.nil _ _ _⟩
  · have hne : bas ws ≠ [] := by intro e; have := congrArg List.length e; simp at this; subst this; simp at h0
    obtain ⟨b, o, rfl, hb2, hps⟩ := hS hne
    refine (l02Lines_any b o c' ws.length B bs cb w hn h0 hc' ht hB).mono fun e w' ⟨A2, c2, he, hI, hb⟩ => ⟨A2, c2, _, he, hI, fun k hk => ?_, hb⟩
    refine ⟨_, _, piecesT_get _ _ _ _ _ (by omega), by have := (told_ends ht k hk).2.1; omega, fun wr hwr => ?_⟩
    obtain ⟨b', o', e, h1, h2⟩ := hwr hne
    injection e with e; injection e with e1 e2; subst e1 e2
    exact strsAt_seg h2 h1 _ _
theorem right_neg {F : Fc} {ws : List (List UInt8)} {x : Int} {bs : List Int} {k : Nat} (hk : k ≤ bs.length) (h : roomAt F ws x bs k < 0) : rightB F ws x bs = false := rightB_false.2 (fun hh => by have := hh.2 k hk; omega)
/-- What is left in each line, if breaks are right. -/
noncomputable def lfX (F : Fc) (ws : List (List UInt8)) (x : Int) (bs : List Int) : List Int := if rightB F ws x bs = true then roomsL F ws x bs else []
theorem lfX_no {F : Fc} {ws : List (List UInt8)} {x : Int} {bs : List Int} (h : rightB F ws x bs = false) : lfX F ws x bs = [] := by unfold lfX; rw [h]; rfl
theorem lfX_ok {F : Fc} {ws : List (List UInt8)} {x : Int} {bs : List Int} (h : rightB F ws x bs = true) : lfX F ws x bs = roomsL F ws x bs := by unfold lfX; rw [if_pos h]

set_option maxRecDepth 100000 in
set_option maxHeartbeats 8000000 in
theorem l02Left_any (F : Fc) (hF : F.ok) (b : Nat) (A : Option Addr) (c : Nat) (ws : List (List UInt8)) (A2 : Option Addr) (c2 : Nat) (x : Int) (x0 : 0 ≤ x) (x1 : x ≤ 4000) (B : Option Addr) (bs : List Int) (cb : Nat) (hbn : bs.length ≤ maxLen) (w : World) (hv : vface F = true) (hw : ∀ x ∈ ws, x.length ≤ 60 ∧ allCap x) (hn : ws.length ≤ 61) (hc2 : ws.length ≤ c2)
    (hr : w.rangeAt b 0 (fc F (.slice A F.ps.length c))) (hb : b < w.heap.size) (hA : PairsAt w w.heap.size A F.ps) (hS : StrsAt w w.heap.size A2 (bas ws)) (hB : IntsAt w w.heap.size B bs) :
    Calls Try.prog 64 #[.pointer (some ⟨b, 0, none⟩), .slice A2 ws.length c2, .int .i64 x, .slice B bs.length cb] w fun e w' => ∃ A' c', e = .returned (.tuple #[.slice A' (lfX F ws x bs).length c', .bool (rightB F ws x bs)]) ∧ (lfX F ws x bs).length ≤ c' ∧ IntsIn w' w.heap.size A' (lfX F ws x bs) ∧ Below w.heap.size w w' := by
  obtain ⟨i0, hi0, hz0, hz1, hz2⟩ := info_parts Try.infoI64
  have HTD := hide (fun W (hW : Below w.heap.size w W) => l02Told_any B bs cb ws.length W hn hbn ((hB.below hW).mono hW.size))
  cases htd : told ws.length bs
  · have hrb := right_untold (F := F) (x := x) htd
    have hX := lfX_no hrb
    rw [hX, hrb]
    rw [htd] at HTD
    clear hX hrb hA hS hB hr
    go_enter Try.func64, Try.ntmps64
    go_wp2_with (go_at_call 77; refine (HTD.out _ ((Below.refl _ _).alloc (Nat.le_refl _) _)).mono ?_; rintro e w1 ⟨rfl, hb1⟩)
    go_ret2
    exact ⟨_, 0, rfl, Nat.zero_le _, IntsIn.empty _ _ _, ((Below.refl _ _).alloc (Nat.le_refl _) _).trans (hb1.mono (by simp))⟩
  · have hp := told_true.1 htd
    have hl := told_len hp
    rw [htd] at HTD
    have HCU := hide (fun W (hW : Below w.heap.size w W) => l02Lines_both ws A2 c2 B bs cb W hn hc2 hp ((hS.below hW).mono hW.size) ((hB.below hW).mono hW.size))
    have HSA := hide (fun W (hW : Below w.heap.size w W) => (hS.below hW).mono hW.size)
    have HLN := hide (fun (k : Nat) (hk : k ≤ bs.length) Ak ck (W : World) (hW : Below w.heap.size w W) (hS : StrsAt W W.heap.size Ak (bas (seg ws (stL bs k) (enL ws.length bs k)))) => by
      have h1 := seg_len ws (a := stL bs k) (told_ends hp k hk).2.1
      have := l01Line_any F hF b A c (seg ws (stL bs k) (enL ws.length bs k)) Ak ck W hv (fun y hy => hw y (seg_mem hy)) (by rw [h1]; have := (told_ends hp k hk).2.1; omega) (rangeAt_below hr hW hb) (Nat.lt_of_lt_of_le hb hW.size) ((hA.below hW).mono hW.size) hS
      rwa [h1] at this)
    have HRM := hide (fun k => show roomAt F ws x bs k = x - lineL F (seg ws (stL bs k) (enL ws.length bs k)) from rfl)
    have HRB := hide (fun k hk => roomL_bd hF hv hw hn x0 x1 (stL bs k) (told_ends hp k hk).2.1)
    have HNEG := hide (fun k hk h => right_neg (F := F) (ws := ws) (x := x) (bs := bs) (k := k) hk h)
    have HALL := hide (fun (h : ∀ i, i ≤ bs.length → 0 ≤ roomAt F ws x bs i) => rightB_true.2 ⟨hp, h⟩)
    have HX0 := hide (fun h => lfX_no (F := F) (ws := ws) (x := x) (bs := bs) h)
    have HX1 := hide (fun h => lfX_ok (F := F) (ws := ws) (x := x) (bs := bs) h)
    have HRL := hide (show roomsL F ws x bs = roomsTo F ws x bs (bs.length + 1) from rfl)
    generalize lfX F ws x bs = R at *
    generalize rightB F ws x bs = T at *
    obtain ⟨m, hm⟩ : ∃ m, bs.length = m := ⟨_, rfl⟩
    have HM := hide hm
    rw [hm] at hl HTD HCU HLN HRB HNEG HALL HRL ⊢
    clear hm hp htd hA hS hB hr
    have hB0 : Below w.heap.size w (w.alloc (.cells #[] 2)) := (Below.refl _ _).alloc (Nat.le_refl _) _
    have HO1 : Hid ((w.alloc (.cells #[] 2)).ownsRow w.heap.size 2 1 (.slice (some ⟨w.heap.size, 0, none⟩) 0 0) 0 []) := World.ownsRow_lit w #[] 0 (Nat.le_refl _) (by unfold maxLen; omega) rfl
    go_enter Try.func64, Try.ntmps64
    go_wp2_with (go_at_call 77; refine (HTD.out _ hB0).mono ?_; rintro e w1 ⟨rfl, hb1⟩)
    have hB1 := hB0.trans (hb1.mono (by simp))
    have HO2 := hide (own_go HO1.out hb1)
    refine (HCU.out w1 hB1).mono ?_
    rintro e w2 ⟨A3, c3, vs, rfl, hI, hpc, hb2⟩
    rw [HM.out] at hpc ⊢
    have HPC := hide hpc
    have HO3 := hide (own_go HO2.out hb2)
    have hB2 := hB1.trans (hb2.mono hB1.size)
    have hs2 := hB2.size
    have hs1 := hB1.size
    have hs0 : w.heap.size < w1.heap.size := by have := hb1.size; simp at this; omega
    have hvne : vs ≠ [] := by intro e; obtain ⟨_, _, h, _⟩ := hpc 0 (by omega); rw [e] at h; cases h
    obtain ⟨bv, ov, rfl, hv1, hv2, hvs, _⟩ := hI hvne
    have HVS := hide hvs
    clear hI hpc HCU hb1 hb2 HO1 HO2 hB0 hvs hvne
    go_wp2
    go_loopw [10, 12, 13] (fun br i _ wr => ∃ k : Nat, k ≤ m + 1 ∧ i = .int .i64 k ∧ wr.ownsRow w.heap.size 2 1 br k ((roomsTo F ws x bs k).map (.int .i64)) ∧ (∀ j, j < k → 0 ≤ roomAt F ws x bs j) ∧ Below w.heap.size w wr ∧ (∀ g, br.ownBlock = some g → g < w1.heap.size ∨ w2.heap.size ≤ g) ∧ (∀ (j : Nat) u, vs[j]? = some u → wr.cell? ⟨bv, ov + j, none⟩ = some u) ∧ w2.heap.size ≤ wr.heap.size)
      (fun _ i _ _ => (m + 1) - (intOf i).toNat)
    case atStart => exact ⟨0, by omega, rfl, HO3.out, fun j h => absurd h (by omega), hB2, fun g hg => .inl (by cases hg; exact hs0), HVS.out, Nat.le_refl _⟩
    case round =>
      obtain ⟨k, hk, rfl, hown, hpos, hB', hgb, hvv, hsr⟩ := hrel
      obtain ⟨Ab, cbb, rfl, hcap, _⟩ := cellsIn_of_own hown (by omega)
      have HOWN := hide hown
      have HPOS := hide hpos
      have HGB := hide hgb
      have HVV := hide hvv
      clear hown hpos hgb hvv
      have hbs' := hB'.size
      by_cases hlt : k < m + 1
      · have hi : (k : Int) < ((m + 1 : Nat) : Int) := by omega
        have h00 : (0 : Int) ≤ k := by omega
        obtain ⟨Ak, ck, hvk, _, hst⟩ := HPC.out k (by omega)
        have cck := HVV.out k _ hvk
        have HLI := hide (HLN.out k (by omega) Ak ck wr hB' (hst wr (HSA.out wr hB')))
        obtain ⟨r0, r1⟩ := HRB.out k (by omega)
        have HR := hide (HRM.out k)
        have HNG := hide (HNEG.out k (by omega))
        have HPS := hide (roomsTo_succ F ws x bs k)
        have HST := hide (fun (h : 0 ≤ roomAt F ws x bs k) => show ∀ j, j < k + 1 → 0 ≤ roomAt F ws x bs j from fun j hj => by
          rcases Nat.lt_or_ge j k with h1 | h1
          · exact HPOS.out j h1
          · obtain rfl : j = k := by omega
            exact h)
        unfold roomL at r0 r1
        clear hvk hst
        generalize roomAt F ws x bs k = Rk at *
        generalize lineL F (seg ws (stL bs k) (enL ws.length bs k)) = T1 at *
        generalize enL ws.length bs k - stL bs k = g at *
        have e1 := IntWalk.i64_in (x - T1) ⟨by omega, by omega⟩
        by_cases hneg : x - T1 < 0
        · have HF := hide (HNG.out (by rw [HR.out]; exact hneg))
          have HXX := hide (HX0.out HF.out)
          go_wp2_with (go_at_call 137; refine HLI.out.mono ?_; rintro e w3 ⟨rfl, hb3⟩)
          go_ret2
          rw [HXX.out, HF.out]
          have hBf := hB'.trans (hb3.mono hB'.size)
          exact ⟨_, 0, rfl, Nat.zero_le _, IntsIn.empty _ _ _, by first | exact hBf | exact hBf.alloc hBf.size _⟩
        · have HS := hide (HST.out (by rw [HR.out]; omega))
          have HRk := hide (show x - T1 = Rk from HR.out.symm)
          go_wp2_with fail
          refine HLI.out.mono ?_
          rintro e w3 ⟨rfl, hb3⟩
          have hs3 := hb3.size
          have hown3 := own_go HOWN.out hb3
          have hB3 := hB'.trans (hb3.mono hB'.size)
          have HV3 := hide (fun (j : Nat) u (h : vs[j]? = some u) => (hb3.cell (p := ⟨bv, ov + j, none⟩) (by show bv < _; omega)).trans (HVV.out j u h))
          go_wp2_with (at_builtin; refine wpList_append_own_at _ rfl (.tmp 41) (.tmp 43) 27 rfl w.heap.size 2 i0 (.int .i64 0) 1 8 Try.underlying27 hi0 hz0 hz1 hz2 rfl (by decide) _ k _ rfl (hown3.alloc _) ⟨w3.heap.size, 0, none⟩ 1 1 [.int .i64 (x - T1)] rfl rfl (one_cell _) (one_one rfl) (by unfold maxLen; omega) (by omega) (by simp; omega) ?_)
          intro v' w4 hown4 hg4 _ hblk
          obtain ⟨A4, c4, rfl, _, _⟩ := cellsIn_of_own hown4 (by omega)
          have H4 := hide hown4
          have hg34 : w3.grownBy w4 _ := grown_trans (World.grownBy_alloc w3 _ _) hg4
          have hB4 := hB3.trans (grown_toBelow hg34 (by omega) (fun k hk => (hown3.lt k hk).1))
          have HV4 := hide (fun (j : Nat) u (h : vs[j]? = some u) => hg34.cell (HV3.out j u h) (fun e => by have := HGB.out bv e.symm; omega))
          have HG4 := hide (fun (g : Nat) (h : (Value.slice A4 (k + 1) c4).ownBlock = some g) => show g < w1.heap.size ∨ w2.heap.size ≤ g from by
            rcases hblk with e | e
            · exact HGB.out g (by rw [← e]; exact h)
            · rw [e] at h; injection h with h; subst h; omega)
          have hs4 := hg34.size
          clear hown4 hg4 hg34 hown3 hb3 hblk
          go_wp2
          refine ⟨⟨k + 1, by omega, by go_num, ?_, HS.out, hB4, HG4.out, HV4.out, by omega⟩, by simp [intOf]; omega⟩
          rw [HPS.out, List.map_append, ← HRk.out]
          exact H4.out
      · obtain rfl : k = m + 1 := by omega
        have HT := hide (HALL.out (fun i hi => HPOS.out i (by omega)))
        have HXX := hide ((HX1.out HT.out).trans HRL.out)
        obtain ⟨Ag, cg, e, _, hI⟩ := intsIn_of_own HOWN.out
        injection e with e1 e2 e3
        subst e1 e3
        have HI := hide hI
        clear hI
        go_wp2
        go_ret2
        rw [HXX.out, HT.out, roomsTo_len]
        exact ⟨Ab, cbb, rfl, hcap, HI.out, hB'⟩
end Go.Proofs.Ytikmmeohmkjbeaa
