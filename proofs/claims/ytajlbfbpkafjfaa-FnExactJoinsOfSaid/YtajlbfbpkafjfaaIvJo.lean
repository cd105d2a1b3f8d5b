/- JoinsOf, of both. -/
import Derived.Test.YtajlbfbpkafjfaaPrL
import Derived.Test.YtajlbfbpkafjfaaIvPv
namespace Go.Proofs.Ytajlbfbpkafjfaa
open Go.RowKit

set_option maxRecDepth 100000 in
set_option maxHeartbeats 4000000 in
theorem indicesPc_any (A : Option Addr) (n c : Nat) (w : World) (hn : n ≤ 1048576) :
    Calls Try.prog 151 #[.slice A n c] w (IntsB (idxL n) w) := by
  obtain ⟨i0, hi0, hz0, hz1, hz2⟩ := info_parts Try.infoI64
  have hmk := fun W => run_make_rowN (P := Try.prog) 33 2 i0 _ Try.underlying33 hi0 hz0 .i64 .i64 n n (Nat.le_refl _) (by rw [hz2]; omega) (by omega) W
  go_enter Try.func151, Try.ntmps151
  go_wp2
  go_loopw [10] (fun i wr => ∃ k : Nat, k ≤ n ∧ i = .int .i64 k ∧ Below w.heap.size w wr ∧ w.heap.size < wr.heap.size ∧ wr.there w.heap.size 0 n ∧ (∀ j, j < k → wr.cell? ⟨w.heap.size, j, none⟩ = some (.int .i64 (j : Int))))
    (fun i _ => n - (intOf i).toNat)
  case atStart =>
    exact ⟨0, by omega, rfl, (Below.refl _ _).alloc (Nat.le_refl _) _, by simp, there_newg rfl (by simp [madeCells, hz1]), fun j hj => by omega⟩
  case round =>
    obtain ⟨k, hk, rfl, hB, hsz, ht, hr⟩ := hrel
    by_cases hlt : k < n
    · obtain ⟨v0, hv0, hf0⟩ := there_some ht (j := k) hlt
      simp only [Nat.zero_add] at hv0 hf0
      have hi : (k : Int) < n := by omega
      have h0 : (0 : Int) ≤ k := by omega
      have HR := hide hr
      clear hr hmk
      go_wp2
      refine ⟨⟨k + 1, by omega, by go_num, hB.setCell (p := ⟨w.heap.size, k, none⟩) (Nat.le_refl _) _, by rw [size_setCell]; exact hsz, there_set ht _ _, fun j hj => ?_⟩, by simp [intOf]; omega⟩
      by_cases e : j = k
      · subst e; exact World.cell?_setCell_same' _ _ _ (by rw [hv0]; rfl)
      · rw [World.cell?_setCell_other _ _ _ _ (by intro he; injection he with _ he; exact e he.symm)]
        exact HR.out j (by omega)
    · obtain rfl : k = n := by omega
      have hI : IntsIn wr w.heap.size (some ⟨w.heap.size, 0, none⟩) (idxL k) := fun _ => ⟨w.heap.size, 0, rfl, Nat.le_refl _, hsz, fun j x hx => by
        have hj := (List.getElem?_eq_some_iff.1 hx).1
        rw [idxL_len] at hj
        rw [idxL_get hj] at hx
        injection hx with hx
        rw [Nat.zero_add, ← hx]
        exact hr j hj, by rw [idxL_len]; exact ht⟩
      have HI := hide hI
      have HIL := hide (idxL_len k)
      clear hr ht hI
      go_wp2
      go_ret
      exact ⟨_, k, by rw [HIL.out]; rfl, by rw [HIL.out]; omega, HI.out, hB⟩
set_option maxRecDepth 100000 in
set_option maxHeartbeats 8000000 in
theorem pairsOfPc_any (A : Option Addr) (n c : Nat) (w : World) (hn : n ≤ 1000) :
    Calls Try.prog 115 #[.slice A n c] w (P2B (prsL n) w) := by
  obtain ⟨i0, hi0, hz0, hz1, hz2⟩ := info_parts Try.infoA2
  have HID := hide (fun W => indicesPc_any A n c W (by omega))
  have HIL := hide (idxL_len n)
  have HLN := hide (fun i j => ptTo_len n i j)
  have HMU : Hid (∀ k, k < n → k * n + n ≤ 1000000) := hide (fun k hk => by
    have h1 : (k + 1) * n ≤ n * n := Nat.mul_le_mul_right n hk
    have h2 : n * n ≤ 1000 * 1000 := Nat.mul_le_mul hn hn
    rw [Nat.add_mul] at h1; omega)
  unfold prsL
  go_enter Try.func115, Try.ntmps115
  go_wp2_with fail
  refine (HID.out _).mono ?_
  rintro e w1 ⟨A9, c9, rfl, hc9, hI9, hb1⟩
  rw [HIL.out] at hc9 ⊢
  have HI9 := hide hI9.at_
  have hbs1 := hb1.size
  clear hI9
  go_wp2
  go_loopw [3, 11] (fun br i wr => ∃ k : Nat, k ≤ n ∧ i = .int .i64 k ∧ wr.ownsRow w1.heap.size 108 2 br (k * n) ((fl (ptTo n k 0)).map (.int .i64)) ∧ Below w1.heap.size w1 wr)
    (fun _ i _ => n - (intOf i).toNat)
  case atStart => exact ⟨0, by omega, rfl, by rw [ptTo_zero, Nat.zero_mul]; exact World.ownsRow_nil _ _ _ _, Below.refl _ _⟩
  case round =>
    obtain ⟨k, hk, rfl, hown, hB⟩ := hrel
    obtain ⟨Ab, cbb, rfl, hcap, _⟩ := cellsIn_of_own hown (by omega)
    have hbs := hB.size
    have HOWN := hide hown
    clear hown
    by_cases hlt : k < n
    · obtain ⟨b9, o9, rfl, hb9, hx9⟩ := HI9.out (by intro e; have := congrArg List.length e; rw [idxL_len] at this; simp at this; omega)
      have c9' : wr.cell? ⟨b9, o9 + k, none⟩ = some (.int .i64 (k : Int)) := (hB.cell (p := ⟨b9, o9 + k, none⟩) hb9).trans (hx9 k _ (idxL_get hlt))
      have hi : (k : Int) < n := by omega
      have h0 : (0 : Int) ≤ k := by omega
      have hmu := HMU.out k hlt
      obtain ⟨W1, hW1⟩ : ∃ W1, W1 = wr := ⟨_, rfl⟩
      subst hW1
      clear hx9
      go_wp2_with fail
      refine (HID.out _).mono ?_
      rintro e w2 ⟨A6, c6, rfl, hc6, hI6, hb2⟩
      rw [HIL.out] at hc6 ⊢
      obtain ⟨b6, o6, rfl, hL6, hb6, hx6, _⟩ := hI6 (by intro e; have := congrArg List.length e; rw [idxL_len] at this; simp at this; omega)
      have HX6 := hide (fun j (hj : j < n) => hx6 j _ (idxL_get hj))
      have HO2 := hide (own_go HOWN.out hb2)
      have hB2 := hB.trans (hb2.mono hbs)
      have hbs2 := hb2.size
      have HG0 := hide (fun g (h : (Value.slice Ab (k * n) cbb).ownBlock = some g) => (Or.inl (HOWN.out.lt g h).2 : g < W1.heap.size ∨ w2.heap.size ≤ g))
      clear hx6 hI6 c9' hb2
      go_wp2
      go_loopw [3, 18] (fun br i wr => ∃ j : Nat, j ≤ n ∧ i = .int .i64 j ∧ wr.ownsRow w1.heap.size 108 2 br (k * n + j) ((fl (ptTo n k j)).map (.int .i64)) ∧ Below w1.heap.size w1 wr ∧ (∀ g, br.ownBlock = some g → g < W1.heap.size ∨ w2.heap.size ≤ g) ∧ (∀ j, j < n → wr.cell? ⟨b6, o6 + j, none⟩ = some (.int .i64 (j : Int))) ∧ w2.heap.size ≤ wr.heap.size)
        (fun _ i _ => n - (intOf i).toNat)
      case atStart => exact ⟨0, by omega, rfl, HO2.out, hB2, HG0.out, HX6.out, Nat.le_refl _⟩
      case round =>
        obtain ⟨j, hj, rfl, hown, hB', hgb, hvv, hsr⟩ := hrel
        obtain ⟨Ab', cbb', rfl, hcap', _⟩ := cellsIn_of_own hown (by omega)
        have HOWN2 := hide hown
        have HGB := hide hgb
        have HVV := hide hvv
        clear hown hgb hvv
        have hbs' := hB'.size
        by_cases hlt2 : j < n
        · have cj := HVV.out j hlt2
          have hji : (j : Int) < n := by omega
          have hj0 : (0 : Int) ≤ j := by omega
          have HPS := hide (ptTo_succ n k j)
          go_wp2_with (at_builtin; refine wpList_append_own_at _ rfl (.tmp 22) (.tmp 26) 48 rfl w1.heap.size 108 i0 (.agg #[.int .i64 0, .int .i64 0]) 2 16 Try.underlying48 hi0 hz0 hz1 hz2 rfl (by decide) _ (k * n + j) _ rfl (HOWN2.out.alloc _) ⟨wr.heap.size, 0, none⟩ 1 1 [.int .i64 (k : Int), .int .i64 (j : Int)] rfl rfl (two_cell _ _) (two_one rfl rfl) (by unfold maxLen; omega) (by omega) (by simp; omega) ?_)
          intro v' w4' hown4 hg4 _ hblk
          obtain ⟨A4, c4, rfl, _, _⟩ := cellsIn_of_own hown4 (by omega)
          have H4 := hide hown4
          have hg34 : wr.grownBy w4' _ := grown_trans (World.grownBy_alloc wr _ _) hg4
          have hB4 := hB'.trans (grown_toBelow hg34 (by omega) (fun k hk => (HOWN2.out.lt k hk).1))
          have HV4 := hide (fun (q : Nat) (h : q < n) => hg34.cell (HVV.out q h) (fun e => by have := HGB.out b6 e.symm; omega))
          have HG4 := hide (fun (g : Nat) (h : (Value.slice A4 (k * n + j + 1) c4).ownBlock = some g) => show g < W1.heap.size ∨ w2.heap.size ≤ g from by
            rcases hblk with e | e
            · exact HGB.out g (by rw [← e]; exact h)
            · rw [e] at h; injection h with h; subst h; omega)
          have hs4' := hg34.size
          clear hown4 hg4 hg34 hblk
          go_wp2
          refine ⟨⟨j + 1, by omega, by go_num, ?_, hB4, HG4.out, HV4.out, by omega⟩, by simp [intOf]; omega⟩
          rw [HPS.out, fl_app, List.map_append]
          exact H4.out
        · obtain rfl : j = n := by omega
          have HRW := hide (ptTo_row j k)
          go_wp2
          refine ⟨⟨k + 1, by omega, by go_num, ?_, hB'⟩, by simp [intOf]; omega⟩
          rw [← HRW.out, Nat.add_mul, Nat.one_mul]
          exact HOWN2.out
    · obtain rfl : k = n := by omega
      obtain ⟨Ag, cg, e, _, hI⟩ := p2In_of_own HOWN.out
      injection e with e1 e2 e3
      subst e1 e3
      have HI := hide hI
      have HLL := hide (HLN.out k 0)
      clear hI
      go_wp2
      go_ret
      exact ⟨Ab, cbb, by rw [HLL.out]; rfl, by rw [HLL.out]; exact hcap, P2In.wider HI.out hbs1, hb1.trans (hB.mono hbs1)⟩


def pAt (ps : List Pcx) (x : Int) : Pcx := ps.getD x.toNat (⟨#[]⟩, 0, 0)
theorem pAt_at {ps : List Pcx} {k : Nat} {x : Pcx} (h : ps[k]? = some x) : pAt ps ((k : Nat) : Int) = x := by simp [pAt, List.getD, h]
/-- These two pieces can join. -/
def joP (ps : List Pcx) (p : Pr) : Bool := (p.1 != p.2) && joB (pAt ps p.1) (pAt ps p.2)
noncomputable def joR (ps : List Pcx) : List Pr := if vpcs ps = true then (prsL ps.length).filter (joP ps) else []
noncomputable def joC (ps : List Pcx) : Int := if vpcs ps = true then 0 else 1
theorem jo_no {ps : List Pcx} (h : vpcs ps = false) : joR ps = [] ∧ joC ps = 1 := by unfold joR joC; rw [h]; exact ⟨rfl, rfl⟩
theorem jo_ok {ps : List Pcx} (h : vpcs ps = true) : joR ps = (prsL ps.length).filter (joP ps) ∧ joC ps = 0 := by unfold joR joC; rw [h]; exact ⟨rfl, rfl⟩
theorem joR_len (ps : List Pcx) : (joR ps).length ≤ 1048577 := by
  cases h : vpcs ps
  · rw [(jo_no h).1]; simp
  · rw [(jo_ok h).1]; have := filter_prs_len ps.length (joP ps) (by have := (vpcs_true.1 h).1; omega); omega
theorem joP_at {ps : List Pcx} {i j : Nat} {p q : Pcx} (h : ps[i]? = some p) (h' : ps[j]? = some q) : joP ps ((i : Int), (j : Int)) = (((i : Int) != (j : Int)) && joB p q) := by
  unfold joP; rw [pAt_at h, pAt_at h']

set_option maxRecDepth 100000 in
set_option maxHeartbeats 4000000 in
theorem joinsW1_any (Q b o n c i j : Nat) (p q : Pcx) (w : World) (hp : pxok p) (hq : pxok q) (hi : i < n) (hj : j < n)
    (hQ : w.cell? ⟨Q, 0, none⟩ = some (.slice (some ⟨b, o, none⟩) n c)) (r1 : w.rangeAt b (o + i * 3) (pcx p)) (r2 : w.rangeAt b (o + j * 3) (pcx q)) :
    Calls Try.prog 116 (#[.agg #[.int .i64 (i : Int), .int .i64 (j : Int)]] ++ #[.pointer (some ⟨Q, 0, none⟩)]) w fun e w' =>
      e = .returned (.bool (((i : Int) != (j : Int)) && joB p q)) ∧ Below w.heap.size w w' := by
  have hii : (i : Int) < n := by omega
  have hi0 : (0 : Int) ≤ i := by omega
  have hji : (j : Int) < n := by omega
  have hj0 : (0 : Int) ≤ j := by omega
  obtain ⟨s, a1, a2⟩ := p
  obtain ⟨t, b1, b2⟩ := q
  have HJ := hide (fun W => joins_any s t a1 a2 b1 b2 W hp.2.2 hq.2.1)
  generalize joB (s, a1, a2) (t, b1, b2) = R at *
  have hb0 : Below w.heap.size w (w.alloc (.cells #[.int .i64 (i : Int), .int .i64 (j : Int)] 108)) := (Below.refl _ _).alloc (Nat.le_refl _) _
  have e0 := rangeAt_new' w #[.int .i64 (i : Int), .int .i64 (j : Int)] 108
  have d0 : (w.alloc (.cells #[.int .i64 (i : Int), .int .i64 (j : Int)] 108)).cell? ⟨w.heap.size, 0, none⟩ = some (.int .i64 (i : Int)) := e0 0 _ rfl
  have d1 : (w.alloc (.cells #[.int .i64 (i : Int), .int .i64 (j : Int)] 108)).cell? ⟨w.heap.size, 1, none⟩ = some (.int .i64 (j : Int)) := e0 1 _ rfl
  have k0 : ∀ (b o : Nat) v, w.cell? ⟨b, o, none⟩ = some v → (w.alloc (.cells #[.int .i64 (i : Int), .int .i64 (j : Int)] 108)).cell? ⟨b, o, none⟩ = some v := fun b o v h => (hb0.cell (p := ⟨b, o, none⟩) (World.block_lt_of_cell? w _ h)).trans h
  have f0 := Over.get d0
  have f1 := Over.get d1
  have q0 := Over.get (k0 _ _ _ hQ)
  have q1 := Over.get (k0 b (o + i * 3) _ (r1 0 _ rfl))
  have q2 := Over.get (k0 b (o + i * 3 + 1) _ (r1 1 _ rfl))
  have q3 := Over.get (k0 b (o + i * 3 + 2) _ (r1 2 _ rfl))
  have q4 := Over.get (k0 b (o + j * 3) _ (r2 0 _ rfl))
  have q5 := Over.get (k0 b (o + j * 3 + 1) _ (r2 1 _ rfl))
  have q6 := Over.get (k0 b (o + j * 3 + 2) _ (r2 2 _ rfl))
  clear k0 hQ r1 r2 e0 d0 d1 hp hq
  have hne' : (i != j) = ((i : Int) != (j : Int)) := by rw [Bool.eq_iff_iff]; simp; omega
  have hn2 : decide (i = j) = !((i : Int) != (j : Int)) := by rw [Bool.eq_iff_iff]; simp; omega
  cases hne : ((i : Int) != (j : Int))
  · rw [hne] at hne' hn2
    go_enter Try.func116, Try.ntmps116
    go_wp2
    generalize (w.alloc (.cells #[.int .i64 (i : Int), .int .i64 (j : Int)] 108)) = W0 at *
    refine wp_region_over (by kernel_rfl) (by kernel_rfl) ?_
    repeat (go_big_quiet_step (first | (go_at_call 117; exact over_call (HJ.out _))))
    refine wpQuiet_nil ?_
    intro w1 hb1
    go_wp2
    go_ret
    exact ⟨ret_bool (by simp), hb0.trans (hb1.mono hb0.size)⟩
  · rw [hne] at hne' hn2
    go_enter Try.func116, Try.ntmps116
    go_wp2
    generalize (w.alloc (.cells #[.int .i64 (i : Int), .int .i64 (j : Int)] 108)) = W0 at *
    refine wp_region_over (by kernel_rfl) (by kernel_rfl) ?_
    repeat (go_big_quiet_step (first | (go_at_call 117; exact over_call (HJ.out _))))
    refine wpQuiet_nil ?_
    intro w1 hb1
    go_wp2
    go_ret
    exact ⟨ret_bool (by simp), hb0.trans (hb1.mono hb0.size)⟩

set_option maxRecDepth 100000 in
set_option maxHeartbeats 4000000 in
theorem implJoinsOf_any (A : Option Addr) (ps : List Pcx) (c : Nat) (hn : ps.length ≤ maxLen) (hx : ∀ x ∈ ps, pxok x) (w : World) (hA : PcAt w w.heap.size A ps) :
    Calls Try.prog 61 #[.slice A ps.length c] w (P2Back (joR ps) (joC ps) w) := by
  have hb0 : Below w.heap.size w (w.alloc (.cells #[.slice A ps.length c] 69)) := (Below.refl _ _).alloc (Nat.le_refl _) _
  have hz0 : w.heap.size < (w.alloc (.cells #[.slice A ps.length c] 69)).heap.size := by simp
  have hc0 : (w.alloc (.cells #[.slice A ps.length c] 69)).cell? ⟨w.heap.size, 0, none⟩ = some (.slice A ps.length c) := by simp
  have hA0 := hA.below hb0
  have HVL := hide (fun W h => implValidPieces_any A ps c hn hx W h)
  cases hv : vpcs ps
  · obtain ⟨e1, e2⟩ := jo_no hv
    rw [e1, e2]
    rw [hv] at HVL
    go_enter Try.func61, Try.ntmps61
    go_wp2_with fail
    generalize (w.alloc (.cells #[.slice A ps.length c] 69)) = W0 at *
    refine (HVL.out W0 (hA0.mono hb0.size)).mono ?_
    rintro e w1 ⟨rfl, hb1⟩
    go_wp2
    go_ret2
    exact ⟨none, 0, rfl, P2In.empty _ _ _, hb0.trans (hb1.mono hb0.size)⟩
  · obtain ⟨e1, e2⟩ := jo_ok hv
    rw [e1, e2]
    rw [hv] at HVL
    obtain ⟨hl, hall⟩ := vpcs_true.1 hv
    have HTH := hide (fun B (cb : Nat) W (hW : Below w.heap.size w W) (h0 : ∀ V, Below W.heap.size W V → V.cell? ⟨w.heap.size, 0, none⟩ = some (.slice A ps.length c)) (hB : P2At W W.heap.size B (prsL ps.length)) =>
      thoseP_any 116 (enters_of Try.func116 (by kernel_rfl) rfl) #[.pointer (some ⟨w.heap.size, 0, none⟩)] (joP ps) B (prsL ps.length) cb W (by rw [prsL_len]; have := Nat.mul_le_mul hl hl; omega) hB
        (fun x y hxm V hV => by
          obtain ⟨i, j, hi, hj, e⟩ := prsL_mem hxm
          injection e with ex ey
          subst ex ey
          obtain ⟨b, o, rfl, hb, hxs⟩ := hA (by intro e; rw [e] at hi; simp at hi)
          have hxi := List.getElem?_eq_getElem hi
          have hxj := List.getElem?_eq_getElem hj
          have hBV := hW.trans (hV.mono hW.size)
          rw [joP_at hxi hxj]
          exact joinsW1_any w.heap.size b o ps.length c i j _ _ V (hx _ (List.getElem_mem hi)) (hx _ (List.getElem_mem hj)) hi hj (h0 V hV)
            (rangeAt_below (hxs i _ hxi) hBV hb) (rangeAt_below (hxs j _ hxj) hBV hb)))
    have HPR := hide (fun W => pairsOfPc_any A ps.length c W (by omega))
    have HPL := hide (prsL_len ps.length)
    rw [prsL_len] at HTH
    clear hA
    go_enter Try.func61, Try.ntmps61
    go_wp2_with fail
    generalize (w.alloc (.cells #[.slice A ps.length c] 69)) = W0 at *
    refine (HVL.out W0 (hA0.mono hb0.size)).mono ?_
    rintro e w1 ⟨rfl, hb1⟩
    have H00 := hide hc0
    have hc0' : w1.cell? ⟨w.heap.size, 0, none⟩ = some (.slice A ps.length c) := (hb1.cell (p := ⟨w.heap.size, 0, none⟩) hz0).trans hc0
    clear hc0
    go_wp2_with fail
    refine (HPR.out _).mono ?_
    rintro e w3 ⟨A3, c3, rfl, hc3, hI3, hb3⟩
    rw [HPL.out] at hc3 ⊢
    have hb03 := hb1.trans (hb3.mono hb1.size)
    have hB3 := hb0.trans (hb03.mono hb0.size)
    clear hc0' hb3
    go_wp2_with fail
    refine (HTH.out A3 c3 w3 hB3 (fun V hV => ((hb03.trans (hV.mono hb03.size)).cell (p := ⟨w.heap.size, 0, none⟩) hz0).trans H00.out) hI3.at_).mono ?_
    rintro e w4 ⟨A4, c4, rfl, hc4, hI4, hb4⟩
    go_wp2
    go_ret2
    exact ⟨A4, c4, rfl, hI4.wider hB3.size, hB3.trans (hb4.mono hB3.size)⟩

set_option maxRecDepth 100000 in
set_option maxHeartbeats 8000000 in
theorem specJoinsOf_any (A : Option Addr) (ps : List Pcx) (c : Nat) (hn : ps.length ≤ maxLen) (hx : ∀ x ∈ ps, pxok x) (w : World) (hA : PcAt w w.heap.size A ps) :
    Calls Try.prog 60 #[.slice A ps.length c] w (P2Back (joR ps) (joC ps) w) := by
  obtain ⟨i0, hi0, hz0, hz1, hz2⟩ := info_parts Try.infoA2
  have hb0 : Below w.heap.size w (w.alloc (.cells #[] 108)) := (Below.refl _ _).alloc (Nat.le_refl _) _
  have HO := hide (World.ownsRow_lit w #[] 0 (Nat.le_refl _) (by unfold maxLen; omega) rfl : (w.alloc (.cells #[] 108)).ownsRow w.heap.size 108 2 (.slice (some ⟨w.heap.size, 0, none⟩) 0 0) 0 [])
  have HVL := hide (fun W h => l04Pieces_any A ps c W hn hx h)
  have hA0 := hA.below hb0
  cases hv : vpcs ps
  · obtain ⟨e1, e2⟩ := jo_no hv
    rw [e1, e2]
    go_enter Try.func60, Try.ntmps60
    go_wp2_with (go_at_call 109; refine (HVL.out _ (hA0.mono hb0.size)).mono ?_; rintro e w1 ⟨rfl, rfl⟩; simp only [hv])
    go_ret2
    exact ⟨_, 0, rfl, P2In.empty _ _ _, hb0⟩
  · obtain ⟨e1, e2⟩ := jo_ok hv
    rw [e1, e2]
    have hl := (vpcs_true.1 hv).1
    have HLN : Hid (∀ i j, i ≤ ps.length → j ≤ ps.length → ((ptTo ps.length i j).filter (joP ps)).length ≤ 200) := hide (fun i j hi hj => by
      refine Nat.le_trans (List.length_filter_le _ _) ?_
      rw [ptTo_len]
      have := Nat.mul_le_mul (Nat.le_trans hi hl) hl
      omega)
    have HW : Hid (∀ (i j : Nat) (p q : Pcx), ps[i]? = some p → ps[j]? = some q → joP ps ((i : Int), (j : Int)) = (((i : Int) != (j : Int)) && joB p q)) := hide (fun i j p q h1 h2 => joP_at h1 h2)
    have HF1 := hide (fun i j => @filter_app ps.length i j (joP ps))
    have HF2 := hide (fun i j => @filter_skip ps.length i j (joP ps))
    have HRW := hide (fun i => ptTo_row ps.length i)
    have HX := hide hA
    have HXO := hide (fun k x (h : ps[k]? = some x) => hx x (List.mem_of_getElem? h))
    unfold prsL
    have hzz : ptTo ps.length 0 0 = [] := ptTo_zero _
    have HZZ := hide hzz
    obtain ⟨n, hL⟩ : ∃ n, ps.length = n := ⟨_, rfl⟩
    have HL := hide hL
    rw [hL] at hl HVL HLN HF1 HF2 HRW HZZ ⊢
    clear hL hA hzz hx
    go_enter Try.func60, Try.ntmps60
    go_wp2_with fail
    refine (HVL.out _ (hA0.mono hb0.size)).mono ?_
    rintro e w1 ⟨rfl, rfl⟩
    simp only [hv]
    clear hA0
    go_wp2
    go_loopw [4, 5] (fun br i wr => ∃ k : Nat, k ≤ n ∧ i = .int .i64 k ∧ wr.ownsRow w.heap.size 108 2 br ((ptTo n k 0).filter (joP ps)).length ((fl ((ptTo n k 0).filter (joP ps))).map (.int .i64)) ∧ Below w.heap.size w wr)
      (fun _ i _ => n - (intOf i).toNat)
    case atStart => exact ⟨0, by omega, rfl, by rw [HZZ.out]; exact HO.out, hb0⟩
    case round =>
      obtain ⟨k, hk, rfl, hown, hB⟩ := hrel
      obtain ⟨Ab, cbb, rfl, hcap, _⟩ := cellsIn_of_own hown (by omega)
      have hbs := hB.size
      have HOWN := hide hown
      clear hown
      by_cases hlt : k < n
      · obtain ⟨b, o, rfl, hb, hxs⟩ := HX.out (by intro e; rw [e] at HL; have := HL.out; simp at this; omega)
        obtain ⟨x, hxk⟩ : ∃ x, ps[k]? = some x := ⟨ps[k]'(by rw [HL.out]; exact hlt), List.getElem?_eq_getElem _⟩
        have hi : (k : Int) < n := by omega
        have h0 : (0 : Int) ≤ k := by omega
        have HXK := hide hxk
        have HXS := hide hxs
        clear hxs hxk
        obtain ⟨W1, hW1⟩ : ∃ W1, W1 = wr := ⟨_, rfl⟩
        subst hW1
        go_wp2
        go_loopw [4, 6] (fun br i wr => ∃ j : Nat, j ≤ n ∧ i = .int .i64 j ∧ wr.ownsRow w.heap.size 108 2 br ((ptTo n k j).filter (joP ps)).length ((fl ((ptTo n k j).filter (joP ps))).map (.int .i64)) ∧ Below w.heap.size w wr)
          (fun _ i _ => n - (intOf i).toNat)
        case atStart => exact ⟨0, by omega, rfl, HOWN.out, hB⟩
        case round =>
          obtain ⟨j, hj, rfl, hown, hB'⟩ := hrel
          obtain ⟨Ab', cbb', rfl, hcap', _⟩ := cellsIn_of_own hown (by omega)
          have HOWN2 := hide hown
          have hbs' := hB'.size
          clear hown
          by_cases hlt2 : j < n
          · obtain ⟨y, hy⟩ : ∃ y, ps[j]? = some y := ⟨ps[j]'(by rw [HL.out]; exact hlt2), List.getElem?_eq_getElem _⟩
            have r1 := rangeAt_below (HXS.out k x HXK.out) hB' hb
            have r2 := rangeAt_below (HXS.out j y hy) hB' hb
            have hox := HXO.out k x HXK.out
            have hoy := HXO.out j y hy
            have hji : (j : Int) < n := by omega
            have hj0 : (0 : Int) ≤ j := by omega
            have hln := HLN.out k j hk hj
            have HWW := hide (HW.out k j x y HXK.out hy)
            obtain ⟨s, a1, a2⟩ := x
            obtain ⟨t, b1, b2⟩ := y
            have HJ := hide (fun W => specCanJoin_any s t a1 a2 b1 b2 W hox.2.2 hoy.2.1)
            have q1 := Over.get (show wr.cell? ⟨b, o + k * 3, none⟩ = some (.string s) from r1 0 _ rfl)
            have q2 := Over.get (show wr.cell? ⟨b, o + k * 3 + 1, none⟩ = some (.int .u8 a1) from r1 1 _ rfl)
            have q3 := Over.get (show wr.cell? ⟨b, o + k * 3 + 2, none⟩ = some (.int .u8 a2) from r1 2 _ rfl)
            have q4 := Over.get (show wr.cell? ⟨b, o + j * 3, none⟩ = some (.string t) from r2 0 _ rfl)
            have q5 := Over.get (show wr.cell? ⟨b, o + j * 3 + 1, none⟩ = some (.int .u8 b1) from r2 1 _ rfl)
            have q6 := Over.get (show wr.cell? ⟨b, o + j * 3 + 2, none⟩ = some (.int .u8 b2) from r2 2 _ rfl)
            have hne' : (k != j) = ((k : Int) != (j : Int)) := by rw [Bool.eq_iff_iff]; simp; omega
            have hn2 : decide (k = j) = !((k : Int) != (j : Int)) := by rw [Bool.eq_iff_iff]; simp; omega
            clear r1 r2 hox hoy hy
            generalize joB (s, a1, a2) (t, b1, b2) = R at *
            generalize hne : ((k : Int) != (j : Int)) = E at *
            cases hER : (E && R)
            · have HS := hide (HF2.out k j (by rw [HWW.out, hER]))
              cases E
              · go_wp2
                refine wp_region_over (by kernel_rfl) (by kernel_rfl) ?_
                repeat (go_big_quiet_step (first | (go_at_call 114; exact over_call (HJ.out _))))
                refine wpQuiet_nil ?_
                intro w1 hb1
                clear q1 q2 q3 q4 q5 q6
                go_wp2
                refine ⟨⟨j + 1, by omega, by go_num, ?_, hB'.trans (hb1.mono hbs')⟩, by simp [intOf]; omega⟩
                rw [HS.out]
                exact own_go HOWN2.out hb1
              · simp only [Bool.true_and] at hER
                subst hER
                go_wp2
                refine wp_region_over (by kernel_rfl) (by kernel_rfl) ?_
                repeat (go_big_quiet_step (first | (go_at_call 114; exact over_call (HJ.out _))))
                refine wpQuiet_nil ?_
                intro w1 hb1
                clear q1 q2 q3 q4 q5 q6
                go_wp2
                refine ⟨⟨j + 1, by omega, by go_num, ?_, hB'.trans (hb1.mono hbs')⟩, by simp [intOf]; omega⟩
                rw [HS.out]
                exact own_go HOWN2.out hb1
            · have HS := hide (HF1.out k j (by rw [HWW.out, hER]))
              simp only [Bool.and_eq_true] at hER
              obtain ⟨rfl, rfl⟩ := hER
              go_wp2
              refine wp_region_over (by kernel_rfl) (by kernel_rfl) ?_
              repeat (go_big_quiet_step (first | (go_at_call 114; exact over_call (HJ.out _))))
              refine wpQuiet_nil ?_
              intro w1 hb1
              clear q1 q2 q3 q4 q5 q6
              have HO3 := hide (own_go HOWN2.out hb1)
              have hB1 := hB'.trans (hb1.mono hbs')
              have hs1 := hB1.size
              go_wp2_with (at_builtin; refine wpList_append_own _ rfl (.tmp 38) (.tmp 42) 48 rfl w.heap.size 108 i0 (.agg #[.int .i64 0, .int .i64 0]) 2 16 Try.underlying48 hi0 hz0 hz1 hz2 rfl (by decide) _ ((ptTo n k j).filter (joP ps)).length _ rfl (HO3.out.alloc _) ⟨w1.heap.size, 0, none⟩ 1 1 [.int .i64 (k : Int), .int .i64 (j : Int)] rfl rfl (two_cell _ _) (two_one rfl rfl) ?h1 ?h2 ?h3 ?_)
              case h1 => unfold maxLen; omega
              case h2 => omega
              case h3 => simp; omega
              intro v' w4 hown4 hg4 _
              obtain ⟨A4, c4, rfl, _, _⟩ := cellsIn_of_own hown4 (by omega)
              have H4 := hide hown4
              have hg34 : w1.grownBy w4 _ := grown_trans (World.grownBy_alloc w1 _ _) hg4
              have hB4 := hB1.trans (grown_toBelow hg34 (by omega) (fun k hk => (HO3.out.lt k hk).1))
              clear hown4 hg4 hg34
              go_wp2
              refine ⟨⟨j + 1, by omega, by go_num, ?_, hB4⟩, by simp [intOf]; omega⟩
              rw [HS.out, fl_app, List.map_append, List.length_append]
              exact H4.out
          · obtain rfl : j = n := by omega
            go_wp2
            refine ⟨⟨k + 1, by omega, by go_num, ?_, hB'⟩, by simp [intOf]; omega⟩
            rw [← HRW.out]
            exact HOWN2.out
      · obtain rfl : k = n := by omega
        obtain ⟨Ag, cg, e, _, hI⟩ := p2In_of_own HOWN.out
        injection e with e1' e2' e3'
        subst e1' e3'
        have HI := hide hI
        clear hI
        go_wp2
        go_ret2
        exact ⟨Ab, cbb, rfl, HI.out, hB⟩
end Go.Proofs.Ytajlbfbpkafjfaa
