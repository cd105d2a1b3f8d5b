/- The first sheet with so much left: the program. -/
import Derived.Test.YtjgcadohjccfaaaFsP
namespace Go.Proofs.Ytjgcadohjccfaaa
open Go Go.RowKit Go.Maps

set_option maxHeartbeats 1000000 in
theorem firstFit1_any (Q : Nat) (x y : Int) (w : World) (hq : w.cell? ⟨Q, 0, none⟩ = some (.int .i64 x)) :
    Calls Try.prog 67 #[.int .i64 y, .pointer (some ⟨Q, 0, none⟩)] w fun e w' => e = .returned (.bool (decide (x ≤ y))) ∧ w = w' := by
  go_enter Try.func67, Try.ntmps67
  go_wp2
  go_ret
  exact ⟨rfl, rfl⟩

def fsX (R : List Int) (x : Int) : Int := if fsI R x = R.length then -1 else (fsI R x : Int)
set_option maxRecDepth 100000 in
set_option maxHeartbeats 4000000 in
theorem indexFit_any (Q : Nat) (x : Int) (A : Option Addr) (xs : List Int) (c : Nat) (w : World) (hn : xs.length ≤ 60) (hA : IntsAt w w.heap.size A xs) (hq : w.cell? ⟨Q, 0, none⟩ = some (.int .i64 x)) :
    Calls Try.prog 66 #[.slice A xs.length c, .func (.func 67) #[] #[.pointer (some ⟨Q, 0, none⟩)]] w fun e w' => e = .returned (.int .i64 (fsX xs x)) ∧ w = w' := by
  have HST := hide (fun (j : Nat) (y : Int) (h : j ≤ fsI xs x) (hy : xs[j]? = some y) (hl : y < x) => fsI_step h hy hl)
  have HSP := hide (fun (j : Nat) (y : Int) (h : j ≤ fsI xs x) (hy : xs[j]? = some y) (hl : ¬ y < x) => fsI_stop h hy hl)
  have HEN := hide (fun (j : Nat) (h : j ≤ fsI xs x) (e : j = xs.length) => fsI_end h e)
  have HFX := hide (show fsX xs x = if fsI xs x = xs.length then -1 else (fsI xs x : Int) from rfl)
  have HCL := hide (fun y => firstFit1_any Q x y w hq)
  have HA := hide hA
  obtain ⟨n, hN⟩ : ∃ n, xs.length = n := ⟨_, rfl⟩
  have HN := hide hN
  rw [hN] at hn HEN HFX ⊢
  clear hN hA hq
  generalize fsX xs x = V at *
  generalize fsI xs x = I at *
  go_enter Try.func66, Try.ntmps66
  go_wp2
  go_loop [8] (fun i => ∃ k : Nat, k ≤ n ∧ i = .int .i64 k ∧ Hid (k ≤ I)) (fun i => n - (intOf i).toNat)
  case atStart => exact ⟨0, Nat.zero_le _, rfl, hide (Nat.zero_le _)⟩
  case round =>
    obtain ⟨k, hk, rfl, hg⟩ := hrel
    by_cases hlt : k < n
    · obtain ⟨b, o, rfl, hb, hxs⟩ := HA.out (by intro e; rw [e] at HN; have := HN.out; simp at this; omega)
      obtain ⟨y, hyk⟩ : ∃ y, xs[k]? = some y := ⟨xs[k]'(by rw [HN.out]; exact hlt), List.getElem?_eq_getElem _⟩
      have hc := hxs k y hyk
      have HY := hide hyk
      have hi : (k : Int) < n := by omega
      have h0 : (0 : Int) ≤ k := by omega
      have HCY := hide (HCL.out y)
      clear hxs hyk
      cases hfit : decide (x ≤ y)
      · rw [hfit] at HCY
        have HE := hide (HST.out k y hg.out HY.out (by simp at hfit; omega))
        go_wp2_with (go_at_call 67; refine HCY.out.mono ?_; rintro e w1 ⟨rfl, rfl⟩)
        exact ⟨⟨k + 1, by omega, by go_num, HE⟩, by simp [intOf]; omega⟩
      · rw [hfit] at HCY
        have HE := hide (HSP.out k y hg.out HY.out (by simp at hfit; omega))
        go_wp2_with (go_at_call 67; refine HCY.out.mono ?_; rintro e w1 ⟨rfl, rfl⟩)
        go_ret
        exact ⟨ret_int (by rw [HFX.out, HE.out, if_neg (by omega)]), rfl⟩
    · obtain rfl : k = n := by omega
      have HE := hide (HEN.out k hg.out rfl)
      go_wp2
      go_ret
      exact ⟨ret_int (by rw [HFX.out, HE.out, if_pos rfl]), rfl⟩

set_option maxRecDepth 100000 in
set_option maxHeartbeats 16000000 in
theorem implFirstSheets_any (F : Fc) (hF : F.ok) (A : Option Addr) (c : Nat) (wd : Int) (hw : -32768 ≤ wd ∧ wd ≤ 32767) (ov : Int) (ho : i8ok ov) (s : ByteArray) (hs : s.size ≤ maxLen) (w : World) (hG : Glob w) (hA : PairsAt w w.heap.size A F.ps) :
    Calls Try.prog 32 #[.agg (fc F (.slice A F.ps.length c)).toArray, .agg #[.int .i16 wd, .int .i8 ov], .string s] w (IntsBk3 (fsR F s.data.toList wd ov) (fsV F s.data.toList wd ov) (ctC F s.data.toList wd ov 60) w) := by
  obtain ⟨i0, hi0, hz0, hz1, hz2⟩ := info_parts Try.infoI64
  have b0 : Below w.heap.size w ((w.alloc (.cells (fc F (.slice A F.ps.length c)).toArray 40)).alloc (.cells #[.int .i16 wd, .int .i8 ov] 27)) := ((Below.refl _ _).alloc (Nat.le_refl _) _).alloc (by simp) _
  have r0 := World.rangeAt_alloc (rangeAt_new w (fc F (.slice A F.ps.length c)) 40) (.cells #[.int .i16 wd, .int .i8 ov] 27)
  have r1 := rangeAt_newg (w := w.alloc (.cells (fc F (.slice A F.ps.length c)).toArray 40)) (cs := #[.int .i16 wd, .int .i8 ov]) (t := 27) (g := w.heap.size + 1) (by simp) rfl
  have s0 : w.heap.size + 1 < ((w.alloc (.cells (fc F (.slice A F.ps.length c)).toArray 40)).alloc (.cells #[.int .i16 wd, .int .i8 ov] 27)).heap.size := by simp
  have HI29 := hide (show (Try.prog.info? 40).map (·.size) = some (fc F (.slice A F.ps.length c)).length from by rw [fc_length hF.len]; kernel_rfl)
  have HI2 := hide (show (Try.prog.info? 27).map (·.size) = some ([.int .i16 wd, .int .i8 ov] : List Value).length from by kernel_rfl)
  have HPF := hide (fun W h1 h2 => piecesThatFit_any F hF A c wd hw ov ho s hs 60 W h1 h2)
  have HWI := hide (fun W => sheetWide_any wd ov hw W)
  have HA := hide ((hA.below b0).mono b0.size)
  have HG := hide (hG.below b0)
  unfold maxLen at hs
  clear hA hG ho
  by_cases h : ctC F s.data.toList wd ov 60 = 0
  · obtain ⟨n1, n2⟩ := fs_ok h
    obtain ⟨e1, hg, h60, hxd⟩ := ct_zero hF h
    obtain ⟨_, _, ⟨hw1, hw2⟩, _⟩ := gp_parts hg
    rw [n1, n2, h]
    rw [h, e1] at HPF
    clear n1 n2 h e1 hg hF hw
    generalize pieL F s.data.toList ov = P at *
    generalize fc F (.slice A F.ps.length c) = fcs at *
    have HBD := hide (fsT_bd (wd := wd) (by omega) hxd)
    have HXD := hide hxd
    have HSU := hide (fun (k : Nat) (R S : List Int) (x : Int) (h : fsT wd P k = (R, S)) (hx : P[k]? = some x) => fsT_succ h hx)
    have HZ : Hid (fsT wd P 0 = ([], [])) := hide rfl
    have HIF := hide indexFit_any
    obtain ⟨n, hL⟩ : ∃ n, P.length = n := ⟨_, rfl⟩
    have HL := hide hL
    unfold IntsBack at HPF
    rw [hL] at HBD HPF h60 ⊢
    clear hL hxd
    go_enter Try.func32, Try.ntmps32
    repeat (first | (refine wpList_load_mid rfl 40 (.tmp 3) rfl _ 0 rfl fcs _ r0 Try.underlying40 rfl HI29.out ?_) | (refine wpList_load_mid rfl 27 (.tmp 4) rfl _ 0 rfl [.int .i16 wd, .int .i8 ov] _ r1 Try.underlying27 rfl HI2.out ?_) | go_step)
    refine (HPF.out _ HG.out HA.out).mono ?_
    rintro e w4 ⟨A1, c1, rfl, hI1, hb1⟩
    have r4 := rangeAt_below r1 hb1 s0
    have hfin := b0.trans (hb1.mono b0.size)
    have HI1 := hide hI1.at_
    have hz1' := hfin.size
    have hzz := hb1.size
    have R4 := hide (fun W (h : Below w4.heap.size w4 W) => rangeAt_below r4 h (by omega))
    clear r0 r1 r4 hI1 hb1
    go_wp2
    go_loopw [11, 12, 28] (fun bs br i wr => ∃ (k : Nat) (R S : List Int), k ≤ n ∧ i = .int .i64 k ∧ Hid (fsT wd P k = (R, S)) ∧ wr.ownsRow w4.heap.size 2 1 bs k (S.map (.int .i64)) ∧ wr.ownsRow w4.heap.size 2 1 br R.length (R.map (.int .i64)) ∧ Hid (distV bs br) ∧ Below w4.heap.size w4 wr)
      (fun _ _ i _ => n - (intOf i).toNat)
    case atStart => exact ⟨0, [], [], Nat.zero_le _, rfl, HZ, World.ownsRow_nil _ _ _ _, World.ownsRow_nil _ _ _ _, hide (fun g h => by cases h), Below.refl _ _⟩
    case round =>
      obtain ⟨k, R, S, hk, rfl, hT, hos, hor, HDV, hB⟩ := hrel
      obtain ⟨As, cs, rfl, hcs, _⟩ := cellsIn_of_own hos (by omega)
      obtain ⟨Ar, cr, e, hcr, hIr⟩ := intsIn_of_own hor
      subst e
      have hbd := HBD.out k hk
      rw [hT.out] at hbd
      obtain ⟨hm60, hsl, hrb⟩ := hbd
      dsimp only at hm60 hsl hrb
      have hbs := hB.size
      have HOS := hide hos
      have HOR := hide hor
      have HOLT := hide (fun k h => hor.lt k h)
      clear hos hor
      by_cases hlt : k < n
      · obtain ⟨b, o, rfl, hb, hxs⟩ := HI1.out (by intro e; rw [e] at HL; have := HL.out; simp at this; omega)
        obtain ⟨x, hx⟩ : ∃ x, P[k]? = some x := ⟨P[k]'(by rw [HL.out]; exact hlt), List.getElem?_eq_getElem _⟩
        have c0 : wr.cell? ⟨b, o + k, none⟩ = some (.int .i64 x) := (hB.cell (p := ⟨b, o + k, none⟩) hb).trans (hxs k x hx)
        obtain ⟨hx1, hx2⟩ := HXD.out x (List.mem_of_getElem? hx)
        have hi : (k : Int) < n := by omega
        have hk0 : (0 : Int) ≤ k := by omega
        have HNX := hide (HSU.out k R S x hT.out hx)
        have HGG := hide (fsG_get wd R x)
        have HGF := hide (fsG_fit (R := R) hx2)
        have HGM := hide (fun y (h : y ∈ fsG wd R x) => @fsG_mem wd R x y h)
        have HRB := hide hrb
        have hcI := fsI_le R x
        have ba : Below wr.heap.size wr (wr.alloc (.cells #[.int .i64 x] 2)) := (Below.refl _ _).alloc (Nat.le_refl _) _
        have cq : (wr.alloc (.cells #[.int .i64 x] 2)).cell? ⟨wr.heap.size, 0, none⟩ = some (.int .i64 x) := rangeAt_new' wr #[.int .i64 x] 2 0 _ rfl
        have sa : (wr.alloc (.cells #[.int .i64 x] 2)).heap.size = wr.heap.size + 1 := by simp
        have HIX := hide (HIF.out wr.heap.size x Ar R cr _ (by omega) ((hIr.at_).go ba) cq)
        have HOS1 := hide (own_go HOS.out ba)
        have HOR1 := hide (own_go HOR.out ba)
        have hBa := hB.trans (ba.mono hbs)
        have CQ := hide cq
        clear hxs hx hrb hIr cq
        by_cases hnew : fsI R x = R.length
        · have HF : Hid (fsX R x = -1) := hide (if_pos hnew)
          have HG1 : Hid (fsG wd R x = R ++ [wd]) := hide (fsG_new hnew)
          have HNX2 : Hid (fsT wd P (k + 1) = ((R ++ [wd]).set R.length ((R ++ [wd]).getD R.length 0 - x), S ++ [((R.length : Nat) : Int)])) := hide (by rw [HNX.out]; unfold fsN; rw [HG1.out, hnew])
          rw [HG1.out, hnew] at HGG HGF
          rw [HG1.out] at HGM
          rw [HF.out] at HIX
          have HLN : Hid ((R ++ [wd]).length = R.length + 1) := hide (by simp)
          clear hnew HF HG1 HNX hcI
          go_wp2_with fail
          generalize (wr.alloc (.cells #[.int .i64 x] 2)) = W1 at *
          refine HIX.out.mono ?_
          rintro e w5 ⟨rfl, rfl⟩
          obtain ⟨m, hm⟩ : ∃ m, R.length = m := ⟨_, rfl⟩
          rw [hm] at HOR1 HDV HGG HGF HNX2 HLN hm60 HOLT ⊢
          clear hm HIX HOR
          have q5 := R4.out _ hBa
          go_wp2_with (refine wpList_load_mid rfl 27 (.tmp 4) rfl _ 0 rfl [.int .i16 wd, .int .i8 ov] _ q5 Try.underlying27 rfl HI2.out ?_)
          refine (HWI.out _).mono ?_
          rintro e w6 ⟨rfl, hb6⟩
          have HOS6 := hide (own_go HOS1.out hb6)
          have HOR6 := hide (own_go HOR1.out hb6)
          have hB6 := hBa.trans (hb6.mono hBa.size)
          have hs6 := hB6.size
          have cq6 := (hb6.cell (p := ⟨wr.heap.size, 0, none⟩) (by show wr.heap.size < W1.heap.size; omega)).trans CQ.out
          have hz6 := hb6.size
          clear hb6 q5 HOS1 HOR1
          go_wp2_with (at_builtin; refine wpList_append_own_at _ rfl (.tmp 39) (.tmp 42) 35 rfl w4.heap.size 2 i0 (.int .i64 0) 1 8 Try.underlying35 hi0 hz0 hz1 hz2 rfl (by decide) _ m _ rfl (HOR6.out.alloc _) ⟨w6.heap.size, 0, none⟩ 1 1 [.int .i64 wd] rfl rfl (one_cell _) (one_one rfl) ?h1 ?h2 ?h3 ?_)
          case h1 => unfold maxLen; omega
          case h2 => omega
          case h3 => simp; omega
          intro v' w7 hown7 hg7 _ hblk7
          have hg67 : w6.grownBy w7 _ := grown_trans (World.grownBy_alloc w6 _ _) hg7
          have HOS7 := hide (kept_dist HOS6.out hg67 (dist_symm HDV.out))
          have hd7 := dist_symm (dist_new (N := (w6.alloc (.cells #[.int .i64 wd] 2)).heap.size) (dist_symm HDV.out) HOS6.out (by simpa using hblk7) (by simp))
          obtain ⟨A7, c7, rfl, _, _⟩ := cellsIn_of_own hown7 (by omega)
          have HOR7 : Hid (w7.ownsRow w4.heap.size 2 1 (.slice A7 (m + 1) c7) (m + 1) ((R ++ [wd]).map (.int .i64))) := hide (by rw [List.map_append]; exact hown7)
          have HDV7 := hide hd7
          have hB7 := hB6.trans (grown_toBelow hg67 (by omega) (fun k hk => (HOR6.out.lt k hk).1))
          have cq7 := (World.cell?_of_block (a := ⟨wr.heap.size, 0, none⟩) (hg67.block wr.heap.size (by omega) (fun e => by have := (HOLT.out _ e.symm).2; omega))).trans cq6
          have hs7 := hg67.size
          clear hown7 hg7 hg67 hblk7 hd7 HOS6 HOR6 cq6
          generalize hLm : m + 1 = L at HOR7 HDV7 HLN ⊢
          obtain ⟨g, cap, e, hgb, hgs⟩ := HOR7.out.form (by omega)
          injection e with e1 e2 e3
          subst e1 e3
          have hyy : 0 ≤ (R ++ [wd]).getD m 0 ∧ (R ++ [wd]).getD m 0 ≤ wd := by
            rcases HGM.out _ (List.mem_of_getElem? HGG.out) with h | h
            · exact HRB.out _ h
            · omega
          have cy : w7.cell? ⟨g, m, none⟩ = some (.int .i64 ((R ++ [wd]).getD m 0)) := by rw [HOR7.out.cellAt m (by omega), List.getElem?_map, HGG.out]; rfl
          have fy := HOR7.out.frozenAt m
          have hxy := HGF.out
          generalize (R ++ [wd]).getD m 0 = y at *
          obtain ⟨y1, y2⟩ := hyy
          have hwy := IntWalk.i64_in (y - x) ⟨by omega, by omega⟩
          have hjL : ((m : Nat) : Int) < ((L : Nat) : Int) := by omega
          have hj0 : (0 : Int) ≤ ((m : Nat) : Int) := by omega
          have o6 := HOR7.out.stored m (.int .i64 (y - x))
          obtain ⟨W6, hW6⟩ : ∃ W6, W6 = (w7.setCell ⟨g, m, none⟩ (.int .i64 (y - x))).drew := ⟨_, rfl⟩
          have HOR9 : Hid (W6.ownsRow w4.heap.size 2 1 (.slice (some ⟨g, 0, none⟩) L c7) L (((R ++ [wd]).set m (y - x)).map (.int .i64))) := hide (by rw [hW6, List.map_set]; exact own_go o6.1 ((Below.refl _ _).drew))
          have HOS9 : Hid (W6.ownsRow w4.heap.size 2 1 (.slice As k cs) k (S.map (.int .i64))) := hide (by rw [hW6]; exact own_go (kept_dist (v1 := .slice (some ⟨g, 0, none⟩) L c7) HOS7.out o6.2 (dist_symm HDV7.out)) ((Below.refl _ _).drew))
          have hB9 : Below w4.heap.size w4 W6 := by rw [hW6]; exact (hB7.setCell (p := ⟨g, m, none⟩) hgb _).drew
          have hs9 : w4.heap.size ≤ W6.heap.size := hB9.size
          have HW6 := hide hW6
          have HSL : Hid (((R ++ [wd]).set m (y - x)).length = L) := hide (by rw [List.length_set]; exact HLN.out)
          clear hW6 o6 hgs
          go_wp2
          go_still_tail 7, (by kernel_rfl)
          change wpList _ _ _ _ _ w7.drew
          go_wp2_with (first | (rw [← HW6.out]) | (at_builtin; refine wpList_append_own_at _ rfl (.tmp 51) (.tmp 53) 35 rfl w4.heap.size 2 i0 (.int .i64 0) 1 8 Try.underlying35 hi0 hz0 hz1 hz2 rfl (by decide) _ k _ rfl (HOS9.out.alloc _) ⟨W6.heap.size, 0, none⟩ 1 1 [.int .i64 ((m : Nat) : Int)] rfl rfl (one_cell _) (one_one rfl) ?h1 ?h2 ?h3 ?_))
          case h1 => unfold maxLen; omega
          case h2 => omega
          case h3 => simp; omega
          intro v' w8 hown8 hg8 _ hblk8
          have hg68 : W6.grownBy w8 _ := grown_trans (World.grownBy_alloc W6 _ _) hg8
          have HOR8 := hide (kept_dist HOR9.out hg68 HDV7.out)
          have hd8 := dist_new (N := (W6.alloc (.cells #[.int .i64 ((m : Nat) : Int)] 2)).heap.size) HDV7.out HOR9.out (by simpa using hblk8) (by simp)
          obtain ⟨A8, c8, rfl, _, _⟩ := cellsIn_of_own hown8 (by omega)
          have HOS8 : Hid (w8.ownsRow w4.heap.size 2 1 (.slice A8 (k + 1) c8) (k + 1) ((S ++ [((m : Nat) : Int)]).map (.int .i64))) := hide (by rw [List.map_append]; exact hown8)
          have HDV8 := hide hd8
          have hB8 := hB9.trans (grown_toBelow hg68 hs9 (fun k hk => (HOS9.out.lt k hk).1))
          clear hown8 hg8 hg68 hblk8 hd8 HOS9 HOR9
          go_wp2
          refine ⟨⟨k + 1, (R ++ [wd]).set m (y - x), S ++ [((m : Nat) : Int)], by omega, by go_num, HNX2, HOS8.out, ?_, HDV8, hB8⟩, by simp [intOf]; omega⟩
          rw [HSL.out]
          exact HOR8.out
        · have HF : Hid (fsX R x = (fsI R x : Int)) := hide (if_neg hnew)
          have HG1 : Hid (fsG wd R x = R) := hide (fsG_old hnew)
          have HNX2 : Hid (fsT wd P (k + 1) = (R.set (fsI R x) (R.getD (fsI R x) 0 - x), S ++ [((fsI R x : Nat) : Int)])) := hide (by rw [HNX.out]; unfold fsN; rw [HG1.out])
          rw [HG1.out] at HGG HGF
          rw [HG1.out] at HGM
          rw [HF.out] at HIX
          have hJ : fsI R x < R.length := by omega
          clear hnew HF HG1 HNX hcI
          generalize fsI R x = J at *
          go_wp2_with fail
          generalize (wr.alloc (.cells #[.int .i64 x] 2)) = W1 at *
          refine HIX.out.mono ?_
          rintro e w7 ⟨rfl, rfl⟩
          obtain ⟨m, hm⟩ : ∃ m, R.length = m := ⟨_, rfl⟩
          have HLN := hide hm
          rw [hm] at HOR1 HDV hm60 hJ ⊢
          clear hm HIX HOR
          have cq7 := CQ.out
          have HOR7 := HOR1
          have HOS7 := HOS1
          have HDV7 := HDV
          have hB7 := hBa
          have hs7 : wr.heap.size + 1 ≤ W1.heap.size := by omega
          have hd0 : decide ((J : Int) < 0) = false := by simp
          obtain ⟨g, cap, e, hgb, hgs⟩ := HOR7.out.form (by omega)
          injection e with e1 e2 e3
          subst e1 e3
          have hyy : 0 ≤ R.getD J 0 ∧ R.getD J 0 ≤ wd := by
            rcases HGM.out _ (List.mem_of_getElem? HGG.out) with h | h
            · exact HRB.out _ h
            · omega
          have cy : W1.cell? ⟨g, J, none⟩ = some (.int .i64 (R.getD J 0)) := by rw [HOR7.out.cellAt J (by omega), List.getElem?_map, HGG.out]; rfl
          have fy := HOR7.out.frozenAt J
          have hxy := HGF.out
          generalize R.getD J 0 = y at *
          obtain ⟨y1, y2⟩ := hyy
          have hwy := IntWalk.i64_in (y - x) ⟨by omega, by omega⟩
          have hjL : ((J : Nat) : Int) < ((m : Nat) : Int) := by omega
          have hj0 : (0 : Int) ≤ ((J : Nat) : Int) := by omega
          have o6 := HOR7.out.stored J (.int .i64 (y - x))
          obtain ⟨W6, hW6⟩ : ∃ W6, W6 = (W1.setCell ⟨g, J, none⟩ (.int .i64 (y - x))).drew := ⟨_, rfl⟩
          have HOR9 : Hid (W6.ownsRow w4.heap.size 2 1 (.slice (some ⟨g, 0, none⟩) m cr) m ((R.set J (y - x)).map (.int .i64))) := hide (by rw [hW6, List.map_set]; exact own_go o6.1 ((Below.refl _ _).drew))
          have HOS9 : Hid (W6.ownsRow w4.heap.size 2 1 (.slice As k cs) k (S.map (.int .i64))) := hide (by rw [hW6]; exact own_go (kept_dist (v1 := .slice (some ⟨g, 0, none⟩) m cr) HOS7.out o6.2 (dist_symm HDV7.out)) ((Below.refl _ _).drew))
          have hB9 : Below w4.heap.size w4 W6 := by rw [hW6]; exact (hB7.setCell (p := ⟨g, J, none⟩) hgb _).drew
          have hs9 : w4.heap.size ≤ W6.heap.size := hB9.size
          have HW6 := hide hW6
          have HSL : Hid ((R.set J (y - x)).length = m) := hide (by rw [List.length_set]; exact HLN.out)
          clear hW6 o6 hgs
          go_wp2
          go_still_tail 7, (by kernel_rfl)
          change wpList _ _ _ _ _ W1.drew
          go_wp2_with (first | (rw [← HW6.out]) | (at_builtin; refine wpList_append_own_at _ rfl (.tmp 51) (.tmp 53) 35 rfl w4.heap.size 2 i0 (.int .i64 0) 1 8 Try.underlying35 hi0 hz0 hz1 hz2 rfl (by decide) _ k _ rfl (HOS9.out.alloc _) ⟨W6.heap.size, 0, none⟩ 1 1 [.int .i64 ((J : Nat) : Int)] rfl rfl (one_cell _) (one_one rfl) ?h1 ?h2 ?h3 ?_))
          case h1 => unfold maxLen; omega
          case h2 => omega
          case h3 => simp; omega
          intro v' w8 hown8 hg8 _ hblk8
          have hg68 : W6.grownBy w8 _ := grown_trans (World.grownBy_alloc W6 _ _) hg8
          have HOR8 := hide (kept_dist HOR9.out hg68 HDV7.out)
          have hd8 := dist_new (N := (W6.alloc (.cells #[.int .i64 ((J : Nat) : Int)] 2)).heap.size) HDV7.out HOR9.out (by simpa using hblk8) (by simp)
          obtain ⟨A8, c8, rfl, _, _⟩ := cellsIn_of_own hown8 (by omega)
          have HOS8 : Hid (w8.ownsRow w4.heap.size 2 1 (.slice A8 (k + 1) c8) (k + 1) ((S ++ [((J : Nat) : Int)]).map (.int .i64))) := hide (by rw [List.map_append]; exact hown8)
          have HDV8 := hide hd8
          have hB8 := hB9.trans (grown_toBelow hg68 hs9 (fun k hk => (HOS9.out.lt k hk).1))
          clear hown8 hg8 hg68 hblk8 hd8 HOS9 HOR9
          go_wp2
          refine ⟨⟨k + 1, R.set J (y - x), S ++ [((J : Nat) : Int)], by omega, by go_num, HNX2, HOS8.out, ?_, HDV8, hB8⟩, by simp [intOf]; omega⟩
          rw [HSL.out]
          exact HOR8.out
      · obtain rfl : k = n := by omega
        obtain ⟨Ag, cg, e, _, hI⟩ := intsIn_of_own HOS.out
        injection e with e1 e2 e3
        subst e1 e3
        have HI := hide hI
        have HSL := hide hsl
        clear hI hsl hIr
        obtain ⟨m, hm⟩ : ∃ m, R.length = m := ⟨_, rfl⟩
        have HM := hide hm
        have HT := hide hT.out
        rw [hm]
        rw [hm] at hm60
        clear hm hT HOR HOLT HDV
        go_wp2
        go_ret3
        rw [HT.out]
        exact ⟨As, cs, by dsimp only; rw [HSL.out, HM.out]; rfl, HI.out.wider hz1', hfin.trans (hB.mono hz1')⟩
  · obtain ⟨n1, n2⟩ := fs_bad h
    rw [n1, n2]
    rw [ct_bad h] at HPF
    have hC : (ctC F s.data.toList wd ov 60 != 0) = true := by simpa using h
    generalize ctC F s.data.toList wd ov 60 = C at *
    clear h n1 n2 hF hw
    generalize fc F (.slice A F.ps.length c) = fcs at *
    go_enter Try.func32, Try.ntmps32
    repeat (first | (refine wpList_load_mid rfl 40 (.tmp 3) rfl _ 0 rfl fcs _ r0 Try.underlying40 rfl HI29.out ?_) | (refine wpList_load_mid rfl 27 (.tmp 4) rfl _ 0 rfl [.int .i16 wd, .int .i8 ov] _ r1 Try.underlying27 rfl HI2.out ?_) | go_step)
    refine (HPF.out _ HG.out HA.out).mono ?_
    rintro e w1 ⟨A1, c1, rfl, hI1, hb1⟩
    go_wp2
    go_ret3
    exact ⟨none, 0, rfl, IntsIn.empty _ _ _, b0.trans (hb1.mono b0.size)⟩
end Go.Proofs.Ytjgcadohjccfaaa
