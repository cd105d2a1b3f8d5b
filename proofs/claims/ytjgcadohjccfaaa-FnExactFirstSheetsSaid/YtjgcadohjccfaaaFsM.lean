/- The first sheet with so much left: the model. -/
import Derived.Test.YtjgcadohjccfaaaFsI
namespace Go.Proofs.Ytjgcadohjccfaaa
open Go Go.RowKit Go.Maps

set_option maxRecDepth 100000 in
set_option maxHeartbeats 16000000 in
theorem specFirstSheets_any (F : Fc) (hF : F.ok) (A : Option Addr) (c : Nat) (wd : Int) (hw : -32768 ≤ wd ∧ wd ≤ 32767) (ov : Int) (ho : i8ok ov) (s : ByteArray) (hs : s.size ≤ maxLen) (w : World) (hA : PairsAt w w.heap.size A F.ps) :
    Calls Try.prog 31 #[.agg (fc F (.slice A F.ps.length c)).toArray, .agg #[.int .i16 wd, .int .i8 ov], .string s] w (IntsBk3 (fsR F s.data.toList wd ov) (fsV F s.data.toList wd ov) (ctC F s.data.toList wd ov 60) w) := by
  obtain ⟨i0, hi0, hz0, hz1, hz2⟩ := info_parts Try.infoI64
  obtain ⟨W2, hW2⟩ : ∃ W2, W2 = ((w.alloc (.cells (fc F (.slice A F.ps.length c)).toArray 40)).alloc (.cells #[.int .i16 wd, .int .i8 ov] 27)) := ⟨_, rfl⟩
  have b0 : Below w.heap.size w W2 := by rw [hW2]; exact ((Below.refl _ _).alloc (Nat.le_refl _) _).alloc (by simp) _
  have r0 : W2.rangeAt w.heap.size 0 (fc F (.slice A F.ps.length c)) := by rw [hW2]; exact World.rangeAt_alloc (rangeAt_new w (fc F (.slice A F.ps.length c)) 40) (.cells #[.int .i16 wd, .int .i8 ov] 27)
  have r1 : W2.rangeAt (w.heap.size + 1) 0 [.int .i16 wd, .int .i8 ov] := by rw [hW2]; exact rangeAt_newg (w := w.alloc (.cells (fc F (.slice A F.ps.length c)).toArray 40)) (cs := #[.int .i16 wd, .int .i8 ov]) (t := 27) (g := w.heap.size + 1) (by simp) rfl
  have s0 : w.heap.size + 2 = W2.heap.size := by rw [hW2]; simp
  obtain ⟨W3, hW3⟩ : ∃ W3, W3 = W2.alloc (.cells #[] 2) := ⟨_, rfl⟩
  have b3 : Below W2.heap.size W2 W3 := by rw [hW3]; exact (Below.refl _ _).alloc (Nat.le_refl _) _
  have s3 : W3.heap.size = W2.heap.size + 1 := by rw [hW3]; simp
  have o3 : W3.ownsRow W2.heap.size 2 1 (.slice (some ⟨W2.heap.size, 0, none⟩) 0 0) 0 [] := by rw [hW3]; exact World.ownsRow_made W2 _ 0 (Nat.le_refl _) (by unfold maxLen; omega) rfl
  have HCU := hide (l06Cut_any F hF w.heap.size A c (w.heap.size + 1) wd ov hw ho s hs 60 W3 (rangeAt_below r0 b3 (by omega)) (by omega) (rangeAt_below r1 b3 (by omega)) (by omega) (((hA.below b0).mono b0.size).below b3 |>.mono b3.size))
  have c30 := rangeAt_cell (k := 0) r1 rfl
  have HW2 := hide hW2
  have HW3 := hide hW3
  unfold maxLen at hs
  have HO3 := hide o3
  clear hA ho r0 r1 hW2 hW3 o3
  by_cases h : ctC F s.data.toList wd ov 60 = 0
  · obtain ⟨n1, n2⟩ := fs_ok h
    obtain ⟨e1, hg, h60, hxd⟩ := ct_zero hF h
    obtain ⟨_, _, ⟨hw1, hw2⟩, _⟩ := gp_parts hg
    rw [n1, n2, h]
    rw [h, e1] at HCU
    clear n1 n2 h e1 hg hF hw
    generalize pieL F s.data.toList ov = P at *
    have HBD := hide (fsT_bd (wd := wd) (by omega) hxd)
    have HXD := hide hxd
    have HSU := hide (fun (k : Nat) (R S : List Int) (x : Int) (h : fsT wd P k = (R, S)) (hx : P[k]? = some x) => fsT_succ h hx)
    have HZ : Hid (fsT wd P 0 = ([], [])) := hide rfl
    have hww := IntWalk.i64_in wd ⟨by omega, by omega⟩
    obtain ⟨n, hL⟩ : ∃ n, P.length = n := ⟨_, rfl⟩
    have HL := hide hL
    unfold IntsBack at HCU
    rw [hL] at HBD HCU h60 ⊢
    clear hL hxd
    generalize fc F (.slice A F.ps.length c) = fcs at *
    go_enter Try.func31, Try.ntmps31
    repeat (first | (rw [← HW2.out]) | (rw [← HW3.out]) | go_step)
    refine HCU.out.mono ?_
    rintro e w4 ⟨A2, c2, rfl, hI2, hb1⟩
    have hO4 := own_go HO3.out hb1
    have hB4 := b3.trans (hb1.mono (by omega))
    have hs4 := hb1.size
    have HI1 := hide hI2
    obtain ⟨W5, hW5⟩ : ∃ W5, W5 = w4.alloc (.cells #[] 2) := ⟨_, rfl⟩
    have b5 : Below w4.heap.size w4 W5 := by rw [hW5]; exact (Below.refl _ _).alloc (Nat.le_refl _) _
    have o5 : W5.ownsRow w4.heap.size 2 1 (.slice (some ⟨w4.heap.size, 0, none⟩) 0 0) 0 [] := by rw [hW5]; exact World.ownsRow_made w4 _ 0 (Nat.le_refl _) (by unfold maxLen; omega) rfl
    have hO5 := own_go hO4 b5
    have hB5 := hB4.trans (b5.mono (by omega))
    have s5 := b5.size
    have HW5 := hide hW5
    have HO5 := hide o5
    have HP5 := hide hO5
    have FAR5 : Hid (∀ a : Addr, W3.heap.size ≤ a.block → a.block < w4.heap.size → W5.cell? a = w4.cell? a) := hide (fun a _ h => b5.cell (p := a) h)
    have hfin0 := b0
    clear hI2 hb1 hO4 hB4 b5 o5 hO5 hW5 HO3 HCU
    go_wp2_with (rw [← HW5.out])
    go_loopw [9, 12, 13] (fun bo bl i wr => ∃ (k : Nat) (R S : List Int), k ≤ n ∧ i = .int .i64 k ∧ Hid (fsT wd P k = (R, S)) ∧ wr.ownsRow W2.heap.size 2 1 bo k (S.map (.int .i64)) ∧ wr.ownsRow w4.heap.size 2 1 bl R.length (R.map (.int .i64)) ∧ Hid (distV bo bl) ∧ Hid (∀ a : Addr, W3.heap.size ≤ a.block → a.block < w4.heap.size → wr.cell? a = w4.cell? a) ∧ Hid (∀ g, bo.ownBlock = some g → g = W2.heap.size ∨ w4.heap.size ≤ g) ∧ w4.heap.size ≤ wr.heap.size ∧ Below W2.heap.size W2 wr)
      (fun _ _ i _ => n - (intOf i).toNat)
    case atStart => exact ⟨0, [], [], Nat.zero_le _, rfl, HZ, HP5.out, HO5.out, hide (fun g h1 h2 => by simp [Value.ownBlock] at h1 h2; omega), FAR5, hide (fun g h => .inl (by simp [Value.ownBlock] at h; exact h.symm)), s5, hB5⟩
    case round =>
      clear HP5 HO5 FAR5 hB5 HW5
      obtain ⟨k, R, S, hk, rfl, hT, hos, hor, HDV, FAR, HBLK, hsz, hB⟩ := hrel
      obtain ⟨As, cs, rfl, hcs, _⟩ := cellsIn_of_own hos (by omega)
      obtain ⟨Ar, cr, rfl, hcr, _⟩ := cellsIn_of_own hor (by omega)
      have hbd := HBD.out k hk
      rw [hT.out] at hbd
      obtain ⟨hm60, hsl, hrb⟩ := hbd
      dsimp only at hm60 hsl hrb
      have HOS := hide hos
      have HOR := hide hor
      have c1 := (hB.cell (p := ⟨w.heap.size + 1, 0, none⟩) (by show w.heap.size + 1 < W2.heap.size; omega)).trans c30
      clear hos hor
      by_cases hlt : k < n
      · obtain ⟨b, o, rfl, lb1, lb2, hxs, _⟩ := HI1.out (by intro e; rw [e] at HL; have := HL.out; simp at this; omega)
        obtain ⟨x, hx⟩ : ∃ x, P[k]? = some x := ⟨P[k]'(by rw [HL.out]; exact hlt), List.getElem?_eq_getElem _⟩
        have CX := hide (hxs k x hx)
        obtain ⟨hx1, hx2⟩ := HXD.out x (List.mem_of_getElem? hx)
        have hi : (k : Int) < n := by omega
        have hk0 : (0 : Int) ≤ k := by omega
        have HNX := hide (HSU.out k R S x hT.out hx)
        have HGG := hide (fsG_get wd R x)
        have HGF := hide (fsG_fit (R := R) hx2)
        have HGM := hide (fun y (h : y ∈ fsG wd R x) => @fsG_mem wd R x y h)
        have HRB := hide hrb
        have HST := hide (fun (j : Nat) (y : Int) (h : j ≤ fsI R x) (hy : R[j]? = some y) (hl : y < x) => fsI_step h hy hl)
        have HSP := hide (fun (j : Nat) (y : Int) (h : j ≤ fsI R x) (hy : R[j]? = some y) (hl : ¬ y < x) => fsI_stop h hy hl)
        have HEN := hide (fun (j : Nat) (h : j ≤ fsI R x) (e : j = R.length) => fsI_end h e)
        have HG1 := hide (@fsG_new wd R x)
        have HG2 := hide (@fsG_old wd R x)
        have C1 := hide c1
        clear hxs hx hrb c1
        obtain ⟨V, hV⟩ : ∃ V, V = wr := ⟨_, rfl⟩
        subst hV
        obtain ⟨m, hm⟩ : ∃ m, R.length = m := ⟨_, rfl⟩
        have HM := hide hm
        rw [hm] at HOR HDV HEN HG1 HG2 hm60 hcr ⊢
        clear hm
        go_wp2
        go_loopw [14] (fun i w8 => ∃ j : Nat, j ≤ m ∧ i = .int .i64 j ∧ Hid (j ≤ fsI R x) ∧ Below V.heap.size V w8) (fun i _ => m - (intOf i).toNat)
        case atStart => exact ⟨0, Nat.zero_le _, rfl, hide (Nat.zero_le _), Below.refl _ _⟩
        case round =>
          obtain ⟨j, hj, rfl, hJ, hb8⟩ := hrel
          have hz8 := hb8.size
          have cx8 := (hb8.cell (p := ⟨b, o + k, none⟩) (by show b < V.heap.size; omega)).trans ((FAR.out ⟨b, o + k, none⟩ lb1 lb2).trans CX.out)
          by_cases hjm : j < m
          · obtain ⟨g, cap, e, hgb, hgs⟩ := HOR.out.form (by omega)
            injection e with e1 e2 e3
            subst e1 e3
            obtain ⟨y, hy⟩ : ∃ y, R[j]? = some y := ⟨R[j]'(by rw [HM.out]; exact hjm), List.getElem?_eq_getElem _⟩
            have cy8 : wr.cell? ⟨g, j, none⟩ = some (.int .i64 y) := (hb8.cell (p := ⟨g, j, none⟩) hgs).trans (by rw [HOR.out.cellAt j (by omega), List.getElem?_map, hy]; rfl)
            have hji : (j : Int) < m := by omega
            have hj0 : (0 : Int) ≤ j := by omega
            have HY := hide hy
            clear hy
            cases hyx : decide (y < x)
            · have HE := hide (HSP.out j y hJ.out HY.out (by simpa using hyx))
              have HJ1 := hide (HG2.out (by rw [HE.out]; omega))
              have HNX2 : Hid (fsT wd P (k + 1) = (R.set j (R.getD j 0 - x), S ++ [((j : Nat) : Int)])) := hide (by rw [HNX.out]; unfold fsN; rw [HJ1.out, HE.out])
              have ex8 := Over.get cx8
              have ey8 := Over.get cy8
              have hne : ((j : Int) == (m : Int)) = false := by simp; omega
              rw [HJ1.out] at HGM
              rw [HJ1.out, HE.out] at HGG HGF
              clear cx8 cy8
              go_wp2
              refine wp_region_over (by kernel_rfl) (by kernel_rfl) ?_
              repeat (go_big_quiet_step (fail))
              refine wpQuiet_nil ?_
              intro w9 hb9
              clear ex8 ey8
              have hb89 := hb8.trans (hb9.mono hb8.size)
              have HOR7 := hide (own_go HOR.out hb89)
              have HOS7 := hide (own_go HOS.out hb89)
              have FAR7 : Hid (∀ a : Addr, W3.heap.size ≤ a.block → a.block < w4.heap.size → w9.cell? a = w4.cell? a) := hide (fun a h1 h2 => (hb89.cell (p := a) (by omega)).trans (FAR.out a h1 h2))
              have hB7 := hB.trans (hb89.mono hB.size)
              have hs7 : w4.heap.size ≤ w9.heap.size := Nat.le_trans hsz hb89.size
              have HLN := HM
              have hyy : 0 ≤ R.getD j 0 ∧ R.getD j 0 ≤ wd := by
                rcases HGM.out _ (List.mem_of_getElem? HGG.out) with h | h
                · exact HRB.out _ h
                · omega
              have cy : w9.cell? ⟨g, j, none⟩ = some (.int .i64 (R.getD j 0)) := by rw [HOR7.out.cellAt j (by omega), List.getElem?_map, HGG.out]; rfl
              have cx : w9.cell? ⟨b, o + k, none⟩ = some (.int .i64 x) := (FAR7.out ⟨b, o + k, none⟩ lb1 lb2).trans CX.out
              have fy := HOR7.out.frozenAt j
              have hxy := HGF.out
              generalize R.getD j 0 = y at *
              obtain ⟨y1, y2⟩ := hyy
              have hwy := IntWalk.i64_in (y - x) ⟨by omega, by omega⟩
              have hjL : ((j : Nat) : Int) < ((m : Nat) : Int) := by omega
              have hj0' : (0 : Int) ≤ ((j : Nat) : Int) := by omega
              have o6 := HOR7.out.stored j (.int .i64 (y - x))
              obtain ⟨W6, hW6⟩ : ∃ W6, W6 = (w9.setCell ⟨g, j, none⟩ (.int .i64 (y - x))).drew := ⟨_, rfl⟩
              have HOR9 : Hid (W6.ownsRow w4.heap.size 2 1 (.slice (some ⟨g, 0, none⟩) m cr) m ((R.set j (y - x)).map (.int .i64))) := hide (by rw [hW6, List.map_set]; exact own_go o6.1 ((Below.refl _ _).drew))
              have HOS9 : Hid (W6.ownsRow W2.heap.size 2 1 (.slice As k cs) k (S.map (.int .i64))) := hide (by rw [hW6]; exact own_go (kept_dist (v1 := .slice (some ⟨g, 0, none⟩) m cr) HOS7.out o6.2 (dist_symm HDV.out)) ((Below.refl _ _).drew))
              have FAR9 : Hid (∀ a : Addr, W3.heap.size ≤ a.block → a.block < w4.heap.size → W6.cell? a = w4.cell? a) := hide (fun a h1 h2 => by
                rw [hW6]
                exact (o6.2.cell_far a (by omega) (by intro e; injection e with e; omega)).trans (FAR7.out a h1 h2))
              have hB9 : Below W2.heap.size W2 W6 := by rw [hW6]; exact (hB7.setCell (p := ⟨g, j, none⟩) (by show W2.heap.size ≤ g; omega) _).drew
              have hs9 : w4.heap.size ≤ W6.heap.size := by rw [hW6]; show w4.heap.size ≤ (w9.setCell _ _).heap.size; rw [size_setCell]; exact hs7
              have HW6 := hide hW6
              have HSL : Hid ((R.set j (y - x)).length = m) := hide (by rw [List.length_set]; exact HLN.out)
              clear hW6 o6 hgs
              go_wp2
              go_still_tail 10, (by kernel_rfl)
              change wpList _ _ _ _ _ w9.drew
              go_wp2_with (first | (rw [← HW6.out]) | (at_builtin; refine wpList_append_own_at _ rfl (.tmp 69) (.tmp 71) 35 rfl W2.heap.size 2 i0 (.int .i64 0) 1 8 Try.underlying35 hi0 hz0 hz1 hz2 rfl (by decide) _ k _ rfl (HOS9.out.alloc _) ⟨W6.heap.size, 0, none⟩ 1 1 [.int .i64 ((j : Nat) : Int)] rfl rfl (one_cell _) (one_one rfl) ?h1 ?h2 ?h3 ?_))
              case h1 => unfold maxLen; omega
              case h2 => omega
              case h3 => simp; omega
              intro v' w8 hown8 hg8 _ hblk8
              have hg68 : W6.grownBy w8 _ := grown_trans (World.grownBy_alloc W6 _ _) hg8
              have HOR8 := hide (kept_dist HOR9.out hg68 HDV.out)
              have hd8 := dist_new (N := (W6.alloc (.cells #[.int .i64 ((j : Nat) : Int)] 2)).heap.size) HDV.out HOR9.out (by simpa using hblk8) (by simp)
              obtain ⟨A8, c8, rfl, _, _⟩ := cellsIn_of_own hown8 (by omega)
              have HOS8 : Hid (w8.ownsRow W2.heap.size 2 1 (.slice A8 (k + 1) c8) (k + 1) ((S ++ [((j : Nat) : Int)]).map (.int .i64))) := hide (by rw [List.map_append]; exact hown8)
              have HBLK8 : Hid (∀ g, (Value.slice A8 (k + 1) c8).ownBlock = some g → g = W2.heap.size ∨ w4.heap.size ≤ g) := hide (fun g h => by
                rcases hblk8 with e | e
                · exact HBLK.out g (e.symm.trans h)
                · rw [e] at h; injection h with h; right; first | omega | (simp at h; omega))
              have FAR8 : Hid (∀ a : Addr, W3.heap.size ≤ a.block → a.block < w4.heap.size → w8.cell? a = w4.cell? a) := hide (fun a h1 h2 =>
                (hg68.cell_far a (by omega) (fun e => by rcases HBLK.out a.block e.symm with h | h <;> omega)).trans (FAR9.out a h1 h2))
              have HDV8 := hide hd8
              have hB8 := hB9.trans (grown_toBelow hg68 (by omega) (fun k hk => (HOS9.out.lt k hk).1))
              have hs8 := Nat.le_trans hs9 hg68.size
              clear hown8 hg8 hg68 hblk8 hd8 HOS9 HOR9
              go_wp2
              refine ⟨⟨k + 1, R.set j (y - x), S ++ [((j : Nat) : Int)], by omega, by go_num, HNX2, HOS8.out, ?_, HDV8, FAR8, HBLK8, hs8, hB8⟩, by simp [intOf]; omega⟩
              rw [HSL.out]
              exact HOR8.out
            · have HE := hide (HST.out j y hJ.out HY.out (by simpa using hyx))
              go_wp2
              go_quiet (fail)
              go_wp2
              exact ⟨⟨j + 1, by omega, by go_num, HE, below_drewN hb8 _⟩, by simp [intOf]; omega⟩
          · obtain rfl : j = m := by omega
            have HE := hide (HEN.out j hJ.out rfl)
            have HJ1 := hide (HG1.out HE.out)
            have HNX2 : Hid (fsT wd P (k + 1) = ((R ++ [wd]).set j ((R ++ [wd]).getD j 0 - x), S ++ [((j : Nat) : Int)])) := hide (by rw [HNX.out]; unfold fsN; rw [HJ1.out, HE.out])
            rw [HJ1.out] at HGM
            rw [HJ1.out, HE.out] at HGG HGF
            have HLN : Hid ((R ++ [wd]).length = j + 1) := hide (by rw [List.length_append, HM.out]; rfl)
            have c18 := (hb8.cell (p := ⟨w.heap.size + 1, 0, none⟩) (by show w.heap.size + 1 < V.heap.size; omega)).trans C1.out
            have c18o := Over.get c18
            clear cx8 c18
            go_wp2
            refine wp_region_over (by kernel_rfl) (by kernel_rfl) ?_
            repeat (go_big_quiet_step (fail))
            refine wpQuiet_nil ?_
            intro w9 hb9
            have c19 := c18o ⟨w9, hb9⟩
            dsimp only at c19
            clear c18o
            have hb89 := hb8.trans (hb9.mono hb8.size)
            have HOR6 := hide (own_go HOR.out hb89)
            have HOS6 := hide (own_go HOS.out hb89)
            have FAR6 : Hid (∀ a : Addr, W3.heap.size ≤ a.block → a.block < w4.heap.size → w9.cell? a = w4.cell? a) := hide (fun a h1 h2 => (hb89.cell (p := a) (by omega)).trans (FAR.out a h1 h2))
            have hB6 := hB.trans (hb89.mono hB.size)
            have hs6 : w4.heap.size ≤ w9.heap.size := Nat.le_trans hsz hb89.size
            have hjj : ((j : Int) == (j : Int)) = true := by simp
            go_wp2_with (at_builtin; refine wpList_append_own_at _ rfl (.tmp 53) (.tmp 57) 35 rfl w4.heap.size 2 i0 (.int .i64 0) 1 8 Try.underlying35 hi0 hz0 hz1 hz2 rfl (by decide) _ j _ rfl (HOR6.out.alloc _) ⟨w9.heap.size, 0, none⟩ 1 1 [.int .i64 wd] rfl rfl (one_cell _) (one_one rfl) ?h1 ?h2 ?h3 ?_)
            case h1 => unfold maxLen; omega
            case h2 => omega
            case h3 => simp; omega
            intro v' w7 hown7 hg7 _ hblk7
            have hg67 : w9.grownBy w7 _ := grown_trans (World.grownBy_alloc w9 _ _) hg7
            have HOS7 := hide (kept_dist HOS6.out hg67 (dist_symm HDV.out))
            have hd7 := dist_symm (dist_new (N := (w9.alloc (.cells #[.int .i64 wd] 2)).heap.size) (dist_symm HDV.out) HOS6.out (by simpa using hblk7) (by simp))
            obtain ⟨A7, c7, rfl, _, _⟩ := cellsIn_of_own hown7 (by omega)
            have HOR7 : Hid (w7.ownsRow w4.heap.size 2 1 (.slice A7 (j + 1) c7) (j + 1) ((R ++ [wd]).map (.int .i64))) := hide (by rw [List.map_append]; exact hown7)
            have HDV := hide hd7
            have FAR7 : Hid (∀ a : Addr, W3.heap.size ≤ a.block → a.block < w4.heap.size → w7.cell? a = w4.cell? a) := hide (fun a h1 h2 => (hg67.cell_far a (by omega) (fun e => by have := (HOR6.out.lt _ e.symm).1; omega)).trans (FAR6.out a h1 h2))
            have hB7 := hB6.trans (grown_toBelow hg67 (by omega) (fun k hk => by have := (HOR6.out.lt k hk).1; omega))
            have hs7 := Nat.le_trans hs6 hg67.size
            clear hown7 hg7 hg67 hblk7 hd7 HOS6 HOR6
            generalize hLm : j + 1 = L at HOR7 HDV HLN ⊢
            obtain ⟨g, cap, e, hgb, hgs⟩ := HOR7.out.form (by omega)
            injection e with e1 e2 e3
            subst e1 e3
            have hyy : 0 ≤ (R ++ [wd]).getD j 0 ∧ (R ++ [wd]).getD j 0 ≤ wd := by
              rcases HGM.out _ (List.mem_of_getElem? HGG.out) with h | h
              · exact HRB.out _ h
              · omega
            have cy : w7.cell? ⟨g, j, none⟩ = some (.int .i64 ((R ++ [wd]).getD j 0)) := by rw [HOR7.out.cellAt j (by omega), List.getElem?_map, HGG.out]; rfl
            have cx : w7.cell? ⟨b, o + k, none⟩ = some (.int .i64 x) := (FAR7.out ⟨b, o + k, none⟩ lb1 lb2).trans CX.out
            have fy := HOR7.out.frozenAt j
            have hxy := HGF.out
            generalize (R ++ [wd]).getD j 0 = y at *
            obtain ⟨y1, y2⟩ := hyy
            have hwy := IntWalk.i64_in (y - x) ⟨by omega, by omega⟩
            have hjL : ((j : Nat) : Int) < ((L : Nat) : Int) := by omega
            have hj0' : (0 : Int) ≤ ((j : Nat) : Int) := by omega
            have o6 := HOR7.out.stored j (.int .i64 (y - x))
            obtain ⟨W6, hW6⟩ : ∃ W6, W6 = (w7.setCell ⟨g, j, none⟩ (.int .i64 (y - x))).drew := ⟨_, rfl⟩
            have HOR9 : Hid (W6.ownsRow w4.heap.size 2 1 (.slice (some ⟨g, 0, none⟩) L c7) L (((R ++ [wd]).set j (y - x)).map (.int .i64))) := hide (by rw [hW6, List.map_set]; exact own_go o6.1 ((Below.refl _ _).drew))
            have HOS9 : Hid (W6.ownsRow W2.heap.size 2 1 (.slice As k cs) k (S.map (.int .i64))) := hide (by rw [hW6]; exact own_go (kept_dist (v1 := .slice (some ⟨g, 0, none⟩) L c7) HOS7.out o6.2 (dist_symm HDV.out)) ((Below.refl _ _).drew))
            have FAR9 : Hid (∀ a : Addr, W3.heap.size ≤ a.block → a.block < w4.heap.size → W6.cell? a = w4.cell? a) := hide (fun a h1 h2 => by
              rw [hW6]
              exact (o6.2.cell_far a (by omega) (by intro e; injection e with e; omega)).trans (FAR7.out a h1 h2))
            have hB9 : Below W2.heap.size W2 W6 := by rw [hW6]; exact (hB7.setCell (p := ⟨g, j, none⟩) (by show W2.heap.size ≤ g; omega) _).drew
            have hs9 : w4.heap.size ≤ W6.heap.size := by rw [hW6]; show w4.heap.size ≤ (w7.setCell _ _).heap.size; rw [size_setCell]; exact hs7
            have HW6 := hide hW6
            have HSL : Hid (((R ++ [wd]).set j (y - x)).length = L) := hide (by rw [List.length_set]; exact HLN.out)
            clear hW6 o6 hgs
            go_wp2
            go_still_tail 10, (by kernel_rfl)
            change wpList _ _ _ _ _ w7.drew
            go_wp2_with (first | (rw [← HW6.out]) | (at_builtin; refine wpList_append_own_at _ rfl (.tmp 69) (.tmp 71) 35 rfl W2.heap.size 2 i0 (.int .i64 0) 1 8 Try.underlying35 hi0 hz0 hz1 hz2 rfl (by decide) _ k _ rfl (HOS9.out.alloc _) ⟨W6.heap.size, 0, none⟩ 1 1 [.int .i64 ((j : Nat) : Int)] rfl rfl (one_cell _) (one_one rfl) ?h1 ?h2 ?h3 ?_))
            case h1 => unfold maxLen; omega
            case h2 => omega
            case h3 => simp; omega
            intro v' w8 hown8 hg8 _ hblk8
            have hg68 : W6.grownBy w8 _ := grown_trans (World.grownBy_alloc W6 _ _) hg8
            have HOR8 := hide (kept_dist HOR9.out hg68 HDV.out)
            have hd8 := dist_new (N := (W6.alloc (.cells #[.int .i64 ((j : Nat) : Int)] 2)).heap.size) HDV.out HOR9.out (by simpa using hblk8) (by simp)
            obtain ⟨A8, c8, rfl, _, _⟩ := cellsIn_of_own hown8 (by omega)
            have HOS8 : Hid (w8.ownsRow W2.heap.size 2 1 (.slice A8 (k + 1) c8) (k + 1) ((S ++ [((j : Nat) : Int)]).map (.int .i64))) := hide (by rw [List.map_append]; exact hown8)
            have HBLK8 : Hid (∀ g, (Value.slice A8 (k + 1) c8).ownBlock = some g → g = W2.heap.size ∨ w4.heap.size ≤ g) := hide (fun g h => by
              rcases hblk8 with e | e
              · exact HBLK.out g (e.symm.trans h)
              · rw [e] at h; injection h with h; right; first | omega | (simp at h; omega))
            have FAR8 : Hid (∀ a : Addr, W3.heap.size ≤ a.block → a.block < w4.heap.size → w8.cell? a = w4.cell? a) := hide (fun a h1 h2 =>
              (hg68.cell_far a (by omega) (fun e => by rcases HBLK.out a.block e.symm with h | h <;> omega)).trans (FAR9.out a h1 h2))
            have HDV8 := hide hd8
            have hB8 := hB9.trans (grown_toBelow hg68 (by omega) (fun k hk => (HOS9.out.lt k hk).1))
            have hs8 := Nat.le_trans hs9 hg68.size
            clear hown8 hg8 hg68 hblk8 hd8 HOS9 HOR9
            go_wp2
            refine ⟨⟨k + 1, (R ++ [wd]).set j (y - x), S ++ [((j : Nat) : Int)], by omega, by go_num, HNX2, HOS8.out, ?_, HDV8, FAR8, HBLK8, hs8, hB8⟩, by simp [intOf]; omega⟩
            rw [HSL.out]
            exact HOR8.out
      · obtain rfl : k = n := by omega
        obtain ⟨Ag, cg, e, _, hI⟩ := intsIn_of_own HOS.out
        injection e with e1 e2 e3
        subst e1 e3
        have HI := hide hI
        have HSL := hide hsl
        obtain ⟨m, hm⟩ : ∃ m, R.length = m := ⟨_, rfl⟩
        have HM := hide hm
        have HT := hide hT.out
        rw [hm]
        rw [hm] at hm60
        clear hI hsl hm hT HOR HDV
        go_wp2
        go_ret3
        rw [HT.out]
        exact ⟨As, cs, by dsimp only; rw [HSL.out, HM.out]; rfl, HI.out.wider (by omega), b0.trans (hB.mono (by omega))⟩
  · obtain ⟨n1, n2⟩ := fs_bad h
    rw [n1, n2]
    rw [ct_bad h] at HCU
    have hC : (ctC F s.data.toList wd ov 60 != 0) = true := by simpa using h
    generalize ctC F s.data.toList wd ov 60 = C at *
    clear h n1 n2 HO3 hF hw
    generalize fc F (.slice A F.ps.length c) = fcs at *
    go_enter Try.func31, Try.ntmps31
    repeat (first | (rw [← HW2.out]) | (rw [← HW3.out]) | go_step)
    refine HCU.out.mono ?_
    rintro e w1 ⟨A2, c2, rfl, hI2, hb1⟩
    go_wp2
    go_ret3
    exact ⟨_, 0, rfl, IntsIn.empty _ _ _, b0.trans ((b3.trans (hb1.mono (by omega))).mono (by omega))⟩
end Go.Proofs.Ytjgcadohjccfaaa
