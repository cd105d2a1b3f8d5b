/- A face and two lines: what is asked of them. · The shift that keeps the most letters: the program's. · The shift that keeps the most letters: bestShift, and BestShift of the program. -/
import Derived.Test.YtngondeaeipcfaaGreatDoorKpK
import Derived.Test.YtngondeaeipcfaaGreatDoorLaP
import Derived.Test.YtngondeaeipcfaaGreatDoorCtP
import Derived.WalkMore
import Derived.Deep.LoopGhost
import Derived.Test.YtngondeaeipcfaaGreatDoorGs

namespace Go.Proofs.YtngondeaeipcfaaGreatDoor
open Go Go.RowKit

noncomputable def ktB (F : Fc) (L M : List UInt8) : Bool := vface F && (vtext L && vtext M)
theorem kt_parts {F : Fc} {L M : List UInt8} (h : ktB F L M = true) : vface F = true ∧ vtext L = true ∧ vtext M = true := by
  unfold ktB at h; simp only [Bool.and_eq_true] at h; exact ⟨h.1, h.2.1, h.2.2⟩

set_option maxRecDepth 100000 in
set_option maxHeartbeats 4000000 in
theorem l06Lines_any (F : Fc) (hF : F.ok) (b : Nat) (A : Option Addr) (c : Nat) (s t : ByteArray) (hs : s.size ≤ maxLen) (ht : t.size ≤ maxLen) (fine : Bool) (w : World)
    (hr : w.rangeAt b 0 (fc F (.slice A F.ps.length c))) (hA : PairsAt w w.heap.size A F.ps) :
    Calls Tryz.prog 189 #[.pointer (some ⟨b, 0, none⟩), .string s, .string t, .bool fine] w fun e w' => e = .returned (.int .i64 (if ktB F s.data.toList t.data.toList = true then (if fine = true then 0 else 2) else 1)) ∧ Below w.heap.size w w' := by
  have HF := hide (l01Face_any F hF b A c w hr hA)
  have HS := hide (fun W => l01Text_any s W hs)
  have HT := hide (fun W => l01Text_any t W ht)
  have HG := hide (show ktB F s.data.toList t.data.toList = (vface F && (vtext s.data.toList && vtext t.data.toList)) from rfl)
  unfold maxLen at hs ht
  obtain ⟨C, hC⟩ : ∃ C : Int, (if ktB F s.data.toList t.data.toList = true then (if fine = true then 0 else 2) else 1) = C := ⟨_, rfl⟩
  have HC := hide hC
  rw [hC]
  clear hr hA hC
  cases h1 : vface F
  · rw [h1] at HF
    have HE : Hid (C = 1) := hide (by rw [← HC.out, HG.out, h1]; rfl)
    go_enter Tryz.func189, Tryz.ntmps189
    go_wp2_with (go_at_call 124; refine HF.out.mono ?_; rintro e w1 ⟨rfl, hb1⟩)
    go_ret
    exact ⟨ret_int HE.out.symm, hb1⟩
  rw [h1] at HF
  cases h2 : vtext s.data.toList
  · rw [h2] at HS
    have HE : Hid (C = 1) := hide (by rw [← HC.out, HG.out, h1, h2]; rfl)
    go_enter Tryz.func189, Tryz.ntmps189
    go_wp2_with fail
    refine HF.out.mono ?_
    rintro e w1 ⟨rfl, hb1⟩
    go_wp2_with (go_at_call 112; refine (HS.out _).mono ?_; rintro e w2 ⟨rfl, rfl⟩)
    go_ret
    exact ⟨ret_int HE.out.symm, hb1⟩
  rw [h2] at HS
  cases h3 : vtext t.data.toList
  · rw [h3] at HT
    have HE : Hid (C = 1) := hide (by rw [← HC.out, HG.out, h1, h2, h3]; rfl)
    go_enter Tryz.func189, Tryz.ntmps189
    go_wp2_with fail
    refine HF.out.mono ?_
    rintro e w1 ⟨rfl, hb1⟩
    go_wp2_with fail
    refine (HS.out _).mono ?_
    rintro e w2 ⟨rfl, rfl⟩
    go_wp2_with fail
    refine (HT.out _).mono ?_
    rintro e w2 ⟨rfl, rfl⟩
    go_wp2
    go_ret
    exact ⟨ret_int HE.out.symm, hb1⟩
  rw [h3] at HT
  cases fine
  · have HE : Hid (C = 2) := hide (by rw [← HC.out, HG.out, h1, h2, h3]; rfl)
    go_enter Tryz.func189, Tryz.ntmps189
    go_wp2_with fail
    refine HF.out.mono ?_
    rintro e w1 ⟨rfl, hb1⟩
    go_wp2_with fail
    refine (HS.out _).mono ?_
    rintro e w2 ⟨rfl, rfl⟩
    go_wp2_with fail
    refine (HT.out _).mono ?_
    rintro e w2 ⟨rfl, rfl⟩
    go_wp2
    go_ret
    exact ⟨ret_int HE.out.symm, hb1⟩
  · have HE : Hid (C = 0) := hide (by rw [← HC.out, HG.out, h1, h2, h3]; rfl)
    go_enter Tryz.func189, Tryz.ntmps189
    go_wp2_with fail
    refine HF.out.mono ?_
    rintro e w1 ⟨rfl, hb1⟩
    go_wp2_with fail
    refine (HS.out _).mono ?_
    rintro e w2 ⟨rfl, rfl⟩
    go_wp2_with fail
    refine (HT.out _).mono ?_
    rintro e w2 ⟨rfl, rfl⟩
    go_wp2
    go_ret
    exact ⟨ret_int HE.out.symm, hb1⟩

end Go.Proofs.YtngondeaeipcfaaGreatDoor

namespace Go.Proofs.YtngondeaeipcfaaGreatDoor
open Go Go.RowKit

theorem tbC_one (C : Int → Nat) : (tbC C).toArray.all (·.oneCell') = true := all_oneCell_toArray (by
  unfold tbC
  intro v hv
  obtain ⟨k, _, rfl⟩ := List.mem_map.1 hv
  rfl)
def isZ (v : Value) : Bool := match v with
  | .int .i64 0 => true
  | _ => false
theorem isZ_eq {v : Value} (h : isZ v = true) : v = .int .i64 0 := by
  unfold isZ at h
  split at h
  · rfl
  · cases h
/-- The zero of the table. -/
theorem tb_zero : (Tryz.zeroCells255.toList.all isZ && Tryz.zeroCells255.size == 801) = true := by kernel_rfl
theorem tb_size : (Tryz.prog.info? 255).map (·.size) = some 801 := by kernel_rfl
theorem tb_zc : Tryz.zeroCells255 = (tbC fun _ => 0).toArray := by
  have h := tb_zero
  rw [Bool.and_eq_true, beq_iff_eq] at h
  obtain ⟨h1, h2⟩ := h
  apply Array.ext
  · rw [h2]; simp [tbC]
  · intro j hj1 hj2
    rw [isZ_eq (List.all_eq_true.1 h1 _ (Array.getElem_mem_toList hj1))]
    simp [tbC]
theorem tb_len (C : Int → Nat) : (tbC C).toArray.size = 801 := by rw [List.size_toArray, tbC_len]
set_option maxRecDepth 100000 in
set_option maxHeartbeats 8000000 in
theorem countShifts_any (A1 : Option Addr) (xs : List Pr) (c1 : Nat) (A2 : Option Addr) (ys : List Pr) (c2 : Nat) (w : World) (hx : xs.length ≤ 60) (hy : ys.length ≤ 60)
    (hxb : ∀ p ∈ xs, 0 ≤ p.2 ∧ p.2 ≤ 240000) (hyb : ∀ p ∈ ys, 0 ≤ p.2 ∧ p.2 ≤ 240000) (hs : xs.Pairwise (fun a b => a.2 ≤ b.2)) (hA : RowsAt 2 plc w w.heap.size A1 xs) (hY : RowsAt 2 plc w w.heap.size A2 ys) :
    Calls Tryz.prog 248 #[.slice A1 xs.length c1, .slice A2 ys.length c2] w fun e w' => e = .returned (.agg (tbC (shT kpR' ys xs)).toArray) ∧ Below w.heap.size w w' := by
  have b0 : Below w.heap.size w ((w.alloc (.cells (tbC fun _ => 0).toArray 255)).alloc (.cells (tbC fun _ => 0).toArray 255)) := ((Below.refl _ _).alloc (Nat.le_refl _) _).alloc (by simp) _
  have r0 : ((w.alloc (.cells (tbC fun _ => 0).toArray 255)).alloc (.cells (tbC fun _ => 0).toArray 255)).rangeAt (w.heap.size + 1) 0 (tbC fun _ => 0) := rangeAt_newg (by simp) rfl
  have t0 : ((w.alloc (.cells (tbC fun _ => 0).toArray 255)).alloc (.cells (tbC fun _ => 0).toArray 255)).there (w.heap.size + 1) 0 801 := there_newg (by simp) (tb_len _)
  have t1 : ((w.alloc (.cells (tbC fun _ => 0).toArray 255)).alloc (.cells (tbC fun _ => 0).toArray 255)).there w.heap.size 0 801 := World.there_alloc (there_newg rfl (tb_len _)) _
  have s0 : ((w.alloc (.cells (tbC fun _ => 0).toArray 255)).alloc (.cells (tbC fun _ => 0).toArray 255)).heap.size = w.heap.size + 1 + 1 := by simp
  have HC0 : Hid (tbC (fun _ => 0) = tbC (cpt kpR' ys xs 0 0)) := hide (tbC_same fun d _ _ => (cpt_zero _ _ _ d).symm)
  have HX := hide (fun k p h => RowsAt.two hA (k := k) (p := p) h)
  have HY := hide (fun k p h => RowsAt.two hY (k := k) (p := p) h)
  have HXB := hide hxb
  have HYB := hide hyb
  have HCR := hide (fun i y (h : ys[i]? = some y) => show tbC (cpt kpR' ys xs i xs.length) = tbC (cpt kpR' ys xs (i + 1) 0) from tbC_same fun d _ _ => by rw [cpt_row h])
  have HCN := hide (fun i k y x (hi : ys[i]? = some y) (hk : xs[k]? = some x) (d : Int) => cpt_succ (R := kpR') hi hk d)
  have HLE := hide (fun i k d => cpt_le kpR' ys xs hy hx i k d)
  have HBR := hide (fun i k y x (hi : ys[i]? = some y) (hk : xs[k]? = some x) (h : 400 < x.2 - y.2) => show tbC (cpt kpR' ys xs i k) = tbC (cpt kpR' ys xs (i + 1) 0) from tbC_same fun d d1 d2 => by
    refine (cpt_break hi fun b hb => ?_).symm
    have hle : x.2 ≤ b.2 := by
      obtain ⟨j, hj⟩ := List.getElem?_of_mem hb
      rw [List.getElem?_drop] at hj
      obtain ⟨hk1, hk2⟩ := List.getElem?_eq_some_iff.1 hk
      obtain ⟨hj1, hj2⟩ := List.getElem?_eq_some_iff.1 hj
      by_cases e : j = 0
      · subst e; simp only [Nat.add_zero] at hj2; rw [hk2] at hj2; rw [hj2]; exact Int.le_refl _
      · have := List.pairwise_iff_getElem.1 hs k (k + j) hk1 hj1 (by omega)
        rw [hk2, hj2] at this; exact this
    unfold kpR' kpR
    simp only [Bool.and_eq_false_iff, beq_eq_false_iff_ne]
    right; omega)
  have HCE : Hid (tbC (cpt kpR' ys xs ys.length 0) = tbC (shT kpR' ys xs)) := hide (tbC_same fun d _ _ => cpt_end _ _ _ d)
  have HGX := hide (fun k (h : k < xs.length) => (⟨xs[k], List.getElem?_eq_getElem h⟩ : ∃ p, xs[k]? = some p))
  have HGY := hide (fun k (h : k < ys.length) => (⟨ys[k], List.getElem?_eq_getElem h⟩ : ∃ p, ys[k]? = some p))
  have HMX := hide (fun k p (h : xs[k]? = some p) => List.mem_of_getElem? h)
  have HMY := hide (fun k p (h : ys[k]? = some p) => List.mem_of_getElem? h)
  obtain ⟨n, hN⟩ : ∃ n, xs.length = n := ⟨_, rfl⟩
  obtain ⟨m, hM⟩ : ∃ m, ys.length = m := ⟨_, rfl⟩
  rw [hN] at hx HCR HGX ⊢
  rw [hM] at hy HCE HGY ⊢
  clear hxb hyb hs hA hY hN hM
  go_enter Tryz.func248, Tryz.ntmps248
  go_wp2
  go_step3
  go_wp2
  rw [tb_zc]
  generalize ((w.alloc (.cells (tbC fun _ => 0).toArray 255)).alloc (.cells (tbC fun _ => 0).toArray 255)) = W0 at *
  rw [HC0.out] at r0
  go_step3
  go_wp2
  go_loopg [13] m (fun g i wr => ∃ k : Nat, k + g = m ∧ i = .int .i64 k ∧ wr.rangeAt (w.heap.size + 1) 0 (tbC (cpt kpR' ys xs k 0)) ∧ wr.there (w.heap.size + 1) 0 801 ∧ wr.there w.heap.size 0 801 ∧ w.heap.size + 2 ≤ wr.heap.size ∧ Below w.heap.size w wr)
  case atStart => exact ⟨0, by omega, rfl, r0, t0, t1, by omega, b0⟩
  case round =>
    obtain ⟨k, hk, rfl, hr, ht, htr, hsz, hB⟩ := hrel
    clear r0 t0 t1 b0 s0 HC0
    cases gk with
    | zero =>
      obtain rfl : k = m := by omega
      have hi : ¬ (k : Int) < k := by omega
      rw [HCE.out] at hr
      obtain ⟨V, hV⟩ : ∃ V, shT kpR' ys xs = V := ⟨_, rfl⟩
      have HV := hide hV
      rw [hV] at hr
      clear hV
      go_wp2_with (first
        | (refine wpList_load_mid rfl 255 (.tmp 5) rfl _ 0 rfl (tbC V) _ hr Tryz.underlying255 rfl (by rw [tbC_len]; exact tb_size) ?_)
        | (refine wpList_store_mid rfl 255 (.tmp 4) (.tmp 47) rfl w.heap.size 0 (tbC V).toArray rfl rfl (by rw [tb_len]; exact htr) (by rw [tb_len]; exact tb_size) (tbC_one _) ?_))
      try rw [Exit.noGoto_ret]
      refine bodyPost_ret (results_mid rfl _ _ w.heap.size 0 (tbC V) _ rfl (World.rangeAt_setCells_same _ _ _ _ (by rw [tbC_len]; exact htr)) Tryz.underlying255 rfl (by rw [tbC_len]; exact tb_size)) rfl ⟨by rw [HV.out], ?_⟩
      exact below_setCells _ _ _ _ hB (Nat.le_refl _)
    | succ g =>
      have hlt : k < m := by omega
      obtain ⟨y, hy⟩ := HGY.out k hlt
      obtain ⟨b, o, rfl, hb, e0, e1⟩ := HY.out k y hy
      have c0 := (hB.cell (p := ⟨b, o + k * 2, none⟩) hb).trans e0
      have c1 := (hB.cell (p := ⟨b, o + k * 2 + 1, none⟩) hb).trans e1
      have hi : (k : Int) < m := by omega
      have h0 : (0 : Int) ≤ k := by omega
      have HCRk := hide (HCR.out k y hy)
      have HCNk := hide (fun j x h d => HCN.out k j y x hy h d)
      have HBRk := hide (fun j x h h2 => HBR.out k j y x hy h h2)
      have hyb := HYB.out y (HMY.out k y hy)
      clear hy e0 e1
      obtain ⟨yl, yp⟩ := y
      dsimp only at *
      go_wp2
      have d0 : (wr.alloc (.cells #[.int .u8 yl, .int .i64 yp] 258)).cell? ⟨wr.heap.size, 0, none⟩ = some (.int .u8 yl) := by have := rangeAt_new wr [.int .u8 yl, .int .i64 yp] 258 0 _ rfl; exact this
      have d1 : (wr.alloc (.cells #[.int .u8 yl, .int .i64 yp] 258)).cell? ⟨wr.heap.size, 1, none⟩ = some (.int .i64 yp) := by have := rangeAt_new wr [.int .u8 yl, .int .i64 yp] 258 1 _ rfl; exact this
      have hB1 : Below w.heap.size w (wr.alloc (.cells #[.int .u8 yl, .int .i64 yp] 258)) := hB.alloc hB.size _
      have hr1 := World.rangeAt_alloc hr (.cells #[.int .u8 yl, .int .i64 yp] 258)
      have ht1 := World.there_alloc ht (.cells #[.int .u8 yl, .int .i64 yp] 258)
      have htr1 := World.there_alloc htr (.cells #[.int .u8 yl, .int .i64 yp] 258)
      have hs1 : (wr.alloc (.cells #[.int .u8 yl, .int .i64 yp] 258)).heap.size = wr.heap.size + 1 := by simp
      generalize (wr.alloc (.cells #[.int .u8 yl, .int .i64 yp] 258)) = W1 at *
      generalize hq : wr.heap.size = q at *
      clear hr ht htr hB c0 c1
      go_loopg [19] n (fun g2 i wq => ∃ j : Nat, j + g2 = n ∧ i = .int .i64 j ∧ wq.rangeAt (w.heap.size + 1) 0 (tbC (cpt kpR' ys xs k j)) ∧ wq.there (w.heap.size + 1) 0 801 ∧ wq.there w.heap.size 0 801 ∧ q + 1 ≤ wq.heap.size ∧ wq.cell? ⟨q, 0, none⟩ = some (.int .u8 yl) ∧ wq.cell? ⟨q, 1, none⟩ = some (.int .i64 yp) ∧ Below w.heap.size w wq)
      case atStart => exact ⟨0, by omega, rfl, hr1, ht1, htr1, by omega, d0, d1, hB1⟩
      case round =>
        obtain ⟨j, hj, rfl, hr, ht, htr, hsz2, d0, d1, hB⟩ := hrel
        clear hr1 ht1 htr1 hB1
        cases gk with
        | zero =>
          obtain rfl : j = n := by omega
          have hji : ¬ (j : Int) < j := by omega
          rw [HCRk.out] at hr
          go_wp2
          go_roundg g
          case measure => omega
          case rel => exact ⟨k + 1, by omega, by first | rfl | simp, hr, ht, htr, by omega, hB⟩
        | succ g2 =>
          have hlt2 : j < n := by omega
          obtain ⟨x, hx2⟩ := HGX.out j hlt2
          obtain ⟨b2, o2, rfl, hb2, e0, e1⟩ := HX.out j x hx2
          have c0 := (hB.cell (p := ⟨b2, o2 + j * 2, none⟩) hb2).trans e0
          have c1 := (hB.cell (p := ⟨b2, o2 + j * 2 + 1, none⟩) hb2).trans e1
          have hji : (j : Int) < n := by omega
          have hj0 : (0 : Int) ≤ j := by omega
          have HS := hide (HCNk.out j x hx2)
          have HBK := hide (HBRk.out j x hx2)
          have hxb := HXB.out x (HMX.out j x hx2)
          have hle := HLE.out k j (x.2 - yp)
          clear hx2 e0 e1
          obtain ⟨xl, xp⟩ := x
          dsimp only at *
          have hw1 := IntWalk.i64_in (xp - yp) ⟨by omega, by omega⟩
          have hfin := hB.size
          have hbA : Below wr.heap.size wr (wr.alloc (.cells #[.int .u8 xl, .int .i64 xp] 258)) := (Below.refl _ _).alloc (Nat.le_refl _) _
          have D0 := (hbA.cell (p := ⟨q, 0, none⟩) (by show q < _; omega)).trans d0
          have D1 := (hbA.cell (p := ⟨q, 1, none⟩) (by show q < _; omega)).trans d1
          have hrA := World.rangeAt_alloc hr (.cells #[.int .u8 xl, .int .i64 xp] 258)
          have htA := World.there_alloc ht (.cells #[.int .u8 xl, .int .i64 xp] 258)
          have htrA := World.there_alloc htr (.cells #[.int .u8 xl, .int .i64 xp] 258)
          have hBA : Below w.heap.size w (wr.alloc (.cells #[.int .u8 xl, .int .i64 xp] 258)) := hB.alloc hB.size _
          have D0b := (hbA.cell (p := ⟨q, 0, none⟩) (by show q < _; omega)).trans d0
          have HD0 := hide D0b
          have HD1 := hide D1
          have hsA : (wr.alloc (.cells #[.int .u8 xl, .int .i64 xp] 258)).heap.size = wr.heap.size + 1 := by simp
          have HHR := hide hrA
          have HHT := hide htA
          have HTR := hide htrA
          have HBA := hide hBA
          have HSA := hide hsA
          clear hbA D0b hrA htA htrA hBA hsA hr ht htr d0 d1
          by_cases h400 : 400 < xp - yp
          · have HE := hide (HBK.out h400)
            go_wp2
            go_roundg g
            case measure => omega
            case rel => exact ⟨k + 1, by omega, by first | rfl | simp, by rw [← HE.out]; exact HHR.out, HHT.out, HTR.out, by rw [HSA.out]; omega, HBA.out⟩
          · by_cases hlo : -400 ≤ xp - yp
            · by_cases hxy : xl = yl
              · subst hxy
                have hdd : (xl == xl) = true := by simp
                obtain ⟨t, ht⟩ : ∃ t : Nat, (t : Int) = xp - yp + 400 := ⟨(xp - yp + 400).toNat, by omega⟩
                have ht8 : t < 801 := by omega
                have HE : Hid (tbC (cpt kpR' ys xs k (j + 1)) = (tbC (cpt kpR' ys xs k j)).set t (.int .i64 ((cpt kpR' ys xs k j (xp - yp) : Nat) + 1 : Int))) := hide (tbC_hit ⟨hlo, by omega⟩ (fun d => by
                  rw [HS.out]
                  by_cases hd : d = xp - yp
                  · subst hd; simp [kpR', kpR]
                  · have hk0 : kpR' (xl, yp) (xl, xp) d = false := by simp [kpR', kpR]; omega
                    rw [hk0, if_neg hd]; rfl) ht)
                have ct0 : (wr.alloc (.cells #[.int .u8 xl, .int .i64 xp] 258)).cell? ⟨w.heap.size + 1, t, none⟩ = some (.int .i64 ((cpt kpR' ys xs k j (xp - yp) : Nat) : Int)) := by
                  have := rangeAt_cell HHR.out (tbC_get (cpt kpR' ys xs k j) ht8)
                  rw [show (t : Int) - 400 = xp - yp by omega] at this
                  exact this
                have f1 := (HHT.out t ht8).2
                rw [Nat.zero_add] at f1
                have hw2 := IntWalk.i64_in (400 + (xp - yp)) ⟨by omega, by omega⟩
                have hw3 := IntWalk.i64_in (((cpt kpR' ys xs k j (xp - yp) : Nat) : Int) + 1) ⟨by omega, by omega⟩
                have h0q : (0 : Int) ≤ 400 + (xp - yp) := by omega
                have hiq : 400 + (xp - yp) < 801 := by omega
                have hqn : t = (400 + (xp - yp)).toNat := by omega
                rw [hqn] at ct0 f1
                have HQ := hide hqn
                clear hqn ht
                generalize cpt kpR' ys xs k j (xp - yp) = Vc at *
                go_wp2
                go_roundg g2
                case measure => omega
                case rel =>
                  refine ⟨j + 1, by omega, by first | rfl | simp, ?_, there_set HHT.out _ _, there_set HTR.out _ _, by rw [size_setCell, HSA.out]; omega, ?_, ?_, HBA.out.setCell (by show w.heap.size ≤ w.heap.size + 1; omega) _⟩
                  · rw [HE.out, ← HQ.out]; exact rangeAt_set HHR.out t _ (by rw [tbC_len]; exact ht8)
                  · rw [World.cell?_setCell_other _ _ _ _ (by intro he; injection he with he _; omega)]; exact HD0.out
                  · rw [World.cell?_setCell_other _ _ _ _ (by intro he; injection he with he _; omega)]; exact HD1.out
              · have hdd : (xl == yl) = false := by simp [hxy]
                have HE : Hid (tbC (cpt kpR' ys xs k (j + 1)) = tbC (cpt kpR' ys xs k j)) := hide (tbC_same fun d q1 q2 => by
                  rw [HS.out]
                  have hk0 : kpR' (yl, yp) (xl, xp) d = false := by simp [kpR', kpR]; omega
                  rw [hk0]; rfl)
                go_wp2
                go_roundg g2
                case measure => omega
                case rel => exact ⟨j + 1, by omega, by first | rfl | simp, by rw [HE.out]; exact HHR.out, HHT.out, HTR.out, by rw [HSA.out]; omega, HD0.out, HD1.out, HBA.out⟩
            · skip
              have HE : Hid (tbC (cpt kpR' ys xs k (j + 1)) = tbC (cpt kpR' ys xs k j)) := hide (tbC_same fun d q1 q2 => by
                rw [HS.out]
                have hk0 : kpR' (yl, yp) (xl, xp) d = false := by simp [kpR', kpR]; omega
                rw [hk0]; rfl)
              go_wp2
              go_roundg g2
              case measure => omega
              case rel => exact ⟨j + 1, by omega, by first | rfl | simp, by rw [HE.out]; exact HHR.out, HHT.out, HTR.out, by rw [HSA.out]; omega, HD0.out, HD1.out, HBA.out⟩
end Go.Proofs.YtngondeaeipcfaaGreatDoor

namespace Go.Proofs.YtngondeaeipcfaaGreatDoor
open Go Go.RowKit

/-- What the program knows ahead of the shifts of a size. -/
def bsQ (C : Int → Int) : Nat → Int × Int
  | 0 => (0, -1)
  | n + 1 => bsStep C (bsStep C (bsQ C n) (n : Int)) (-(n : Int))
theorem bsQ_G {C : Int → Int} (h : 0 ≤ C 0) : ∀ n, bsQ C (n + 1) = bsG C n
  | 0 => by
    show bsStep C (bsStep C (0, -1) 0) (-0) = _
    have e : bsStep C (0, -1) 0 = (0, C 0) := by unfold bsStep; rw [if_pos (by simp only; omega)]
    rw [e]
    unfold bsStep
    simp [bsG]
  | n + 1 => by
    rw [bsQ, bsQ_G h n]
    show bsStep C (bsStep C (bsG C n) ((n + 1 : Nat) : Int)) (-((n + 1 : Nat) : Int)) = bsG C (n + 1)
    rw [bsG]; simp

set_option maxRecDepth 100000 in
set_option maxHeartbeats 8000000 in
theorem bestShift_any (A1 : Option Addr) (xs : List Pr) (c1 : Nat) (A2 : Option Addr) (ys : List Pr) (c2 : Nat) (w : World) (hx : xs.length ≤ 60) (hy : ys.length ≤ 60)
    (hxb : ∀ p ∈ xs, 0 ≤ p.2 ∧ p.2 ≤ 240000) (hyb : ∀ p ∈ ys, 0 ≤ p.2 ∧ p.2 ≤ 240000) (hs : xs.Pairwise (fun a b => a.2 ≤ b.2)) (hA : RowsAt 2 plc w w.heap.size A1 xs) (hY : RowsAt 2 plc w w.heap.size A2 ys) :
    Calls Tryz.prog 186 #[.slice A1 xs.length c1, .slice A2 ys.length c2] w fun e w' => e = .returned (.tuple #[.int .i64 (bsG (cntS xs ys) 400).1, .int .i64 (bsG (cntS xs ys) 400).2]) ∧ Below w.heap.size w w' := by
  have HC := hide (countShifts_any A1 xs c1 A2 ys c2 w hx hy hxb hyb hs hA hY)
  have HCB := hide (fun d => show cntS xs ys d = ((shT kpR' ys xs d : Nat) : Int) from cntS_swap xs ys d)
  have HQ := hide (bsQ_G (C := cntS xs ys) (by unfold cntS; omega) 400)
  have HLE := hide (fun d => show ((shT kpR' ys xs d : Nat) : Int) ≤ 3660 from by have := cpt_le kpR' ys xs hy hx ys.length 0 d; rw [cpt_end] at this; omega)
  rw [← HQ.out]
  clear hxb hyb hs hA hY HQ
  generalize cntS xs ys = C at *
  generalize shT kpR' ys xs = V at *
  go_enter Tryz.func186, Tryz.ntmps186
  go_wp2_with fail
  refine HC.out.mono ?_
  rintro e w1 ⟨rfl, hb1⟩
  have z1 := hb1.size
  have t1 : (w1.alloc (.cells Tryz.zeroCells255 255)).there w1.heap.size 0 801 := there_newg rfl (by rw [tb_zc]; exact tb_len _)
  obtain ⟨W2, hW2⟩ : ∃ W2, W2 = (w1.alloc (.cells Tryz.zeroCells255 255)).setCells w1.heap.size 0 (tbC V).toArray.toList := ⟨_, rfl⟩
  have r2 : W2.rangeAt w1.heap.size 0 (tbC V) := by rw [hW2]; exact World.rangeAt_setCells_same _ _ _ _ (by rw [tbC_len]; exact t1)
  have b2 : Below w.heap.size w W2 := by rw [hW2]; exact below_setCells _ _ _ _ (hb1.alloc z1 _) z1
  have s2 : W2.heap.size = w1.heap.size + 1 := by rw [hW2, size_setCells]; simp
  have HW2 := hide hW2
  clear HC hb1 hW2
  go_wp2_with (refine wpList_store_mid rfl 255 (.tmp 6) (.tmp 15) rfl w1.heap.size 0 (tbC V).toArray rfl rfl (by rw [tb_len]; exact t1) (by rw [tb_len]; exact tb_size) (tbC_one _) ?_; rw [← HW2.out])
  have HC2 := hide (fun (q : Nat) (hq : q < 801) => show W2.cell? ⟨w1.heap.size, q, none⟩ = some (.int .i64 (C ((q : Int) - 400))) from by
    rw [HCB.out]; exact rangeAt_cell r2 (tbC_get V hq))
  have HCL := hide (fun d => show 0 ≤ C d ∧ C d ≤ 3660 from ⟨by rw [HCB.out]; omega, by rw [HCB.out]; exact HLE.out d⟩)
  clear r2 t1 HLE HCB
  go_loopw [7, 8, 16] (fun be mo i wr => ∃ t : Nat, t ≤ 401 ∧ be = .int .i64 (bsQ C t).1 ∧ mo = .int .i64 (bsQ C t).2 ∧ i = .int .i64 (t : Int) ∧ Below W2.heap.size W2 wr)
    (fun _ _ i _ => 401 - (intOf i).toNat)
  case atStart => exact ⟨0, by omega, rfl, rfl, rfl, Below.refl _ _⟩
  case round =>
    obtain ⟨t, ht, rfl, rfl, rfl, hB⟩ := hrel
    by_cases hlt : t < 401
    · have hi : (t : Int) < 401 := by omega
      have h0 : (0 : Int) ≤ t := by omega
      have HST : Hid (bsQ C (t + 1) = bsStep C (bsStep C (bsQ C t) (t : Int)) (-(t : Int))) := hide rfl
      have HSD : Hid (∀ s d, bsStep C s d = if s.2 < C d then (d, C d) else s) := hide (fun _ _ => rfl)
      have hng := IntWalk.i64_in (-(t : Int)) ⟨by omega, by omega⟩
      have hbA : Below wr.heap.size wr (wr.alloc (.cells #[.int .i64 (t : Int), .int .i64 (-(t : Int))] 2)) := (Below.refl _ _).alloc (Nat.le_refl _) _
      have hBA := hB.trans (hbA.mono hB.size)
      have e0 : (wr.alloc (.cells #[.int .i64 (t : Int), .int .i64 (-(t : Int))] 2)).cell? ⟨wr.heap.size, 0, none⟩ = some (.int .i64 t) := rangeAt_new wr [.int .i64 (t : Int), .int .i64 (-(t : Int))] 2 0 _ rfl
      have e1 : (wr.alloc (.cells #[.int .i64 (t : Int), .int .i64 (-(t : Int))] 2)).cell? ⟨wr.heap.size, 1, none⟩ = some (.int .i64 (-(t : Int))) := rangeAt_new wr [.int .i64 (t : Int), .int .i64 (-(t : Int))] 2 1 _ rfl
      obtain ⟨N1, hN1⟩ : ∃ N1 : Nat, (N1 : Int) = 400 + (t : Int) := ⟨400 + t, by omega⟩
      obtain ⟨N2, hN2⟩ : ∃ N2 : Nat, (N2 : Int) = 400 + -(t : Int) := ⟨400 - t, by omega⟩
      have q1 := (hBA.cell (p := ⟨w1.heap.size, N1, none⟩) (by show w1.heap.size < _; omega)).trans (HC2.out N1 (by omega))
      have q2 := (hBA.cell (p := ⟨w1.heap.size, N2, none⟩) (by show w1.heap.size < _; omega)).trans (HC2.out N2 (by omega))
      rw [show (N1 : Int) - 400 = (t : Int) by omega] at q1
      rw [show (N2 : Int) - 400 = -(t : Int) by omega] at q2
      have hwa := (IntWalk.i64_in (400 + (t : Int)) ⟨by omega, by omega⟩).trans hN1.symm
      have hwb := (IntWalk.i64_in (400 + -(t : Int)) ⟨by omega, by omega⟩).trans hN2.symm
      have z1 : (0 : Int) ≤ N1 := by omega
      have z2 : (N1 : Int) < 801 := by omega
      have z3 : (0 : Int) ≤ N2 := by omega
      have z4 : (N2 : Int) < 801 := by omega
      have HBA := hide hBA
      clear hN1 hN2 hbA hBA
      rw [HSD.out, HSD.out] at HST
      generalize C (t : Int) = v1 at *
      generalize C (-(t : Int)) = v2 at *
      generalize bsQ C t = so at *
      obtain ⟨p, o⟩ := so
      dsimp only at HST ⊢
      go_wp2
      generalize (wr.alloc (.cells #[.int .i64 (t : Int), .int .i64 (-(t : Int))] 2)) = W3 at *
      go_loopw [7, 8, 24] (fun be mo i wq => ∃ j : Nat, j ≤ 2 ∧ i = .int .i64 (j : Int) ∧ wq = W3 ∧ (j = 0 → be = .int .i64 p ∧ mo = .int .i64 o) ∧ (j = 1 → be = .int .i64 (if o < v1 then ((t : Int), v1) else (p, o)).1 ∧ mo = .int .i64 (if o < v1 then ((t : Int), v1) else (p, o)).2) ∧
          (j = 2 → be = .int .i64 (bsQ C (t + 1)).1 ∧ mo = .int .i64 (bsQ C (t + 1)).2)) (fun _ _ i _ => 2 - (intOf i).toNat)
      case atStart => exact ⟨0, by omega, rfl, rfl, fun _ => ⟨rfl, rfl⟩, fun h => by omega, fun h => by omega⟩
      case round =>
        obtain ⟨j, hj, rfl, rfl, k0, k1, k2⟩ := hrel
        have hcs : j = 0 ∨ j = 1 ∨ j = 2 := by omega
        rcases hcs with rfl | rfl | rfl
        · obtain ⟨rfl, rfl⟩ := k0 rfl
          clear k1 k2
          by_cases g1 : o < v1
          · go_wp2
            exact ⟨⟨1, by omega, by go_num, by first | rfl | trivial, fun h => by omega, fun _ => by rw [if_pos g1]; exact ⟨rfl, rfl⟩, fun h => by omega⟩, by simp [intOf]⟩
          · go_wp2
            exact ⟨⟨1, by omega, by go_num, by first | rfl | trivial, fun h => by omega, fun _ => by rw [if_neg g1]; exact ⟨rfl, rfl⟩, fun h => by omega⟩, by simp [intOf]⟩
        · obtain ⟨rfl, rfl⟩ := k1 rfl
          clear k0 k2
          generalize (if o < v1 then ((t : Int), v1) else (p, o)) = s1 at *
          obtain ⟨p1, o1⟩ := s1
          dsimp only at *
          by_cases g1 : o1 < v2
          · rw [if_pos g1] at HST
            go_wp2
            exact ⟨⟨2, by omega, by go_num, by first | rfl | trivial, fun h => by omega, fun h => by omega, fun _ => by rw [HST.out]; exact ⟨rfl, rfl⟩⟩, by simp [intOf]⟩
          · rw [if_neg g1] at HST
            go_wp2
            exact ⟨⟨2, by omega, by go_num, by first | rfl | trivial, fun h => by omega, fun h => by omega, fun _ => by rw [HST.out]; exact ⟨rfl, rfl⟩⟩, by simp [intOf]⟩
        · obtain ⟨rfl, rfl⟩ := k2 rfl
          clear k0 k1
          go_wp2
          exact ⟨⟨t + 1, by omega, rfl, rfl, by go_num, HBA.out⟩, by simp [intOf]; omega⟩
    · obtain rfl : t = 401 := by omega
      have hfin := b2.trans (hB.mono b2.size)
      clear HC2
      go_wp2
      go_ret2
      exact ⟨rfl, hfin⟩

/-- What BestShift tells. -/
noncomputable def bsT (F : Fc) (L M : List UInt8) : Int × Int × Int := if ktB F L M = true then ((bsG (cntS (psL F L) (psL F M)) 400).1, (bsG (cntS (psL F L) (psL F M)) 400).2, 0) else (0, 0, 1)
theorem bsT_no {F : Fc} {L M : List UInt8} (h : ktB F L M = false) : bsT F L M = (0, 0, 1) := by unfold bsT; rw [h]; rfl
theorem bsT_ok {F : Fc} {L M : List UInt8} (h : ktB F L M = true) : bsT F L M = ((bsG (cntS (psL F L) (psL F M)) 400).1, (bsG (cntS (psL F L) (psL F M)) 400).2, 0) := by unfold bsT; rw [h]; rfl

set_option maxRecDepth 100000 in
set_option maxHeartbeats 8000000 in
theorem implBestShift_any (F : Fc) (hF : F.ok) (A : Option Addr) (c : Nat) (s : ByteArray) (hs : s.size ≤ maxLen) (t : ByteArray) (ht : t.size ≤ maxLen) (w : World) (hG : Glob w) (hA : PairsAt w w.heap.size A F.ps) :
    Calls Tryz.prog 88 #[.agg (fc F (.slice A F.ps.length c)).toArray, .string s, .string t] w fun e w' => e = .returned (.tuple #[.int .i64 (bsT F s.data.toList t.data.toList).1, .int .i64 (bsT F s.data.toList t.data.toList).2.1, .int .i64 (bsT F s.data.toList t.data.toList).2.2]) ∧ Below w.heap.size w w' := by
  obtain ⟨W0, hW0⟩ : ∃ W0, W0 = (w.alloc (.cells (fc F (.slice A F.ps.length c)).toArray 28)) := ⟨_, rfl⟩
  have b0 : Below w.heap.size w W0 := by rw [hW0]; exact (Below.refl _ _).alloc (Nat.le_refl _) _
  have r0 : W0.rangeAt w.heap.size 0 (fc F (.slice A F.ps.length c)) := by rw [hW0]; exact rangeAt_new w (fc F (.slice A F.ps.length c)) 28
  have s0 : w.heap.size < W0.heap.size := by rw [hW0]; simp
  have HI29 := hide (show (Tryz.prog.info? 28).map (·.size) = some (fc F (.slice A F.ps.length c)).length from by rw [fc_length hF.len]; kernel_rfl)
  have hA0 := (hA.below b0).mono b0.size
  have hG0 := hG.below b0
  have HF := hide (implValidFace_any F hF A c W0 hA0)
  have HS := hide (fun W => implValidText_any s W hs)
  have HT := hide (fun W => implValidText_any t W ht)
  have HW0 := hide hW0
  have HG := hide (show ktB F s.data.toList t.data.toList = (vface F && (vtext s.data.toList && vtext t.data.toList)) from rfl)
  have HNO := hide (@bsT_no F s.data.toList t.data.toList)
  have HOK := hide (@bsT_ok F s.data.toList t.data.toList)
  have HPL := hide (fun (hv : vface F = true) (x : ByteArray) (hx : vtext x.data.toList = true) W (hW : Below W0.heap.size W0 W) => placedIn_any F hF A c x W hv hx (hG0.below hW) (hA0.go hW (Nat.le_refl _)))
  have hbd : ∀ (_ : vface F = true) (x : ByteArray) (_ : vtext x.data.toList = true), ∀ p ∈ psL F x.data.toList, 0 ≤ p.2 ∧ p.2 ≤ 240000 := fun hv x hx p hp => by
    unfold psL at hp
    obtain ⟨i, hi⟩ := List.getElem?_of_mem hp
    have hil := (List.getElem?_eq_some_iff.1 hi).1
    rw [psT_len] at hil
    rw [psT_get hil] at hi
    injection hi with hi
    rw [← hi]
    exact getD_bd (plL_bd hF hv hx) (by rw [plL_lett]; exact hil)
  have hps : ∀ (_ : vface F = true) (x : ByteArray) (_ : vtext x.data.toList = true), (psL F x.data.toList).Pairwise (fun a b => a.2 ≤ b.2) := fun hv x hx => by
    have h := plL_sorted hF hv hx
    unfold psL psT
    rw [List.pairwise_map]
    refine List.Pairwise.imp_of_mem ?_ (List.pairwise_lt_range (n := (lettL x.data.toList).length))
    intro i j hi hj hij
    have hj := List.mem_range.1 hj
    have hl := plL_lett F x.data.toList
    have := List.pairwise_iff_getElem.1 h i j (by omega) (by omega) hij
    simp only [List.getD_eq_getElem?_getD, List.getElem?_eq_getElem (show i < (plL F (wordsL x.data.toList)).length by omega), List.getElem?_eq_getElem (show j < (plL F (wordsL x.data.toList)).length by omega), Option.getD_some]
    exact this
  have hln : ∀ (x : ByteArray) (_ : vtext x.data.toList = true), (psL F x.data.toList).length ≤ 60 := fun x hx => by
    unfold psL; rw [psT_len]; exact Nat.le_trans (lettL_len _) (vtext_true.1 hx).1
  have HBS := hide (fun (hv : vface F = true) (h1 : vtext s.data.toList = true) (h2 : vtext t.data.toList = true) A1 c1 A2 c2 W hA hY =>
    bestShift_any A1 (psL F s.data.toList) c1 A2 (psL F t.data.toList) c2 W (hln s h1) (hln t h2) (hbd hv s h1) (hbd hv t h2) (hps hv s h1) hA hY)
  have hsm := hs
  have htm := ht
  unfold maxLen at hsm htm
  clear hW0 hA hG hA0 hG0 hs ht hbd hps hln
  generalize fc F (.slice A F.ps.length c) = fcs at *
  cases h1 : vface F
  · rw [h1] at HF
    have e1 := HNO.out (by rw [HG.out, h1]; rfl)
    rw [e1]
    clear e1 HPL HBS
    go_enter Tryz.func88, Tryz.ntmps88
    repeat (first | (rw [← HW0.out]) | (refine wpList_load_mid rfl 28 (.tmp 3) rfl _ 0 rfl fcs _ r0 Tryz.underlying28 rfl HI29.out ?_) | go_step)
    refine HF.out.mono ?_
    rintro e w1 ⟨rfl, hb1⟩
    go_wp2
    go_ret3
    exact ⟨rfl, b0.trans (hb1.mono b0.size)⟩
  rw [h1] at HF
  cases h2 : vtext s.data.toList
  · rw [h2] at HS
    have e1 := HNO.out (by rw [HG.out, h1, h2]; rfl)
    rw [e1]
    clear e1 HPL HBS
    go_enter Tryz.func88, Tryz.ntmps88
    repeat (first | (rw [← HW0.out]) | (refine wpList_load_mid rfl 28 (.tmp 3) rfl _ 0 rfl fcs _ r0 Tryz.underlying28 rfl HI29.out ?_) | go_step)
    refine HF.out.mono ?_
    rintro e w1 ⟨rfl, hb1⟩
    have hB1 := b0.trans (hb1.mono b0.size)
    go_wp2_with fail
    refine (HS.out _).mono ?_
    rintro e w2 ⟨rfl, hb2⟩
    go_wp2
    go_ret3
    exact ⟨rfl, hB1.trans (hb2.mono hB1.size)⟩
  rw [h2] at HS
  cases h3 : vtext t.data.toList
  · rw [h3] at HT
    have e1 := HNO.out (by rw [HG.out, h1, h2, h3]; rfl)
    rw [e1]
    clear e1 HPL HBS
    go_enter Tryz.func88, Tryz.ntmps88
    repeat (first | (rw [← HW0.out]) | (refine wpList_load_mid rfl 28 (.tmp 3) rfl _ 0 rfl fcs _ r0 Tryz.underlying28 rfl HI29.out ?_) | go_step)
    refine HF.out.mono ?_
    rintro e w1 ⟨rfl, hb1⟩
    have hB1 := b0.trans (hb1.mono b0.size)
    go_wp2_with fail
    refine (HS.out _).mono ?_
    rintro e w2 ⟨rfl, hb2⟩
    have hB2 := hB1.trans (hb2.mono hB1.size)
    go_wp2_with fail
    refine (HT.out _).mono ?_
    rintro e w3 ⟨rfl, hb3⟩
    go_wp2
    go_ret3
    exact ⟨rfl, hB2.trans (hb3.mono hB2.size)⟩
  rw [h3] at HT
  have e1 := HOK.out (by rw [HG.out, h1, h2, h3]; rfl)
  rw [e1]
  have HP := hide (HPL.out h1)
  have HP1 := hide (HP.out s h2)
  have HP2 := hide (HP.out t h3)
  have HKK := hide (HBS.out h1 h2 h3)
  unfold PlB at HP1 HP2
  clear e1 HPL HBS HNO HOK HG h1 h2 h3 HP
  generalize psL F s.data.toList = xs at *
  generalize psL F t.data.toList = ys at *
  generalize bsG (cntS xs ys) 400 = V at *
  go_enter Tryz.func88, Tryz.ntmps88
  repeat (first | (rw [← HW0.out]) | (refine wpList_load_mid rfl 28 (.tmp 3) rfl _ 0 rfl fcs _ r0 Tryz.underlying28 rfl HI29.out ?_) | go_step)
  refine HF.out.mono ?_
  rintro e w1 ⟨rfl, hb1⟩
  go_wp2_with fail
  refine (HS.out _).mono ?_
  rintro e w2 ⟨rfl, hb2⟩
  have hB2 := hb1.trans (hb2.mono hb1.size)
  go_wp2_with fail
  refine (HT.out _).mono ?_
  rintro e w3 ⟨rfl, hb3⟩
  have hB3 := hB2.trans (hb3.mono hB2.size)
  go_wp2_with fail
  have r3 := rangeAt_below r0 hB3 s0
  have hz3 := hB3.size
  have hfin := b0.trans (hB3.mono b0.size)
  have HR3 := hide (fun w' (hb : Below w3.heap.size w3 w') => rangeAt_below r3 hb (by omega))
  clear hb1 hb2 hB2 hb3 r0 r3
  refine wp_region_script [(0, true), (1, true), (3, true), (4, true), (2, false), (5, false), (6, false), (7, false), (8, true), (9, true), (10, true), (11, false)]
    (fun w' => Below w3.heap.size w3 w') (by kernel_rfl) (by kernel_rfl) (of_decide_eq_true (by kernel_rfl)) (by kernel_rfl) (fun _ _ d _ _ h => by cases d <;> exact h) ((Below.refl _ _).drew) ?_
  refine sc_take (.agg fcs.toArray) rfl (yieldsIf_load_mid (by rfl) _ (.tmp 3) rfl _ 0 rfl _ _ (fun w h => HR3.out w h) Tryz.underlying28 rfl HI29.out) ?_
  refine sc_take (.string s) rfl (.inl ⟨rfl, fun w _ => by kernel_rfl⟩) ?_
  refine sc_take (.agg fcs.toArray) rfl (yieldsIf_load_mid (by rfl) _ (.tmp 3) rfl _ 0 rfl _ _ (fun w h => HR3.out w h) Tryz.underlying28 rfl HI29.out) ?_
  refine sc_take (.string t) rfl (.inl ⟨rfl, fun w _ => by kernel_rfl⟩) ?_
  simp only [Act.put, List.setIfInBounds_toArray, List.set_cons_zero, List.set_cons_succ]
  refine sc_step rfl ?_
  go_wp2_with fail
  refine (HP1.out _ (hB3.trans (((Below.refl _ _).drew).mono hz3))).mono ?_
  rintro e w5 ⟨A1, c1, rfl, hc1, hI1, hb5⟩
  replace hb5 := (Below.refl _ _).drew.trans hb5
  change Below w3.heap.size w3 w5 at hb5
  go_wp2_with fail
  refine ⟨hb5, sc_step rfl ?_⟩
  go_wp2_with fail
  refine (HP2.out _ (hB3.trans (hb5.mono hz3))).mono ?_
  rintro e w6 ⟨A2, c2, rfl, hc2, hI2, hb6⟩
  have hB6 := hb5.trans (hb6.mono hb5.size)
  go_wp2_with fail
  refine ⟨hB6, sc_step rfl ?_⟩
  go_wp2_with fail
  refine (HKK.out A1 c1 A2 c2 _ (hI1.go hb6).at_ hI2.at_).mono ?_
  rintro e w7 ⟨rfl, hb7⟩
  have hB7 := hB6.trans (hb7.mono hB6.size)
  go_wp2_with fail
  refine ⟨hB7, sc_step rfl ?_⟩
  go_wp2_with fail
  refine ⟨hB7, ?_⟩
  refine sc_take (.int .i64 V.1) rfl (.inl ⟨rfl, fun w _ => by kernel_rfl⟩) ?_
  refine sc_take (.int .i64 V.2) rfl (.inl ⟨rfl, fun w _ => by kernel_rfl⟩) ?_
  simp only [Act.put, List.setIfInBounds_toArray, List.set_cons_zero, List.set_cons_succ]
  refine sc_take (.int .i64 V.1) rfl (.inl ⟨rfl, fun w _ => by kernel_rfl⟩) ?_
  simp only [Act.put, List.setIfInBounds_toArray, List.set_cons_zero, List.set_cons_succ]
  refine sc_step rfl ?_
  go_wp2_with fail
  refine ⟨hB7, sc_nil ?_⟩
  go_wp2
  go_ret3
  exact ⟨rfl, hfin.trans (hB7.mono hfin.size)⟩
end Go.Proofs.YtngondeaeipcfaaGreatDoor
