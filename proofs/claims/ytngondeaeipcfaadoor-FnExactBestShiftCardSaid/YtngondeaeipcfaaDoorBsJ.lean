/- The shift that keeps the most letters: the program's. -/
import Derived.Test.YtngondeaeipcfaaDoorBsP
import Derived.Test.YtngondeaeipcfaaDoorKpJ
import Derived.Test.YtngondeaeipcfaaDoorCtP
import Derived.WalkMore
import Derived.Deep.LoopGhost
namespace Go.Proofs.YtngondeaeipcfaaDoor
open Go Go.RowKit

theorem tbC_one (C : Int → Nat) : (tbC C).toArray.all (·.oneCell') = true := all_oneCell_toArray (by
  unfold tbC
  intro v hv
  obtain ⟨k, _, rfl⟩ := List.mem_map.1 hv
  rfl)
def isZ (v : Value) : Bool := match v with
  | .int .i64 0 => true
  | _ => false
theorem isZ_eq {v : Value} (h : isZ v = true) : v = .int .i64 0 := by
  unfold isZ at h
  split at h
  · rfl
  · cases h
/-- The zero of the table. -/
theorem tb_zero : (Tryd.zeroCells242.toList.all isZ && Tryd.zeroCells242.size == 801) = true := by kernel_rfl
theorem tb_size : (Tryd.prog.info? 242).map (·.size) = some 801 := by kernel_rfl
theorem tb_zc : Tryd.zeroCells242 = (tbC fun _ => 0).toArray := by
  have h := tb_zero
  rw [Bool.and_eq_true, beq_iff_eq] at h
  obtain ⟨h1, h2⟩ := h
  apply Array.ext
  · rw [h2]; simp [tbC]
  · intro j hj1 hj2
    rw [isZ_eq (List.all_eq_true.1 h1 _ (Array.getElem_mem_toList hj1))]
    simp [tbC]
theorem tb_len (C : Int → Nat) : (tbC C).toArray.size = 801 := by rw [List.size_toArray, tbC_len]
set_option maxRecDepth 100000 in
set_option maxHeartbeats 8000000 in
theorem countShifts_any (A1 : Option Addr) (xs : List Pr) (c1 : Nat) (A2 : Option Addr) (ys : List Pr) (c2 : Nat) (w : World) (hx : xs.length ≤ 60) (hy : ys.length ≤ 60)
    (hxb : ∀ p ∈ xs, 0 ≤ p.2 ∧ p.2 ≤ 240000) (hyb : ∀ p ∈ ys, 0 ≤ p.2 ∧ p.2 ≤ 240000) (hs : xs.Pairwise (fun a b => a.2 ≤ b.2)) (hA : RowsAt 2 plc w w.heap.size A1 xs) (hY : RowsAt 2 plc w w.heap.size A2 ys) :
    Calls Tryd.prog 173 #[.slice A1 xs.length c1, .slice A2 ys.length c2] w fun e w' => e = .returned (.agg (tbC (shT kpR' ys xs)).toArray) ∧ Below w.heap.size w w' := by
  have b0 : Below w.heap.size w ((w.alloc (.cells (tbC fun _ => 0).toArray 242)).alloc (.cells (tbC fun _ => 0).toArray 242)) := ((Below.refl _ _).alloc (Nat.le_refl _) _).alloc (by simp) _
  have r0 : ((w.alloc (.cells (tbC fun _ => 0).toArray 242)).alloc (.cells (tbC fun _ => 0).toArray 242)).rangeAt (w.heap.size + 1) 0 (tbC fun _ => 0) := rangeAt_newg (by simp) rfl
  have t0 : ((w.alloc (.cells (tbC fun _ => 0).toArray 242)).alloc (.cells (tbC fun _ => 0).toArray 242)).there (w.heap.size + 1) 0 801 := there_newg (by simp) (tb_len _)
  have t1 : ((w.alloc (.cells (tbC fun _ => 0).toArray 242)).alloc (.cells (tbC fun _ => 0).toArray 242)).there w.heap.size 0 801 := World.there_alloc (there_newg rfl (tb_len _)) _
  have s0 : ((w.alloc (.cells (tbC fun _ => 0).toArray 242)).alloc (.cells (tbC fun _ => 0).toArray 242)).heap.size = w.heap.size + 1 + 1 := by simp
  have HC0 : Hid (tbC (fun _ => 0) = tbC (cpt kpR' ys xs 0 0)) := hide (tbC_same fun d _ _ => (cpt_zero _ _ _ d).symm)
  have HX := hide (fun k p h => RowsAt.two hA (k := k) (p := p) h)
  have HY := hide (fun k p h => RowsAt.two hY (k := k) (p := p) h)
  have HXB := hide hxb
  have HYB := hide hyb
  have HCR := hide (fun i y (h : ys[i]? = some y) => show tbC (cpt kpR' ys xs i xs.length) = tbC (cpt kpR' ys xs (i + 1) 0) from tbC_same fun d _ _ => by rw [cpt_row h])
  have HCN := hide (fun i k y x (hi : ys[i]? = some y) (hk : xs[k]? = some x) (d : Int) => cpt_succ (R := kpR') hi hk d)
  have HLE := hide (fun i k d => cpt_le kpR' ys xs hy hx i k d)
  have HBR := hide (fun i k y x (hi : ys[i]? = some y) (hk : xs[k]? = some x) (h : 400 < x.2 - y.2) => show tbC (cpt kpR' ys xs i k) = tbC (cpt kpR' ys xs (i + 1) 0) from tbC_same fun d d1 d2 => by
    refine (cpt_break hi fun b hb => ?_).symm
    have hle : x.2 ≤ b.2 := by
      obtain ⟨j, hj⟩ := List.getElem?_of_mem hb
      rw [List.getElem?_drop] at hj
      obtain ⟨hk1, hk2⟩ := List.getElem?_eq_some_iff.1 hk
      obtain ⟨hj1, hj2⟩ := List.getElem?_eq_some_iff.1 hj
      by_cases e : j = 0
      · subst e; simp only [Nat.add_zero] at hj2; rw [hk2] at hj2; rw [hj2]; exact Int.le_refl _
      · have := List.pairwise_iff_getElem.1 hs k (k + j) hk1 hj1 (by omega)
        rw [hk2, hj2] at this; exact this
    unfold kpR' kpR
    simp only [Bool.and_eq_false_iff, beq_eq_false_iff_ne]
    right; omega)
  have HCE : Hid (tbC (cpt kpR' ys xs ys.length 0) = tbC (shT kpR' ys xs)) := hide (tbC_same fun d _ _ => cpt_end _ _ _ d)
  have HGX := hide (fun k (h : k < xs.length) => (⟨xs[k], List.getElem?_eq_getElem h⟩ : ∃ p, xs[k]? = some p))
  have HGY := hide (fun k (h : k < ys.length) => (⟨ys[k], List.getElem?_eq_getElem h⟩ : ∃ p, ys[k]? = some p))
  have HMX := hide (fun k p (h : xs[k]? = some p) => List.mem_of_getElem? h)
  have HMY := hide (fun k p (h : ys[k]? = some p) => List.mem_of_getElem? h)
  obtain ⟨n, hN⟩ : ∃ n, xs.length = n := ⟨_, rfl⟩
  obtain ⟨m, hM⟩ : ∃ m, ys.length = m := ⟨_, rfl⟩
  rw [hN] at hx HCR HGX ⊢
  rw [hM] at hy HCE HGY ⊢
  clear hxb hyb hs hA hY hN hM
  go_enter Tryd.func173, Tryd.ntmps173
  go_wp2
  go_step3
  go_wp2
  rw [tb_zc]
  generalize ((w.alloc (.cells (tbC fun _ => 0).toArray 242)).alloc (.cells (tbC fun _ => 0).toArray 242)) = W0 at *
  rw [HC0.out] at r0
  go_step3
  go_wp2
  go_loopg [13] m (fun g i wr => ∃ k : Nat, k + g = m ∧ i = .int .i64 k ∧ wr.rangeAt (w.heap.size + 1) 0 (tbC (cpt kpR' ys xs k 0)) ∧ wr.there (w.heap.size + 1) 0 801 ∧ wr.there w.heap.size 0 801 ∧ w.heap.size + 2 ≤ wr.heap.size ∧ Below w.heap.size w wr)
  case atStart => exact ⟨0, by omega, rfl, r0, t0, t1, by omega, b0⟩
  case round =>
    obtain ⟨k, hk, rfl, hr, ht, htr, hsz, hB⟩ := hrel
    clear r0 t0 t1 b0 s0 HC0
    cases gk with
    | zero =>
      obtain rfl : k = m := by omega
      have hi : ¬ (k : Int) < k := by omega
      rw [HCE.out] at hr
      obtain ⟨V, hV⟩ : ∃ V, shT kpR' ys xs = V := ⟨_, rfl⟩
      have HV := hide hV
      rw [hV] at hr
      clear hV
      go_wp2_with (first
        | (refine wpList_load_mid rfl 242 (.tmp 5) rfl _ 0 rfl (tbC V) _ hr Tryd.underlying242 rfl (by rw [tbC_len]; exact tb_size) ?_)
        | (refine wpList_store_mid rfl 242 (.tmp 4) (.tmp 47) rfl w.heap.size 0 (tbC V).toArray rfl rfl (by rw [tb_len]; exact htr) (by rw [tb_len]; exact tb_size) (tbC_one _) ?_))
      try rw [Exit.noGoto_ret]
      refine bodyPost_ret (results_mid rfl _ _ w.heap.size 0 (tbC V) _ rfl (World.rangeAt_setCells_same _ _ _ _ (by rw [tbC_len]; exact htr)) Tryd.underlying242 rfl (by rw [tbC_len]; exact tb_size)) rfl ⟨by rw [HV.out], ?_⟩
      exact below_setCells _ _ _ _ hB (Nat.le_refl _)
    | succ g =>
      have hlt : k < m := by omega
      obtain ⟨y, hy⟩ := HGY.out k hlt
      obtain ⟨b, o, rfl, hb, e0, e1⟩ := HY.out k y hy
      have c0 := (hB.cell (p := ⟨b, o + k * 2, none⟩) hb).trans e0
      have c1 := (hB.cell (p := ⟨b, o + k * 2 + 1, none⟩) hb).trans e1
      have hi : (k : Int) < m := by omega
      have h0 : (0 : Int) ≤ k := by omega
      have HCRk := hide (HCR.out k y hy)
      have HCNk := hide (fun j x h d => HCN.out k j y x hy h d)
      have HBRk := hide (fun j x h h2 => HBR.out k j y x hy h h2)
      have hyb := HYB.out y (HMY.out k y hy)
      clear hy e0 e1
      obtain ⟨yl, yp⟩ := y
      dsimp only at *
      go_wp2
      have d0 : (wr.alloc (.cells #[.int .u8 yl, .int .i64 yp] 247)).cell? ⟨wr.heap.size, 0, none⟩ = some (.int .u8 yl) := by have := rangeAt_new wr [.int .u8 yl, .int .i64 yp] 247 0 _ rfl; exact this
      have d1 : (wr.alloc (.cells #[.int .u8 yl, .int .i64 yp] 247)).cell? ⟨wr.heap.size, 1, none⟩ = some (.int .i64 yp) := by have := rangeAt_new wr [.int .u8 yl, .int .i64 yp] 247 1 _ rfl; exact this
      have hB1 : Below w.heap.size w (wr.alloc (.cells #[.int .u8 yl, .int .i64 yp] 247)) := hB.alloc hB.size _
      have hr1 := World.rangeAt_alloc hr (.cells #[.int .u8 yl, .int .i64 yp] 247)
      have ht1 := World.there_alloc ht (.cells #[.int .u8 yl, .int .i64 yp] 247)
      have htr1 := World.there_alloc htr (.cells #[.int .u8 yl, .int .i64 yp] 247)
      have hs1 : (wr.alloc (.cells #[.int .u8 yl, .int .i64 yp] 247)).heap.size = wr.heap.size + 1 := by simp
      generalize (wr.alloc (.cells #[.int .u8 yl, .int .i64 yp] 247)) = W1 at *
      generalize hq : wr.heap.size = q at *
      clear hr ht htr hB c0 c1
      go_loopg [19] n (fun g2 i wq => ∃ j : Nat, j + g2 = n ∧ i = .int .i64 j ∧ wq.rangeAt (w.heap.size + 1) 0 (tbC (cpt kpR' ys xs k j)) ∧ wq.there (w.heap.size + 1) 0 801 ∧ wq.there w.heap.size 0 801 ∧ q + 1 ≤ wq.heap.size ∧ wq.cell? ⟨q, 0, none⟩ = some (.int .u8 yl) ∧ wq.cell? ⟨q, 1, none⟩ = some (.int .i64 yp) ∧ Below w.heap.size w wq)
      case atStart => exact ⟨0, by omega, rfl, hr1, ht1, htr1, by omega, d0, d1, hB1⟩
      case round =>
        obtain ⟨j, hj, rfl, hr, ht, htr, hsz2, d0, d1, hB⟩ := hrel
        clear hr1 ht1 htr1 hB1
        cases gk with
        | zero =>
          obtain rfl : j = n := by omega
          have hji : ¬ (j : Int) < j := by omega
          rw [HCRk.out] at hr
          go_wp2
          go_roundg g
          case measure => omega
          case rel => exact ⟨k + 1, by omega, by first | rfl | simp, hr, ht, htr, by omega, hB⟩
        | succ g2 =>
          have hlt2 : j < n := by omega
          obtain ⟨x, hx2⟩ := HGX.out j hlt2
          obtain ⟨b2, o2, rfl, hb2, e0, e1⟩ := HX.out j x hx2
          have c0 := (hB.cell (p := ⟨b2, o2 + j * 2, none⟩) hb2).trans e0
          have c1 := (hB.cell (p := ⟨b2, o2 + j * 2 + 1, none⟩) hb2).trans e1
          have hji : (j : Int) < n := by omega
          have hj0 : (0 : Int) ≤ j := by omega
          have HS := hide (HCNk.out j x hx2)
          have HBK := hide (HBRk.out j x hx2)
          have hxb := HXB.out x (HMX.out j x hx2)
          have hle := HLE.out k j (x.2 - yp)
          clear hx2 e0 e1
          obtain ⟨xl, xp⟩ := x
          dsimp only at *
          have hw1 := IntWalk.i64_in (xp - yp) ⟨by omega, by omega⟩
          have hfin := hB.size
          have hbA : Below wr.heap.size wr (wr.alloc (.cells #[.int .u8 xl, .int .i64 xp] 247)) := (Below.refl _ _).alloc (Nat.le_refl _) _
          have D0 := (hbA.cell (p := ⟨q, 0, none⟩) (by show q < _; omega)).trans d0
          have D1 := (hbA.cell (p := ⟨q, 1, none⟩) (by show q < _; omega)).trans d1
          have hrA := World.rangeAt_alloc hr (.cells #[.int .u8 xl, .int .i64 xp] 247)
          have htA := World.there_alloc ht (.cells #[.int .u8 xl, .int .i64 xp] 247)
          have htrA := World.there_alloc htr (.cells #[.int .u8 xl, .int .i64 xp] 247)
          have hBA : Below w.heap.size w (wr.alloc (.cells #[.int .u8 xl, .int .i64 xp] 247)) := hB.alloc hB.size _
          have D0b := (hbA.cell (p := ⟨q, 0, none⟩) (by show q < _; omega)).trans d0
          have HD0 := hide D0b
          have HD1 := hide D1
          have hsA : (wr.alloc (.cells #[.int .u8 xl, .int .i64 xp] 247)).heap.size = wr.heap.size + 1 := by simp
          have HHR := hide hrA
          have HHT := hide htA
          have HTR := hide htrA
          have HBA := hide hBA
          have HSA := hide hsA
          clear hbA D0b hrA htA htrA hBA hsA hr ht htr d0 d1
          by_cases h400 : 400 < xp - yp
          · have HE := hide (HBK.out h400)
            go_wp2
            go_roundg g
            case measure => omega
            case rel => exact ⟨k + 1, by omega, by first | rfl | simp, by rw [← HE.out]; exact HHR.out, HHT.out, HTR.out, by rw [HSA.out]; omega, HBA.out⟩
          · by_cases hlo : -400 ≤ xp - yp
            · by_cases hxy : xl = yl
              · subst hxy
                have hdd : (xl == xl) = true := by simp
                obtain ⟨t, ht⟩ : ∃ t : Nat, (t : Int) = xp - yp + 400 := ⟨(xp - yp + 400).toNat, by omega⟩
                have ht8 : t < 801 := by omega
                have HE : Hid (tbC (cpt kpR' ys xs k (j + 1)) = (tbC (cpt kpR' ys xs k j)).set t (.int .i64 ((cpt kpR' ys xs k j (xp - yp) : Nat) + 1 : Int))) := hide (tbC_hit ⟨hlo, by omega⟩ (fun d => by
                  rw [HS.out]
                  by_cases hd : d = xp - yp
                  · subst hd; simp [kpR', kpR]
                  · have hk0 : kpR' (xl, yp) (xl, xp) d = false := by simp [kpR', kpR]; omega
                    rw [hk0, if_neg hd]; rfl) ht)
                have ct0 : (wr.alloc (.cells #[.int .u8 xl, .int .i64 xp] 247)).cell? ⟨w.heap.size + 1, t, none⟩ = some (.int .i64 ((cpt kpR' ys xs k j (xp - yp) : Nat) : Int)) := by
                  have := rangeAt_cell HHR.out (tbC_get (cpt kpR' ys xs k j) ht8)
                  rw [show (t : Int) - 400 = xp - yp by omega] at this
                  exact this
                have f1 := (HHT.out t ht8).2
                rw [Nat.zero_add] at f1
                have hw2 := IntWalk.i64_in (400 + (xp - yp)) ⟨by omega, by omega⟩
                have hw3 := IntWalk.i64_in (((cpt kpR' ys xs k j (xp - yp) : Nat) : Int) + 1) ⟨by omega, by omega⟩
                have h0q : (0 : Int) ≤ 400 + (xp - yp) := by omega
                have hiq : 400 + (xp - yp) < 801 := by omega
                have hqn : t = (400 + (xp - yp)).toNat := by omega
                rw [hqn] at ct0 f1
                have HQ := hide hqn
                clear hqn ht
                generalize cpt kpR' ys xs k j (xp - yp) = Vc at *
                go_wp2
                go_roundg g2
                case measure => omega
                case rel =>
                  refine ⟨j + 1, by omega, by first | rfl | simp, ?_, there_set HHT.out _ _, there_set HTR.out _ _, by rw [size_setCell, HSA.out]; omega, ?_, ?_, HBA.out.setCell (by show w.heap.size ≤ w.heap.size + 1; omega) _⟩
                  · rw [HE.out, ← HQ.out]; exact rangeAt_set HHR.out t _ (by rw [tbC_len]; exact ht8)
                  · rw [World.cell?_setCell_other _ _ _ _ (by intro he; injection he with he _; omega)]; exact HD0.out
                  · rw [World.cell?_setCell_other _ _ _ _ (by intro he; injection he with he _; omega)]; exact HD1.out
              · have hdd : (xl == yl) = false := by simp [hxy]
                have HE : Hid (tbC (cpt kpR' ys xs k (j + 1)) = tbC (cpt kpR' ys xs k j)) := hide (tbC_same fun d q1 q2 => by
                  rw [HS.out]
                  have hk0 : kpR' (yl, yp) (xl, xp) d = false := by simp [kpR', kpR]; omega
                  rw [hk0]; rfl)
                go_wp2
                go_roundg g2
                case measure => omega
                case rel => exact ⟨j + 1, by omega, by first | rfl | simp, by rw [HE.out]; exact HHR.out, HHT.out, HTR.out, by rw [HSA.out]; omega, HD0.out, HD1.out, HBA.out⟩
            · skip
              have HE : Hid (tbC (cpt kpR' ys xs k (j + 1)) = tbC (cpt kpR' ys xs k j)) := hide (tbC_same fun d q1 q2 => by
                rw [HS.out]
                have hk0 : kpR' (yl, yp) (xl, xp) d = false := by simp [kpR', kpR]; omega
                rw [hk0]; rfl)
              go_wp2
              go_roundg g2
              case measure => omega
              case rel => exact ⟨j + 1, by omega, by first | rfl | simp, by rw [HE.out]; exact HHR.out, HHT.out, HTR.out, by rw [HSA.out]; omega, HD0.out, HD1.out, HBA.out⟩
end Go.Proofs.YtngondeaeipcfaaDoor
