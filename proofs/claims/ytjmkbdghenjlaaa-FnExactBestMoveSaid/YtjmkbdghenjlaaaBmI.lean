/- BestMove of the program. -/
import Derived.Test.YtjmkbdghenjlaaaBmL
namespace Go.Proofs.Ytjmkbdghenjlaaa
open Go Go.RowKit

theorem Try.infoMM : (Try.prog.info? 48).map (fun i => (i.zero, i.size, i.bytes)) = some (some (.agg #[.int .i64 0, .int .i64 0, .int .i64 0]), 3, 24) := by kernel_rfl
set_option maxHeartbeats 1000000 in
theorem moverM_any (x y : Int) (w : World) :
    Calls Try.prog 18 #[.agg #[.int .i64 x, .int .i64 y]] w fun e w' => e = .returned (.func (.func 32) #[] #[.pointer (some ⟨w.heap.size, 0, none⟩)]) ∧ w' = w.alloc (.cells #[.int .i64 x, .int .i64 y] 42) := by
  go_enter Try.func18, Try.ntmps18
  go_wp2
  go_ret
  exact ⟨rfl, rfl⟩
theorem mmL_okM (R S : List Nat) (k : Nat) (hk : k ≤ 121) : ∀ p ∈ mmL (bmF R S) k, okM p := fun p hp => by
  unfold mmL at hp
  obtain ⟨q, hq, rfl⟩ := List.mem_map.1 hp
  obtain ⟨j, hj⟩ := List.getElem?_of_mem hq
  have hjk : j < k := by have := (List.getElem?_eq_some_iff.1 hj).1; rwa [mvL_len] at this
  have hj2 : (mvL 5 121)[j]? = some q := by
    rw [mvL_get (show j < 121 by omega)]
    rw [mvL_get hjk] at hj
    exact hj
  exact ⟨mv5_bd hj2, bmF_bd R S _ _⟩

set_option maxRecDepth 100000 in
set_option maxHeartbeats 16000000 in
theorem implBestMove_any (R : List Nat) (hR : rok R) (S : List Nat) (hS : rok S) (w : World) :
    Calls Try.prog 8 #[.agg (rwc R).toArray, .agg (rwc S).toArray] w fun e w' => e = .returned (.tuple #[.int .i64 (bmV (bmF R S)).1, .int .i64 (bmV (bmF R S)).2.1, .int .i64 (bmV (bmF R S)).2.2]) ∧ Below w.heap.size w w' := by
  obtain ⟨i0, hi0, hz0, hz1, hz2⟩ := info_parts Try.infoMM
  have HIR := hide (rw_info hR.1)
  have HIS := hide (rw_info hS.1)
  have hb0 : Below w.heap.size w ((w.alloc (.cells (rwc R).toArray 26)).alloc (.cells (rwc S).toArray 26)) := ((Below.refl _ _).alloc (Nat.le_refl _) _).alloc (by simp) _
  have s0 : ((w.alloc (.cells (rwc R).toArray 26)).alloc (.cells (rwc S).toArray 26)).heap.size = w.heap.size + 1 + 1 := by simp
  have r0 : ((w.alloc (.cells (rwc R).toArray 26)).alloc (.cells (rwc S).toArray 26)).rangeAt w.heap.size 0 (rwc R) := World.rangeAt_alloc (rangeAt_new _ _ _) _
  have r1 : ((w.alloc (.cells (rwc R).toArray 26)).alloc (.cells (rwc S).toArray 26)).rangeAt (w.heap.size + 1) 0 (rwc S) := rangeAt_newg (by simp) rfl
  have HB0 := hide hb0
  have HM := hide (fun x y (h : inM x y) P W hp => mover1_any S hS P x y h.1 h.2 W hp)
  have HMT := hide (fun x y W => show Calls Try.prog 17 #[.agg (rwc R).toArray, .agg (rwc (mvR S x y)).toArray] W (fun e w' => e = .returned (.int .i64 (bmF R S x y)) ∧ Below W.heap.size W w') from implMatchOf_any R hR (mvR S x y) (rubF_ok _) W)
  have HOKM := hide (mmL_okM R S 121 (Nat.le_refl _))
  have HSU := hide (fun (k : Nat) (p : Pr) h => @mmL_succ (bmF R S) k p h)
  have HLN := hide (mmL_len (bmF R S))
  have HVV := hide (show bmV (bmF R S) = msA (msO (mmL (bmF R S) 121)) from rfl)
  clear hb0 hR hS
  go_enter Try.func8, Try.ntmps8
  go_wp2_with fail
  generalize ((w.alloc (.cells (rwc R).toArray 26)).alloc (.cells (rwc S).toArray 26)) = W0 at *
  generalize hFE : bmF R S = f at *
  have HFE := hide hFE
  clear hFE
  refine (movesWithin_any 5 (by omega) W0).mono ?_
  rintro e w1 ⟨Am, cm, rfl, hIm, hb1⟩
  have HIM := hide hIm.at_
  have hr1 := rangeAt_below r0 hb1 (by omega)
  have hr2 := rangeAt_below r1 hb1 (by omega)
  have hB1 := HB0.out.trans (hb1.mono HB0.out.size)
  have z1 := hb1.size
  have hown0 := World.ownsRow_nil w1 w1.heap.size 48 3
  clear hIm hb1 r0 r1
  go_wp2
  go_loopw [7, 13] (fun br i wr => ∃ k : Nat, k ≤ 121 ∧ i = .int .i64 k ∧ wr.ownsRow w1.heap.size 48 3 br k ((mmL f k).flatMap mmC) ∧ Below w1.heap.size w1 wr)
    (fun _ i _ => 121 - (intOf i).toNat)
  case atStart => exact ⟨0, by omega, rfl, hown0, Below.refl _ _⟩
  case round =>
    obtain ⟨k, hk, rfl, hown, hBw⟩ := hrel
    obtain ⟨Ab, cbb, rfl, hcap, _⟩ := cellsIn_of_own hown (by omega)
    have HOWN := hide hown
    clear hown
    have hbs := hBw.size
    by_cases hlt : k < 121
    · obtain ⟨p, hp⟩ : ∃ p, (mvL 5 121)[k]? = some p := ⟨(mvL 5 121)[k]'(by rw [mvL_len]; exact hlt), List.getElem?_eq_getElem _⟩
      obtain ⟨x, y⟩ := p
      obtain ⟨b, oo, rfl, hb, e0, e1⟩ := P2At.row HIM.out hp
      have c0 : wr.cell? ⟨b, oo + k * 2, none⟩ = some (.int .i64 x) := (hBw.cell (p := ⟨b, oo + k * 2, none⟩) hb).trans e0
      have c1 : wr.cell? ⟨b, oo + k * 2 + 1, none⟩ = some (.int .i64 y) := (hBw.cell (p := ⟨b, oo + k * 2 + 1, none⟩) hb).trans e1
      have HBD := hide (mv5_bd hp)
      have hi : (k : Int) < 121 := by omega
      have h0 : (0 : Int) ≤ k := by omega
      have HRA := hide (rangeAt_new' wr #[.int .i64 x, .int .i64 y] 42)
      have hBA : Below w1.heap.size w1 (wr.alloc (.cells #[.int .i64 x, .int .i64 y] 42)) := hBw.alloc hbs _
      have HE := hide (HSU.out k (x, y) hp)
      have HMM := hide (HM.out x y HBD.out)
      have HMTT := hide (HMT.out x y)
      have HS7 := hide (show (wr.alloc (.cells #[.int .i64 x, .int .i64 y] 42)).heap.size = wr.heap.size + 1 by simp)
      have HRW := hide (fun w' (h : Below w1.heap.size w1 w') => (⟨rangeAt_below hr1 h (by omega), rangeAt_below hr2 h (by omega)⟩ : w'.rangeAt w.heap.size 0 (rwc R) ∧ w'.rangeAt (w.heap.size + 1) 0 (rwc S)))
      have HOWN7 := hide (HOWN.out.alloc (.cells #[.int .i64 x, .int .i64 y] 42))
      clear hp e0 e1 HBD
      generalize mvR S x y = T at *
      generalize hfv : f x y = v at *
      have HFV := hide hfv
      clear hfv
      go_wp2
      generalize (wr.alloc (.cells #[.int .i64 x, .int .i64 y] 42)) = W7 at *
      refine wp_region_script [(0, true), (1, true), (2, true), (3, true), (5, true), (4, false), (6, false), (7, false), (8, false), (9, false), (10, false), (11, false)]
        (fun w' => Below w1.heap.size w1 w' ∧ w'.rangeAt wr.heap.size 0 [.int .i64 x, .int .i64 y]) (by kernel_rfl) (by kernel_rfl) (of_decide_eq_true (by kernel_rfl)) (by kernel_rfl) (fun _ _ d _ _ h => by cases d <;> exact h) (⟨hBA.drew, HRA.out⟩) ?_
      refine sc_take (.slice Ab k cbb) rfl (.inl ⟨rfl, fun w' h => rfl⟩) ?_
      simp only [List.getElem_toArray, List.getElem_cons_succ, List.getElem_cons_zero, Act.put, List.setIfInBounds_toArray, List.set_cons_zero, List.set_cons_succ]
      refine sc_take (.agg #[.int .i64 x, .int .i64 y]) rfl (yieldsIf_load_mid (by rfl) _ (.tmp 9) rfl _ 0 rfl [.int .i64 x, .int .i64 y] _ (fun w h => h.2) Try.underlying42 rfl (by kernel_rfl)) ?_
      simp only [List.getElem_toArray, List.getElem_cons_succ, List.getElem_cons_zero, Act.put, List.setIfInBounds_toArray, List.set_cons_zero, List.set_cons_succ]
      refine sc_take (.agg (rwc R).toArray) rfl (yieldsIf_load_mid (by rfl) _ (.tmp 2) rfl _ 0 rfl _ _ (fun w h => (HRW.out w h.1).1) Try.underlying26 rfl HIR.out) ?_
      simp only [List.getElem_toArray, List.getElem_cons_succ, List.getElem_cons_zero, Act.put, List.setIfInBounds_toArray, List.set_cons_zero, List.set_cons_succ]
      refine sc_take (.agg #[.int .i64 x, .int .i64 y]) rfl (yieldsIf_load_mid (by rfl) _ (.tmp 9) rfl _ 0 rfl [.int .i64 x, .int .i64 y] _ (fun w h => h.2) Try.underlying42 rfl (by kernel_rfl)) ?_
      simp only [List.getElem_toArray, List.getElem_cons_succ, List.getElem_cons_zero, Act.put, List.setIfInBounds_toArray, List.set_cons_zero, List.set_cons_succ]
      refine sc_take (.agg (rwc S).toArray) rfl (yieldsIf_load_mid (by rfl) _ (.tmp 3) rfl _ 0 rfl _ _ (fun w h => (HRW.out w h.1).2) Try.underlying26 rfl HIS.out) ?_
      simp only [List.getElem_toArray, List.getElem_cons_succ, List.getElem_cons_zero, Act.put, List.setIfInBounds_toArray, List.set_cons_zero, List.set_cons_succ]
      have hSd : Below W7.heap.size W7 W7.drew := (Below.refl _ _).drew
      refine sc_step rfl ?_
      go_wp2_with fail
      refine (moverM_any _ _ _).mono ?_
      rintro e w2 ⟨rfl, hw2⟩
      have hx2 : Below W7.heap.size W7 w2 := by rw [hw2]; exact hSd.alloc (Nat.le_refl _) _
      have hp2 : w2.rangeAt W7.heap.size 0 [.int .i64 x, .int .i64 y] := by rw [hw2]; exact rangeAt_new' W7.drew #[.int .i64 x, .int .i64 y] 42
      have HCC := hide (HMM.out W7.heap.size w2 hp2)
      have hs2 : Below w1.heap.size w1 w2 ∧ w2.rangeAt wr.heap.size 0 [.int .i64 x, .int .i64 y] := ⟨hBA.trans (hx2.mono hBA.size), rangeAt_below HRA.out hx2 (by have := HS7.out; omega)⟩
      clear hw2 hp2
      go_wp2_with fail
      refine ⟨hs2, sc_step rfl ?_⟩
      go_wp2_with fail
      refine HCC.out.mono ?_
      rintro e w3 ⟨rfl, hb3⟩
      have hx3 := hx2.trans (hb3.mono hx2.size)
      have hs3 : Below w1.heap.size w1 w3 ∧ w3.rangeAt wr.heap.size 0 [.int .i64 x, .int .i64 y] := ⟨hBA.trans (hx3.mono hBA.size), rangeAt_below HRA.out hx3 (by have := HS7.out; omega)⟩
      clear hb3 HCC
      go_wp2_with fail
      refine ⟨hs3, sc_step rfl ?_⟩
      go_wp2_with fail
      refine (HMTT.out _).mono ?_
      rintro e w5 ⟨rfl, hb5⟩
      have hx5 := hx3.trans (hb5.mono hx3.size)
      have hs5 : Below w1.heap.size w1 w5 ∧ w5.rangeAt wr.heap.size 0 [.int .i64 x, .int .i64 y] := ⟨hBA.trans (hx5.mono hBA.size), rangeAt_below HRA.out hx5 (by have := HS7.out; omega)⟩
      clear hb5
      go_wp2_with fail
      refine ⟨hs5, sc_step rfl ?_⟩
      go_wp2_with fail
      refine ⟨hs5, sc_step rfl ?_⟩
      go_wp2_with fail
      have hx4 : Below W7.heap.size W7 (w5.alloc (.cells #[.int .i64 x, .int .i64 y, .int .i64 v] 48)) := hx5.alloc hx5.size _
      have hs4 : Below w1.heap.size w1 (w5.alloc (.cells #[.int .i64 x, .int .i64 y, .int .i64 v] 48)) ∧ (w5.alloc (.cells #[.int .i64 x, .int .i64 y, .int .i64 v] 48)).rangeAt wr.heap.size 0 [.int .i64 x, .int .i64 y] := ⟨hBA.trans (hx4.mono hBA.size), rangeAt_below HRA.out hx4 (by have := HS7.out; omega)⟩
      refine ⟨hs4, sc_step rfl ?_⟩
      have hownd := own_go HOWN7.out hx4
      have hnews : ∀ (j : Nat) (u : Value), ([.int .i64 x, .int .i64 y, .int .i64 v] : List Value)[j]? = some u → (w5.alloc (.cells #[.int .i64 x, .int .i64 y, .int .i64 v] 48)).cell? ((⟨w5.heap.size, 0, none⟩ : Addr).add j) = some u := fun j u hu => by
        have := rangeAt_new' w5 #[.int .i64 x, .int .i64 y, .int .i64 v] 48 j u hu
        rw [addr_add]; exact this
      have hone : ∀ u ∈ ([.int .i64 x, .int .i64 y, .int .i64 v] : List Value), u.oneCell' = true := by
        intro u hu
        simp only [List.mem_cons, List.not_mem_nil, or_false] at hu
        rcases hu with rfl | rfl | rfl <;> rfl
      have hz3 := hx5.size
      have hz7 := HS7.out
      refine wpList_append_own _ rfl (.tmp 17) (.tmp 26) 38 rfl w1.heap.size 48 i0 (.agg #[.int .i64 0, .int .i64 0, .int .i64 0]) 3 24 Try.underlying38 hi0 hz0 hz1 hz2 rfl (by decide) _ k _ rfl hownd ⟨w5.heap.size, 0, none⟩ 1 1 [.int .i64 x, .int .i64 y, .int .i64 v] rfl rfl hnews hone ?h1 ?h2 ?h3 ?_
      case h1 => unfold maxLen; omega
      case h2 => omega
      case h3 => exact hs4.1.size
      intro v' w4 hown4 hg4 _
      obtain ⟨A4, c4, rfl, _, _⟩ := cellsIn_of_own hown4 (by omega)
      have H4 := hide hown4
      have hlt9 : wr.heap.size < (w5.alloc (.cells #[.int .i64 x, .int .i64 y, .int .i64 v] 48)).heap.size := by simp; omega
      have hS5 : Below w1.heap.size w1 w4 ∧ w4.rangeAt wr.heap.size 0 [.int .i64 x, .int .i64 y] := ⟨hs4.1.trans (grown_toBelow hg4 hs4.1.size (fun k hk => (hownd.lt k hk).1)), grown_row hg4 hs4.2 hlt9 (fun e => by have := (HOWN.out.lt _ e.symm).2; omega)⟩
      clear hown4 hg4
      go_wp2_with fail
      refine ⟨hS5, sc_step rfl ?_⟩
      go_wp2_with fail
      refine ⟨hS5, sc_nil ?_⟩
      go_wp2
      refine ⟨⟨k + 1, by omega, by go_num, ?_, hS5.1⟩, by simp [intOf]; omega⟩
      rw [HE.out, List.flatMap_append]
      exact H4.out
    · obtain rfl : k = 121 := by omega
      obtain ⟨Ag, cg, ee, _, hI⟩ := rowsIn_of_own (c := mmC) (z := 3) (fun a => rfl) (by omega) HOWN.out (HLN.out 121).symm
      injection ee with ee1 ee2 ee3
      subst ee1 ee3
      have hLS : Calls Try.prog 19 #[.slice Ab 121 cbb, .func (.func 20) #[] #[]] wr fun e w' => e = .returned (.agg #[.int .i64 (bmV f).1, .int .i64 (bmV f).2.1, .int .i64 (bmV f).2.2]) ∧ Below wr.heap.size wr w' := by
        have := leastM_any Ab (mmL f 121) cbb wr (by rw [HLN.out]; omega) HOKM.out hI.at_
        rw [HLN.out, ← HVV.out] at this
        exact this
      have HLS := hide hLS
      have hB9 := hB1.trans (hBw.mono hB1.size)
      clear hLS hI hr1 hr2 HM HMT HSU
      generalize hVE : bmV f = V at *
      have HVE := hide hVE
      clear hVE
      obtain ⟨p, q, r⟩ := V
      go_wp2_with fail
      refine HLS.out.mono ?_
      rintro e w2 ⟨rfl, hb2⟩
      have hB2 := hB9.trans (hb2.mono hB9.size)
      have rA := rangeAt_new' w2 #[.int .i64 p, .int .i64 q, .int .i64 r] 48
      have d0 : (w2.alloc (.cells #[.int .i64 p, .int .i64 q, .int .i64 r] 48)).cell? ⟨w2.heap.size, 0, none⟩ = some (.int .i64 p) := rA 0 _ rfl
      have d1 : (w2.alloc (.cells #[.int .i64 p, .int .i64 q, .int .i64 r] 48)).cell? ⟨w2.heap.size, 1, none⟩ = some (.int .i64 q) := rA 1 _ rfl
      have d2 : (w2.alloc (.cells #[.int .i64 p, .int .i64 q, .int .i64 r] 48)).cell? ⟨w2.heap.size, 2, none⟩ = some (.int .i64 r) := rA 2 _ rfl
      have hB3 := hB2.alloc hB2.size (.cells #[.int .i64 p, .int .i64 q, .int .i64 r] 48)
      clear rA hb2
      go_wp2
      generalize (w2.alloc (.cells #[.int .i64 p, .int .i64 q, .int .i64 r] 48)) = W9 at *
      have c0 := Over.get d0
      have c1 := Over.get d1
      have c2 := Over.get d2
      clear d0 d1 d2
      refine wp_region_over (by kernel_rfl) (by kernel_rfl) ?_
      repeat (go_big_quiet_step (fail))
      refine wpQuiet_nil ?_
      intro w3 hb3
      clear c0 c1 c2
      go_wp2
      go_ret3
      exact ⟨rt3_of (by rw [HFE.out, HVE.out]), hB3.trans (hb3.mono hB3.size)⟩
end Go.Proofs.Ytjmkbdghenjlaaa
