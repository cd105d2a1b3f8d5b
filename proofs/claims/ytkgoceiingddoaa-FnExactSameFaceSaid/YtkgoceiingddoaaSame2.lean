/- The model's SameFace. -/
import Derived.Test.YtkgoceiingddoaaSame
namespace Go.Proofs.Ytkgoceiingddoaa
open Go.RowKit

set_option maxRecDepth 100000 in
set_option maxHeartbeats 4000000 in
theorem specSameFace_any (F G : Fc) (hF : F.ok) (hG : G.ok) (A A' : Option Addr) (c c' : Nat) (w : World) (hA : PairsAt w w.heap.size A F.ps) (hA' : PairsAt w w.heap.size A' G.ps) :
    Calls Try.prog 26 #[.agg (fc F (.slice A F.ps.length c)).toArray, .agg (fc G (.slice A' G.ps.length c')).toArray] w fun e w' => e = .returned (.bool (sameF F G)) ∧ Below w.heap.size w w' := by
  have hW := hide hF.len
  have hV := hide hG.len
  have r1 := World.rangeAt_alloc (rangeAt_new w (fc F (.slice A F.ps.length c)) 33) (.cells (fc G (.slice A' G.ps.length c')).toArray 33)
  have r2 := rangeAt_newg (w := w.alloc (.cells (fc F (.slice A F.ps.length c)).toArray 33)) (cs := (fc G (.slice A' G.ps.length c')).toArray) (t := 33) (g := w.heap.size + 1) (l := fc G (.slice A' G.ps.length c')) (by simp) rfl
  have b0 : Below w.heap.size w ((w.alloc (.cells (fc F (.slice A F.ps.length c)).toArray 33)).alloc (.cells (fc G (.slice A' G.ps.length c')).toArray 33)) := ((Below.refl _ _).alloc (Nat.le_refl _) _).alloc (by simp) _
  have hi26 : (Try.prog.info? 25).map (·.size) = some (wc F.W).length := by rw [wc_length, hW.out]; kernel_rfl
  have hi26' : (Try.prog.info? 25).map (·.size) = some (wc G.W).length := by rw [wc_length, hV.out]; kernel_rfl
  have HI26 := hide hi26
  have HI26' := hide hi26'
  clear hi26 hi26'
  have hq := run_neq_ints (P := Try.prog) (k := .i8) Try.underlying25 Try.underlying24 (fun _ => by kernel_rfl) F.W G.W hW.out hV.out
  change ∀ w, (binOp .neq 25 (.agg (wc F.W).toArray) (.agg (wc G.W).toArray)).run Try.prog w = _ at hq
  have x26 := rangeAt_cell r1 (fc_sp hW.out _)
  have x27 := rangeAt_cell r1 (fc_gp hW.out _)
  have x28 := rangeAt_cell r1 (fc_sl hW.out _)
  have y26 := rangeAt_cell r2 (fc_sp hV.out _)
  have y27 := rangeAt_cell r2 (fc_gp hV.out _)
  have y28 := rangeAt_cell r2 (fc_sl hV.out _)
  have hs : sameF F G = (decide (F.W = G.W) && (decide (F.sp = G.sp) && (decide (F.gp = G.gp) && decide (F.ps = G.ps)))) := rfl
  have HS := hide hs
  have hn := hF.n
  have hn' := hG.n
  unfold maxLen at hn hn'
  have HR := hide run_neq_pair
  have BA := hA.below b0
  have BA' := hA'.below b0
  clear hs hA hA'
  cases h1 : decide (F.W = G.W)
  · simp only [h1] at hq
    have H1 := hide h1
    clear h1
    go_enter Try.func26, Try.ntmps26
    go_wp2_with (first
      | (refine wpList_load_mid rfl 25 (.tmp 6) rfl _ 0 rfl (wc F.W) _ (rangeAt_left r1) Try.underlying25 rfl HI26.out ?_)
      | (refine wpList_load_mid rfl 25 (.tmp 8) rfl _ 0 rfl (wc G.W) _ (rangeAt_left r2) Try.underlying25 rfl HI26'.out ?_))
    go_ret
    exact ⟨ret_bool (by rw [HS.out, H1.out]; rfl), b0⟩
  · simp only [h1] at hq
    have H1 := hide h1
    clear h1
    cases h2 : (F.sp != G.sp)
    · cases h3 : (F.gp != G.gp)
      · by_cases hl : F.ps.length = G.ps.length
        · have hln : ((F.ps.length : Int) != G.ps.length) = false := by simp [hl]
          have hln2 : (F.ps.length != G.ps.length) = false := by simp [hl]
          have H2 := hide (of_decide_eq_true (by simpa using h2 : decide (F.sp = G.sp) = true))
          have H3 := hide (of_decide_eq_true (by simpa using h3 : decide (F.gp = G.gp) = true))
          have HL := hide hl
          clear hl
          go_enter Try.func26, Try.ntmps26
          go_wp2_with (first
            | (refine wpList_load_mid rfl 25 (.tmp 6) rfl _ 0 rfl (wc F.W) _ (rangeAt_left r1) Try.underlying25 rfl HI26.out ?_)
            | (refine wpList_load_mid rfl 25 (.tmp 8) rfl _ 0 rfl (wc G.W) _ (rangeAt_left r2) Try.underlying25 rfl HI26'.out ?_))
          clear hq x26 x27 y26 y27 r1 r2
          generalize ((w.alloc (.cells (fc F (.slice A F.ps.length c)).toArray 33)).alloc (.cells (fc G (.slice A' G.ps.length c')).toArray 33)) = W0 at *
          go_loopw [5] (fun i wr => ∃ k m : Nat, k ≤ F.ps.length ∧ i = .int .i64 k ∧ wr = W0.drewN m ∧ Hid (eqTo F.ps G.ps k))
            (fun i _ => F.ps.length - (intOf i).toNat)
          case atStart => exact ⟨0, 0, by omega, rfl, rfl, hide (fun j hj => absurd hj (by omega))⟩
          case round =>
            obtain ⟨k, m, hk, rfl, rfl, hg⟩ := hrel
            by_cases hlt : k < F.ps.length
            · have hlt' : k < G.ps.length := by rw [← HL.out]; exact hlt
              obtain ⟨b, o, rfl, hb, hps⟩ := BA (by intro e; rw [e] at hlt; simp at hlt)
              obtain ⟨b', o', rfl, hb', hps'⟩ := BA' (by intro e; rw [e] at hlt'; simp at hlt')
              obtain ⟨p, hp⟩ : ∃ p, F.ps[k]? = some p := ⟨F.ps[k]'hlt, List.getElem?_eq_getElem _⟩
              obtain ⟨q, hqq⟩ : ∃ q, G.ps[k]? = some q := ⟨G.ps[k]'hlt', List.getElem?_eq_getElem _⟩
              have hcell := hps k p hp
              have hcell' := hps' k q hqq
              obtain ⟨x, y, z⟩ := p
              obtain ⟨x', y', z'⟩ := q
              have c0 : W0.cell? ⟨b, o + k * 3, none⟩ = some (.int .u8 x) := hcell 0 _ rfl
              have c1 : W0.cell? ⟨b, o + k * 3 + 1, none⟩ = some (.int .u8 y) := hcell 1 _ rfl
              have c2 : W0.cell? ⟨b, o + k * 3 + 2, none⟩ = some (.int .i8 z) := hcell 2 _ rfl
              have d0 : W0.cell? ⟨b', o' + k * 3, none⟩ = some (.int .u8 x') := hcell' 0 _ rfl
              have d1 : W0.cell? ⟨b', o' + k * 3 + 1, none⟩ = some (.int .u8 y') := hcell' 1 _ rfl
              have d2 : W0.cell? ⟨b', o' + k * 3 + 2, none⟩ = some (.int .i8 z') := hcell' 2 _ rfl
              have hi : (k : Int) < F.ps.length := by omega
              have hi' : (k : Int) < G.ps.length := by omega
              have h0 : (0 : Int) ≤ k := by omega
              have hr := fun w => HR.out x y z x' y' z' w
              cases hd : decide ((x, y, z) = (x', y', z'))
              · simp only [hd] at hr
                go_wp2
                go_quiet (fail)
                clear c0 c1 c2 d0 d1 d2 hr
                go_wp2
                go_ret
                refine ⟨ret_bool ?_, below_drewN (below_drewN b0 _) _⟩
                have hne : F.ps ≠ G.ps := fun e => by rw [e, hqq] at hp; injection hp with hp; rw [hp] at hd; simp at hd
                rw [HS.out, decide_eq_false hne]; simp
              · simp only [hd] at hr
                go_wp2
                go_quiet (fail)
                clear c0 c1 c2 d0 d1 d2 hr
                go_wp2
                exact ⟨⟨k + 1, _, by omega, by go_num, rfl, hide (eqTo_succ hg.out (by rw [hp, hqq, of_decide_eq_true hd]))⟩, by simp [intOf]; omega⟩
            · obtain rfl : k = F.ps.length := by omega
              go_wp2
              go_ret
              refine ⟨ret_bool ?_, below_drewN b0 _⟩
              rw [HS.out, H1.out, decide_eq_true H2.out, decide_eq_true H3.out, decide_eq_true (eqTo_all HL.out hg.out)]; rfl
        · have hln : ((F.ps.length : Int) != G.ps.length) = true := by simp; omega
          have hln2 : (F.ps.length != G.ps.length) = true := by simp; omega
          have HN := hide hl
          clear hl
          go_enter Try.func26, Try.ntmps26
          go_wp2_with (first
            | (refine wpList_load_mid rfl 25 (.tmp 6) rfl _ 0 rfl (wc F.W) _ (rangeAt_left r1) Try.underlying25 rfl HI26.out ?_)
            | (refine wpList_load_mid rfl 25 (.tmp 8) rfl _ 0 rfl (wc G.W) _ (rangeAt_left r2) Try.underlying25 rfl HI26'.out ?_))
          go_ret
          exact ⟨ret_bool (by rw [HS.out, H1.out, decide_eq_true (by simpa using h2 : F.sp = G.sp), decide_eq_true (by simpa using h3 : F.gp = G.gp), decide_eq_false (fun e => HN.out (by rw [e]))]; rfl), b0⟩
      · go_enter Try.func26, Try.ntmps26
        go_wp2_with (first
          | (refine wpList_load_mid rfl 25 (.tmp 6) rfl _ 0 rfl (wc F.W) _ (rangeAt_left r1) Try.underlying25 rfl HI26.out ?_)
          | (refine wpList_load_mid rfl 25 (.tmp 8) rfl _ 0 rfl (wc G.W) _ (rangeAt_left r2) Try.underlying25 rfl HI26'.out ?_))
        go_ret
        exact ⟨ret_bool (by rw [HS.out, H1.out, decide_eq_true (by simpa using h2 : F.sp = G.sp), decide_eq_false (by simpa using h3)]; rfl), b0⟩
    · go_enter Try.func26, Try.ntmps26
      go_wp2_with (first
        | (refine wpList_load_mid rfl 25 (.tmp 6) rfl _ 0 rfl (wc F.W) _ (rangeAt_left r1) Try.underlying25 rfl HI26.out ?_)
        | (refine wpList_load_mid rfl 25 (.tmp 8) rfl _ 0 rfl (wc G.W) _ (rangeAt_left r2) Try.underlying25 rfl HI26'.out ?_))
      go_ret
      exact ⟨ret_bool (by rw [HS.out, H1.out, decide_eq_false (by simpa using h2)]; rfl), b0⟩
end Go.Proofs.Ytkgoceiingddoaa
