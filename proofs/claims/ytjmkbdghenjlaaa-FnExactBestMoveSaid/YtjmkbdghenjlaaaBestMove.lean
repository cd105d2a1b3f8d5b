/- BestMove: the model and the program give the same answer for every argument. -/
import Derived.Test.YtjmkbdghenjlaaaBmI
import Derived.Test.YtjmkbdghenjlaaaG5
import Derived.Test.YtjmkbdghenjlaaaMarkG
import Derived.Test.YtjmkbdghenjlaaaGs
namespace Go.Proofs.Ytjmkbdghenjlaaa
open Go.RowKit

set_option maxRecDepth 100000 in
set_option maxHeartbeats 16000000 in
theorem lawBestMove_any (Rb : List Nat) (hRb : rok Rb) (Rb2 : List Nat) (hRb2 : rok Rb2) (w : World)  :
    Calls Try.prog 3 #[.agg (rwc Rb).toArray, .agg (rwc Rb2).toArray] w fun e w' => e = .returned (.bool true) ∧ Below w.heap.size w w' := by
  have b0 : Below w.heap.size w ((w.alloc (.cells (rwc Rb).toArray 23)).alloc (.cells (rwc Rb2).toArray 23)) := (((Below.refl _ _).alloc (by simp) _).alloc (by simp) _)
  have s0n : w.heap.size + 2 ≤ ((w.alloc (.cells (rwc Rb).toArray 23)).alloc (.cells (rwc Rb2).toArray 23)).heap.size := by simp
  have rR : ((w.alloc (.cells (rwc Rb).toArray 23)).alloc (.cells (rwc Rb2).toArray 23)).rangeAt (w.heap.size) 0 (rwc Rb) := (World.rangeAt_alloc (rangeAt_newg (w := w) (cs := (rwc Rb).toArray) (t := 23) (g := w.heap.size) (by simp) rfl) _)
  have rR2 : ((w.alloc (.cells (rwc Rb).toArray 23)).alloc (.cells (rwc Rb2).toArray 23)).rangeAt (w.heap.size + 1) 0 (rwc Rb2) := (rangeAt_newg (w := (w.alloc (.cells (rwc Rb).toArray 23))) (cs := (rwc Rb2).toArray) (t := 23) (g := w.heap.size + 1) (by simp) rfl)
  have HIR := hide (show (Try.prog.info? 23).map (·.size) = some ((rwc Rb) : List Value).length from by rw [rwc_length, hRb.1]; kernel_rfl)
  have HIR2 := hide (show (Try.prog.info? 23).map (·.size) = some ((rwc Rb2) : List Value).length from by rw [rwc_length, hRb2.1]; kernel_rfl)
  go_enter Try.func3, Try.ntmps3
  go_wp2
  generalize ((w.alloc (.cells (rwc Rb).toArray 23)).alloc (.cells (rwc Rb2).toArray 23)) = W0 at *
  have hws := b0.size
  have HK0 := hide (fun w' (hb : Below W0.heap.size W0 w') => (⟨rangeAt_below rR hb (by omega), rangeAt_below rR2 hb (by omega)⟩ : w'.rangeAt (w.heap.size) 0 (rwc Rb) ∧ w'.rangeAt (w.heap.size + 1) 0 (rwc Rb2)))
  refine wp_region_script [(0, true), (2, true), (1, false), (3, false), (4, false), (5, false), (6, true), (7, true), (8, true), (9, false), (10, false), (11, false)]
    (fun w' => Below W0.heap.size W0 w') (by kernel_rfl) (by kernel_rfl) (of_decide_eq_true (by kernel_rfl)) (by kernel_rfl) (fun _ _ d _ _ h => by cases d <;> exact h) ((Below.refl _ _).drew) ?_
  refine sc_take (.agg (rwc Rb).toArray) rfl (yieldsIf_load_mid (by rfl) _ (.tmp 2) rfl _ 0 rfl _ _ (fun w h => (HK0.out w h).1) Try.underlying23 rfl HIR.out) ?_
  refine sc_take (.agg (rwc Rb2).toArray) rfl (yieldsIf_load_mid (by rfl) _ (.tmp 3) rfl _ 0 rfl _ _ (fun w h => (HK0.out w h).2) Try.underlying23 rfl HIR2.out) ?_
  simp only [Act.put, List.setIfInBounds_toArray, List.set_cons_zero, List.set_cons_succ]
  refine sc_step rfl ?_
  go_wp2_with fail
  refine (toRubbing_any Rb hRb _).mono ?_
  rintro e w1 ⟨rfl, hb1⟩
  replace hb1 := (Below.refl _ _).drew.trans hb1
  change Below W0.heap.size W0 w1 at hb1
  have hB1 := hb1
  have z1 := hb1.size
  have qq1 : Below W0.heap.size W0 w1 := hb1
  go_wp2_with fail
  refine ⟨qq1, sc_step rfl ?_⟩
  go_wp2_with fail
  refine (toRubbing_any Rb2 hRb2 _).mono ?_
  rintro e w2 ⟨rfl, hb2⟩
  have hB2 := hB1.trans (hb2.mono hB1.size)
  have z2 := hb2.size
  clear hB1
  have qq2 := qq1.trans (hb2.mono qq1.size)
  clear qq1
  go_wp2_with fail
  refine ⟨qq2, sc_step rfl ?_⟩
  go_wp2_with fail
  refine (specBestMove_any Rb hRb Rb2 hRb2 _ ).mono ?_
  rintro e w3 ⟨rfl, hb3⟩
  have hB3 := hB2.trans (hb3.mono hB2.size)
  have z3 := hb3.size
  clear hB2
  have qq3 := qq2.trans (hb3.mono qq2.size)
  clear qq2
  go_wp2_with fail
  refine ⟨qq3, sc_step rfl ?_⟩
  go_wp2_with fail
  refine ⟨qq3, sc_take _ rfl (.inl ⟨rfl, fun w _ => rfl⟩) (sc_take _ rfl (.inl ⟨rfl, fun w _ => rfl⟩) (sc_take _ rfl (.inl ⟨rfl, fun w _ => rfl⟩) ?_))⟩
  simp only [Act.put, List.setIfInBounds_toArray, List.set_cons_zero, List.set_cons_succ]
  refine sc_step rfl ?_
  go_wp2_with fail
  refine ⟨qq3, sc_step rfl ?_⟩
  go_wp2_with fail
  refine ⟨qq3, sc_step rfl ?_⟩
  go_wp2_with fail
  refine ⟨qq3, sc_nil ?_⟩
  clear qq3 HK0
  go_wp2
  have rR3 := rangeAt_over rR hB3 (by omega)
  have rR23 := rangeAt_over rR2 hB3 (by omega)
  have HK3 := hide (fun w' (hb : Below w3.heap.size w3 w') => (⟨rangeAt_below rR3 hb (by omega), rangeAt_below rR23 hb (by omega)⟩ : w'.rangeAt (w.heap.size) 0 (rwc Rb) ∧ w'.rangeAt (w.heap.size + 1) 0 (rwc Rb2)))
  refine wp_region_script [(0, true), (2, true), (1, false), (3, false), (4, false), (5, false), (6, true), (7, true), (8, true), (9, false), (10, false), (11, false)]
    (fun w' => Below w3.heap.size w3 w') (by kernel_rfl) (by kernel_rfl) (of_decide_eq_true (by kernel_rfl)) (by kernel_rfl) (fun _ _ d _ _ h => by cases d <;> exact h) ((Below.refl _ _).drew) ?_
  refine sc_take (.agg (rwc Rb).toArray) rfl (yieldsIf_load_mid (by rfl) _ (.tmp 2) rfl _ 0 rfl _ _ (fun w h => (HK3.out w h).1) Try.underlying23 rfl HIR.out) ?_
  refine sc_take (.agg (rwc Rb2).toArray) rfl (yieldsIf_load_mid (by rfl) _ (.tmp 3) rfl _ 0 rfl _ _ (fun w h => (HK3.out w h).2) Try.underlying23 rfl HIR2.out) ?_
  simp only [Act.put, List.setIfInBounds_toArray, List.set_cons_zero, List.set_cons_succ]
  refine sc_step rfl ?_
  go_wp2_with fail
  refine (toRubbing_any Rb hRb _).mono ?_
  rintro e w4 ⟨rfl, hb4⟩
  replace hb4 := (Below.refl _ _).drew.trans hb4
  change Below w3.heap.size w3 w4 at hb4
  have hB4 := hB3.trans (hb4.mono hB3.size)
  have z4 := hb4.size
  clear hB3
  have qq4 : Below w3.heap.size w3 w4 := hb4
  go_wp2_with fail
  refine ⟨qq4, sc_step rfl ?_⟩
  go_wp2_with fail
  refine (toRubbing_any Rb2 hRb2 _).mono ?_
  rintro e w5 ⟨rfl, hb5⟩
  have hB5 := hB4.trans (hb5.mono hB4.size)
  have z5 := hb5.size
  clear hB4
  have qq5 := qq4.trans (hb5.mono qq4.size)
  clear qq4
  go_wp2_with fail
  refine ⟨qq5, sc_step rfl ?_⟩
  go_wp2_with fail
  refine (implBestMove_any Rb hRb Rb2 hRb2 _ ).mono ?_
  rintro e w6 ⟨rfl, hb6⟩
  have hB6 := hB5.trans (hb6.mono hB5.size)
  have z6 := hb6.size
  clear hB5
  have qq6 := qq5.trans (hb6.mono qq5.size)
  clear qq5
  go_wp2_with fail
  refine ⟨qq6, sc_step rfl ?_⟩
  go_wp2_with fail
  refine ⟨qq6, sc_take _ rfl (.inl ⟨rfl, fun w _ => rfl⟩) (sc_take _ rfl (.inl ⟨rfl, fun w _ => rfl⟩) (sc_take _ rfl (.inl ⟨rfl, fun w _ => rfl⟩) ?_))⟩
  simp only [Act.put, List.setIfInBounds_toArray, List.set_cons_zero, List.set_cons_succ]
  refine sc_step rfl ?_
  go_wp2_with fail
  refine ⟨qq6, sc_step rfl ?_⟩
  go_wp2_with fail
  refine ⟨qq6, sc_step rfl ?_⟩
  go_wp2_with fail
  refine ⟨qq6, sc_nil ?_⟩
  clear qq6 HK3 rR3 rR23
  go_wp2
  go_ret
  exact ⟨rfl, b0.trans (hB6.mono b0.size)⟩
end Go.Proofs.Ytjmkbdghenjlaaa
