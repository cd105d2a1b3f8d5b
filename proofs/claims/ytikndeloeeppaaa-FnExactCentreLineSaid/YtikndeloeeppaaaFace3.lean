/- Two faces are held against each other: eqFace. -/
import Derived.Test.YtikndeloeeppaaaFace1
import Derived.Deep.QuietTactic
import Derived.BigQuiet
import Derived.Outline
import Derived.Deep.RegionHeld3
namespace Go.Proofs.Ytikndeloeeppaaa
open Go.RowKit

set_option maxHeartbeats 1000000 in
theorem eqInt8A26_same (W : List Int) (hW : W.length = 26) (w : World) :
    Calls Try.prog 91 #[.agg (wc W).toArray, .agg (wc W).toArray] w fun e w' => e = .returned (.bool true) ∧ Below w.heap.size w w' := by
  have HW := hide hW
  clear hW
  have r1 := World.rangeAt_alloc (rangeAt_new w (wc W) 23) (.cells (wc W).toArray 23)
  have r2 := rangeAt_newg (w := w.alloc (.cells (wc W).toArray 23)) (cs := (wc W).toArray) (t := 23) (g := w.heap.size + 1) (l := wc W) (by simp) rfl
  have hb : Below w.heap.size w ((w.alloc (.cells (wc W).toArray 23)).alloc (.cells (wc W).toArray 23)) := ((Below.refl _ _).alloc (Nat.le_refl _) _).alloc (by simp) _
  go_enter Try.func91, Try.ntmps91
  go_wp2
  generalize ((w.alloc (.cells (wc W).toArray 23)).alloc (.cells (wc W).toArray 23)) = W0 at *
  go_loopw [5] (fun i wr => ∃ k n : Nat, k ≤ 26 ∧ i = .int .i64 k ∧ wr = W0.drewN n)
    (fun i _ => 26 - (intOf i).toNat)
  case atStart => exact ⟨0, 0, by omega, rfl, rfl⟩
  case round =>
    obtain ⟨k, n, hk, rfl, rfl⟩ := hrel
    by_cases hlt : k < 26
    · have c1 : W0.cell? ⟨w.heap.size, k, none⟩ = some (.int .i8 (W.getD k 0)) := rangeAt_cell r1 (wc_get (by rw [HW.out]; exact hlt))
      have c2 : W0.cell? ⟨w.heap.size + 1, k, none⟩ = some (.int .i8 (W.getD k 0)) := rangeAt_cell r2 (wc_get (by rw [HW.out]; exact hlt))
      have hi : (k : Int) < 26 := by omega
      have h0 : (0 : Int) ≤ k := by omega
      go_wp2
      go_quiet (fail)
      go_wp2
      exact ⟨⟨k + 1, n + nq, by omega, by go_num, rfl⟩, by simp [intOf]; omega⟩
    · go_wp2
      go_ret
      exact ⟨rfl, hb.trans ⟨rfl, rfl, rfl, Nat.le_refl _, fun _ _ => rfl⟩⟩

theorem below_drewN {B : Nat} {a w : World} (h : Below B a w) (n : Nat) : Below B a (w.drewN n) := ⟨h.os, h.tape, h.output, h.size, h.block⟩

set_option maxHeartbeats 1000000 in
theorem eqPair_same (a b c : Int) (w : World) :
    Calls Try.prog 165 #[.agg #[.int .u8 a, .int .u8 b, .int .i8 c], .agg #[.int .u8 a, .int .u8 b, .int .i8 c]] w fun e w' => e = .returned (.bool true) ∧ Below w.heap.size w w' := by
  go_enter Try.func165, Try.ntmps165
  go_wp2
  go_ret
  exact ⟨rfl, ((Below.refl _ _).alloc (Nat.le_refl _) _).alloc (by simp) _⟩

set_option maxHeartbeats 1000000 in
theorem eqPairS_same (A A' : Option Addr) (ps : List (Int × Int × Int)) (c c' : Nat) (w : World) (hn : ps.length ≤ maxLen) (hA : PairsAt w w.heap.size A ps) (hA' : PairsAt w w.heap.size A' ps) :
    Calls Try.prog 92 #[.slice A ps.length c, .slice A' ps.length c'] w fun e w' => e = .returned (.bool true) ∧ Below w.heap.size w w' := by
  unfold maxLen at hn
  generalize hL : ps.length = n at *
  have HL := hide hL
  clear hL
  go_enter Try.func92, Try.ntmps92
  go_wp2
  go_loopw [5] (fun i wr => ∃ k : Nat, k ≤ n ∧ i = .int .i64 k ∧ Below w.heap.size w wr)
    (fun i _ => n - (intOf i).toNat)
  case atStart => exact ⟨0, by omega, rfl, Below.refl _ _⟩
  case round =>
    obtain ⟨k, hk, rfl, hB⟩ := hrel
    by_cases hlt : k < n
    · have hne : ps ≠ [] := by intro e; rw [e] at HL; have := HL.out; simp at this; omega
      obtain ⟨b, o, rfl, hb, hps⟩ := hA hne
      obtain ⟨b', o', rfl, hb', hps'⟩ := hA' hne
      obtain ⟨p, hp⟩ : ∃ p, ps[k]? = some p := ⟨ps[k]'(by rw [HL.out]; exact hlt), List.getElem?_eq_getElem _⟩
      have hcell := rangeAt_below (hps k p hp) hB hb
      have hcell' := rangeAt_below (hps' k p hp) hB hb'
      obtain ⟨x, y, z⟩ := p
      have c0 : ∀ w', Below wr.heap.size wr w' → w'.cell? ⟨b, o + k * 3, none⟩ = some (.int .u8 x) := fun w' h => (rangeAt_below hcell h (Nat.lt_of_lt_of_le hb hB.size)) 0 _ rfl
      have c1 : ∀ w', Below wr.heap.size wr w' → w'.cell? ⟨b, o + k * 3 + 1, none⟩ = some (.int .u8 y) := fun w' h => (rangeAt_below hcell h (Nat.lt_of_lt_of_le hb hB.size)) 1 _ rfl
      have c2 : ∀ w', Below wr.heap.size wr w' → w'.cell? ⟨b, o + k * 3 + 2, none⟩ = some (.int .i8 z) := fun w' h => (rangeAt_below hcell h (Nat.lt_of_lt_of_le hb hB.size)) 2 _ rfl
      have d0 : ∀ w', Below wr.heap.size wr w' → w'.cell? ⟨b', o' + k * 3, none⟩ = some (.int .u8 x) := fun w' h => (rangeAt_below hcell' h (Nat.lt_of_lt_of_le hb' hB.size)) 0 _ rfl
      have d1 : ∀ w', Below wr.heap.size wr w' → w'.cell? ⟨b', o' + k * 3 + 1, none⟩ = some (.int .u8 y) := fun w' h => (rangeAt_below hcell' h (Nat.lt_of_lt_of_le hb' hB.size)) 1 _ rfl
      have d2 : ∀ w', Below wr.heap.size wr w' → w'.cell? ⟨b', o' + k * 3 + 2, none⟩ = some (.int .i8 z) := fun w' h => (rangeAt_below hcell' h (Nat.lt_of_lt_of_le hb' hB.size)) 2 _ rfl
      have hi : (k : Int) < n := by omega
      have h0 : (0 : Int) ≤ k := by omega
      clear hcell hcell' hps hps' hA hA'
      go_wp2
      go_region_held3 (fun w' => Below wr.heap.size wr w') (first | exact (Below.refl _ _).drew | (refine Below.trans (by assumption) (Below.mono (by assumption) ?_); exact Below.size (by assumption))) (first | (go_at_call 165; refine (eqPair_same _ _ _ _).mono ?_; rintro e w1 ⟨rfl, hb1⟩))
      have hB1 : Below w.heap.size w w1 := hB.trans ((by assumption : Below wr.heap.size wr w1).mono hB.size)
      clear c0 c1 c2 d0 d1 d2
      go_wp2
      exact ⟨⟨k + 1, by omega, by go_num, hB1⟩, by simp [intOf]; omega⟩
    · go_wp2
      go_ret
      exact ⟨rfl, hB⟩

set_option maxHeartbeats 2000000 in
theorem eqFace_same (F : Fc) (hF : F.ok) (A A' : Option Addr) (c c' : Nat) (w : World) (hA : PairsAt w w.heap.size A F.ps) (hA' : PairsAt w w.heap.size A' F.ps) :
    Calls Try.prog 28 #[.agg (fc F (.slice A F.ps.length c)).toArray, .agg (fc F (.slice A' F.ps.length c')).toArray] w fun e w' => e = .returned (.bool true) ∧ Below w.heap.size w w' := by
  have hW := hide hF.len
  have r1 := World.rangeAt_alloc (rangeAt_new w (fc F (.slice A F.ps.length c)) 32) (.cells (fc F (.slice A' F.ps.length c')).toArray 32)
  have r2 := rangeAt_newg (w := w.alloc (.cells (fc F (.slice A F.ps.length c)).toArray 32)) (cs := (fc F (.slice A' F.ps.length c')).toArray) (t := 32) (g := w.heap.size + 1) (l := fc F (.slice A' F.ps.length c')) (by simp) rfl
  have hb : Below w.heap.size w ((w.alloc (.cells (fc F (.slice A F.ps.length c)).toArray 32)).alloc (.cells (fc F (.slice A' F.ps.length c')).toArray 32)) := ((Below.refl _ _).alloc (Nat.le_refl _) _).alloc (by simp) _
  have hs : ((w.alloc (.cells (fc F (.slice A F.ps.length c)).toArray 32)).alloc (.cells (fc F (.slice A' F.ps.length c')).toArray 32)).heap.size = w.heap.size + 1 + 1 := by simp
  have hi26 : (Try.prog.info? 23).map (·.size) = some (wc F.W).length := by rw [wc_length, hW.out]; kernel_rfl
  have HI26 := hide hi26
  clear hi26
  have hn := hF.n
  have hAA := hA
  have hAA' := hA'
  generalize hL : F.ps.length = n at *
  have HL := hide hL
  clear hL
  go_enter Try.func28, Try.ntmps28
  go_wp2_with (first
    | (refine wpList_load_mid rfl 23 (.tmp 5) rfl _ 0 rfl (wc F.W) _ (rangeAt_left r1) Try.underlying23 rfl HI26.out ?_)
    | (refine wpList_load_mid rfl 23 (.tmp 7) rfl _ 0 rfl (wc F.W) _ (rangeAt_left r2) Try.underlying23 rfl HI26.out ?_))
  generalize ((w.alloc (.cells (fc F (.slice A n c)).toArray 32)).alloc (.cells (fc F (.slice A' n c')).toArray 32)) = W0 at *
  refine (eqInt8A26_same _ hW.out _).mono ?_
  rintro e w1 ⟨rfl, hb1⟩
  have b1 := hb.trans (hb1.mono hb.size)
  have x26 := rangeAt_cell (rangeAt_below r1 hb1 (by omega)) (fc_sp hW.out _)
  have x27 := rangeAt_cell (rangeAt_below r1 hb1 (by omega)) (fc_gp hW.out _)
  have x28 := rangeAt_cell (rangeAt_below r1 hb1 (by omega)) (fc_sl hW.out _)
  have y26 := rangeAt_cell (rangeAt_below r2 hb1 (by omega)) (fc_sp hW.out _)
  have y27 := rangeAt_cell (rangeAt_below r2 hb1 (by omega)) (fc_gp hW.out _)
  have y28 := rangeAt_cell (rangeAt_below r2 hb1 (by omega)) (fc_sl hW.out _)
  have HS := hide hs
  clear hs
  have hq := eqPairS_same A A' F.ps c c' w1 (by rw [HL.out]; exact hn) ((hAA.below b1).mono b1.size) ((hAA'.below b1).mono b1.size)
  rw [HL.out] at hq
  have HQ := hide hq
  clear hq r1 r2 hb1
  go_wp2_with (go_at_call 92; refine HQ.out.mono ?_; rintro e w2 ⟨rfl, hb2⟩)
  go_ret
  exact ⟨rfl, b1.trans (hb2.mono b1.size)⟩
end Go.Proofs.Ytikndeloeeppaaa
