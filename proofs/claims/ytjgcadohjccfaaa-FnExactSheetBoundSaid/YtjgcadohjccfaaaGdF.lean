/- SheetBound, of both. -/
import Derived.Test.YtjgcadohjccfaaaGdS
namespace Go.Proofs.Ytjgcadohjccfaaa
open Go Go.RowKit

set_option maxHeartbeats 2000000 in
theorem l06Sum_any (A : Option Addr) (xs : List Int) (c : Nat) (w : World) (hn : xs.length ≤ 60) (hx : ∀ x ∈ xs, 0 ≤ x ∧ x ≤ 10000000) (hA : IntsAt w w.heap.size A xs) :
    Calls Try.prog 60 #[.slice A xs.length c] w fun e w' => e = .returned (.int .i64 (sumT xs xs.length)) ∧ w = w' := by
  have HB := hide (sumT_bd hx)
  have HX := hide hx
  have HA := hide hA
  obtain ⟨n, hN⟩ : ∃ n, xs.length = n := ⟨_, rfl⟩
  have HN := hide hN
  rw [hN] at hn HB ⊢
  clear hN hx hA
  go_enter Try.func60, Try.ntmps60
  go_wp2
  go_loop [3, 4] (fun v i => ∃ k : Nat, k ≤ n ∧ i = .int .i64 k ∧ v = .int .i64 (sumT xs k)) (fun _ i => n - (intOf i).toNat)
  case atStart => exact ⟨0, Nat.zero_le _, rfl, rfl⟩
  case round =>
    obtain ⟨k, hk, rfl, rfl⟩ := hrel
    by_cases hlt : k < n
    · obtain ⟨b, o, rfl, hb, hxs⟩ := HA.out (by intro e; rw [e] at HN; have := HN.out; simp at this; omega)
      obtain ⟨x, hxk⟩ : ∃ x, xs[k]? = some x := ⟨xs[k]'(by rw [HN.out]; exact hlt), List.getElem?_eq_getElem _⟩
      have hc := hxs k x hxk
      obtain ⟨x1, x2⟩ := HX.out x (List.mem_of_getElem? hxk)
      have HS := hide (sumT_succ hxk)
      obtain ⟨b1, b2⟩ := HB.out k hk
      have hi : (k : Int) < n := by omega
      have h0 : (0 : Int) ≤ k := by omega
      clear hxs hxk
      generalize sumT xs k = q at *
      go_wp2
      exact ⟨⟨k + 1, by omega, by go_num, by rw [HS.out]⟩, by simp [intOf]; omega⟩
    · obtain rfl : k = n := by omega
      go_wp2
      go_ret
      exact ⟨rfl, rfl⟩

set_option maxHeartbeats 2000000 in
theorem sumOfG_any (A : Option Addr) (xs : List Int) (c : Nat) (w : World) (hn : xs.length ≤ 60) (hx : ∀ x ∈ xs, 0 ≤ x ∧ x ≤ 10000000) (hA : IntsAt w w.heap.size A xs) :
    Calls Try.prog 92 #[.slice A xs.length c] w fun e w' => e = .returned (.int .i64 (sumT xs xs.length)) ∧ w = w' := by
  have HB := hide (sumT_bd hx)
  have HX := hide hx
  have HA := hide hA
  obtain ⟨n, hN⟩ : ∃ n, xs.length = n := ⟨_, rfl⟩
  have HN := hide hN
  rw [hN] at hn HB ⊢
  clear hN hx hA
  go_enter Try.func92, Try.ntmps92
  go_wp2
  go_loop [3, 8] (fun v i => ∃ k : Nat, k ≤ n ∧ i = .int .i64 k ∧ v = .int .i64 (sumT xs k)) (fun _ i => n - (intOf i).toNat)
  case atStart => exact ⟨0, Nat.zero_le _, rfl, rfl⟩
  case round =>
    obtain ⟨k, hk, rfl, rfl⟩ := hrel
    by_cases hlt : k < n
    · obtain ⟨b, o, rfl, hb, hxs⟩ := HA.out (by intro e; rw [e] at HN; have := HN.out; simp at this; omega)
      obtain ⟨x, hxk⟩ : ∃ x, xs[k]? = some x := ⟨xs[k]'(by rw [HN.out]; exact hlt), List.getElem?_eq_getElem _⟩
      have hc := hxs k x hxk
      obtain ⟨x1, x2⟩ := HX.out x (List.mem_of_getElem? hxk)
      have HS := hide (sumT_succ hxk)
      obtain ⟨b1, b2⟩ := HB.out k hk
      have hi : (k : Int) < n := by omega
      have h0 : (0 : Int) ≤ k := by omega
      clear hxs hxk
      generalize sumT xs k = q at *
      go_wp2
      exact ⟨⟨k + 1, by omega, by go_num, by rw [HS.out]⟩, by simp [intOf]; omega⟩
    · obtain rfl : k = n := by omega
      go_wp2
      go_ret
      exact ⟨rfl, rfl⟩

theorem quo_bd' {V N : Int} (h0 : 0 ≤ V) (h1 : V ≤ 1000000) (_ : 0 < N) : 0 ≤ V / N ∧ V / N ≤ 1000000 :=
  ⟨Int.ediv_nonneg h0 (by omega), Int.le_trans (Int.ediv_le_self _ h0) h1⟩
/-- A bound of how many sheets are needed. -/
noncomputable def sbV (F : Fc) (L : List UInt8) (wd ov : Int) : Int := if gpB F L wd ov = true then (sumT (pieL F L ov) (pieL F L ov).length + wd - 1) / wd else 0
theorem sb_no {F : Fc} {L : List UInt8} {wd ov : Int} (h : gpB F L wd ov = false) : sbV F L wd ov = 0 := by unfold sbV; rw [h]; rfl
theorem sb_ok {F : Fc} {L : List UInt8} {wd ov : Int} (h : gpB F L wd ov = true) : sbV F L wd ov = (sumT (pieL F L ov) (pieL F L ov).length + wd - 1) / wd := by unfold sbV; rw [if_pos h]
theorem pie_10 {F : Fc} (hF : F.ok) (h : vface F = true) {L : List UInt8} (ht : vtext L = true) {ov : Int} (ho : 0 ≤ ov ∧ ov ≤ 5) : ∀ x ∈ pieL F L ov, 0 ≤ x ∧ x ≤ 10000000 := fun x hx => by
  have := pieL_bd hF h ht ho x hx; omega
theorem sum_pie {F : Fc} (hF : F.ok) (h : vface F = true) {L : List UInt8} (ht : vtext L = true) {ov : Int} (ho : 0 ≤ ov ∧ ov ≤ 5) : 0 ≤ sumT (pieL F L ov) (pieL F L ov).length ∧ sumT (pieL F L ov) (pieL F L ov).length ≤ 3000 := by
  have h1 := sumT_bd (M := 50) (fun x hx => by have := pieL_bd hF h ht ho x hx; omega) (pieL F L ov).length (Nat.le_refl _)
  have h2 := pieL_n (F := F) (ov := ov) ht
  omega

set_option maxRecDepth 100000 in
set_option maxHeartbeats 4000000 in
theorem specSheetBound_any (F : Fc) (hF : F.ok) (A : Option Addr) (c : Nat) (wd : Int) (hw : -32768 ≤ wd ∧ wd ≤ 32767) (ov : Int) (ho : i8ok ov) (s : ByteArray) (hs : s.size ≤ maxLen) (w : World) (hA : PairsAt w w.heap.size A F.ps) :
    Calls Try.prog 27 #[.agg (fc F (.slice A F.ps.length c)).toArray, .agg #[.int .i16 wd, .int .i8 ov], .string s] w fun e w' => e = .returned (.tuple #[.int .i64 (sbV F s.data.toList wd ov), .int .i64 (gpC F s.data.toList wd ov)]) ∧ Below w.heap.size w w' := by
  have b0 : Below w.heap.size w ((w.alloc (.cells (fc F (.slice A F.ps.length c)).toArray 40)).alloc (.cells #[.int .i16 wd, .int .i8 ov] 27)) := ((Below.refl _ _).alloc (Nat.le_refl _) _).alloc (by simp) _
  have r0 := World.rangeAt_alloc (rangeAt_new w (fc F (.slice A F.ps.length c)) 40) (.cells #[.int .i16 wd, .int .i8 ov] 27)
  have r1 := rangeAt_newg (w := w.alloc (.cells (fc F (.slice A F.ps.length c)).toArray 40)) (cs := #[.int .i16 wd, .int .i8 ov]) (t := 27) (g := w.heap.size + 1) (by simp) rfl
  have s0 : w.heap.size + 1 < ((w.alloc (.cells (fc F (.slice A F.ps.length c)).toArray 40)).alloc (.cells #[.int .i16 wd, .int .i8 ov] 27)).heap.size := by simp
  have HAS := hide (l06Asked_any F hF _ A c _ wd ov hw ho s hs _ r0 r1 s0 ((hA.below b0).mono b0.size))
  unfold maxLen at hs
  cases hb : gpB F s.data.toList wd ov
  · obtain ⟨e1, e2⟩ := gp_no hb
    rw [e1, sb_no hb]
    rw [e1] at HAS
    clear hw ho hA e1 e2 hb r0 r1
    generalize fc F (.slice A F.ps.length c) = fcs at *
    go_enter Try.func27, Try.ntmps27
    go_wp2_with (go_at_call 52; refine HAS.out.mono ?_; rintro e w1 ⟨rfl, hb1⟩)
    go_ret2
    exact ⟨rfl, b0.trans (hb1.mono b0.size)⟩
  · obtain ⟨e1, e2⟩ := gp_ok hb
    obtain ⟨hv, ht, ⟨hw1, hw2⟩, ho'⟩ := gp_parts hb
    rw [e1, sb_ok hb]
    rw [e1] at HAS
    have HPI := hide (fun W hW => l06Pieces_any F hF w.heap.size A c (w.heap.size + 1) wd ov s W hv ht ho' (rangeAt_below r0 hW (by omega)) (Nat.lt_of_lt_of_le (Nat.lt_of_succ_lt s0) hW.size) (rangeAt_below r1 hW s0) (Nat.lt_of_lt_of_le s0 hW.size) (((hA.below b0).mono b0.size).below hW |>.mono hW.size))
    have HSU := hide (fun A c W h => l06Sum_any A (pieL F s.data.toList ov) c W (pieL_n ht) (pie_10 hF hv ht ho') h)
    obtain ⟨s1, s2⟩ := sum_pie hF hv ht ho'
    have HC := hide (fun w' (hB : Below ((w.alloc (.cells (fc F (.slice A F.ps.length c)).toArray 40)).alloc (.cells #[.int .i16 wd, .int .i8 ov] 27)).heap.size ((w.alloc (.cells (fc F (.slice A F.ps.length c)).toArray 40)).alloc (.cells #[.int .i16 wd, .int .i8 ov] 27)) w') => (hB.cell (p := ⟨w.heap.size + 1, 0, none⟩) s0).trans (rangeAt_cell (k := 0) r1 rfl))
    generalize sumT (pieL F s.data.toList ov) (pieL F s.data.toList ov).length = S at *
    have hw3 := IntWalk.i64_in wd ⟨by omega, by omega⟩
    have hw4 := IntWalk.i64_in (S + wd) ⟨by omega, by omega⟩
    have hw5 := IntWalk.i64_in (S + wd - 1) ⟨by omega, by omega⟩
    clear hw ho hA e1 e2 hb r0 r1 hv ht
    generalize fc F (.slice A F.ps.length c) = fcs at *
    obtain ⟨d0, d1⟩ := quo_bd' (V := S + wd - 1) (N := wd) (by omega) (by omega) (by omega)
    go_enter Try.func27, Try.ntmps27
    go_wp2_with (go_at_call 52; refine HAS.out.mono ?_; rintro e w1 ⟨rfl, hb1⟩; have c0 := HC.out _ hb1)
    go_wp2_with (first | (go_at_call 53; refine (HPI.out _ hb1).mono ?_; rintro e w2 ⟨A2, c2, rfl, hc2, hI2, hb2⟩) | (go_at_call 60; refine (HSU.out _ _ _ hI2.at_).mono ?_; rintro e w3 ⟨rfl, rfl⟩))
    go_ret2
    have hB1 := b0.trans (hb1.mono b0.size)
    exact ⟨rfl, hB1.trans (hb2.mono hB1.size)⟩

/-! The program -/
set_option maxHeartbeats 1000000 in
theorem sheetWide_any (wd ov : Int) (hw : -32768 ≤ wd ∧ wd ≤ 32767) (w : World) :
    Calls Try.prog 65 #[.agg #[.int .i16 wd, .int .i8 ov]] w fun e w' => e = .returned (.int .i64 wd) ∧ Below w.heap.size w w' := by
  obtain ⟨h1, h2⟩ := hw
  have b0 : Below w.heap.size w (w.alloc (.cells #[.int .i16 wd, .int .i8 ov] 27)) := (Below.refl _ _).alloc (Nat.le_refl _) _
  have HB := hide b0
  clear b0
  go_enter Try.func65, Try.ntmps65
  go_wp2
  go_ret
  exact ⟨rfl, HB.out⟩

set_option maxRecDepth 100000 in
set_option maxHeartbeats 4000000 in
theorem boundFor_any (wd ov : Int) (hw : 1 ≤ wd ∧ wd ≤ 400) (A : Option Addr) (xs : List Int) (c : Nat) (w : World) (hn : xs.length ≤ 60) (hx : ∀ x ∈ xs, 0 ≤ x ∧ x ≤ 10000000) (hs : sumT xs xs.length ≤ 3000) (hA : IntsAt w w.heap.size A xs) :
    Calls Try.prog 61 #[.agg #[.int .i16 wd, .int .i8 ov], .slice A xs.length c] w fun e w' => e = .returned (.int .i64 ((sumT xs xs.length + wd - 1) / wd)) ∧ Below w.heap.size w w' := by
  have b0 : Below w.heap.size w (w.alloc (.cells #[.int .i16 wd, .int .i8 ov] 27)) := (Below.refl _ _).alloc (Nat.le_refl _) _
  have r0 := rangeAt_newg (w := w) (cs := #[.int .i16 wd, .int .i8 ov]) (t := 27) (g := w.heap.size) rfl rfl
  have s0 : w.heap.size < (w.alloc (.cells #[.int .i16 wd, .int .i8 ov] 27)).heap.size := by simp
  have hss := (sumT_bd hx xs.length (Nat.le_refl _)).1
  have HSU := hide (fun W (h : Below (w.alloc (.cells #[.int .i16 wd, .int .i8 ov] 27)).heap.size (w.alloc (.cells #[.int .i16 wd, .int .i8 ov] 27)) W) => sumOfG_any A xs c W hn hx (((hA.below b0).mono b0.size).go h))
  obtain ⟨hw1, hw2⟩ := hw
  have HW := hide (fun W => sheetWide_any wd ov ⟨by omega, by omega⟩ W)
  have HI2 := hide (show (Try.prog.info? 27).map (·.size) = some ([.int .i16 wd, .int .i8 ov] : List Value).length from by kernel_rfl)
  generalize sumT xs xs.length = S at *
  have hw3 := IntWalk.i64_in wd ⟨by omega, by omega⟩
  have hw4 := IntWalk.i64_in (S + wd) ⟨by omega, by omega⟩
  have hw5 := IntWalk.i64_in (S + wd - 1) ⟨by omega, by omega⟩
  obtain ⟨d0, d1⟩ := quo_bd' (V := S + wd - 1) (N := wd) (by omega) (by omega) (by omega)
  have hz : (wd == 0) = false := by simp; omega
  clear hA hx
  generalize xs.length = n at *
  go_enter Try.func61, Try.ntmps61
  go_wp2
  generalize (w.alloc (.cells #[.int .i16 wd, .int .i8 ov] 27)) = W0 at *
  have HROW := hide (over_row r0 s0)
  refine wp_region_over (by kernel_rfl) (by kernel_rfl) ?_
  repeat (first | (refine wpQuiet_load_row rfl 27 (.tmp 2) rfl _ 0 rfl _ _ HROW.out Try.underlying27 rfl HI2.out ?_; simp only [Act.put, List.setIfInBounds_toArray, List.set_cons_zero, List.set_cons_succ]) | go_big_quiet_step (first | (go_at_call 92; exact over_same (HSU.out _ (Over.h _))) | (go_at_call 65; exact over_call (HW.out _))))
  refine wpQuiet_nil ?_
  intro w1 hb1
  go_wp2
  go_ret
  exact ⟨rfl, b0.trans (hb1.mono b0.size)⟩

set_option maxRecDepth 100000 in
set_option maxHeartbeats 8000000 in
theorem implSheetBound_any (F : Fc) (hF : F.ok) (A : Option Addr) (c : Nat) (wd : Int) (hw : -32768 ≤ wd ∧ wd ≤ 32767) (ov : Int) (ho : i8ok ov) (s : ByteArray) (hs : s.size ≤ maxLen) (w : World) (hG : Glob w) (hA : PairsAt w w.heap.size A F.ps) :
    Calls Try.prog 28 #[.agg (fc F (.slice A F.ps.length c)).toArray, .agg #[.int .i16 wd, .int .i8 ov], .string s] w fun e w' => e = .returned (.tuple #[.int .i64 (sbV F s.data.toList wd ov), .int .i64 (gpC F s.data.toList wd ov)]) ∧ Below w.heap.size w w' := by
  have b0 : Below w.heap.size w ((w.alloc (.cells (fc F (.slice A F.ps.length c)).toArray 40)).alloc (.cells #[.int .i16 wd, .int .i8 ov] 27)) := ((Below.refl _ _).alloc (Nat.le_refl _) _).alloc (by simp) _
  have r0 := World.rangeAt_alloc (rangeAt_new w (fc F (.slice A F.ps.length c)) 40) (.cells #[.int .i16 wd, .int .i8 ov] 27)
  have r1 := rangeAt_newg (w := w.alloc (.cells (fc F (.slice A F.ps.length c)).toArray 40)) (cs := #[.int .i16 wd, .int .i8 ov]) (t := 27) (g := w.heap.size + 1) (by simp) rfl
  have s0 : w.heap.size + 1 < ((w.alloc (.cells (fc F (.slice A F.ps.length c)).toArray 40)).alloc (.cells #[.int .i16 wd, .int .i8 ov] 27)).heap.size := by simp
  have HI29 := hide (show (Try.prog.info? 40).map (·.size) = some (fc F (.slice A F.ps.length c)).length from by rw [fc_length hF.len]; kernel_rfl)
  have HI2 := hide (show (Try.prog.info? 27).map (·.size) = some ([.int .i16 wd, .int .i8 ov] : List Value).length from by kernel_rfl)
  have HPF := hide (fun W h1 h2 => implPiecesFor_any F hF A c wd hw ov ho s hs W h1 h2)
  have HA := hide ((hA.below b0).mono b0.size)
  have HG := hide (hG.below b0)
  have HBO := hide (fun (h : gpB F s.data.toList wd ov = true) A' c' W hI => boundFor_any wd ov (gp_parts h).2.2.1 A' (pieL F s.data.toList ov) c' W (pieL_n (gp_parts h).2.1) (pie_10 hF (gp_parts h).1 (gp_parts h).2.1 (gp_parts h).2.2.2) (sum_pie hF (gp_parts h).1 (gp_parts h).2.1 (gp_parts h).2.2.2).2 hI)
  unfold maxLen at hs
  clear hA hG hw ho
  generalize fc F (.slice A F.ps.length c) = fcs at *
  cases hb : gpB F s.data.toList wd ov
  · obtain ⟨e1, e2⟩ := gp_no hb
    rw [e1, sb_no hb]
    rw [e1, e2] at HPF
    clear e1 e2 hb HBO
    go_enter Try.func28, Try.ntmps28
    repeat (first | (refine wpList_load_mid rfl 40 (.tmp 3) rfl _ 0 rfl fcs _ r0 Try.underlying40 rfl HI29.out ?_) | (refine wpList_load_mid rfl 27 (.tmp 4) rfl _ 0 rfl [.int .i16 wd, .int .i8 ov] _ r1 Try.underlying27 rfl HI2.out ?_) | go_step)
    refine (HPF.out _ HG.out HA.out).mono ?_
    rintro e w1 ⟨A1, c1, rfl, hI1, hb1⟩
    go_wp2
    go_ret2
    exact ⟨rfl, b0.trans (hb1.mono b0.size)⟩
  · obtain ⟨e1, e2⟩ := gp_ok hb
    have HBB := hide (HBO.out hb)
    rw [e1, sb_ok hb]
    rw [e1, e2] at HPF
    clear e1 e2 hb HBO
    generalize pieL F s.data.toList ov = P at *
    go_enter Try.func28, Try.ntmps28
    repeat (first | (refine wpList_load_mid rfl 40 (.tmp 3) rfl _ 0 rfl fcs _ r0 Try.underlying40 rfl HI29.out ?_) | (refine wpList_load_mid rfl 27 (.tmp 4) rfl _ 0 rfl [.int .i16 wd, .int .i8 ov] _ r1 Try.underlying27 rfl HI2.out ?_) | go_step)
    refine (HPF.out _ HG.out HA.out).mono ?_
    rintro e w1 ⟨A1, c1, rfl, hI1, hb1⟩
    have r1' := rangeAt_below r1 hb1 s0
    have hAt := hI1.at_
    go_wp2_with (first | (refine wpList_load_mid rfl 27 (.tmp 4) rfl _ 0 rfl [.int .i16 wd, .int .i8 ov] _ r1' Try.underlying27 rfl HI2.out ?_) | (go_at_call 61; refine (HBB.out _ _ _ hAt).mono ?_; rintro e w2 ⟨rfl, hb2⟩))
    go_ret2
    have hB1 := b0.trans (hb1.mono b0.size)
    exact ⟨rfl, hB1.trans (hb2.mono hB1.size)⟩
end Go.Proofs.Ytjgcadohjccfaaa
