/- The first of the least, of the program. -/
import Derived.Test.YtjmkbdghenjlaaaDoorLsD
namespace Go.Proofs.YtjmkbdghenjlaaaDoor
open Go.RowKit

theorem two_storedC {w : World} {g i : Nat} {v0 v1 : Value} (h0 : w.cell? ⟨g, i, none⟩ = some v0) (h1 : w.cell? ⟨g, i + 1, none⟩ = some v1) (x y : Value) :
    ((w.setCell ⟨g, i, none⟩ x).setCell ⟨g, i + 1, none⟩ y).rangeAt g i [x, y] := by
  have a1 : (⟨g, i, none⟩ : Addr) ≠ ⟨g, i + 1, none⟩ := by intro h; injection h with _ h; omega
  intro j u hu
  match j with
  | 0 =>
    obtain rfl : x = u := by simpa using hu
    simp only [Nat.add_zero]
    rw [World.cell?_setCell_other _ _ _ _ a1.symm, World.cell?_setCell_same' _ _ _ (by rw [h0]; rfl)]
  | 1 =>
    obtain rfl : y = u := by simpa using hu
    rw [World.cell?_setCell_same' _ _ _ (by rw [World.cell?_setCell_other _ _ _ _ a1, h1]; rfl)]
  | j + 2 => simp at hu

set_option maxHeartbeats 400000 in
theorem isNaN64_any (b : Int) (w : World) :
    Calls Tryd.prog 125 #[.int .i64 b] w fun e w' => e = .returned (.bool false) ∧ w = w' := by
  go_enter Tryd.func125, Tryd.ntmps125
  go_wp2
  all_goals (go_ret; exact ⟨by simp, rfl⟩)
set_option maxHeartbeats 400000 in
theorem compare64_any (a b : Int) (w : World) :
    Calls Tryd.prog 94 #[.int .i64 a, .int .i64 b] w fun e w' => e = .returned (.int .i64 (cmpI a b)) ∧ w = w' := by
  go_enter Tryd.func94, Tryd.ntmps94
  go_wp2_with (go_at_call 125; refine (isNaN64_any _ _).mono ?_; rintro e w' ⟨rfl, rfl⟩)
  all_goals (go_ret; exact ⟨ret_int (by unfold cmpI; (repeat' split) <;> omega), rfl⟩)
set_option maxHeartbeats 1000000 in
theorem lessC_any (a b c d : Int) (w : World) :
    Calls Tryd.prog 93 #[.agg #[.int .i64 a, .int .i64 b], .agg #[.int .i64 c, .int .i64 d]] w fun e w' => e = .returned (.int .i64 (cmpI b d)) ∧ Below w.heap.size w w' := by
  have hb : Below w.heap.size w ((w.alloc (.cells #[.int .i64 a, .int .i64 b] 99)).alloc (.cells #[.int .i64 c, .int .i64 d] 99)) := ((Below.refl _ _).alloc (Nat.le_refl _) _).alloc (by simp) _
  have r0 := World.rangeAt_alloc (rangeAt_new' w #[.int .i64 a, .int .i64 b] 99) (.cells #[.int .i64 c, .int .i64 d] 99)
  have r1 := rangeAt_newg (w := w.alloc (.cells #[.int .i64 a, .int .i64 b] 99)) (cs := #[.int .i64 c, .int .i64 d]) (t := 99) (g := w.heap.size + 1) (l := [.int .i64 c, .int .i64 d]) (by simp) rfl
  have d0 : ((w.alloc (.cells #[.int .i64 a, .int .i64 b] 99)).alloc (.cells #[.int .i64 c, .int .i64 d] 99)).cell? ⟨w.heap.size, 1, none⟩ = some (.int .i64 b) := r0 1 _ rfl
  have d1 : ((w.alloc (.cells #[.int .i64 a, .int .i64 b] 99)).alloc (.cells #[.int .i64 c, .int .i64 d] 99)).cell? ⟨w.heap.size + 1, 1, none⟩ = some (.int .i64 d) := r1 1 _ rfl
  clear r0 r1
  go_enter Tryd.func93, Tryd.ntmps93
  go_wp2_with (go_at_call 94; refine (compare64_any _ _ _).mono ?_; rintro e w' ⟨rfl, rfl⟩)
  go_ret
  exact ⟨rfl, hb⟩

def lstA (o : Option Pr) : Pr := o.getD (0, 0)
theorem lst_cmp (y b : Int) : (cmpI y b < 0) ↔ y < b := by unfold cmpI; (repeat' split) <;> omega
theorem lst_some : ∀ (xs : List Pr), xs ≠ [] → ∃ q, lstO xs = some q
  | [], h => (h rfl).elim
  | x :: xs, _ => by
    have : ∀ (ys : List Pr) (q : Pr), ∃ r, ys.foldl lstS (some q) = some r := by
      intro ys
      induction ys with
      | nil => exact fun q => ⟨q, rfl⟩
      | cons y ys ih => intro q; rw [List.foldl_cons]; unfold lstS; dsimp only; split <;> exact ih _
    exact this xs x

set_option maxRecDepth 100000 in
set_option maxHeartbeats 8000000 in
theorem least_any (A : Option Addr) (xs : List Pr) (c : Nat) (w : World) (hn : xs.length ≤ 1000) (hA : P2At w w.heap.size A xs) :
    Calls Tryd.prog 92 #[.slice A xs.length c, .func (.func 93) #[] #[]] w fun e w' => e = .returned (.agg #[.int .i64 (lstA (lstO xs)).1, .int .i64 (lstA (lstO xs)).2]) ∧ Below w.heap.size w w' := by
  have HX := hide hA
  have HTA : Hid (xs.take xs.length = xs) := hide List.take_length
  obtain ⟨n, hL⟩ : ∃ n, xs.length = n := ⟨_, rfl⟩
  have HL := hide hL
  rw [hL] at hn HTA ⊢
  clear hL hA
  go_enter Tryd.func92, Tryd.ntmps92
  go_wp2
  go_loopw [10] (fun i wr => ∃ k : Nat, k ≤ n ∧ i = .int .i64 k ∧ Below w.heap.size w wr ∧ wr.there w.heap.size 0 2 ∧ wr.there (w.heap.size + 1) 0 2 ∧ wr.cell? ⟨w.heap.size + 1, 0, none⟩ = some (.int .i64 (lstA (lstO (xs.take k))).1) ∧ wr.cell? ⟨w.heap.size + 1, 1, none⟩ = some (.int .i64 (lstA (lstO (xs.take k))).2))
    (fun i _ => n - (intOf i).toNat)
  case atStart =>
    refine ⟨0, by omega, rfl, ((Below.refl _ _).alloc (Nat.le_refl _) _).alloc (by simp) _, World.there_alloc (there_newg rfl rfl) _, there_newg (by simp) rfl, ?_, ?_⟩
    · exact rangeAt_newg (l := [.int .i64 0, .int .i64 0]) (by simp) rfl 0 _ rfl
    · exact rangeAt_newg (l := [.int .i64 0, .int .i64 0]) (by simp) rfl 1 _ rfl
  case round =>
    obtain ⟨k, hk, rfl, hB, ht1, ht2, hc0, hc1⟩ := hrel
    have hbs := hB.size
    by_cases hlt : k < n
    · obtain ⟨q, hq⟩ : ∃ q, xs[k]? = some q := ⟨xs[k]'(by rw [HL.out]; exact hlt), List.getElem?_eq_getElem _⟩
      obtain ⟨x, y⟩ := q
      obtain ⟨b, o, rfl, hb, e0, e1⟩ := HX.out.row hq
      have c0 : wr.cell? ⟨b, o + k * 2, none⟩ = some (.int .i64 x) := (hB.cell (p := ⟨b, o + k * 2, none⟩) hb).trans e0
      have c1 : wr.cell? ⟨b, o + k * 2 + 1, none⟩ = some (.int .i64 y) := (hB.cell (p := ⟨b, o + k * 2 + 1, none⟩) hb).trans e1
      have hi : (k : Int) < n := by omega
      have h0 : (0 : Int) ≤ k := by omega
      have HTK : Hid (lstO (xs.take (k + 1)) = lstS (lstO (xs.take k)) (x, y)) := hide (by rw [List.take_add_one, hq, ← lstO_app]; rfl)
      have HLS := hide (fun h => lst_some (xs.take k) h)
      have HTL : Hid (k ≠ 0 → xs.take k ≠ []) := hide (fun hk0 e => by
        have := congrArg List.length e
        rw [List.length_take, HL.out] at this
        simp at this; omega)
      have hBA := hB.alloc hbs (.cells #[.int .i64 x, .int .i64 y] 99)
      have rA := rangeAt_new' wr #[.int .i64 x, .int .i64 y] 99
      have d0 : (wr.alloc (.cells #[.int .i64 x, .int .i64 y] 99)).cell? ⟨wr.heap.size, 0, none⟩ = some (.int .i64 x) := rA 0 _ rfl
      have d1 : (wr.alloc (.cells #[.int .i64 x, .int .i64 y] 99)).cell? ⟨wr.heap.size, 1, none⟩ = some (.int .i64 y) := rA 1 _ rfl
      have t1 := World.there_alloc ht1 (.cells #[.int .i64 x, .int .i64 y] 99)
      have t2 := World.there_alloc ht2 (.cells #[.int .i64 x, .int .i64 y] 99)
      have ht2lt : w.heap.size + 1 < wr.heap.size := World.block_lt_of_cell? _ _ hc0
      obtain ⟨u0, g0, f0⟩ := there_some t2 (j := 0) (by omega)
      obtain ⟨u1, g1, f1⟩ := there_some t2 (j := 1) (by omega)
      simp only [Nat.zero_add] at g0 g1 f0 f1
      obtain ⟨u0', g0', f0'⟩ := there_some ht2 (j := 0) (by omega)
      obtain ⟨u1', g1', f1'⟩ := there_some ht2 (j := 1) (by omega)
      simp only [Nat.zero_add] at g0' g1' f0' f1'
      have hw0 : (w.heap.size + 1 ≠ w.heap.size) := by omega
      by_cases hk0 : k = 0
      · have hk1 : ((k : Int) == 0) = true := by simp [hk0]
        have HE : Hid (lstO (xs.take (k + 1)) = some (x, y)) := hide (by rw [HTK.out, hk0]; rfl)
        clear rA hc0 hc1 hk0 e0 e1
        go_wp2
        have hB' := (hB.setCell (p := ⟨w.heap.size + 1, 0, none⟩) (by show w.heap.size ≤ w.heap.size + 1; omega) (.int .i64 x)).setCell (p := ⟨w.heap.size + 1, 1, none⟩) (by show w.heap.size ≤ w.heap.size + 1; omega) (.int .i64 y)
        refine ⟨⟨k + 1, by omega, by go_num, hB'.alloc hB'.size _, World.there_alloc (there_set (there_set ht1 _ _) _ _) _, World.there_alloc (there_set (there_set ht2 _ _) _ _) _, ?_, ?_⟩, by simp [intOf]; omega⟩
        · rw [HE.out]; exact World.rangeAt_alloc (two_storedC g0' g1' _ _) _ 0 _ rfl
        · rw [HE.out]; exact World.rangeAt_alloc (two_storedC g0' g1' _ _) _ 1 _ rfl
      · have hk1 : ((k : Int) == 0) = false := by simpa using hk0
        obtain ⟨q, hq1⟩ := HLS.out (HTL.out hk0)
        rw [hq1] at hc0 hc1 HTK
        have hW : Below wr.heap.size wr (wr.alloc (.cells #[.int .i64 x, .int .i64 y] 99)) := (Below.refl _ _).alloc (Nat.le_refl _) _
        have a0 : (wr.alloc (.cells #[.int .i64 x, .int .i64 y] 99)).cell? ⟨w.heap.size + 1, 0, none⟩ = some (.int .i64 q.1) := (hW.cell (p := ⟨w.heap.size + 1, 0, none⟩) ht2lt).trans hc0
        have a1 : (wr.alloc (.cells #[.int .i64 x, .int .i64 y] 99)).cell? ⟨w.heap.size + 1, 1, none⟩ = some (.int .i64 q.2) := (hW.cell (p := ⟨w.heap.size + 1, 1, none⟩) ht2lt).trans hc1
        have c0' : wr.cell? ⟨w.heap.size + 1, 0, none⟩ = some (.int .i64 q.1) := hc0
        have c1' : wr.cell? ⟨w.heap.size + 1, 1, none⟩ = some (.int .i64 q.2) := hc1
        have hsz : wr.heap.size < (wr.alloc (.cells #[.int .i64 x, .int .i64 y] 99)).heap.size := by simp
        have HRA := hide rA
        have HT1 := hide t1
        have HT2 := hide t2
        have HA0 := hide a0
        have HA1 := hide a1
        clear hk0 hq1 hc0 hc1 e0 e1 rA t1 t2 hW ht1 ht2 g0 g1 f0 f1 g0' g1' f0' f1'
        go_wp2_with fail
        refine (lessC_any x y q.1 q.2 _).mono ?_
        rintro e w1 ⟨rfl, hb1⟩
        have r1 := rangeAt_below HRA.out hb1 hsz
        have k0 : w1.cell? ⟨wr.heap.size, 0, none⟩ = some (.int .i64 x) := r1 0 _ rfl
        have k1 : w1.cell? ⟨wr.heap.size, 1, none⟩ = some (.int .i64 y) := r1 1 _ rfl
        have t1 := there_below HT1.out hb1 (by omega)
        have t2 := there_below HT2.out hb1 (by omega)
        have b0 := (hb1.cell (p := ⟨w.heap.size + 1, 0, none⟩) (show w.heap.size + 1 < (wr.alloc (.cells #[.int .i64 x, .int .i64 y] 99)).heap.size by omega)).trans HA0.out
        have b1 := (hb1.cell (p := ⟨w.heap.size + 1, 1, none⟩) (show w.heap.size + 1 < (wr.alloc (.cells #[.int .i64 x, .int .i64 y] 99)).heap.size by omega)).trans HA1.out
        have hB1 := hBA.trans (hb1.mono hBA.size)
        obtain ⟨u2, g0, f0⟩ := there_some t2 (j := 0) (by omega)
        obtain ⟨u3, g1, f1⟩ := there_some t2 (j := 1) (by omega)
        simp only [Nat.zero_add] at g0 g1 f0 f1
        clear hb1 r1 HRA HT1 HT2 HA0 HA1 d0 d1 c0 c1 c0' c1' a0 a1
        by_cases hlt2 : y < q.2
        · have HE : Hid (lstO (xs.take (k + 1)) = some (x, y)) := hide (HTK.out.trans (by show (if y < q.2 then _ else _) = _; rw [if_pos hlt2]))
          have hd : decide (cmpI y q.2 < 0) = true := by rw [decide_eq_true_eq, lst_cmp]; exact hlt2
          go_wp2
          have hB' := (hB1.setCell (p := ⟨w.heap.size + 1, 0, none⟩) (by show w.heap.size ≤ w.heap.size + 1; omega) (.int .i64 x)).setCell (p := ⟨w.heap.size + 1, 1, none⟩) (by show w.heap.size ≤ w.heap.size + 1; omega) (.int .i64 y)
          refine ⟨⟨k + 1, by omega, by go_num, hB', there_set (there_set t1 _ _) _ _, there_set (there_set t2 _ _) _ _, ?_, ?_⟩, by simp [intOf]; omega⟩
          · rw [HE.out]; exact two_storedC g0 g1 _ _ 0 _ rfl
          · rw [HE.out]; exact two_storedC g0 g1 _ _ 1 _ rfl
        · have HE : Hid (lstO (xs.take (k + 1)) = some q) := hide (HTK.out.trans (by show (if y < q.2 then _ else _) = _; rw [if_neg hlt2]))
          have hd : decide (cmpI y q.2 < 0) = false := by rw [decide_eq_false_iff_not, lst_cmp]; exact hlt2
          go_wp2
          refine ⟨⟨k + 1, by omega, by go_num, hB1, t1, t2, ?_, ?_⟩, by simp [intOf]; omega⟩
          · rw [HE.out]; exact b0
          · rw [HE.out]; exact b1
    · obtain rfl : k = n := by omega
      rw [HTA.out] at hc0 hc1
      obtain ⟨u0, d0, f0⟩ := there_some ht1 (j := 0) (by omega)
      obtain ⟨u1, d1, f1⟩ := there_some ht1 (j := 1) (by omega)
      simp only [Nat.zero_add] at d0 d1 f0 f1
      go_wp2
      exact bodyPost_ret (results_mid rfl _ _ w.heap.size 0 [.int .i64 (lstA (lstO xs)).1, .int .i64 (lstA (lstO xs)).2] _ rfl (two_storedC d0 d1 _ _) Tryd.underlying99 rfl (by kernel_rfl)) rfl ⟨rfl, (hB.setCell (p := ⟨w.heap.size, 0, none⟩) (Nat.le_refl _) _).setCell (p := ⟨w.heap.size, 1, none⟩) (Nat.le_refl _) _⟩

def chR (xs : List Pr) : Int × Int × Int := match lstO xs with | some p => (p.1, p.2, 0) | none => (0, 0, 6)
set_option maxRecDepth 100000 in
set_option maxHeartbeats 8000000 in
theorem leastChoice_any (A : Option Addr) (xs : List Pr) (c : Nat) (w : World) (hn : xs.length ≤ 1000) (hA : P2At w w.heap.size A xs) :
    Calls Tryd.prog 56 #[.slice A xs.length c] w fun e w' => e = .returned (.tuple #[.int .i64 (chR xs).1, .int .i64 (chR xs).2.1, .int .i64 (chR xs).2.2]) ∧ Below w.heap.size w w' := by
  have HL := hide (least_any A xs c w hn hA)
  cases xs with
  | nil =>
    go_enter Tryd.func56, Tryd.ntmps56
    go_wp2
    go_ret3
    exact ⟨rfl, Below.refl _ _⟩
  | cons p ps =>
    obtain ⟨q, hq⟩ := lst_some (p :: ps) (by simp)
    rw [hq, show lstA (some q) = q from rfl] at HL
    have HV : Hid (chR (p :: ps) = (q.1, q.2, 0)) := hide (by unfold chR; rw [hq])
    have hz : (((p :: ps).length : Int) == 0) = false := by simp; omega
    clear hA hq
    generalize chR (p :: ps) = V at *
    generalize (p :: ps).length = n at *
    go_enter Tryd.func56, Tryd.ntmps56
    go_wp2_with fail
    refine HL.out.mono ?_
    rintro e w1 ⟨rfl, hb1⟩
    have r1 := rangeAt_new' w1 #[.int .i64 q.1, .int .i64 q.2] 99
    have d0 : (w1.alloc (.cells #[.int .i64 q.1, .int .i64 q.2] 99)).cell? ⟨w1.heap.size, 0, none⟩ = some (.int .i64 q.1) := r1 0 _ rfl
    have d1 : (w1.alloc (.cells #[.int .i64 q.1, .int .i64 q.2] 99)).cell? ⟨w1.heap.size, 1, none⟩ = some (.int .i64 q.2) := r1 1 _ rfl
    have hB := hb1.alloc hb1.size (.cells #[.int .i64 q.1, .int .i64 q.2] 99)
    clear r1 hb1
    go_wp2
    generalize (w1.alloc (.cells #[.int .i64 q.1, .int .i64 q.2] 99)) = W2 at *
    have c0 := Over.get d0
    have c1 := Over.get d1
    clear d0 d1
    refine wp_region_over (by kernel_rfl) (by kernel_rfl) ?_
    repeat (go_big_quiet_step (fail))
    refine wpQuiet_nil ?_
    intro w3 hb3
    clear c0 c1
    go_wp2
    go_ret3
    exact ⟨rt3_of HV.out, hB.trans (hb3.mono hB.size)⟩
end Go.Proofs.YtjmkbdghenjlaaaDoor
