/- Numbers in decimal, of the model, of any size. -/
import Derived.Test.YtjmkbdghenjlaaaDoorGdB
import Derived.Test.YtjmkbdghenjlaaaDoorWr
import Derived.Test.YtjmkbdghenjlaaaDoorScript2
import Derived.Laws.BytesArg
namespace Go.Proofs.YtjmkbdghenjlaaaDoor
open Go Go.RowKit

theorem dec_one {n : Nat} (h : n < 10) : Lib.decDigits n = [UInt8.ofNat (48 + n)] := by rw [Lib.decDigits, dif_pos h]
theorem dec_two {n : Nat} (h : ¬ n < 10) (h2 : n < 100) : Lib.decDigits n = [UInt8.ofNat (48 + n / 10), UInt8.ofNat (48 + n % 10)] := by
  rw [Lib.decDigits, dif_neg h, dec_one (by omega)]; rfl
theorem nums_one (n : Nat) (h : n < 10) : strOfNums [48 + (n : Int)] = ⟨#[UInt8.ofNat (48 + n)]⟩ := by
  match n, h with
  | 0, _ => rfl
  | 1, _ => rfl
  | 2, _ => rfl
  | 3, _ => rfl
  | 4, _ => rfl
  | 5, _ => rfl
  | 6, _ => rfl
  | 7, _ => rfl
  | 8, _ => rfl
  | 9, _ => rfl
/-- A number's text. -/
def dtx (n : Nat) : ByteArray := ⟨(Lib.decDigits n).toArray⟩

theorem dig_len : ∀ (d n : Nat), n < 10 ^ (d + 1) → (Lib.decDigits n).length ≤ d + 1
  | 0, n, h => by rw [dec_one (by simpa using h)]; simp
  | d + 1, n, h => by
    by_cases h10 : n < 10
    · rw [dec_one h10]; simp
    · have := dig_len d (n / 10) (by rw [Nat.pow_succ] at h; omega)
      rw [Lib.decDigits, dif_neg h10, List.length_append]; simp; omega
theorem dtx_len {n : Nat} (h : n < 1000000) : (dtx n).size ≤ 6 := by
  have := dig_len 5 n (by omega)
  unfold dtx; simpa [ByteArray.size] using this

set_option maxRecDepth 100000 in
set_option maxHeartbeats 4000000 in
theorem decimal_one (n : Nat) (h : n < 10) (w : World) :
    Calls Tryd.prog 98 #[.int .i64 n] w fun e w' => e = .returned (.string (dtx n)) ∧ Below w.heap.size w w' := by
  have hcv : ∀ (W : World) (x : Int), (convert 163 9 (.slice (some ⟨W.heap.size, 0, none⟩) 1 1)).run Tryd.prog (W.alloc (.cells #[.int .u8 x] 5)) = .ok (.string (strOfNums [x])) (W.alloc (.cells #[.int .u8 x] 5)) := fun W x =>
    run_convert_bytes_arg _ _ 5 Tryd.underlying163 Tryd.underlying5 W.heap.size 0 1 1 [x] rfl (fun i hi => by
      obtain rfl : i = 0 := by omega
      simp) _ Tryd.underlying9
  have hd : decide ((n : Int) < 10) = true := by simp; omega
  have hmod : (n : Int) % 10 = n := by omega
  have HE : Hid (strOfNums [48 + (n : Int) % 10] = dtx n) := hide (by rw [hmod, nums_one n h]; unfold dtx; rw [dec_one h])
  clear hmod
  go_enter Tryd.func98, Tryd.ntmps98
  go_wp2
  go_ret
  exact ⟨ret_st HE.out, (Below.refl _ _).alloc (Nat.le_refl _) _⟩

set_option maxRecDepth 100000 in
set_option maxHeartbeats 8000000 in
theorem decimalN_any (n : Nat) : n < 1000000 → ∀ (w : World),
    Calls Tryd.prog 98 #[.int .i64 n] w fun e w' => e = .returned (.string (dtx n)) ∧ Below w.heap.size w w' := by
  refine Nat.strongRecOn n ?_
  intro n ih h w
  by_cases h10 : n < 10
  · exact decimal_one n h10 w
  · have hcv : ∀ (W : World) (x : Int), (convert 163 9 (.slice (some ⟨W.heap.size, 0, none⟩) 1 1)).run Tryd.prog (W.alloc (.cells #[.int .u8 x] 5)) = .ok (.string (strOfNums [x])) (W.alloc (.cells #[.int .u8 x] 5)) := fun W x =>
      run_convert_bytes_arg _ _ 5 Tryd.underlying163 Tryd.underlying5 W.heap.size 0 1 1 [x] rfl (fun i hi => by
        obtain rfl : i = 0 := by omega
        simp) _ Tryd.underlying9
    have hd : decide ((n : Int) < 10) = false := by simp; omega
    have HC := hide (fun W => ih (n / 10) (by omega) (by omega) W)
    have hdiv : ((n / 10 : Nat) : Int) = (n : Int) / 10 := by omega
    rw [hdiv] at HC
    have HE : Hid (dtx (n / 10) ++ strOfNums [48 + (n : Int) % 10] = dtx n) := hide (by
      have : (n : Int) % 10 = ((n % 10 : Nat) : Int) := by omega
      rw [this, nums_one (n % 10) (by omega)]; unfold dtx; rw [show Lib.decDigits n = Lib.decDigits (n / 10) ++ [UInt8.ofNat (48 + n % 10)] from by rw [Lib.decDigits, dif_neg h10]]; rfl)
    have hs1 : (dtx (n / 10)).size ≤ 6 := dtx_len (by omega)
    have hs2 : (strOfNums [48 + (n : Int) % 10]).size = 1 := strOfNums_size _
    generalize dtx (n / 10) = t at *
    clear hdiv h10
    go_enter Tryd.func98, Tryd.ntmps98
    go_wp2
    refine wp_region_sct (.now 0 (.now 1 (.now 3 (.now 4 (.now 5 (.now 6 (.two 2 7 (.one 7 (.one 8 (.one 9 (.one 10 .fin)))) (.two 2 8 (.one 8 (.one 9 (.one 10 .fin))) (.one 2 (.one 9 (.one 10 .fin))))))))))) (fun w' => Below w.heap.size w w') (by kernel_rfl) (by kernel_rfl) (of_decide_eq_true (by kernel_rfl)) (by kernel_rfl) (fun _ _ d _ _ h => by cases d <;> exact h) ((Below.refl _ _).drew) ?_
    have hcw : ∀ (W : World) (b : Nat) (x : Int), W.cell? ⟨b, 0, none⟩ = some (.int .u8 x) → (convert 163 9 (.slice (some ⟨b, 0, none⟩) 1 1)).run Tryd.prog W = .ok (.string (strOfNums [x])) W := fun W b x hc =>
      run_convert_bytes_arg _ _ 5 Tryd.underlying163 Tryd.underlying5 b 0 1 1 [x] rfl (fun i hi => by
        obtain rfl : i = 0 := by omega
        simpa using hc) _ Tryd.underlying9
    have w1' := IntWalk.i64_in ((n : Int) / 10) ⟨by omega, by omega⟩
    have w2' := IntWalk.i64_in ((n : Int) % 10) ⟨by omega, by omega⟩
    have w3' := IntWalk.i64_in (48 + (n : Int) % 10) ⟨by omega, by omega⟩
    have w4' : IntKind.u8.wrap (48 + (n : Int) % 10) = 48 + (n : Int) % 10 := by simp [IntKind.wrap, IntKind.bits, IntKind.signed]; omega
    refine sct_now (.int .i64 n) rfl (.inl ⟨rfl, fun w _ => rfl⟩) ?_
    simp only [Act.put, List.setIfInBounds_toArray, List.set_cons_zero, List.set_cons_succ]
    refine sct_now (.int .i64 ((n : Int) / 10)) rfl (.inl ⟨rfl, fun w _ => ?_⟩) ?_
    · simp only [Act.put, List.setIfInBounds_toArray, List.set_cons_zero, List.set_cons_succ, execOp, Act.eval]
      go_simp
      try exact w1'
    simp only [Act.put, List.setIfInBounds_toArray, List.set_cons_zero, List.set_cons_succ]
    refine sct_now (.int .i64 n) rfl (.inl ⟨rfl, fun w _ => rfl⟩) ?_
    simp only [Act.put, List.setIfInBounds_toArray, List.set_cons_zero, List.set_cons_succ]
    refine sct_now (.int .i64 ((n : Int) % 10)) rfl (.inl ⟨rfl, fun w _ => ?_⟩) ?_
    · simp only [Act.put, List.setIfInBounds_toArray, List.set_cons_zero, List.set_cons_succ, execOp, Act.eval]
      go_simp
      first | exact w2' | exact Int.tmod_eq_emod_of_nonneg (by omega)
    simp only [Act.put, List.setIfInBounds_toArray, List.set_cons_zero, List.set_cons_succ]
    refine sct_now (.int .i64 (48 + (n : Int) % 10)) rfl (.inl ⟨rfl, fun w _ => ?_⟩) ?_
    · simp only [Act.put, List.setIfInBounds_toArray, List.set_cons_zero, List.set_cons_succ, execOp, Act.eval]
      go_simp
      try exact w3'
    simp only [Act.put, List.setIfInBounds_toArray, List.set_cons_zero, List.set_cons_succ]
    refine sct_now (.int .u8 (48 + (n : Int) % 10)) rfl (.inl ⟨rfl, fun w _ => ?_⟩) ?_
    · simp only [Act.put, List.setIfInBounds_toArray, List.set_cons_zero, List.set_cons_succ, execOp, Act.eval]
      go_simp
      try exact w4'
    simp only [Act.put, List.setIfInBounds_toArray, List.set_cons_zero, List.set_cons_succ]
    refine sct_two rfl rfl ?_ ?_
    · go_wp2_with fail
      refine (HC.out _).mono ?_
      rintro e w2 ⟨rfl, hb2⟩
      have q2 : Below w.heap.size w w2 := (Below.refl _ _).drew.trans hb2
      go_wp2_with fail
      refine ⟨q2, sct_one rfl ?_⟩
      go_wp2_with fail
      have q3 : Below w.heap.size w (w2.alloc (.cells #[.int .u8 (48 + (n : Int) % 10)] 5)) := q2.alloc q2.size _
      refine ⟨q3, sct_one rfl ?_⟩
      go_wp2_with fail
      refine ⟨q3, sct_one rfl ?_⟩
      go_wp2_with fail
      refine ⟨q3, sct_one rfl ?_⟩
      go_wp2_with fail
      refine ⟨q3, sct_fin ?_⟩
      go_wp2
      go_ret
      exact ⟨ret_st HE.out, q3⟩
    · go_wp2_with fail
      have c0 : (w.alloc (.cells #[.int .u8 (48 + (n : Int) % 10)] 5)).cell? ⟨w.heap.size, 0, none⟩ = some (.int .u8 (48 + (n : Int) % 10)) := rangeAt_cell (k := 0) (rangeAt_new' w #[.int .u8 (48 + (n : Int) % 10)] 5) rfl
      have q1 : Below w.heap.size w (w.alloc (.cells #[.int .u8 (48 + (n : Int) % 10)] 5)) := (Below.refl _ _).alloc (Nat.le_refl _) _
      have s1 : w.heap.size < (w.alloc (.cells #[.int .u8 (48 + (n : Int) % 10)] 5)).heap.size := by simp
      refine ⟨q1.drew, sct_two rfl rfl ?_ ?_⟩
      · go_wp2_with fail
        refine (HC.out _).mono ?_
        rintro e w2 ⟨rfl, hb2⟩
        have q2 : Below w.heap.size w w2 := q1.drew.trans (Below.mono hb2 q1.size)
        have c2 : w2.cell? ⟨w.heap.size, 0, none⟩ = some (.int .u8 (48 + (n : Int) % 10)) := (Below.cell (p := ⟨w.heap.size, 0, none⟩) hb2 s1).trans (show (w.alloc (.cells #[.int .u8 (48 + (n : Int) % 10)] 5)).drew.cell? ⟨w.heap.size, 0, none⟩ = _ from c0)
        have hcv2 := hcw w2 _ _ c2
        go_wp2_with fail
        refine ⟨q2, sct_one rfl ?_⟩
        go_wp2_with fail
        refine ⟨q2, sct_one rfl ?_⟩
        go_wp2_with fail
        refine ⟨q2, sct_one rfl ?_⟩
        go_wp2_with fail
        refine ⟨q2, sct_fin ?_⟩
        go_wp2
        go_ret
        exact ⟨ret_st HE.out, q2⟩
      · have hcv2 := hcw (w.alloc (.cells #[.int .u8 (48 + (n : Int) % 10)] 5)).drew w.heap.size _ c0
        go_wp2_with fail
        refine ⟨q1.drew, sct_one rfl ?_⟩
        go_wp2_with fail
        refine (HC.out _).mono ?_
        rintro e w2 ⟨rfl, hb2⟩
        have q2 : Below w.heap.size w w2 := q1.drew.trans (Below.mono hb2 q1.size)
        go_wp2_with fail
        refine ⟨q2, sct_one rfl ?_⟩
        go_wp2_with fail
        refine ⟨q2, sct_one rfl ?_⟩
        go_wp2_with fail
        refine ⟨q2, sct_fin ?_⟩
        go_wp2
        go_ret
        exact ⟨ret_st HE.out, q2⟩

end Go.Proofs.YtjmkbdghenjlaaaDoor
