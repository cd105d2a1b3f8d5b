/- Numbers below 100 in decimal, of both; StrokesText. -/
import Derived.Test.YtkbemhjeflmppaaDoorChB
import Derived.Test.YtkbemhjeflmppaaDoorShelfT
import Derived.Test.YtkbemhjeflmppaaDoorGrown
import Derived.Test.YtkbemhjeflmppaaDoorScript2
import Derived.Laws.BytesArg
namespace Go.Proofs.YtkbemhjeflmppaaDoor
open Go Go.RowKit

theorem dec_one {n : Nat} (h : n < 10) : Lib.decDigits n = [UInt8.ofNat (48 + n)] := by rw [Lib.decDigits, dif_pos h]
theorem dec_two {n : Nat} (h : ¬ n < 10) (h2 : n < 100) : Lib.decDigits n = [UInt8.ofNat (48 + n / 10), UInt8.ofNat (48 + n % 10)] := by
  rw [Lib.decDigits, dif_neg h, dec_one (by omega)]; rfl
theorem nums_one (n : Nat) (h : n < 10) : strOfNums [48 + (n : Int)] = ⟨#[UInt8.ofNat (48 + n)]⟩ := by
  match n, h with
  | 0, _ => rfl
  | 1, _ => rfl
  | 2, _ => rfl
  | 3, _ => rfl
  | 4, _ => rfl
  | 5, _ => rfl
  | 6, _ => rfl
  | 7, _ => rfl
  | 8, _ => rfl
  | 9, _ => rfl
/-- A number's text. -/
def dtx (n : Nat) : ByteArray := ⟨(Lib.decDigits n).toArray⟩

set_option maxRecDepth 100000 in
set_option maxHeartbeats 4000000 in
theorem decimal_one (n : Nat) (h : n < 10) (w : World) :
    Calls Tryd.prog 95 #[.int .i64 n] w fun e w' => e = .returned (.string (dtx n)) ∧ Below w.heap.size w w' := by
  have hcv : ∀ (W : World) (x : Int), (convert 72 9 (.slice (some ⟨W.heap.size, 0, none⟩) 1 1)).run Tryd.prog (W.alloc (.cells #[.int .u8 x] 5)) = .ok (.string (strOfNums [x])) (W.alloc (.cells #[.int .u8 x] 5)) := fun W x =>
    run_convert_bytes_arg _ _ 5 Tryd.underlying72 Tryd.underlying5 W.heap.size 0 1 1 [x] rfl (fun i hi => by
      obtain rfl : i = 0 := by omega
      simp) _ Tryd.underlying9
  have hd : decide ((n : Int) < 10) = true := by simp; omega
  have hmod : (n : Int) % 10 = n := by omega
  have HE : Hid (strOfNums [48 + (n : Int) % 10] = dtx n) := hide (by rw [hmod, nums_one n h]; unfold dtx; rw [dec_one h])
  clear hmod
  go_enter Tryd.func95, Tryd.ntmps95
  go_wp2
  go_ret
  exact ⟨ret_st HE.out, (Below.refl _ _).alloc (Nat.le_refl _) _⟩

set_option maxRecDepth 100000 in
set_option maxHeartbeats 8000000 in
theorem decimal_any (n : Nat) (h : n < 100) (w : World) :
    Calls Tryd.prog 95 #[.int .i64 n] w fun e w' => e = .returned (.string (dtx n)) ∧ Below w.heap.size w w' := by
  by_cases h10 : n < 10
  · exact decimal_one n h10 w
  · have hcv : ∀ (W : World) (x : Int), (convert 72 9 (.slice (some ⟨W.heap.size, 0, none⟩) 1 1)).run Tryd.prog (W.alloc (.cells #[.int .u8 x] 5)) = .ok (.string (strOfNums [x])) (W.alloc (.cells #[.int .u8 x] 5)) := fun W x =>
      run_convert_bytes_arg _ _ 5 Tryd.underlying72 Tryd.underlying5 W.heap.size 0 1 1 [x] rfl (fun i hi => by
        obtain rfl : i = 0 := by omega
        simp) _ Tryd.underlying9
    have hd : decide ((n : Int) < 10) = false := by simp; omega
    have HC := hide (fun W => decimal_one (n / 10) (by omega) W)
    have hdiv : ((n / 10 : Nat) : Int) = (n : Int) / 10 := by omega
    rw [hdiv] at HC
    have HE : Hid (dtx (n / 10) ++ strOfNums [48 + (n : Int) % 10] = dtx n) := hide (by
      have : (n : Int) % 10 = ((n % 10 : Nat) : Int) := by omega
      rw [this, nums_one (n % 10) (by omega)]; unfold dtx; rw [dec_one (by omega), dec_two h10 h]; rfl)
    have hs1 : (dtx (n / 10)).size = 1 := by unfold dtx; rw [dec_one (by omega)]; rfl
    have hs2 : (strOfNums [48 + (n : Int) % 10]).size = 1 := strOfNums_size _
    generalize dtx (n / 10) = t at *
    clear hdiv h10
    go_enter Tryd.func95, Tryd.ntmps95
    go_wp2
    refine wp_region_sct (.now 0 (.now 1 (.now 3 (.now 4 (.now 5 (.now 6 (.two 2 7 (.one 7 (.one 8 (.one 9 (.one 10 .fin)))) (.two 2 8 (.one 8 (.one 9 (.one 10 .fin))) (.one 2 (.one 9 (.one 10 .fin))))))))))) (fun w' => Below w.heap.size w w') (by kernel_rfl) (by kernel_rfl) (of_decide_eq_true (by kernel_rfl)) (by kernel_rfl) (fun _ _ d _ _ h => by cases d <;> exact h) ((Below.refl _ _).drew) ?_
    have hcw : ∀ (W : World) (b : Nat) (x : Int), W.cell? ⟨b, 0, none⟩ = some (.int .u8 x) → (convert 72 9 (.slice (some ⟨b, 0, none⟩) 1 1)).run Tryd.prog W = .ok (.string (strOfNums [x])) W := fun W b x hc =>
      run_convert_bytes_arg _ _ 5 Tryd.underlying72 Tryd.underlying5 b 0 1 1 [x] rfl (fun i hi => by
        obtain rfl : i = 0 := by omega
        simpa using hc) _ Tryd.underlying9
    have w1' := IntWalk.i64_in ((n : Int) / 10) ⟨by omega, by omega⟩
    have w2' := IntWalk.i64_in ((n : Int) % 10) ⟨by omega, by omega⟩
    have w3' := IntWalk.i64_in (48 + (n : Int) % 10) ⟨by omega, by omega⟩
    have w4' : IntKind.u8.wrap (48 + (n : Int) % 10) = 48 + (n : Int) % 10 := by simp [IntKind.wrap, IntKind.bits, IntKind.signed]; omega
    refine sct_now (.int .i64 n) rfl (.inl ⟨rfl, fun w _ => rfl⟩) ?_
    simp only [Act.put, List.setIfInBounds_toArray, List.set_cons_zero, List.set_cons_succ]
    refine sct_now (.int .i64 ((n : Int) / 10)) rfl (.inl ⟨rfl, fun w _ => ?_⟩) ?_
    · simp only [Act.put, List.setIfInBounds_toArray, List.set_cons_zero, List.set_cons_succ, execOp, Act.eval]
      go_simp
      try exact w1'
    simp only [Act.put, List.setIfInBounds_toArray, List.set_cons_zero, List.set_cons_succ]
    refine sct_now (.int .i64 n) rfl (.inl ⟨rfl, fun w _ => rfl⟩) ?_
    simp only [Act.put, List.setIfInBounds_toArray, List.set_cons_zero, List.set_cons_succ]
    refine sct_now (.int .i64 ((n : Int) % 10)) rfl (.inl ⟨rfl, fun w _ => ?_⟩) ?_
    · simp only [Act.put, List.setIfInBounds_toArray, List.set_cons_zero, List.set_cons_succ, execOp, Act.eval]
      go_simp
      first | exact w2' | exact Int.tmod_eq_emod_of_nonneg (by omega)
    simp only [Act.put, List.setIfInBounds_toArray, List.set_cons_zero, List.set_cons_succ]
    refine sct_now (.int .i64 (48 + (n : Int) % 10)) rfl (.inl ⟨rfl, fun w _ => ?_⟩) ?_
    · simp only [Act.put, List.setIfInBounds_toArray, List.set_cons_zero, List.set_cons_succ, execOp, Act.eval]
      go_simp
      try exact w3'
    simp only [Act.put, List.setIfInBounds_toArray, List.set_cons_zero, List.set_cons_succ]
    refine sct_now (.int .u8 (48 + (n : Int) % 10)) rfl (.inl ⟨rfl, fun w _ => ?_⟩) ?_
    · simp only [Act.put, List.setIfInBounds_toArray, List.set_cons_zero, List.set_cons_succ, execOp, Act.eval]
      go_simp
      try exact w4'
    simp only [Act.put, List.setIfInBounds_toArray, List.set_cons_zero, List.set_cons_succ]
    refine sct_two rfl rfl ?_ ?_
    · go_wp2_with fail
      refine (HC.out _).mono ?_
      rintro e w2 ⟨rfl, hb2⟩
      have q2 : Below w.heap.size w w2 := (Below.refl _ _).drew.trans hb2
      go_wp2_with fail
      refine ⟨q2, sct_one rfl ?_⟩
      go_wp2_with fail
      have q3 : Below w.heap.size w (w2.alloc (.cells #[.int .u8 (48 + (n : Int) % 10)] 5)) := q2.alloc q2.size _
      refine ⟨q3, sct_one rfl ?_⟩
      go_wp2_with fail
      refine ⟨q3, sct_one rfl ?_⟩
      go_wp2_with fail
      refine ⟨q3, sct_one rfl ?_⟩
      go_wp2_with fail
      refine ⟨q3, sct_fin ?_⟩
      go_wp2
      go_ret
      exact ⟨ret_st HE.out, q3⟩
    · go_wp2_with fail
      have c0 : (w.alloc (.cells #[.int .u8 (48 + (n : Int) % 10)] 5)).cell? ⟨w.heap.size, 0, none⟩ = some (.int .u8 (48 + (n : Int) % 10)) := rangeAt_cell (k := 0) (rangeAt_new' w #[.int .u8 (48 + (n : Int) % 10)] 5) rfl
      have q1 : Below w.heap.size w (w.alloc (.cells #[.int .u8 (48 + (n : Int) % 10)] 5)) := (Below.refl _ _).alloc (Nat.le_refl _) _
      have s1 : w.heap.size < (w.alloc (.cells #[.int .u8 (48 + (n : Int) % 10)] 5)).heap.size := by simp
      refine ⟨q1.drew, sct_two rfl rfl ?_ ?_⟩
      · go_wp2_with fail
        refine (HC.out _).mono ?_
        rintro e w2 ⟨rfl, hb2⟩
        have q2 : Below w.heap.size w w2 := q1.drew.trans (Below.mono hb2 q1.size)
        have c2 : w2.cell? ⟨w.heap.size, 0, none⟩ = some (.int .u8 (48 + (n : Int) % 10)) := (Below.cell (p := ⟨w.heap.size, 0, none⟩) hb2 s1).trans (show (w.alloc (.cells #[.int .u8 (48 + (n : Int) % 10)] 5)).drew.cell? ⟨w.heap.size, 0, none⟩ = _ from c0)
        have hcv2 := hcw w2 _ _ c2
        go_wp2_with fail
        refine ⟨q2, sct_one rfl ?_⟩
        go_wp2_with fail
        refine ⟨q2, sct_one rfl ?_⟩
        go_wp2_with fail
        refine ⟨q2, sct_one rfl ?_⟩
        go_wp2_with fail
        refine ⟨q2, sct_fin ?_⟩
        go_wp2
        go_ret
        exact ⟨ret_st HE.out, q2⟩
      · have hcv2 := hcw (w.alloc (.cells #[.int .u8 (48 + (n : Int) % 10)] 5)).drew w.heap.size _ c0
        go_wp2_with fail
        refine ⟨q1.drew, sct_one rfl ?_⟩
        go_wp2_with fail
        refine (HC.out _).mono ?_
        rintro e w2 ⟨rfl, hb2⟩
        have q2 : Below w.heap.size w w2 := q1.drew.trans (Below.mono hb2 q1.size)
        go_wp2_with fail
        refine ⟨q2, sct_one rfl ?_⟩
        go_wp2_with fail
        refine ⟨q2, sct_one rfl ?_⟩
        go_wp2_with fail
        refine ⟨q2, sct_fin ?_⟩
        go_wp2
        go_ret
        exact ⟨ret_st HE.out, q2⟩

/-! The text of strokes -/
def dgt (x : Int) : List UInt8 := Lib.decDigits x.toNat
theorem dgt_len {x : Int} (h : x ≤ 30) : (dgt x).length ≤ 2 := by
  unfold dgt
  by_cases h10 : x.toNat < 10
  · rw [dec_one h10]; simp
  · rw [dec_two h10 (by omega)]; simp
/-- The text of the first k numbers. -/
def tT (S : List Int) : Nat → List UInt8
  | 0 => []
  | k + 1 => (if k = 0 then tT S k else tT S k ++ [32]) ++ dgt (S.getD k 0)
theorem tT_len {S : List Int} (h : ∀ k, S.getD k 0 ≤ 30) : ∀ k, (tT S k).length ≤ 3 * k
  | 0 => by simp [tT]
  | k + 1 => by
    have ih := tT_len h k
    have := dgt_len (h k)
    rw [tT]
    split <;> (simp only [List.length_append, List.length_cons, List.length_nil]; omega)
theorem join_snoc (xs : List (List UInt8)) (y sep : List UInt8) (h : xs ≠ []) : Lib.join (xs ++ [y]) sep = Lib.join xs sep ++ sep ++ y := by
  cases xs with
  | nil => exact absurd rfl h
  | cons x r =>
    rw [List.cons_append, Lib.join_cons, Lib.join_cons]
    unfold Lib.joinTail
    rw [List.map_append, List.flatten_append]
    simp
theorem tT_join (S : List Int) : ∀ k, k ≤ S.length → tT S k = Lib.join ((S.take k).map dgt) [32]
  | 0, _ => by simp [tT, Lib.join_nil]
  | k + 1, hk => by
    have ih := tT_join S k (by omega)
    have hx := List.getElem?_eq_getElem (show k < S.length by omega)
    have hg : S.getD k 0 = S[k] := by simp [List.getD, hx]
    rw [tT, hg, List.take_add_one, hx, Option.toList_some, List.map_append, List.map_cons, List.map_nil]
    split
    · rename_i h0
      subst h0
      rw [List.take_zero, List.map_nil, List.nil_append, Lib.join_one]; simp [tT]
    · rw [join_snoc _ _ _ (by intro e; have h2 := congrArg List.length e; rw [List.length_map, List.length_take, List.length_nil] at h2; omega), ih]
/-- The text of strokes. -/
def stx (S : List Int) : ByteArray := if vstr S = true then ⟨(tT S 26).toArray⟩ else ⟨#[]⟩

set_option maxRecDepth 100000 in
set_option maxHeartbeats 8000000 in
theorem l05Text_any (S : List Int) (hS : S.length = 26) (hv : vstr S = true) (b : Nat) (w : World) (hb : b < w.heap.size) (hr : w.rangeAt b 0 (wc S)) :
    Calls Tryd.prog 75 #[.pointer (some ⟨b, 0, none⟩)] w fun e w' => e = .returned (.string ⟨(tT S 26).toArray⟩) ∧ Below w.heap.size w w' := by
  have HR := hide hr
  have HV := hide (fun k (hk : k < 26) => vstr_at hv hS hk)
  have HTL := hide (tT_len (S := S) (fun k => by
    by_cases hk : k < 26
    · exact (vstr_at hv hS hk).2
    · rw [List.getD_eq_getElem?_getD, List.getElem?_eq_none (by omega)]; simp))
  have HS := hide hS
  clear hS hv hr
  go_enter Tryd.func75, Tryd.ntmps75
  go_wp2
  go_loopw [3, 4] (fun t i wr => ∃ k : Nat, k ≤ 26 ∧ i = .int .i64 k ∧ t = .string ⟨(tT S k).toArray⟩ ∧ Below w.heap.size w wr) (fun _ i _ => 26 - (intOf i).toNat)
  case atStart => exact ⟨0, by omega, rfl, rfl, Below.refl _ _⟩
  case round =>
    obtain ⟨k, hk, rfl, rfl, hB⟩ := hrel
    by_cases hlt : k < 26
    · have hc : wr.cell? ⟨b, k, none⟩ = some (.int .i8 (S.getD k 0)) := (hB.cell (p := ⟨b, k, none⟩) hb).trans (rangeAt_cell HR.out (wc_get (by rw [HS.out]; exact hlt)))
      obtain ⟨x1, x2⟩ := HV.out k hlt
      obtain ⟨n, hn⟩ : ∃ n : Nat, S.getD k 0 = n := ⟨(S.getD k 0).toNat, by omega⟩
      have hl := HTL.out k
      have hsz : (⟨(tT S k).toArray⟩ : ByteArray).size ≤ 78 := by simp [ByteArray.size]; omega
      have HD := hide (fun W => decimal_any n (by omega) W)
      have hdl : (dtx n).size ≤ 2 := by
        have := dgt_len (x := (n : Int)) (by omega)
        unfold dtx; simp [ByteArray.size]; simpa [dgt] using this
      have hi : (k : Int) < 26 := by omega
      have hk0 : (0 : Int) ≤ k := by omega
      have hw := hB.size
      rw [hn] at hc x1 x2
      by_cases hz : k = 0
      · have HE : Hid ((⟨(tT S k).toArray⟩ : ByteArray) ++ dtx n = ⟨(tT S (k + 1)).toArray⟩) := hide (by
          rw [tT, if_pos hz, hn]; apply ba_ext; rw [append_data]; simp [dtx, dgt])
        have hd : decide ((0 : Int) < k) = false := by simp; omega
        have hd' : decide (0 < k) = false := by simp; omega
        generalize (⟨(tT S k).toArray⟩ : ByteArray) = t at *
        generalize dtx n = y at *
        clear hz hn
        go_wp2_with (go_at_call 95; refine (HD.out _).mono ?_; rintro e w2 ⟨rfl, hb2⟩)
        exact ⟨⟨k + 1, by omega, by go_num, by rw [HE.out], hB.trans (hb2.mono hB.size)⟩, by simp [intOf]; omega⟩
      · have HE : Hid ((⟨(tT S k).toArray⟩ : ByteArray) ++ ⟨#[32]⟩ ++ dtx n = ⟨(tT S (k + 1)).toArray⟩) := hide (by
          rw [tT, if_neg hz, hn]; apply ba_ext; rw [append_data, append_data]; simp [dtx, dgt])
        have hd : decide ((0 : Int) < k) = true := by simp; omega
        have hd' : decide (0 < k) = true := by simp; omega
        generalize (⟨(tT S k).toArray⟩ : ByteArray) = t at *
        have hs3 : (t ++ (⟨#[32]⟩ : ByteArray)).size ≤ 79 := by rw [append_size]; show t.size + 1 ≤ 79; omega
        generalize dtx n = y at *
        clear hz hn
        go_wp2_with (go_at_call 95; refine (HD.out _).mono ?_; rintro e w2 ⟨rfl, hb2⟩)
        exact ⟨⟨k + 1, by omega, by go_num, by rw [HE.out], hB.trans (hb2.mono hB.size)⟩, by simp [intOf]; omega⟩
    · obtain rfl : k = 26 := by omega
      go_wp2
      go_ret
      exact ⟨rfl, hB⟩

set_option maxRecDepth 100000 in
set_option maxHeartbeats 8000000 in
theorem specStrokesText_any (S : List Int) (hS : S.length = 26) (hSx : ∀ x ∈ S, i8ok x) (w : World) :
    Calls Tryd.prog 35 #[.agg (wc S).toArray] w fun e w' => e = .returned (.string (stx S)) ∧ Below w.heap.size w w' := by
  have r0 := rangeAt_new w (wc S) 26
  have b0 : Below w.heap.size w (w.alloc (.cells (wc S).toArray 26)) := (Below.refl _ _).alloc (Nat.le_refl _) _
  have s0 : w.heap.size < (w.alloc (.cells (wc S).toArray 26)).heap.size := by simp
  have HC := hide (l05Strokes_any S hS hSx _ _ r0)
  have HX := hide (show stx S = if vstr S = true then ⟨(tT S 26).toArray⟩ else ⟨#[]⟩ from rfl)
  cases h1 : vstr S
  · rw [h1] at HC HX
    clear r0 s0 hS hSx
    go_enter Tryd.func35, Tryd.ntmps35
    go_wp2_with (go_at_call 39; refine HC.out.mono ?_; rintro e w1 ⟨rfl, rfl⟩)
    go_ret
    exact ⟨ret_st (by rw [HX.out]; rfl), b0⟩
  · rw [h1] at HC HX
    have HT := hide (l05Text_any S hS h1 _ _ s0 r0)
    clear r0 s0 hS hSx
    go_enter Tryd.func35, Tryd.ntmps35
    go_wp2_with (first | (go_at_call 39; refine HC.out.mono ?_; rintro e w1 ⟨rfl, rfl⟩) | (go_at_call 75; refine HT.out.mono ?_; rintro e w1 ⟨rfl, hb1⟩))
    go_ret
    exact ⟨ret_st (by rw [HX.out]; rfl), b0.trans (hb1.mono b0.size)⟩

def nT (S : List Int) (k : Nat) : List Value := ((S.take k).map dgt).map encStr

set_option maxRecDepth 100000 in
set_option maxHeartbeats 8000000 in
theorem implStrokesText_any (S : List Int) (hS : S.length = 26) (hSx : ∀ x ∈ S, i8ok x) (w : World) :
    Calls Tryd.prog 36 #[.agg (wc S).toArray] w fun e w' => e = .returned (.string (stx S)) ∧ Below w.heap.size w w' := by
  obtain ⟨i0, hi0, hz0, hz1, hz2⟩ := info_parts Tryd.infoString
  have HI := hide (show (Tryd.prog.info? 26).map (·.size) = some (wc S).length by rw [wc_length, hS]; kernel_rfl)
  have r0 := rangeAt_new w (wc S) 26
  have b0 : Below w.heap.size w (w.alloc (.cells (wc S).toArray 26)) := (Below.refl _ _).alloc (Nat.le_refl _) _
  have s0 : w.heap.size < (w.alloc (.cells (wc S).toArray 26)).heap.size := by simp
  have HC := hide (fun W => implValidStrokes_any S hS hSx W)
  have HX := hide (show stx S = if vstr S = true then ⟨(tT S 26).toArray⟩ else ⟨#[]⟩ from rfl)
  cases h1 : vstr S
  · rw [h1] at HC HX
    clear hS hSx
    go_enter Tryd.func36, Tryd.ntmps36
    go_wp2_with (refine wpList_load_mid rfl 26 (.tmp 1) rfl _ 0 rfl (wc S) _ r0 Tryd.underlying26 rfl HI.out ?_)
    generalize (w.alloc (.cells (wc S).toArray 26)) = W0 at *
    refine (HC.out _).mono ?_
    rintro e w1 ⟨rfl, hb1⟩
    go_wp2
    go_ret
    exact ⟨ret_st (by rw [HX.out]; rfl), b0.trans (hb1.mono b0.size)⟩
  · rw [h1] at HC HX
    have HV := hide (fun k (hk : k < 26) => vstr_at h1 hS hk)
    have HJ := hide (tT_join S 26 (by omega))
    have HTL := hide (tT_len (S := S) (fun k => by
      by_cases hk : k < 26
      · exact (vstr_at h1 hS hk).2
      · rw [List.getD_eq_getElem?_getD, List.getElem?_eq_none (by omega)]; simp))
    have HS := hide hS
    have hix0 := fun k (hk : k < 26) => run_index_agg (P := Tryd.prog) (t := 26) (k := k) (cs := (wc S).toArray) Tryd.underlying26 (fun _ => by kernel_rfl) (fun _ => by kernel_rfl) hk (by rw [List.getElem?_toArray]; exact wc_get (k := k) (by rw [hS]; exact hk))
    have HIX := hide hix0
    clear hS hSx h1 hix0
    go_enter Tryd.func36, Tryd.ntmps36
    go_wp2_with (refine wpList_load_mid rfl 26 (.tmp 1) rfl _ 0 rfl (wc S) _ r0 Tryd.underlying26 rfl HI.out ?_)
    generalize (w.alloc (.cells (wc S).toArray 26)) = W0 at *
    refine (HC.out _).mono ?_
    rintro e w1 ⟨rfl, hb1⟩
    have r1 := rangeAt_below r0 hb1 s0
    have hB1 := b0.trans (hb1.mono b0.size)
    have hz1' := hB1.size
    go_wp2_with (refine wpList_load_mid rfl 26 (.tmp 1) rfl _ 0 rfl (wc S) _ r1 Tryd.underlying26 rfl HI.out ?_)
    go_loopw [3, 10] (fun br i wr => ∃ k : Nat, k ≤ 26 ∧ i = .int .i64 k ∧ wr.ownsRow w1.heap.size 9 1 br k (nT S k) ∧ Below w1.heap.size w1 wr)
      (fun _ i _ => 26 - (intOf i).toNat)
    case atStart => exact ⟨0, by omega, rfl, World.ownsRow_nil _ _ _ _, Below.refl _ _⟩
    case round =>
      obtain ⟨k, hk, rfl, hown, hB⟩ := hrel
      have hbs := hB.size
      by_cases hlt : k < 26
      · obtain ⟨Ab, cbb, rfl, hcap, _⟩ := cellsIn_of_own hown (by omega)
        have HOWN := hide hown
        obtain ⟨x1, x2⟩ := HV.out k hlt
        obtain ⟨n, hn⟩ : ∃ n : Nat, S.getD k 0 = n := ⟨(S.getD k 0).toNat, by omega⟩
        have hix := HIX.out k hlt
        have HIT := hide (fun W => Tryd.strconv_Itoa_small n (by omega) W)
        have hTK : (S.take (k + 1)).map dgt = (S.take k).map dgt ++ [Lib.decDigits n] := by
          have hx := List.getElem?_eq_getElem (show k < S.length by rw [HS.out]; exact hlt)
          have hg : S.getD k 0 = S[k]'(by rw [HS.out]; exact hlt) := by simp [List.getD, hx]
          rw [List.take_add_one, hx, Option.toList_some, List.map_append, List.map_cons, List.map_nil, ← hg, hn]; rfl
        have HTK : Hid (nT S (k + 1) = nT S k ++ [encStr (Lib.decDigits n)]) := hide (by unfold nT; rw [hTK, List.map_append]; rfl)
        have hi : (k : Int) < 26 := by omega
        have hk0 : (0 : Int) ≤ k := by omega
        rw [hn] at hix x1 x2
        clear hown hTK hn r1
        generalize Lib.decDigits n = y at HIT HTK
        go_wp2_with fail
        refine (HIT.out _).mono ?_
        rintro e w2 ⟨rfl, hw2⟩
        subst hw2
        go_wp2_with (at_builtin; refine wpList_append_own _ rfl (.tmp 13) (.tmp 17) 88 rfl w1.heap.size 9 i0 _ 1 16 Tryd.underlying88 hi0 hz0 hz1 hz2 rfl (by decide) _ k _ rfl (HOWN.out.alloc _) ⟨w2.heap.size, 0, none⟩ 1 1 [encStr y] rfl rfl (one_cell _) (one_one rfl) ?h1 ?h2 ?h3 ?_)
        case h1 => unfold maxLen; omega
        case h2 => omega
        case h3 => first | omega | (simp; omega) | simp
        intro v' w4 hown4 hg4 _
        have H4 := hide hown4
        have hg34 : w2.grownBy w4 _ := grown_trans (World.grownBy_alloc w2 _ _) hg4
        have hB4 := hB.trans (grown_toBelow hg34 (by omega) (fun k hk => (HOWN.out.lt k hk).1))
        clear hown4 hg4 hg34
        go_wp2
        refine ⟨⟨k + 1, by omega, by go_num, ?_, hB4⟩, by simp [intOf]; omega⟩
        rw [HTK.out]
        exact H4.out
      · obtain rfl : k = 26 := by omega
        have hl26 : ((S.take 26).map dgt).length = 26 := by rw [List.length_map, List.length_take, HS.out]; rfl
        obtain ⟨A5, c5, rfl, hc5, hst⟩ := strsIn_of_own (ss := (S.take 26).map dgt) hown hl26.symm
        have hll : (((S.take 26).map dgt).map fun x => (⟨x.toArray⟩ : ByteArray)).length = 26 := by rw [List.length_map]; exact hl26
        obtain ⟨b5, o5, rfl, _, hb5, hc, _⟩ := hst (by intro e; rw [e] at hll; simp at hll)
        have hmm : (((S.take 26).map dgt).map fun x => (⟨x.toArray⟩ : ByteArray)).map (·.data.toList) = (S.take 26).map dgt := by rw [List.map_map]; simp [Function.comp_def]
        have hjl : (Lib.join ((((S.take 26).map dgt).map fun x => (⟨x.toArray⟩ : ByteArray)).map (·.data.toList)) (⟨#[32]⟩ : ByteArray).data.toList).length ≤ 140737488355328 := by
          rw [hmm]; have := HTL.out 26; rw [HJ.out] at this; show (Lib.join _ [32]).length ≤ _; omega
        have hJO := Tryd.strings_Join b5 o5 c5 (((S.take 26).map dgt).map fun x => (⟨x.toArray⟩ : ByteArray)) ⟨#[32]⟩ wr hc hb5 (by rw [hll]; omega) (by rw [hll]; exact hc5) hjl
        rw [hll, hmm] at hJO
        change Calls _ _ _ _ fun e w' => e = .returned (.string ⟨(Lib.join ((S.take 26).map dgt) [32]).toArray⟩) ∧ _ at hJO
        rw [← HJ.out] at hJO
        have HJO := hide hJO
        clear hJO hjl hmm hc hst hll hl26 hown r1
        generalize (⟨(tT S 26).toArray⟩ : ByteArray) = T at HX HJO
        go_wp2_with (go_at_call 77; refine HJO.out.mono ?_; rintro e w2 ⟨rfl, hb2⟩)
        go_ret
        exact ⟨ret_st (by rw [HX.out]; rfl), hB1.trans ((hB.trans (hb2.mono hB.size)).mono hB1.size)⟩
end Go.Proofs.YtkbemhjeflmppaaDoor
